/- Print: the ways without fields. -/
import Derived.Test.YtnmbifoinponeaaGreatDoorL
namespace Go.Proofs.YtnmbifoinponeaaGreatDoor
open Go.RowKit Go.Deep Go.Shelf
set_option linter.unusedVariables false
set_option linter.unusedSimpArgs false
attribute [local go_sem] Oper.semAt_some

def PTo (B b : Nat) (l m : List UInt8) (w : World) (e : Ending) (w' : World) : Prop := e = .returned (.tuple #[]) ∧ PB B b (l ++ m) w' ∧ Below B w w' ∧ Lib.OthersKept 5 (some b) w w'
theorem boxA (w : World) (c1 c2 : Array Value) (t1 t2 : TypeId) : ((w.alloc (.cells c1 t1)).alloc (.cells c2 t2)).heap[w.heap.size]? = some (.cells c1 t1 (0, 0)) := (Below.heap_alloc _ _ _ (by simp)).trans (heap_alloc_new w _)
theorem boxB (w : World) (c1 c2 : Array Value) (t1 t2 : TypeId) : ((w.alloc (.cells c1 t1)).alloc (.cells c2 t2)).heap[w.heap.size + 1]? = some (.cells c2 t2 (0, 0)) := by
  have := heap_alloc_new (w.alloc (.cells c1 t1)) (.cells c2 t2)
  rw [World.size_alloc] at this
  exact this
theorem Env.drew {w : World} (h : Env w) : Env w.drew := h.below ((Below.refl _ w).drew)
theorem PB.drew {w : World} {B b : Nat} {l : List UInt8} (h : PB B b l w) : PB B b l w.drew := h
theorem kept_below {w w' : World} {b : Nat} (h : Below w.heap.size w w') : Lib.OthersKept 5 (some b) w w' := fun k o hk _ _ => (h.block k (Array.getElem?_eq_some_iff.1 hk).1).trans hk
theorem kept_cells {w w' : World} {b k : Nat} {c : Array Value} {t : TypeId} {f : Nat × Nat} (hk : Lib.OthersKept 5 (some b) w w') (h : w.heap[k]? = some (.cells c t f)) (hb : k ≠ b) (ht : t ≠ 5) : w'.heap[k]? = some (.cells c t f) :=
  hk k _ h (fun e => hb (Option.some.inj e)) (fun c' fz e => by cases e; exact ht rfl)
theorem size_mk (l : List UInt8) : (⟨l.toArray⟩ : ByteArray).size = l.length := by simp [ByteArray.size]
theorem size_app3 (a b : ByteArray) : (a ++ b).size = a.size + b.size := ByteArray.size_append
/- The whole way of one write. -/
theorem PTo.mk {B b : Nat} {l m : List UInt8} {w W0 w5 w6 : World} (hB : B ≤ w.heap.size) (h0 : Below w.heap.size w W0) (h5 : Below W0.heap.size W0 w5) (hp : PB B b (l ++ m) w6) (h6 : Below B w5 w6) (k6 : Lib.OthersKept 5 (some b) w5 w6) : PTo B b l m w (.returned (.tuple #[])) w6 :=
  ⟨rfl, hp, ((h0.trans (h5.mono h0.size)).mono hB).trans h6, ((kept_below h0).trans (kept_below h5)).trans k6⟩

set_option maxRecDepth 100000 in
set_option maxHeartbeats 1000000 in
theorem printInt (B b : Nat) (l : List UInt8) (w : World) (h : Hd) (hin : h.In) (hk : h.kind = 1) (E : Env w) (hp : PB B b l w) (hB : B ≤ w.heap.size) (hl : l.length + (Lib.itoa h.int).length ≤ 140737488355328) :
    Calls Tryz.prog 35 #[.pointer (some ⟨b, 0, none⟩), h.v] w (PTo B b l (Lib.itoa h.int) w) := by
  have i0 := hin.i0
  have i1 := hin.i1
  have hbl := hp.lt
  obtain ⟨kind, int, text, rc, a, n, cap⟩ := h
  simp only at hk i0 i1 hl ⊢
  subst hk
  simp only [Hd.v]
  obtain ⟨W0, hW0⟩ : ∃ W0, W0 = (w.alloc (.cells #[.pointer (some ⟨b, 0, none⟩)] 65)).alloc (.cells #[.int .i64 1, .int .i64 int, .string text, .int .i64 rc, .slice a n cap] 31) := ⟨_, rfl⟩
  have b1 : W0.heap[w.heap.size]? = some (.cells #[.pointer (some ⟨b, 0, none⟩)] 65 (0, 0)) := by rw [hW0]; exact boxA _ _ _ _ _
  have b2 : W0.heap[w.heap.size + 1]? = some (.cells #[.int .i64 1, .int .i64 int, .string text, .int .i64 rc, .slice a n cap] 31 (0, 0)) := by rw [hW0]; exact boxB _ _ _ _ _
  have hb0 : Below w.heap.size w W0 := by rw [hW0]; exact ((Below.refl _ _).alloc (Nat.le_refl _) _).alloc (by simp) _
  have c0 : W0.cell? ⟨w.heap.size, 0, none⟩ = some (.pointer (some ⟨b, 0, none⟩)) := cellOf b1 0
  have c1 : W0.cell? ⟨w.heap.size + 1, 1, none⟩ = some (.int .i64 int) := cellOf b2 1
  have c2 : W0.cell? ⟨w.heap.size + 1, 2, none⟩ = some (.string text) := cellOf b2 2
  have HB0 := hid hb0
  have HE0 := hid (E.below hb0)
  have HP0 := hid (PB.below hp hb0)
  have H1 := hid b1
  have H2 := hid b2
  clear E hp hb0 b1 b2
  go_enter Tryz.func35, Tryz.ntmps35
  go_wp2
  rw [← hW0]
  clear hW0
  go_region_held3 (fun w2 => w2.cell? ⟨w.heap.size, 0, none⟩ = some (.pointer (some ⟨b, 0, none⟩)) ∧ w2.cell? ⟨w.heap.size + 1, 1, none⟩ = some (.int .i64 int)) (first | exact g6 | exact g5 | go_keep) ((first
    | (go_at_call 56; (refine (fi_any int i0 i1 _ HE0.out.drew).mono ?_; rintro e w5 ⟨rfl, hb5⟩; have f1 := (hb5.block _ (Array.getElem?_eq_some_iff.1 H1.out).1).trans H1.out; have f2 := (hb5.block _ (Array.getElem?_eq_some_iff.1 H2.out).1).trans H2.out; have g5 : w5.cell? ⟨w.heap.size, 0, none⟩ = some (.pointer (some ⟨b, 0, none⟩)) ∧ w5.cell? ⟨w.heap.size + 1, 1, none⟩ = some (.int .i64 int) := ⟨cellOf f1 0, cellOf f2 1⟩))
    | (go_at_call 55; (refine (ws_any B b l (itoB int) _ (PB.below (PB.drew HP0.out) hb5) (by rw [itoB, size_mk]; exact hl) (Nat.le_trans (Nat.le_trans hB HB0.out.size) hb5.size)).mono ?_; rintro e w6 ⟨rfl, hp6, hb6, hk6⟩; have g6 : w6.cell? ⟨w.heap.size, 0, none⟩ = some (.pointer (some ⟨b, 0, none⟩)) ∧ w6.cell? ⟨w.heap.size + 1, 1, none⟩ = some (.int .i64 int) := ⟨cellOf (kept_cells hk6 f1 (by omega) (by decide)) 0, cellOf (kept_cells hk6 f2 (by omega) (by decide)) 1⟩))))
  go_wp2
  go_end0
  exact PTo.mk hB HB0.out ((Below.refl _ W0).drew.trans hb5) (by exact hp6) hb6 hk6

set_option maxRecDepth 100000 in
set_option maxHeartbeats 1000000 in
theorem printText (B b : Nat) (l : List UInt8) (w : World) (h : Hd) (hin : h.In) (hk : h.kind = 2) (E : Env w) (hp : PB B b l w) (hB : B ≤ w.heap.size) (htx : h.text.size ≤ 1000000) (hl : l.length + ([34] ++ quoL h.text ++ [34]).length ≤ 140737488355328) :
    Calls Tryz.prog 35 #[.pointer (some ⟨b, 0, none⟩), h.v] w (PTo B b l ([34] ++ quoL h.text ++ [34]) w) := by
  have i0 := hin.i0
  have i1 := hin.i1
  have hbl := hp.lt
  obtain ⟨kind, int, text, rc, a, n, cap⟩ := h
  simp only at hk i0 i1 hl htx ⊢
  subst hk
  have HL : Hid ((⟨#[34]⟩ : ByteArray).size + (quoL text).length + (⟨#[34]⟩ : ByteArray).size ≤ 140737488355328) := hid (by have e1 : (⟨#[34]⟩ : ByteArray).size = 1 := rfl; simp at hl; omega)
  have HL2 := hid hl
  clear hl
  simp only [Hd.v]
  obtain ⟨W0, hW0⟩ : ∃ W0, W0 = (w.alloc (.cells #[.pointer (some ⟨b, 0, none⟩)] 65)).alloc (.cells #[.int .i64 2, .int .i64 int, .string text, .int .i64 rc, .slice a n cap] 31) := ⟨_, rfl⟩
  have b1 : W0.heap[w.heap.size]? = some (.cells #[.pointer (some ⟨b, 0, none⟩)] 65 (0, 0)) := by rw [hW0]; exact boxA _ _ _ _ _
  have b2 : W0.heap[w.heap.size + 1]? = some (.cells #[.int .i64 2, .int .i64 int, .string text, .int .i64 rc, .slice a n cap] 31 (0, 0)) := by rw [hW0]; exact boxB _ _ _ _ _
  have hb0 : Below w.heap.size w W0 := by rw [hW0]; exact ((Below.refl _ _).alloc (Nat.le_refl _) _).alloc (by simp) _
  have c0 : W0.cell? ⟨w.heap.size, 0, none⟩ = some (.pointer (some ⟨b, 0, none⟩)) := cellOf b1 0
  have c1 : W0.cell? ⟨w.heap.size + 1, 1, none⟩ = some (.int .i64 int) := cellOf b2 1
  have c2 : W0.cell? ⟨w.heap.size + 1, 2, none⟩ = some (.string text) := cellOf b2 2
  have HB0 := hid hb0
  have HE0 := hid (E.below hb0)
  have HP0 := hid (PB.below hp hb0)
  have H1 := hid b1
  have H2 := hid b2
  clear E hp hb0 b1 b2
  go_enter Tryz.func35, Tryz.ntmps35
  go_wp2
  rw [← hW0]
  clear hW0
  go_region_held3 (fun w2 => w2.cell? ⟨w.heap.size, 0, none⟩ = some (.pointer (some ⟨b, 0, none⟩)) ∧ w2.cell? ⟨w.heap.size + 1, 2, none⟩ = some (.string text)) (first | exact g6 | exact g5 | go_keep) ((first
    | (go_at_call 57; (refine (ra_any text _ HE0.out.drew htx).mono ?_; rintro e w5 ⟨q, rfl, hq, hb5⟩; obtain ⟨q1, q2, r1, r2, hq2, hz2⟩ := around ⟨#[34]⟩ q ⟨#[34]⟩ _ hq HL.out; have HQ := hid hq2; have HQS := hid hz2; clear hq hq2 hz2; have f1 := (hb5.block _ (Array.getElem?_eq_some_iff.1 H1.out).1).trans H1.out; have f2 := (hb5.block _ (Array.getElem?_eq_some_iff.1 H2.out).1).trans H2.out; have g5 : w5.cell? ⟨w.heap.size, 0, none⟩ = some (.pointer (some ⟨b, 0, none⟩)) ∧ w5.cell? ⟨w.heap.size + 1, 2, none⟩ = some (.string text) := ⟨cellOf f1 0, cellOf f2 2⟩))
    | (go_at_call 55; (refine (ws_any B b l _ _ (PB.below (PB.drew HP0.out) hb5) (by have h1 := HQS.out; have h2 := HL2.out; have e1 : (⟨#[34]⟩ : ByteArray).size = 1 := rfl; simp at h2; omega) (Nat.le_trans (Nat.le_trans hB HB0.out.size) hb5.size)).mono ?_; rintro e w6 ⟨rfl, hp6, hb6, hk6⟩; have g6 : w6.cell? ⟨w.heap.size, 0, none⟩ = some (.pointer (some ⟨b, 0, none⟩)) ∧ w6.cell? ⟨w.heap.size + 1, 2, none⟩ = some (.string text) := ⟨cellOf (kept_cells hk6 f1 (by omega) (by decide)) 0, cellOf (kept_cells hk6 f2 (by omega) (by decide)) 2⟩))))
  go_wp2
  go_end0
  exact PTo.mk hB HB0.out ((Below.refl _ W0).drew.trans hb5) (by rw [HQ.out] at hp6; exact hp6) hb6 hk6

set_option maxRecDepth 100000 in
set_option maxHeartbeats 1000000 in
theorem printBool (B b : Nat) (l : List UInt8) (w : World) (h : Hd) (hin : h.In) (hk : h.kind = 3) (E : Env w) (hp : PB B b l w) (hB : B ≤ w.heap.size) (hl : l.length + (Lib.formatBool (h.int == 1)).length ≤ 140737488355328) :
    Calls Tryz.prog 35 #[.pointer (some ⟨b, 0, none⟩), h.v] w (PTo B b l (Lib.formatBool (h.int == 1)) w) := by
  have i0 := hin.i0
  have i1 := hin.i1
  have hbl := hp.lt
  obtain ⟨kind, int, text, rc, a, n, cap⟩ := h
  simp only at hk i0 i1 hl ⊢
  subst hk
  simp only [Hd.v]
  obtain ⟨W0, hW0⟩ : ∃ W0, W0 = (w.alloc (.cells #[.pointer (some ⟨b, 0, none⟩)] 65)).alloc (.cells #[.int .i64 3, .int .i64 int, .string text, .int .i64 rc, .slice a n cap] 31) := ⟨_, rfl⟩
  have b1 : W0.heap[w.heap.size]? = some (.cells #[.pointer (some ⟨b, 0, none⟩)] 65 (0, 0)) := by rw [hW0]; exact boxA _ _ _ _ _
  have b2 : W0.heap[w.heap.size + 1]? = some (.cells #[.int .i64 3, .int .i64 int, .string text, .int .i64 rc, .slice a n cap] 31 (0, 0)) := by rw [hW0]; exact boxB _ _ _ _ _
  have hb0 : Below w.heap.size w W0 := by rw [hW0]; exact ((Below.refl _ _).alloc (Nat.le_refl _) _).alloc (by simp) _
  have c0 : W0.cell? ⟨w.heap.size, 0, none⟩ = some (.pointer (some ⟨b, 0, none⟩)) := cellOf b1 0
  have c1 : W0.cell? ⟨w.heap.size + 1, 1, none⟩ = some (.int .i64 int) := cellOf b2 1
  have c2 : W0.cell? ⟨w.heap.size + 1, 2, none⟩ = some (.string text) := cellOf b2 2
  have HB0 := hid hb0
  have HE0 := hid (E.below hb0)
  have HP0 := hid (PB.below hp hb0)
  have H1 := hid b1
  have H2 := hid b2
  clear E hp hb0 b1 b2
  go_enter Tryz.func35, Tryz.ntmps35
  go_wp2
  rw [← hW0]
  clear hW0
  go_region_held3 (fun w2 => w2.cell? ⟨w.heap.size, 0, none⟩ = some (.pointer (some ⟨b, 0, none⟩)) ∧ w2.cell? ⟨w.heap.size + 1, 1, none⟩ = some (.int .i64 int)) (first | exact g6 | exact g5 | go_keep) ((first
    | (go_at_call 58; (refine (fb_any (int == 1) _).mono ?_; rintro e w5 ⟨rfl, hb5⟩; have f1 := (hb5.block _ (Array.getElem?_eq_some_iff.1 H1.out).1).trans H1.out; have f2 := (hb5.block _ (Array.getElem?_eq_some_iff.1 H2.out).1).trans H2.out; have g5 : w5.cell? ⟨w.heap.size, 0, none⟩ = some (.pointer (some ⟨b, 0, none⟩)) ∧ w5.cell? ⟨w.heap.size + 1, 1, none⟩ = some (.int .i64 int) := ⟨cellOf f1 0, cellOf f2 1⟩))
    | (go_at_call 55; (refine (ws_any B b l ⟨(Lib.formatBool (int == 1)).toArray⟩ _ (PB.below (PB.drew HP0.out) hb5) (by rw [size_mk]; exact hl) (Nat.le_trans (Nat.le_trans hB HB0.out.size) hb5.size)).mono ?_; rintro e w6 ⟨rfl, hp6, hb6, hk6⟩; have g6 : w6.cell? ⟨w.heap.size, 0, none⟩ = some (.pointer (some ⟨b, 0, none⟩)) ∧ w6.cell? ⟨w.heap.size + 1, 1, none⟩ = some (.int .i64 int) := ⟨cellOf (kept_cells hk6 f1 (by omega) (by decide)) 0, cellOf (kept_cells hk6 f2 (by omega) (by decide)) 1⟩))))
  go_wp2
  go_end0
  exact PTo.mk hB HB0.out ((Below.refl _ W0).drew.trans hb5) (by exact hp6) hb6 hk6

set_option maxRecDepth 100000 in
set_option maxHeartbeats 1000000 in
theorem printNone (B b : Nat) (l : List UInt8) (w : World) (h : Hd) (hin : h.In) (hk : h.kind ≠ 1 ∧ h.kind ≠ 2 ∧ h.kind ≠ 3 ∧ h.kind ≠ 4) (E : Env w) (hp : PB B b l w) (hB : B ≤ w.heap.size) (hl : l.length + ([63]).length ≤ 140737488355328) :
    Calls Tryz.prog 35 #[.pointer (some ⟨b, 0, none⟩), h.v] w (PTo B b l ([63]) w) := by
  have i0 := hin.i0
  have i1 := hin.i1
  have hbl := hp.lt
  obtain ⟨kind, int, text, rc, a, n, cap⟩ := h
  simp only at hk i0 i1 hl 
  obtain ⟨k1, k2, k3, k4⟩ := hk
  have k1' : (kind == 1) = false := by simpa using k1
  have k2' : (kind == 2) = false := by simpa using k2
  have k3' : (kind == 3) = false := by simpa using k3
  have k4' : (kind == 4) = false := by simpa using k4
  simp only [Hd.v]
  obtain ⟨W0, hW0⟩ : ∃ W0, W0 = (w.alloc (.cells #[.pointer (some ⟨b, 0, none⟩)] 65)).alloc (.cells #[.int .i64 kind, .int .i64 int, .string text, .int .i64 rc, .slice a n cap] 31) := ⟨_, rfl⟩
  have b1 : W0.heap[w.heap.size]? = some (.cells #[.pointer (some ⟨b, 0, none⟩)] 65 (0, 0)) := by rw [hW0]; exact boxA _ _ _ _ _
  have b2 : W0.heap[w.heap.size + 1]? = some (.cells #[.int .i64 kind, .int .i64 int, .string text, .int .i64 rc, .slice a n cap] 31 (0, 0)) := by rw [hW0]; exact boxB _ _ _ _ _
  have hb0 : Below w.heap.size w W0 := by rw [hW0]; exact ((Below.refl _ _).alloc (Nat.le_refl _) _).alloc (by simp) _
  have c0 : W0.cell? ⟨w.heap.size, 0, none⟩ = some (.pointer (some ⟨b, 0, none⟩)) := cellOf b1 0
  have c1 : W0.cell? ⟨w.heap.size + 1, 1, none⟩ = some (.int .i64 int) := cellOf b2 1
  have c2 : W0.cell? ⟨w.heap.size + 1, 2, none⟩ = some (.string text) := cellOf b2 2
  have HB0 := hid hb0
  have HE0 := hid (E.below hb0)
  have HP0 := hid (PB.below hp hb0)
  have H1 := hid b1
  have H2 := hid b2
  clear E hp hb0 b1 b2
  go_enter Tryz.func35, Tryz.ntmps35
  go_wp2_with (go_at_call 55; (rw [← hW0]; refine (ws_any B b l ⟨#[63]⟩ _ HP0.out (by exact hl) (by have := HB0.out.size; omega)).mono ?_; rintro e w6 ⟨rfl, hp6, hb6, hk6⟩))
  go_end0
  exact PTo.mk hB HB0.out (Below.refl _ _) hp6 hb6 hk6
end Go.Proofs.YtnmbifoinponeaaGreatDoor
