/- heap.readEntry. -/
import Derived.Test.YtenfgahedbeekaaJAM
import Derived.ArgAppend
namespace Go.Proofs.Ytenfgahedbeekaa
open Go.RowKit Go.Deep Go.Shelf
set_option linter.unusedVariables false
set_option linter.unusedSimpArgs false

theorem alN {W : World} {x : Obj} {k : Nat} (h : W.heap[k]? = some x) (o : Obj) : (W.alloc o).heap[k]? = some x := (Below.heap_alloc _ _ _ (Array.getElem?_eq_some_iff.1 h).1).trans h
/- Ten cells written. -/
def ten (w : World) (b : Nat) (v0 v1 v2 v3 v4 v5 v6 v7 v8 v9 : Value) : World := ((((((((((w.setCell ⟨b, 0, none⟩ v0).setCell ⟨b, 1, none⟩ v1).setCell ⟨b, 2, none⟩ v2).setCell ⟨b, 3, none⟩ v3).setCell ⟨b, 4, none⟩ v4).setCell ⟨b, 5, none⟩ v5).setCell ⟨b, 6, none⟩ v6).setCell ⟨b, 7, none⟩ v7).setCell ⟨b, 8, none⟩ v8).setCell ⟨b, 9, none⟩ v9)
theorem ten_heap (w : World) (b : Nat) (v0 v1 v2 v3 v4 v5 v6 v7 v8 v9 : Value) {k : Nat} (hk : k ≠ b) : (ten w b v0 v1 v2 v3 v4 v5 v6 v7 v8 v9).heap[k]? = w.heap[k]? := by
  unfold ten
  simp only [Below.heap_setCell _ _ _ _ (show k ≠ (Addr.mk b _ none).block from hk)]
theorem ten_at {w : World} {b : Nat} {c0 c1 c2 c3 c4 c5 c6 c7 c8 c9 : Value} {e : TypeId} (h : w.heap[b]? = some (.cells #[c0, c1, c2, c3, c4, c5, c6, c7, c8, c9] e (0, 0))) (v0 v1 v2 v3 v4 v5 v6 v7 v8 v9 : Value) : (ten w b v0 v1 v2 v3 v4 v5 v6 v7 v8 v9).heap[b]? = some (.cells #[v0, v1, v2, v3, v4, v5, v6, v7, v8, v9] e (0, 0)) := by
  unfold ten
  have s0 := heap_setCell_at h 0 v0
  have s1 := heap_setCell_at s0 1 v1
  have s2 := heap_setCell_at s1 2 v2
  have s3 := heap_setCell_at s2 3 v3
  have s4 := heap_setCell_at s3 4 v4
  have s5 := heap_setCell_at s4 5 v5
  have s6 := heap_setCell_at s5 6 v6
  have s7 := heap_setCell_at s6 7 v7
  have s8 := heap_setCell_at s7 8 v8
  have s9 := heap_setCell_at s8 9 v9
  simpa using s9
theorem ten_below {B : Nat} {w0 w : World} (hb : Below B w0 w) {b : Nat} (hB : B ≤ b) (v0 v1 v2 v3 v4 v5 v6 v7 v8 v9 : Value) : Below B w0 (ten w b v0 v1 v2 v3 v4 v5 v6 v7 v8 v9) := by
  unfold ten
  exact (((((((((hb.setCell (p := ⟨b, 0, none⟩) hB _).setCell (p := ⟨b, 1, none⟩) hB _).setCell (p := ⟨b, 2, none⟩) hB _).setCell (p := ⟨b, 3, none⟩) hB _).setCell (p := ⟨b, 4, none⟩) hB _).setCell (p := ⟨b, 5, none⟩) hB _).setCell (p := ⟨b, 6, none⟩) hB _).setCell (p := ⟨b, 7, none⟩) hB _).setCell (p := ⟨b, 8, none⟩) hB _).setCell (p := ⟨b, 9, none⟩) hB _
def entD (bs : List Nat) : Option ((Vl × Vl) × Nat) := match valD bs with
  | none => none
  | some (x, i) => match valD (bs.drop i) with
    | none => none
    | some (y, j) => some ((x, y), i + j)
def zE : Value := .agg #[.int .i64 0, .int .i64 0, .string ⟨#[]⟩, .int .i64 0, .slice none 0 0, .int .i64 0, .int .i64 0, .string ⟨#[]⟩, .int .i64 0, .slice none 0 0]
def EnP (B : Nat) (o : Option ((Vl × Vl) × Nat)) (e : Ending) (w' : World) : Prop := match o with
  | none => e = .returned (.tuple #[zE, .int .i64 0, .bool false])
  | some ((x, y), k) => ∃ hx hy : Hd, e = .returned (.tuple #[(En.mk hx hy).v, .int .i64 (k : Int), .bool true]) ∧ Rep w' x hx ∧ Rep w' y hy ∧ (∀ b, (Value.slice hx.a hx.n hx.cap).ownBlock = some b → B ≤ b) ∧ (∀ b, (Value.slice hy.a hy.n hy.cap).ownBlock = some b → B ≤ b)
set_option maxRecDepth 100000 in
set_option maxHeartbeats 2000000 in
theorem readEntry_any (w : World) (v : Value) (bs : List Nat) (h : Rd w v bs) (hl : bs.length ≤ 1000000000) :
    Calls Try.prog 87 #[v] w fun e w' => Below w.heap.size w w' ∧ EnP w.heap.size (entD bs) e w' := by
  have H := hid h
  obtain ⟨a, cap, rfl⟩ := h.len
  have hby : Byt bs := by obtain ⟨_, _, _, _, hb, _⟩ := h; exact hb
  have hcap : bs.length ≤ cap := by obtain ⟨_, _, e, hc, _⟩ := h; cases e; exact hc
  obtain ⟨W0, hW0⟩ : ∃ W0, W0 = w.alloc (.cells #[.int .i64 0, .int .i64 0, .string ⟨#[]⟩, .int .i64 0, .slice none 0 0, .int .i64 0, .int .i64 0, .string ⟨#[]⟩, .int .i64 0, .slice none 0 0] 81) := ⟨_, rfl⟩
  have q0 : W0.heap[w.heap.size]? = some (.cells #[.int .i64 0, .int .i64 0, .string ⟨#[]⟩, .int .i64 0, .slice none 0 0, .int .i64 0, .int .i64 0, .string ⟨#[]⟩, .int .i64 0, .slice none 0 0] 81 (0, 0)) := by rw [hW0]; exact heap_alloc_new w _
  have hz0 : W0.heap.size = w.heap.size + 1 := by rw [hW0]; simp
  have hb0 : Below w.heap.size w W0 := by rw [hW0]; exact (Below.refl _ w).alloc (Nat.le_refl _) _
  have FB : Hid (∀ w2 : World, Below W0.heap.size W0 w2 → Below w.heap.size w w2 ∧ w2.heap[w.heap.size]? = some (.cells #[.int .i64 0, .int .i64 0, .string ⟨#[]⟩, .int .i64 0, .slice none 0 0, .int .i64 0, .int .i64 0, .string ⟨#[]⟩, .int .i64 0, .slice none 0 0] 81 (0, 0))) := hid (fun w2 hb => ⟨hb0.trans (hb.mono hb0.size), (hb.block _ (by omega)).trans q0⟩)
  have K1 := hid (value_any W0 _ bs (H.out.below (Nat.le_refl _) hb0) hl)
  cases hv1 : valD bs with
  | none =>
    have HE : Hid (entD bs = none) := hid (by unfold entD; rw [hv1])
    rw [hv1] at K1
    clear h hby hv1
    go_enter Try.func87, Try.ntmps87
    go_wp2_with (go_at_call 105; rw [← hW0]; (refine (Hid.out K1).mono ?_; rintro e w1 ⟨hb1, he⟩; unfold ValP at he; simp only at he; subst he; simp only [valV, zeroV]; have B1 := hid hb1; have hx := (FB.out w1 hb1).2; have z0 := fun o => cellOf (alN hx o) 0; have y0 := fun o => freeOf (alN hx o) 0; have z1 := fun o => cellOf (alN hx o) 1; have y1 := fun o => freeOf (alN hx o) 1; have z2 := fun o => cellOf (alN hx o) 2; have y2 := fun o => freeOf (alN hx o) 2; have z3 := fun o => cellOf (alN hx o) 3; have y3 := fun o => freeOf (alN hx o) 3; have z4 := fun o => cellOf (alN hx o) 4; have y4 := fun o => freeOf (alN hx o) 4; have z5 := fun o => cellOf (alN hx o) 5; have y5 := fun o => freeOf (alN hx o) 5; have z6 := fun o => cellOf (alN hx o) 6; have y6 := fun o => freeOf (alN hx o) 6; have z7 := fun o => cellOf (alN hx o) 7; have y7 := fun o => freeOf (alN hx o) 7; have z8 := fun o => cellOf (alN hx o) 8; have y8 := fun o => freeOf (alN hx o) 8; have z9 := fun o => cellOf (alN hx o) 9; have y9 := fun o => freeOf (alN hx o) 9; simp only [List.getElem?_toArray, List.getElem?_cons_zero, List.getElem?_cons_succ] at z0 z1 z2 z3 z4 z5 z6 z7 z8 z9; clear hb1 hx))
    have hT := ten_at (alN (FB.out w1 B1.out).2 (.cells #[.int .i64 0, .int .i64 0, .string ⟨#[]⟩, .int .i64 0, .slice none 0 0] 31)) (.int .i64 0) (.int .i64 0) (.string ⟨#[]⟩) (.int .i64 0) (.slice none 0 0) (.int .i64 0) (.int .i64 0) (.string ⟨#[]⟩) (.int .i64 0) (.slice none 0 0)
    have t0 := cellOf hT 0
    have t1 := cellOf hT 1
    have t2 := cellOf hT 2
    have t3 := cellOf hT 3
    have t4 := cellOf hT 4
    have t5 := cellOf hT 5
    have t6 := cellOf hT 6
    have t7 := cellOf hT 7
    have t8 := cellOf hT 8
    have t9 := cellOf hT 9
    simp only [List.getElem?_toArray, List.getElem?_cons_zero, List.getElem?_cons_succ] at t0 t1 t2 t3 t4 t5 t6 t7 t8 t9
    have HT := ten_below (B := w.heap.size) (w0 := w) (w := w1.alloc (.cells #[.int .i64 0, .int .i64 0, .string ⟨#[]⟩, .int .i64 0, .slice none 0 0] 31)) (b := w.heap.size) ((FB.out w1 B1.out).1.alloc (FB.out w1 B1.out).1.size _) (Nat.le_refl _) (.int .i64 0) (.int .i64 0) (.string ⟨#[]⟩) (.int .i64 0) (.slice none 0 0) (.int .i64 0) (.int .i64 0) (.string ⟨#[]⟩) (.int .i64 0) (.slice none 0 0)
    obtain ⟨WT, hWT⟩ : ∃ WT, WT = ten (w1.alloc (.cells #[.int .i64 0, .int .i64 0, .string ⟨#[]⟩, .int .i64 0, .slice none 0 0] 31)) w.heap.size (.int .i64 0) (.int .i64 0) (.string ⟨#[]⟩) (.int .i64 0) (.slice none 0 0) (.int .i64 0) (.int .i64 0) (.string ⟨#[]⟩) (.int .i64 0) (.slice none 0 0) := ⟨_, rfl⟩
    change bodyPost _ _ _ _ _ (ten (w1.alloc (.cells #[.int .i64 0, .int .i64 0, .string ⟨#[]⟩, .int .i64 0, .slice none 0 0] 31)) w.heap.size (.int .i64 0) (.int .i64 0) (.string ⟨#[]⟩) (.int .i64 0) (.slice none 0 0) (.int .i64 0) (.int .i64 0) (.string ⟨#[]⟩) (.int .i64 0) (.slice none 0 0))
    simp only [← hWT] at t0 t1 t2 t3 t4 t5 t6 t7 t8 t9 HT ⊢
    refine bodyPost_ret (v := .tuple #[zE, .int .i64 0, .bool false]) (by simp [results, Try.results87, go_sem, t0, t1, t2, t3, t4, t5, t6, t7, t8, t9, zE]) rfl ⟨HT, ?_⟩
    rw [HE.out]; rfl
  | some r =>
    obtain ⟨x, k⟩ := r
    rw [hv1] at K1
    have hk := valD_le hby hv1
    have hkI : (k : Int) ≤ (bs.length : Int) := by omega
    have hk0 : (0 : Int) ≤ (k : Int) := by omega
    have hlI : (bs.length : Int) ≤ (cap : Int) := by omega
    have KS := hid (fun (w2 : World) (hb : Below w.heap.size w w2) => H.out.below (Nat.le_refl _) hb)
    have HV1 := hid hv1
    have HBy := hid hby
    clear h hby hv1
    by_cases hc : cap = k
    · have hc' := hc.symm
      subst hc'
      clear hc
      have HE : Hid (entD bs = none) := hid (by unfold entD; rw [HV1.out]; simp only; rw [List.drop_of_length_le (by omega)]; rfl)
      have K2 := hid (fun (w2 : World) => value_any w2 (.slice a 0 0) [] (Rd.empty w2 a 0) (by simp))
      go_enter Try.func87, Try.ntmps87
      go_wp2_with (first
        | (have hno := K1; go_at_call 105; rw [← hW0]; (refine (Hid.out K1).mono ?_; rintro e w1 ⟨hb1, he⟩; unfold ValP at he; simp only at he; obtain ⟨hx, rfl, hrep, hnew⟩ := he; obtain ⟨hk1, hi1, ht1, hr1, ha1, hn1, hc1⟩ := hx; simp only [Hd.v]; have B1 := hid hb1; have B1a := hid (fun o => hb1.trans (((Below.refl w1.heap.size w1).alloc (Nat.le_refl _) o).mono hb1.size)); clear hb1 hrep hnew K1))
        | (go_at_call 105; (refine ((K2.out (w1.alloc (.cells #[.int .i64 hk1, .int .i64 hi1, .string ht1, .int .i64 hr1, .slice ha1 hn1 hc1] 31)))).mono ?_; rintro e w2 ⟨hb2, he⟩; unfold ValP at he; simp only [valD] at he; subst he; simp only [valV, zeroV]; have B2 : Hid (Below W0.heap.size W0 w2) := hid ((B1a.out (.cells #[.int .i64 hk1, .int .i64 hi1, .string ht1, .int .i64 hr1, .slice ha1 hn1 hc1] 31)).trans (hb2.mono (B1a.out (.cells #[.int .i64 hk1, .int .i64 hi1, .string ht1, .int .i64 hr1, .slice ha1 hn1 hc1] 31)).size)); have hq := (FB.out w2 B2.out).2; have z0 := fun o => cellOf (alN hq o) 0; have y0 := fun o => freeOf (alN hq o) 0; have z1 := fun o => cellOf (alN hq o) 1; have y1 := fun o => freeOf (alN hq o) 1; have z2 := fun o => cellOf (alN hq o) 2; have y2 := fun o => freeOf (alN hq o) 2; have z3 := fun o => cellOf (alN hq o) 3; have y3 := fun o => freeOf (alN hq o) 3; have z4 := fun o => cellOf (alN hq o) 4; have y4 := fun o => freeOf (alN hq o) 4; have z5 := fun o => cellOf (alN hq o) 5; have y5 := fun o => freeOf (alN hq o) 5; have z6 := fun o => cellOf (alN hq o) 6; have y6 := fun o => freeOf (alN hq o) 6; have z7 := fun o => cellOf (alN hq o) 7; have y7 := fun o => freeOf (alN hq o) 7; have z8 := fun o => cellOf (alN hq o) 8; have y8 := fun o => freeOf (alN hq o) 8; have z9 := fun o => cellOf (alN hq o) 9; have y9 := fun o => freeOf (alN hq o) 9; simp only [List.getElem?_toArray, List.getElem?_cons_zero, List.getElem?_cons_succ] at z0 z1 z2 z3 z4 z5 z6 z7 z8 z9; clear hb2 hq)))
      have hT := ten_at (alN (FB.out w2 B2.out).2 (.cells #[.int .i64 0, .int .i64 0, .string ⟨#[]⟩, .int .i64 0, .slice none 0 0] 31)) (.int .i64 0) (.int .i64 0) (.string ⟨#[]⟩) (.int .i64 0) (.slice none 0 0) (.int .i64 0) (.int .i64 0) (.string ⟨#[]⟩) (.int .i64 0) (.slice none 0 0)
      have t0 := cellOf hT 0
      have t1 := cellOf hT 1
      have t2 := cellOf hT 2
      have t3 := cellOf hT 3
      have t4 := cellOf hT 4
      have t5 := cellOf hT 5
      have t6 := cellOf hT 6
      have t7 := cellOf hT 7
      have t8 := cellOf hT 8
      have t9 := cellOf hT 9
      simp only [List.getElem?_toArray, List.getElem?_cons_zero, List.getElem?_cons_succ] at t0 t1 t2 t3 t4 t5 t6 t7 t8 t9
      have HT := ten_below (B := w.heap.size) (w0 := w) (w := w2.alloc (.cells #[.int .i64 0, .int .i64 0, .string ⟨#[]⟩, .int .i64 0, .slice none 0 0] 31)) (b := w.heap.size) ((FB.out w2 B2.out).1.alloc (FB.out w2 B2.out).1.size _) (Nat.le_refl _) (.int .i64 0) (.int .i64 0) (.string ⟨#[]⟩) (.int .i64 0) (.slice none 0 0) (.int .i64 0) (.int .i64 0) (.string ⟨#[]⟩) (.int .i64 0) (.slice none 0 0)
      obtain ⟨WT, hWT⟩ : ∃ WT, WT = ten (w2.alloc (.cells #[.int .i64 0, .int .i64 0, .string ⟨#[]⟩, .int .i64 0, .slice none 0 0] 31)) w.heap.size (.int .i64 0) (.int .i64 0) (.string ⟨#[]⟩) (.int .i64 0) (.slice none 0 0) (.int .i64 0) (.int .i64 0) (.string ⟨#[]⟩) (.int .i64 0) (.slice none 0 0) := ⟨_, rfl⟩
      change bodyPost _ _ _ _ _ (ten (w2.alloc (.cells #[.int .i64 0, .int .i64 0, .string ⟨#[]⟩, .int .i64 0, .slice none 0 0] 31)) w.heap.size (.int .i64 0) (.int .i64 0) (.string ⟨#[]⟩) (.int .i64 0) (.slice none 0 0) (.int .i64 0) (.int .i64 0) (.string ⟨#[]⟩) (.int .i64 0) (.slice none 0 0))
      simp only [← hWT] at t0 t1 t2 t3 t4 t5 t6 t7 t8 t9 HT ⊢
      refine bodyPost_ret (v := .tuple #[zE, .int .i64 0, .bool false]) (by simp [results, Try.results87, go_sem, t0, t1, t2, t3, t4, t5, t6, t7, t8, t9, zE]) rfl ⟨HT, ?_⟩
      rw [HE.out]; rfl
    · have K2 := hid (fun (w2 : World) (hb : Below w.heap.size w w2) => value_any w2 (.slice (Option.map (fun x => x.add k) a) (bs.length - k) (cap - k)) (bs.drop k) ((KS.out w2 hb).sl k hk (by rw [if_neg hc]) rfl rfl) (by rw [List.length_drop]; omega))
      cases hv2 : valD (bs.drop k) with
      | none =>
        have HE : Hid (entD bs = none) := hid (by unfold entD; rw [HV1.out]; simp only [hv2])
        go_enter Try.func87, Try.ntmps87
        go_wp2_with (first
          | (have hno := K1; go_at_call 105; rw [← hW0]; (refine (Hid.out K1).mono ?_; rintro e w1 ⟨hb1, he⟩; unfold ValP at he; simp only at he; obtain ⟨hx, rfl, hrep, hnew⟩ := he; obtain ⟨hk1, hi1, ht1, hr1, ha1, hn1, hc1⟩ := hx; simp only [Hd.v]; have B1 := hid hb1; have HRep := hid hrep; have HNew := hid hnew; have B1a := hid (fun o => hb1.trans (((Below.refl w1.heap.size w1).alloc (Nat.le_refl _) o).mono hb1.size)); clear hb1 hrep hnew K1))
          | (go_at_call 105; (refine ((K2.out (w1.alloc (.cells #[.int .i64 hk1, .int .i64 hi1, .string ht1, .int .i64 hr1, .slice ha1 hn1 hc1] 31)) (FB.out _ (B1a.out (.cells #[.int .i64 hk1, .int .i64 hi1, .string ht1, .int .i64 hr1, .slice ha1 hn1 hc1] 31))).1)).mono ?_; rintro e w2 ⟨hb2, he⟩; unfold ValP at he; simp only [hv2] at he; subst he; simp only [valV, zeroV]; have B2 : Hid (Below W0.heap.size W0 w2) := hid ((B1a.out (.cells #[.int .i64 hk1, .int .i64 hi1, .string ht1, .int .i64 hr1, .slice ha1 hn1 hc1] 31)).trans (hb2.mono (B1a.out (.cells #[.int .i64 hk1, .int .i64 hi1, .string ht1, .int .i64 hr1, .slice ha1 hn1 hc1] 31)).size)); have hq := (FB.out w2 B2.out).2; have z0 := fun o => cellOf (alN hq o) 0; have y0 := fun o => freeOf (alN hq o) 0; have z1 := fun o => cellOf (alN hq o) 1; have y1 := fun o => freeOf (alN hq o) 1; have z2 := fun o => cellOf (alN hq o) 2; have y2 := fun o => freeOf (alN hq o) 2; have z3 := fun o => cellOf (alN hq o) 3; have y3 := fun o => freeOf (alN hq o) 3; have z4 := fun o => cellOf (alN hq o) 4; have y4 := fun o => freeOf (alN hq o) 4; have z5 := fun o => cellOf (alN hq o) 5; have y5 := fun o => freeOf (alN hq o) 5; have z6 := fun o => cellOf (alN hq o) 6; have y6 := fun o => freeOf (alN hq o) 6; have z7 := fun o => cellOf (alN hq o) 7; have y7 := fun o => freeOf (alN hq o) 7; have z8 := fun o => cellOf (alN hq o) 8; have y8 := fun o => freeOf (alN hq o) 8; have z9 := fun o => cellOf (alN hq o) 9; have y9 := fun o => freeOf (alN hq o) 9; simp only [List.getElem?_toArray, List.getElem?_cons_zero, List.getElem?_cons_succ] at z0 z1 z2 z3 z4 z5 z6 z7 z8 z9; clear hb2 hq)))
        have hT := ten_at (alN (FB.out w2 B2.out).2 (.cells #[.int .i64 0, .int .i64 0, .string ⟨#[]⟩, .int .i64 0, .slice none 0 0] 31)) (.int .i64 0) (.int .i64 0) (.string ⟨#[]⟩) (.int .i64 0) (.slice none 0 0) (.int .i64 0) (.int .i64 0) (.string ⟨#[]⟩) (.int .i64 0) (.slice none 0 0)
        have t0 := cellOf hT 0
        have t1 := cellOf hT 1
        have t2 := cellOf hT 2
        have t3 := cellOf hT 3
        have t4 := cellOf hT 4
        have t5 := cellOf hT 5
        have t6 := cellOf hT 6
        have t7 := cellOf hT 7
        have t8 := cellOf hT 8
        have t9 := cellOf hT 9
        simp only [List.getElem?_toArray, List.getElem?_cons_zero, List.getElem?_cons_succ] at t0 t1 t2 t3 t4 t5 t6 t7 t8 t9
        have HT := ten_below (B := w.heap.size) (w0 := w) (w := w2.alloc (.cells #[.int .i64 0, .int .i64 0, .string ⟨#[]⟩, .int .i64 0, .slice none 0 0] 31)) (b := w.heap.size) ((FB.out w2 B2.out).1.alloc (FB.out w2 B2.out).1.size _) (Nat.le_refl _) (.int .i64 0) (.int .i64 0) (.string ⟨#[]⟩) (.int .i64 0) (.slice none 0 0) (.int .i64 0) (.int .i64 0) (.string ⟨#[]⟩) (.int .i64 0) (.slice none 0 0)
        obtain ⟨WT, hWT⟩ : ∃ WT, WT = ten (w2.alloc (.cells #[.int .i64 0, .int .i64 0, .string ⟨#[]⟩, .int .i64 0, .slice none 0 0] 31)) w.heap.size (.int .i64 0) (.int .i64 0) (.string ⟨#[]⟩) (.int .i64 0) (.slice none 0 0) (.int .i64 0) (.int .i64 0) (.string ⟨#[]⟩) (.int .i64 0) (.slice none 0 0) := ⟨_, rfl⟩
        change bodyPost _ _ _ _ _ (ten (w2.alloc (.cells #[.int .i64 0, .int .i64 0, .string ⟨#[]⟩, .int .i64 0, .slice none 0 0] 31)) w.heap.size (.int .i64 0) (.int .i64 0) (.string ⟨#[]⟩) (.int .i64 0) (.slice none 0 0) (.int .i64 0) (.int .i64 0) (.string ⟨#[]⟩) (.int .i64 0) (.slice none 0 0))
        simp only [← hWT] at t0 t1 t2 t3 t4 t5 t6 t7 t8 t9 HT ⊢
        refine bodyPost_ret (v := .tuple #[zE, .int .i64 0, .bool false]) (by simp [results, Try.results87, go_sem, t0, t1, t2, t3, t4, t5, t6, t7, t8, t9, zE]) rfl ⟨HT, ?_⟩
        rw [HE.out]; rfl
      | some r2 =>
        obtain ⟨y, j⟩ := r2
        have HE : Hid (entD bs = some ((x, y), k + j)) := hid (by unfold entD; rw [HV1.out]; simp only [hv2])
        have hj := valD_le (Byt.drop HBy.out k) hv2
        rw [List.length_drop] at hj
        go_enter Try.func87, Try.ntmps87
        go_wp2_with (first
          | (have hno := K1; go_at_call 105; rw [← hW0]; (refine (Hid.out K1).mono ?_; rintro e w1 ⟨hb1, he⟩; unfold ValP at he; simp only at he; obtain ⟨hx, rfl, hrep, hnew⟩ := he; obtain ⟨hk1, hi1, ht1, hr1, ha1, hn1, hc1⟩ := hx; simp only [Hd.v]; have B1 := hid hb1; have HRep := hid hrep; have HNew := hid hnew; have B1a := hid (fun o => hb1.trans (((Below.refl w1.heap.size w1).alloc (Nat.le_refl _) o).mono hb1.size)); clear hb1 hrep hnew K1))
          | (go_at_call 105; (refine ((K2.out (w1.alloc (.cells #[.int .i64 hk1, .int .i64 hi1, .string ht1, .int .i64 hr1, .slice ha1 hn1 hc1] 31)) (FB.out _ (B1a.out (.cells #[.int .i64 hk1, .int .i64 hi1, .string ht1, .int .i64 hr1, .slice ha1 hn1 hc1] 31))).1)).mono ?_; rintro e w2 ⟨hb2, he⟩; unfold ValP at he; simp only [hv2] at he; obtain ⟨hy, rfl, hrep2, hnew2⟩ := he; obtain ⟨hk2, hi2, ht2, hr2, ha2, hn2, hc2⟩ := hy; simp only [Hd.v]; have B2 : Hid (Below W0.heap.size W0 w2) := hid ((B1a.out (.cells #[.int .i64 hk1, .int .i64 hi1, .string ht1, .int .i64 hr1, .slice ha1 hn1 hc1] 31)).trans (hb2.mono (B1a.out (.cells #[.int .i64 hk1, .int .i64 hi1, .string ht1, .int .i64 hr1, .slice ha1 hn1 hc1] 31)).size)); have HRep2 := hid hrep2; have HNew2 := hid hnew2; have kb := (hb2.block w1.heap.size (by simp)).trans (heap_alloc_new w1 (.cells #[.int .i64 hk1, .int .i64 hi1, .string ht1, .int .i64 hr1, .slice ha1 hn1 hc1] 31)); have e0 := fun o => cellOf (alN kb o) 0; have e1 := fun o => cellOf (alN kb o) 1; have e2 := fun o => cellOf (alN kb o) 2; have e3 := fun o => cellOf (alN kb o) 3; have e4 := fun o => cellOf (alN kb o) 4; simp only [List.getElem?_toArray, List.getElem?_cons_zero, List.getElem?_cons_succ] at e0 e1 e2 e3 e4; have hq := (FB.out w2 B2.out).2; have z0 := fun o => cellOf (alN hq o) 0; have y0 := fun o => freeOf (alN hq o) 0; have z1 := fun o => cellOf (alN hq o) 1; have y1 := fun o => freeOf (alN hq o) 1; have z2 := fun o => cellOf (alN hq o) 2; have y2 := fun o => freeOf (alN hq o) 2; have z3 := fun o => cellOf (alN hq o) 3; have y3 := fun o => freeOf (alN hq o) 3; have z4 := fun o => cellOf (alN hq o) 4; have y4 := fun o => freeOf (alN hq o) 4; have z5 := fun o => cellOf (alN hq o) 5; have y5 := fun o => freeOf (alN hq o) 5; have z6 := fun o => cellOf (alN hq o) 6; have y6 := fun o => freeOf (alN hq o) 6; have z7 := fun o => cellOf (alN hq o) 7; have y7 := fun o => freeOf (alN hq o) 7; have z8 := fun o => cellOf (alN hq o) 8; have y8 := fun o => freeOf (alN hq o) 8; have z9 := fun o => cellOf (alN hq o) 9; have y9 := fun o => freeOf (alN hq o) 9; simp only [List.getElem?_toArray, List.getElem?_cons_zero, List.getElem?_cons_succ] at z0 z1 z2 z3 z4 z5 z6 z7 z8 z9; have HB2 := hid hb2; clear hb2 hq hrep2 hnew2 kb)))
        have r1 := ((HRep.out.below (Nat.le_refl _) ((Below.refl w1.heap.size w1).alloc (Nat.le_refl _) (.cells #[.int .i64 hk1, .int .i64 hi1, .string ht1, .int .i64 hr1, .slice ha1 hn1 hc1] 31))).below (Nat.le_refl _) HB2.out).below (Nat.le_refl _) ((Below.refl w2.heap.size w2).alloc (Nat.le_refl _) (.cells #[.int .i64 hk2, .int .i64 hi2, .string ht2, .int .i64 hr2, .slice ha2 hn2 hc2] 31))
        have r2 := HRep2.out.below (Nat.le_refl _) ((Below.refl w2.heap.size w2).alloc (Nat.le_refl _) (.cells #[.int .i64 hk2, .int .i64 hi2, .string ht2, .int .i64 hr2, .slice ha2 hn2 hc2] 31))
        have s1 : W0.heap.size ≤ (w1.alloc (.cells #[.int .i64 hk1, .int .i64 hi1, .string ht1, .int .i64 hr1, .slice ha1 hn1 hc1] 31)).heap.size := (B1a.out (.cells #[.int .i64 hk1, .int .i64 hi1, .string ht1, .int .i64 hr1, .slice ha1 hn1 hc1] 31)).size
        have hT := ten_at (alN (FB.out w2 B2.out).2 (.cells #[.int .i64 hk2, .int .i64 hi2, .string ht2, .int .i64 hr2, .slice ha2 hn2 hc2] 31)) (.int .i64 hk1) (.int .i64 hi1) (.string ht1) (.int .i64 hr1) (.slice ha1 hn1 hc1) (.int .i64 hk2) (.int .i64 hi2) (.string ht2) (.int .i64 hr2) (.slice ha2 hn2 hc2)
        have t0 := cellOf hT 0
        have t1 := cellOf hT 1
        have t2 := cellOf hT 2
        have t3 := cellOf hT 3
        have t4 := cellOf hT 4
        have t5 := cellOf hT 5
        have t6 := cellOf hT 6
        have t7 := cellOf hT 7
        have t8 := cellOf hT 8
        have t9 := cellOf hT 9
        simp only [List.getElem?_toArray, List.getElem?_cons_zero, List.getElem?_cons_succ] at t0 t1 t2 t3 t4 t5 t6 t7 t8 t9
        have HT := ten_below (B := w.heap.size) (w0 := w) (w := w2.alloc (.cells #[.int .i64 hk2, .int .i64 hi2, .string ht2, .int .i64 hr2, .slice ha2 hn2 hc2] 31)) (b := w.heap.size) ((FB.out w2 B2.out).1.alloc (FB.out w2 B2.out).1.size _) (Nat.le_refl _) (.int .i64 hk1) (.int .i64 hi1) (.string ht1) (.int .i64 hr1) (.slice ha1 hn1 hc1) (.int .i64 hk2) (.int .i64 hi2) (.string ht2) (.int .i64 hr2) (.slice ha2 hn2 hc2)
        have r3 := r1.keep (fun _ b _ e => ten_heap (w2.alloc (.cells #[.int .i64 hk2, .int .i64 hi2, .string ht2, .int .i64 hr2, .slice ha2 hn2 hc2] 31)) w.heap.size (.int .i64 hk1) (.int .i64 hi1) (.string ht1) (.int .i64 hr1) (.slice ha1 hn1 hc1) (.int .i64 hk2) (.int .i64 hi2) (.string ht2) (.int .i64 hr2) (.slice ha2 hn2 hc2) (show b ≠ w.heap.size from fun e2 => by have := HNew.out b e; omega))
        have r4 := r2.keep (fun _ b _ e => ten_heap (w2.alloc (.cells #[.int .i64 hk2, .int .i64 hi2, .string ht2, .int .i64 hr2, .slice ha2 hn2 hc2] 31)) w.heap.size (.int .i64 hk1) (.int .i64 hi1) (.string ht1) (.int .i64 hr1) (.slice ha1 hn1 hc1) (.int .i64 hk2) (.int .i64 hi2) (.string ht2) (.int .i64 hr2) (.slice ha2 hn2 hc2) (show b ≠ w.heap.size from fun e2 => by have := HNew2.out b e; omega))
        obtain ⟨WT, hWT⟩ : ∃ WT, WT = ten (w2.alloc (.cells #[.int .i64 hk2, .int .i64 hi2, .string ht2, .int .i64 hr2, .slice ha2 hn2 hc2] 31)) w.heap.size (.int .i64 hk1) (.int .i64 hi1) (.string ht1) (.int .i64 hr1) (.slice ha1 hn1 hc1) (.int .i64 hk2) (.int .i64 hi2) (.string ht2) (.int .i64 hr2) (.slice ha2 hn2 hc2) := ⟨_, rfl⟩
        change bodyPost _ _ _ _ _ (ten (w2.alloc (.cells #[.int .i64 hk2, .int .i64 hi2, .string ht2, .int .i64 hr2, .slice ha2 hn2 hc2] 31)) w.heap.size (.int .i64 hk1) (.int .i64 hi1) (.string ht1) (.int .i64 hr1) (.slice ha1 hn1 hc1) (.int .i64 hk2) (.int .i64 hi2) (.string ht2) (.int .i64 hr2) (.slice ha2 hn2 hc2))
        simp only [← hWT] at t0 t1 t2 t3 t4 t5 t6 t7 t8 t9 HT r3 r4 ⊢
        refine bodyPost_ret (v := .tuple #[.agg #[(.int .i64 hk1), (.int .i64 hi1), (.string ht1), (.int .i64 hr1), (.slice ha1 hn1 hc1), (.int .i64 hk2), (.int .i64 hi2), (.string ht2), (.int .i64 hr2), (.slice ha2 hn2 hc2)], .int .i64 ((k : Int) + (j : Int)), .bool true]) (by simp [results, Try.results87, go_sem, t0, t1, t2, t3, t4, t5, t6, t7, t8, t9]) rfl ⟨HT, ?_⟩
        rw [HE.out]
        exact ⟨⟨hk1, hi1, ht1, hr1, ha1, hn1, hc1⟩, ⟨hk2, hi2, ht2, hr2, ha2, hn2, hc2⟩, rfl, r3, r4, fun b e => by have := HNew.out b e; omega, fun b e => by have := HNew2.out b e; omega⟩
end Go.Proofs.Ytenfgahedbeekaa

namespace Go.Proofs.Ytenfgahedbeekaa
open Go.RowKit Go.Deep Go.Shelf
set_option linter.unusedVariables false
set_option linter.unusedSimpArgs false

theorem wpList_appE {ops : Array Oper} {rest : List Oper} {o : Oper} {a : Act} {Q : Exit → Act → World → Prop} (w : World) (hgd : o.guard = none) (sl x : Operand)
    (ho : o.op = .call { callee := .builtin .append, args := #[sl, x], argTypes := #[70, 70] }) (v : Value) (h : En) (hs : a.eval sl = v) (hx : a.eval x = .slice (some ⟨w.heap.size, 0, none⟩) 1 1)
    (B : Nat) (ss : List En) (hr : ERow w B v ss) (hB : B ≤ w.heap.size) (hl : ss.length ≤ 1000000)
    (k : ∀ v' w', ERow w' B v' (ss ++ [h]) → Grw (w.alloc (.cells h.cs.toArray 81)) v w' v' → wpList Try.prog ops Q rest (a.put o.dst v') w') :
    wpList Try.prog ops Q (o :: rest) a (w.alloc (.cells h.cs.toArray 81)) := by
  refine wpList_plain hgd fun K hK => ?_
  have hr' : ERow (w.alloc (.cells h.cs.toArray 81)) B v ss := hr.below (Nat.le_refl _) ((Below.refl _ w).alloc (Nat.le_refl _) _)
  obtain ⟨v', w', hrun, h2, h3⟩ := run_appE _ o.type B v ss h w.heap.size hr' (heap_alloc_new w _) (by simp; omega) hl
  unfold Oper.wp execOp
  simp only [ho, resolve, invoke, builtin, Sem.run_bind, Sem.run_pure, Result.andThen_ok, List.map_toArray, List.map_cons, List.map_nil, hs, hx, hrun]
  exact hK _ _ (k v' w' h2 h3)
/- Values that were read, as trees. -/
def fl (f : Hd) : VT 2 := (f, [])
def tre (h : Hd) (x : Vl) : VT 3 := (h, x.fs.map fl)
def nrm (t : VT 3) : VT 3 := ((⟨t.1.kind, t.1.int, t.1.text, t.1.rc, none, t.1.n, 0⟩ : Hd), t.2)
def tvl (x : Vl) : VT 3 := tre (hdOf x) x
def nrmP (q : VT 3 × VT 3) : VT 3 × VT 3 := (nrm q.1, nrm q.2)
def tvlP (e : Vl × Vl) : VT 3 × VT 3 := (tvl e.1, tvl e.2)
structure GV (x : Vl) : Prop where
  plain : plainB (hdOf x) x.fs = true
  hin : (hdOf x).In
  fin : ∀ f ∈ x.fs, f.In
theorem GV.small {x : Vl} (g : GV x) : x.fs.length ≤ 12 ∧ ∀ f ∈ x.fs, f.n = 0 := by
  have h := g.plain
  by_cases hk : (hdOf x).kind = 4
  · rw [plainB_rec hk] at h
    simp only [Bool.and_eq_true, decide_eq_true_eq] at h
    refine ⟨h.1.2, fun f hf => ?_⟩
    have := List.all_eq_true.1 h.2 f hf
    exact (simpleB_cases this).2.1
  · unfold plainB at h
    rw [if_neg hk] at h
    have h0 := (simpleB_cases h).2.1
    have : x.fs = [] := List.eq_nil_of_length_eq_zero h0
    rw [this]
    exact ⟨by simp, fun f hf => by cases hf⟩
theorem flat_back : ∀ l : List Hd, (l.map fl).map (hdT 2) = l
  | [] => rfl
  | a :: l => by rw [List.map_cons, List.map_cons, flat_back l]; rfl
theorem rep_tree {w : World} {x : Vl} {h : Hd} {B : Nat} (g : GV x) (r : Rep w x h) (hn : ∀ b, (Value.slice h.a h.n h.cap).ownBlock = some b → B ≤ b) : RdP 3 w (fun b => B ≤ b ∧ b < w.heap.size) (tre h x) ∧ nrm (tre h x) = tvl x := by
  obtain ⟨kind, int, text, rc, a, n, cap⟩ := h
  obtain ⟨r1, r2, r3, r4, r5, r6⟩ := r
  simp only at r1 r2 r3 r4 r5 r6 hn
  subst r1 r2 r3 r4 r5
  have gi := g.hin
  refine ⟨⟨⟨gi.i0, gi.i1, gi.k0, gi.k1, gi.r0, gi.r1, gi.t, gi.n⟩, (List.length_map (f := fl)).symm, by show x.fs.length ≤ 1000; have := g.small.1; omega, ?_, ?_, ?_⟩, rfl⟩
  · have : (tre ⟨x.kind, x.int, x.text, x.rc, a, x.fs.length, cap⟩ x).2.map (hdT 2) = x.fs := by
      exact flat_back x.fs
    rw [this]
    exact r6
  · intro ad ha hne
    have hne' : x.fs ≠ [] := fun e => hne (by show x.fs.map fl = []; rw [e]; rfl)
    obtain ⟨f, hf⟩ : ∃ f, x.fs[0]? = some f := by
      cases hx : x.fs with
      | nil => exact absurd hx hne'
      | cons f r => exact ⟨f, rfl⟩
    obtain ⟨b, off, e, hc⟩ := r6 0 f hf
    simp only [tre] at ha
    rw [e] at ha
    cases ha
    have hlt := World.block_lt_of_cell? w _ ((hc 0 (by omega)).trans (show f.cs[0]? = some _ from rfl))
    exact ⟨hn b (by rw [e]; rfl), hlt⟩
  · intro u hu
    have hu' : u ∈ x.fs.map fl := hu
    obtain ⟨f, hf, rfl⟩ := List.mem_map.1 hu'
    have h0 := g.small.2 f hf
    exact ⟨g.fin f hf, (show f.n = 0 from h0), by show f.n ≤ 1000; omega, (fun j y hy => by have hy' : ([] : List Hd)[j]? = some y := hy; simp at hy'), (fun _ _ e => absurd rfl e), (fun u hu => by have hu' : u ∈ ([] : List (VT 1)) := hu; cases hu')⟩
theorem GV.of {bs : List Nat} (hb : Byt bs) {x : Vl} {k : Nat} (e : valD bs = some (x, k)) : GV x := ⟨(valD_back hb e).2.1, (valD_back hb e).2.2.1, (valD_back hb e).2.2.2⟩
theorem entD_parts {bs : List Nat} {x y : Vl} {k : Nat} (e : entD bs = some ((x, y), k)) : ∃ i j, valD bs = some (x, i) ∧ valD (bs.drop i) = some (y, j) ∧ k = i + j := by
  unfold entD at e
  cases h1 : valD bs with
  | none => rw [h1] at e; cases e
  | some r =>
    obtain ⟨x', i⟩ := r
    rw [h1] at e
    simp only at e
    cases h2 : valD (bs.drop i) with
    | none => rw [h2] at e; cases e
    | some r2 =>
      obtain ⟨y', j⟩ := r2
      rw [h2] at e
      simp only [Option.some.injEq, Prod.mk.injEq] at e
      obtain ⟨⟨rfl, rfl⟩, rfl⟩ := e
      exact ⟨i, j, rfl, h2, rfl⟩
theorem entD_le {bs : List Nat} (hb : Byt bs) {e : Vl × Vl} {k : Nat} (h : entD bs = some (e, k)) : k ≤ bs.length := by
  obtain ⟨x, y⟩ := e
  obtain ⟨i, j, h1, h2, rfl⟩ := entD_parts h
  have a1 := valD_le hb h1
  have a2 := valD_le (hb.drop i) h2
  rw [List.length_drop] at a2
  omega
def rwD (bs : List Nat) : Option (List (Vl × Vl) × Nat) := match dec bs with
  | none => none
  | some (c, i) => if 24 < c then none else goD entD bs c i []
theorem Rd.slA {w : World} {a : Option Addr} {k : Nat} {bs : List Nat} (h : Rd w (.slice a bs.length k) bs) : Rd w (.slice a 0 0) (bs.drop k) := by
  obtain ⟨_, _, e, hc, _⟩ := h
  cases e
  rw [List.drop_of_length_le hc]
  exact Rd.empty w a 0
theorem Rd.slB {w : World} {a : Option Addr} {k cap : Nat} {bs : List Nat} (h : Rd w (.slice a bs.length cap) bs) (hk : k ≤ bs.length) (hc : ¬ cap = k) : Rd w (.slice (Option.map (fun x => x.add k) a) (bs.length - k) (cap - k)) (bs.drop k) :=
  h.sl k hk (by rw [if_neg hc]) rfl rfl
/- Between two rounds. -/
structure RrI (w wr : World) (fa : Option Addr) (fn fc : Nat) (ps : Rw 3) (acc : List (Vl × Vl)) : Prop where
  bel : Below w.heap.size w wr
  row : ERow wr w.heap.size (.slice fa fn fc) (ps.map (enT 3))
  el : ∀ q ∈ ps, RdP 3 wr (fun b => w.heap.size ≤ b ∧ b < wr.heap.size ∧ some b ≠ (Value.slice fa fn fc).ownBlock) q.1 ∧ RdP 3 wr (fun b => w.heap.size ≤ b ∧ b < wr.heap.size ∧ some b ≠ (Value.slice fa fn fc).ownBlock) q.2
  eq : ps.map nrmP = acc.map tvlP
theorem RrI.nil (w : World) : RrI w w none 0 0 [] [] := ⟨Below.refl _ _, ERow.nil _ _, (fun q hq => by cases hq), rfl⟩
theorem RrI.len {w wr : World} {fa : Option Addr} {fn fc : Nat} {ps : Rw 3} {acc : List (Vl × Vl)} (h : RrI w wr fa fn fc ps acc) : ps.length = acc.length := by
  have := congrArg List.length h.eq
  simpa using this
theorem RrI.more {w wr w2 w4 : World} {fa va : Option Addr} {fn fc vn vc : Nat} {ps : Rw 3} {acc : List (Vl × Vl)} {x y : Vl} {hx hy : Hd} {o1 o2 : Obj} (h : RrI w wr fa fn fc ps acc) (hb : Below wr.heap.size wr w2) (gx : GV x) (gy : GV y) (rx : Rep w2 x hx) (ry : Rep w2 y hy)
    (nx : ∀ b, (Value.slice hx.a hx.n hx.cap).ownBlock = some b → wr.heap.size ≤ b) (ny : ∀ b, (Value.slice hy.a hy.n hy.cap).ownBlock = some b → wr.heap.size ≤ b)
    (hr : ERow w4 w.heap.size (.slice va vn vc) (ps.map (enT 3) ++ [⟨hx, hy⟩])) (hg : Grw ((w2.alloc o1).alloc o2) (.slice fa fn fc) w4 (.slice va vn vc)) :
    RrI w w4 va vn vc (ps ++ [(tre hx x, tre hy y)]) (acc ++ [(x, y)]) := by
  have hs2 : w2.heap.size + 2 ≤ w4.heap.size := by have := hg.1.size; simpa using this
  have hs1 := hb.size
  have own : ∀ b, (Value.slice fa fn fc).ownBlock = some b → w.heap.size ≤ b ∧ b < wr.heap.size := fun b e => h.row.own b e
  have own4 : ∀ b, (Value.slice va vn vc).ownBlock = some b → (Value.slice fa fn fc).ownBlock = some b ∨ w2.heap.size ≤ b := fun b e => by
    rcases hg.2 with e2 | ⟨g, e2, e3⟩
    · exact .inl (e2 ▸ e)
    · rw [e] at e2; cases e2; simp at e3; exact .inr (by omega)
  have blk : ∀ b, b < w2.heap.size → some b ≠ (Value.slice fa fn fc).ownBlock → w4.heap[b]? = w2.heap[b]? := fun b hb2 hne => (hg.1.block b (by simp; omega) hne).trans ((Below.heap_alloc _ _ _ (by simp; omega)).trans (Below.heap_alloc _ _ _ hb2))
  obtain ⟨t1, e1⟩ := rep_tree gx rx nx
  obtain ⟨t2, e2⟩ := rep_tree gy ry ny
  refine ⟨?_, by rw [List.map_append]; exact hr, ?_, by rw [List.map_append, List.map_append, h.eq]; simp only [List.map_cons, List.map_nil, nrmP, tvlP, e1, e2]⟩
  · exact ⟨(hg.1.os.trans hb.os).trans h.bel.os, (hg.1.tape.trans hb.tape).trans h.bel.tape, (hg.1.output.trans hb.output).trans h.bel.output, by have := h.bel.size; omega, fun j hj => (blk j (by have := h.bel.size; omega) (fun e => by have := (own j e.symm).1; omega)).trans ((hb.block j (by have := h.bel.size; omega)).trans (h.bel.block j hj))⟩
  · intro q hq
    have kp : ∀ b, (w.heap.size ≤ b ∧ b < wr.heap.size ∧ some b ≠ (Value.slice fa fn fc).ownBlock) → w4.heap[b]? = wr.heap[b]? := fun b hA => (blk b (by omega) hA.2.2).trans (hb.block b hA.2.1)
    have im : ∀ b, (w.heap.size ≤ b ∧ b < wr.heap.size ∧ some b ≠ (Value.slice fa fn fc).ownBlock) → (w.heap.size ≤ b ∧ b < w4.heap.size ∧ some b ≠ (Value.slice va vn vc).ownBlock) := fun b hA => ⟨hA.1, by omega, fun e => by
      rcases own4 b e.symm with h1 | h1
      · exact hA.2.2 h1.symm
      · omega⟩
    have kp2 : ∀ b, (wr.heap.size ≤ b ∧ b < w2.heap.size) → w4.heap[b]? = w2.heap[b]? := fun b hA => blk b hA.2 (fun e => by have := (own b e.symm).2; omega)
    have im2 : ∀ b, (wr.heap.size ≤ b ∧ b < w2.heap.size) → (w.heap.size ≤ b ∧ b < w4.heap.size ∧ some b ≠ (Value.slice va vn vc).ownBlock) := fun b hA => ⟨by have := h.bel.size; omega, by omega, fun e => by
      rcases own4 b e.symm with h1 | h1
      · have := (own b h1).2; omega
      · omega⟩
    rcases List.mem_append.1 hq with hq | hq
    · exact ⟨((h.el q hq).1.keep 3 kp).imp 3 im, ((h.el q hq).2.keep 3 kp).imp 3 im⟩
    · simp only [List.mem_singleton] at hq
      subst hq
      exact ⟨(t1.keep 3 kp2).imp 3 im2, (t2.keep 3 kp2).imp 3 im2⟩
def RrP (w : World) (o : Option (List (Vl × Vl) × Nat)) (e : Ending) (w' : World) : Prop := Below w.heap.size w w' ∧ match o with
  | none => e = .returned (.tuple #[.slice none 0 0, .int .i64 0, .bool false])
  | some (X, k) => ∃ fa fn fc ps, e = .returned (.tuple #[.slice fa fn fc, .int .i64 (k : Int), .bool true]) ∧ RwP 3 w' (fun b => w.heap.size ≤ b ∧ b < w'.heap.size) fa fn ps ∧ fn ≤ fc ∧ ps.map nrmP = X.map tvlP
theorem RrI.out {w wr : World} {fa : Option Addr} {fn fc : Nat} {ps : Rw 3} {acc : List (Vl × Vl)} (h : RrI w wr fa fn fc ps acc) (hl : acc.length ≤ 24) : RwP 3 wr (fun b => w.heap.size ≤ b ∧ b < wr.heap.size) fa fn ps ∧ fn ≤ fc := by
  obtain ⟨a9, c9, e9, h9⟩ := h.row.form
  cases e9
  have := h.len
  rw [List.length_map] at h9 ⊢
  refine ⟨⟨rfl, by omega, h.row.rd, fun x e ne => ?_, fun q hq => ⟨(h.el q hq).1.imp 3 (fun b hA => ⟨hA.1, hA.2.1⟩), (h.el q hq).2.imp 3 (fun b hA => ⟨hA.1, hA.2.1⟩)⟩⟩, h9⟩
  have := h.row.own x.block (by rw [e]; rfl)
  exact this
set_option maxRecDepth 100000 in
set_option maxHeartbeats 2000000 in
theorem readRow_go (w : World) (a : Option Addr) (cap : Nat) (bs : List Nat) (H : Hid (∀ w2, Below w.heap.size w w2 → Rd w2 (.slice a bs.length cap) bs)) (hl : bs.length ≤ 1000000000) (c i : Nat) (hd : dec bs = some (c, i)) (hc : c ≤ 24) :
    Calls Try.prog 59 #[.slice a bs.length cap] w (RrP w (goD entD bs c i [])) := by
  have h := H.out w (Below.refl _ _)
  have hby : Byt bs := by obtain ⟨_, _, _, _, hb, _⟩ := h; exact hb
  have hcap : bs.length ≤ cap := by obtain ⟨_, _, e, hc, _⟩ := h; cases e; exact hc
  have HBy := hid hby
  have K1 := hid (uint_any w _ bs h (by omega))
  rw [hd] at K1
  simp only [uintV] at K1
  have hi := (dec_back hby hd).2.2.1
  clear h hby hd
  obtain ⟨RES, hRES⟩ : ∃ RES, RES = goD entD bs c i [] := ⟨_, rfl⟩
  rw [← hRES]
  have HRES := hid hRES
  clear hRES
  have hc' : ¬ (24 : Int) < (c : Int) := by omega
  have hcI : (c : Int) ≤ 24 := by omega
  have hcw : IntKind.i64.wrap (c : Int) = (c : Int) := by rw [IntKind.wrap_i64]; omega
  have hlI : (bs.length : Int) ≤ (cap : Int) := by omega
  have hlJ : (bs.length : Int) ≤ 1000000000 := by omega
  go_enter Try.func59, Try.ntmps59
  go_wp2_with (go_at_call 86; (refine (Hid.out K1).mono ?_; rintro e w1 ⟨rfl, rfl⟩))
  go_loopg [6, 8, 26] c (fun gg v6 v8 v26 wr => ∃ (j at' fn fc : Nat) (fa : Option Addr) (ps : Rw 3) (acc : List (Vl × Vl)), j + gg = c ∧ acc.length = j ∧ v26 = .int .i64 (j : Int) ∧ v6 = .int .i64 (at' : Int) ∧ v8 = .slice fa fn fc ∧ at' ≤ bs.length ∧ RES = goD entD bs gg at' acc ∧ RrI w1 wr fa fn fc ps acc)
  case atStart => exact ⟨0, i, 0, 0, none, [], [], by omega, rfl, rfl, rfl, rfl, hi, HRES.out, RrI.nil _⟩
  case round =>
    obtain ⟨j, at', fn, fc, fa, ps, acc, hj, hacc, rfl, rfl, rfl, hat, hres, hI⟩ := hrel
    have HI := hid hI
    have Hacc := hid hacc
    clear hI hacc
    cases gk with
    | zero =>
      have hjc : j = c := by omega
      subst hjc
      have Hres : Hid (RES = some (acc, at')) := hid hres
      clear hres hj
      go_wp2
      refine bodyPost_ret (v := .tuple #[.slice fa fn fc, .int .i64 (at' : Int), .bool true]) (by simp [results, Try.results59, go_sem]) rfl ?_
      rw [Hres.out]
      obtain ⟨h1, h2⟩ := HI.out.out (by have := Hacc.out; omega)
      exact ⟨HI.out.bel, _, _, _, ps, rfl, h1, h2, HI.out.eq⟩
    | succ gi =>
      have hjc : (j : Int) < (c : Int) := by omega
      have hj0 : (0 : Int) ≤ (j : Int) := by omega
      have hatI : (at' : Int) ≤ (bs.length : Int) := by omega
      have hat0 : (0 : Int) ≤ (at' : Int) := by omega
      have Hj := hid hj
      have Hr0 := hid hres
      have hsz := HI.out.bel.size
      have hRd := H.out wr HI.out.bel
      clear hres hj
      by_cases hcc : cap = at'
      · have hcc' := hcc.symm
        subst hcc'
        clear hcc
        have K87 := hid (readEntry_any wr _ _ hRd.slA (by rw [List.length_drop]; omega))
        have hnil : entD (bs.drop at') = none := by
          rw [List.drop_of_length_le hcap]; rfl
        have Hres : Hid (RES = none) := hid (by rw [Hr0.out]; simp only [goD, hnil])
        rw [hnil] at K87
        simp only [EnP, zE] at K87
        clear hRd hnil
        go_wp2_with (go_at_call 87; (refine (Hid.out K87).mono ?_; rintro e w2 ⟨hb2, rfl⟩; have HB2 := hid hb2; clear hb2))
        refine bodyPost_ret (v := .tuple #[.slice none 0 0, .int .i64 0, .bool false]) (by simp [results, Try.results59, go_sem]) rfl ?_
        rw [Hres.out]
        refine ⟨?_, rfl⟩
        have b2 := HI.out.bel.trans (HB2.out.mono HI.out.bel.size)
        exact b2.alloc b2.size _
      · have K87 := hid (readEntry_any wr _ _ (hRd.slB hat hcc) (by rw [List.length_drop]; omega))
        cases hv : entD (bs.drop at') with
        | none =>
          have Hres : Hid (RES = none) := hid (by rw [Hr0.out]; simp only [goD, hv])
          rw [hv] at K87
          simp only [EnP, zE] at K87
          clear hRd hv
          go_wp2_with (go_at_call 87; (refine (Hid.out K87).mono ?_; rintro e w2 ⟨hb2, rfl⟩; have HB2 := hid hb2; clear hb2))
          refine bodyPost_ret (v := .tuple #[.slice none 0 0, .int .i64 0, .bool false]) (by simp [results, Try.results59, go_sem]) rfl ?_
          rw [Hres.out]
          refine ⟨?_, rfl⟩
          have b2 := HI.out.bel.trans (HB2.out.mono HI.out.bel.size)
          exact b2.alloc b2.size _
        | some r =>
          obtain ⟨⟨x, y⟩, k2⟩ := r
          have Hres : Hid (RES = goD entD bs gi (at' + k2) (acc ++ [(x, y)])) := hid (by rw [Hr0.out]; simp only [goD, hv])
          rw [hv] at K87
          simp only [EnP] at K87
          have hk2 := entD_le (HBy.out.drop at') hv
          rw [List.length_drop] at hk2
          obtain ⟨i1, j1, v1, v2, hkk⟩ := entD_parts hv
          have GX := hid (GV.of (HBy.out.drop at') v1)
          have GY := hid (GV.of ((HBy.out.drop at').drop i1) v2)
          have hrl : (ps.map (enT 3)).length ≤ 1000000 := by rw [List.length_map, HI.out.len, Hacc.out]; omega
          clear hRd hv v1 v2 hkk
          go_wp2_with (first
            | (go_at_call 87; (refine (Hid.out K87).mono ?_; rintro e w2 ⟨hb2, hx, hy, rfl, rx, ry, nx, ny⟩; obtain ⟨hk1, hi1, ht1, hr1, ha1, hn1, hc1⟩ := hx; obtain ⟨hk2', hi2, ht2, hr2, ha2, hn2, hc2⟩ := hy; simp only [En.v, En.cs]; have HB2 := hid hb2; have RX := hid rx; have RY := hid ry; have NX := hid nx; have NY := hid ny; have hs2 := hb2.size; have hrw := hid (HI.out.row.below (Nat.le_refl _) (hb2.alloc hs2 (.cells #[.int .i64 hk1, .int .i64 hi1, .string ht1, .int .i64 hr1, .slice ha1 hn1 hc1, .int .i64 hk2', .int .i64 hi2, .string ht2, .int .i64 hr2, .slice ha2 hn2 hc2] 81))); clear hb2 rx ry nx ny))
            | (at_builtin; (refine wpList_appE _ rfl _ _ rfl _ ⟨⟨hk1, hi1, ht1, hr1, ha1, hn1, hc1⟩, ⟨hk2', hi2, ht2, hr2, ha2, hn2, hc2⟩⟩ (by rfl) (by first | rfl | (rw [World.size_alloc]; rfl)) w1.heap.size (ps.map (enT 3)) hrw.out (by simp; omega) hrl ?_; intro v4 w4 hr4 hg4; obtain ⟨va, vc, e4, _⟩ := hr4.form; obtain ⟨vn, hvn⟩ : ∃ vn, vn = (ps.map (enT 3) ++ [(⟨⟨hk1, hi1, ht1, hr1, ha1, hn1, hc1⟩, ⟨hk2', hi2, ht2, hr2, ha2, hn2, hc2⟩⟩ : En)]).length := ⟨_, rfl⟩; rw [← hvn] at e4; subst e4; have HM := hid (HI.out.more HB2.out GX.out GY.out RX.out RY.out NX.out NY.out hr4 hg4); clear hr4 hg4 hvn)))
          go_roundg gi
          case measure => omega
          case rel => exact ⟨j + 1, at' + k2, _, _, _, _, _, by have := Hj.out; omega, by rw [List.length_append, Hacc.out]; rfl, by go_num, by go_num, rfl, by omega, Hres.out, HM.out⟩
end Go.Proofs.Ytenfgahedbeekaa

namespace Go.Proofs.Ytenfgahedbeekaa
open Go.RowKit Go.Deep Go.Shelf
set_option linter.unusedVariables false
set_option linter.unusedSimpArgs false

theorem ee_get (es : List En) (j : Nat) (u : Value) (h : (ee es)[j]? = some u) : ∃ x, es[j / 10]? = some x ∧ x.cs[j % 10]? = some u := by
  have hl : j < (ee es).length := (List.getElem?_eq_some_iff.1 h).1
  rw [ee_length] at hl
  have hq : j / 10 < es.length := by omega
  refine ⟨es[j / 10], List.getElem?_eq_getElem hq, ?_⟩
  have := ee_at es (j / 10) es[j / 10] (List.getElem?_eq_getElem hq) (j % 10) (by omega)
  rw [← this, show j / 10 * 10 + j % 10 = j from by omega]
  exact h
theorem ERd.cells_at {w : World} {ad : Addr} {es : List En} (h : ERd w (some ad) es) (d : Nat) : ∀ j u, (ee (es.drop d))[j]? = some u → w.cell? ((ad.add (d * 10)).add j) = some u := by
  intro j u hu
  obtain ⟨x, hx, hc⟩ := ee_get _ j u hu
  rw [List.getElem?_drop] at hx
  obtain ⟨b, off, e, hh⟩ := h _ x hx
  cases e
  rw [Addr.add_lit, Addr.add_lit]
  rw [← hc, ← hh (j % 10) (by omega)]
  congr 2
  omega
theorem ERd.cells_0 {w : World} {ad : Addr} {es : List En} (h : ERd w (some ad) es) : ∀ j u, (ee es)[j]? = some u → w.cell? (ad.add j) = some u := by
  intro j u hu
  obtain ⟨x, hx, hc⟩ := ee_get _ j u hu
  obtain ⟨b, off, e, hh⟩ := h _ x hx
  cases e
  rw [Addr.add_lit]
  rw [← hc, ← hh (j % 10) (by omega)]
  congr 2
  omega
theorem ee_one (es : List En) : ∀ u ∈ ee es, u.oneCell' = true := by
  intro u hu
  simp only [ee, List.mem_flatMap] at hu
  obtain ⟨x, _, hx⟩ := hu
  exact ecs_one x u hx
theorem ee_append (a b : List En) : ee (a ++ b) = ee a ++ ee b := by simp [ee]
theorem ERd.take {w : World} {a : Option Addr} {es : List En} (h : ERd w a es) (n : Nat) : ERd w a (es.take n) := by
  intro j x hx
  rw [List.getElem?_take] at hx
  split at hx
  · exact h j x hx
  · cases hx
/- A head that has no room, and one more: a new row. -/
theorem run_appT (w : World) (ty : TypeId) (ta : Option Addr) (n : Nat) (es : List En) (hn : n = es.length) (hle : n ≤ 1000) (hrd : ERd w ta es) (h : En) (g : Nat) (hg : w.heap[g]? = some (.cells h.cs.toArray 81 (0, 0))) :
    ∃ v' w', (Builtin.append_ #[70, 70] ty #[.slice ta n n, .slice (some ⟨g, 0, none⟩) 1 1]).run Try.prog w = .ok v' w' ∧ ERow w' w.heap.size v' (es ++ [h]) ∧ w.grownBy w' none := by
  cases ta with
  | none =>
    have hes : es = [] := by
      cases es with
      | nil => rfl
      | cons x r => obtain ⟨b, off, e, _⟩ := hrd 0 x rfl; cases e
    subst hes
    subst hn
    obtain ⟨v', w', hrun, h1, h2⟩ := run_appE w ty w.heap.size (.slice none 0 0) [] h g (ERow.nil _ _) hg (Nat.le_refl _) (by simp)
    exact ⟨v', w', hrun, h1, h2.1⟩
  | some ad =>
    obtain ⟨i0, hi, hz0, hz1, hz2⟩ := info_parts info81
    obtain ⟨v', w', hrun, hown, hgr⟩ := run_append_arg_grows (P := Try.prog) w 70 ty 81 i0 zeroE 10 128 Try.underlying70 hi hz0 hz1 hz2 rfl (by decide) ad n n (ee es) (by rw [ee_length, hn]) hrd.cells_0 ⟨g, 0, none⟩ 1 1 h.cs rfl (by
      intro j u hu
      exact World.news_of_block hg j u (by simpa using hu)) (by omega) (by unfold maxLen; omega) (by omega)
    refine ⟨v', w', hrun, ?_, hgr⟩
    unfold ERow
    rw [ee_append, List.length_append, ← hn]
    simpa [ee] using hown
theorem run_app_none (w : World) (ty : TypeId) (B : Nat) (v : Value) (es : List En) (hr : ERow w B v es) (c : Nat) : (Builtin.append_ #[70, 70] ty #[v, .slice none 0 c]).run Try.prog w = .ok v w := by
  obtain ⟨i0, hi, hz0, hz1, hz2⟩ := info_parts info81
  rcases hr.2 with ⟨rfl, _⟩ | ⟨g, cap, cur, rfl, _, _, hnc, _⟩
  · simp [Builtin.append_, run_underlying Try.underlying70, sizeOf, typeInfo, hi, Builtin.lenOf, Builtin.firstCells]
  · simp [Builtin.append_, run_underlying Try.underlying70, sizeOf, typeInfo, hi, Builtin.lenOf, Builtin.firstCells, hnc, storeCells]
theorem run_appX (w : World) (ty : TypeId) (B : Nat) (v : Value) (es : List En) (hr : ERow w B v es) (hB : B ≤ w.heap.size) (ma : Option Addr) (mn mc d : Nat) (ps : List En) (hn : mn = ps.length) (hle : mn ≤ 1000) (hd : d ≤ mn) (hc : mn ≤ mc) (hrd : ERd w ma ps) (hl : es.length ≤ 1000000) :
    ∃ v' w', (Builtin.append_ #[70, 70] ty #[v, sliced ma d mn mc 10]).run Try.prog w = .ok v' w' ∧ ERow w' B v' (es ++ ps.drop d) ∧ Grw w v w' v' := by
  obtain ⟨i0, hi, hz0, hz1, hz2⟩ := info_parts info81
  have grw : Grw w v w v := ⟨⟨rfl, rfl, rfl, Nat.le_refl _, fun _ _ _ => rfl⟩, .inl rfl⟩
  unfold sliced
  cases ma with
  | none =>
    have hps : ps = [] := by
      cases ps with
      | nil => rfl
      | cons x r => obtain ⟨b, off, e, _⟩ := hrd 0 x rfl; cases e
    subst hps
    simp only [List.length_nil] at hn
    subst hn
    have hd0 : d = 0 := by omega
    subst hd0
    refine ⟨v, w, ?_, by simpa using hr, grw⟩
    have := run_app_none w ty B v es hr (mc - 0)
    simpa using this
  | some ad =>
    have fin : ∀ (a2 : Addr) (c2 : Nat), (∀ j u, (ee (ps.drop d))[j]? = some u → w.cell? (a2.add j) = some u) → ∃ v' w', (Builtin.append_ #[70, 70] ty #[v, .slice (some a2) (mn - d) c2]).run Try.prog w = .ok v' w' ∧ ERow w' B v' (es ++ ps.drop d) ∧ Grw w v w' v' := by
      intro a2 c2 hcell
      have hln : (ps.drop d).length = mn - d := by rw [List.length_drop, hn]
      obtain ⟨v', w', hrun, hown, hgr, _, hat⟩ := run_append_own_at (P := Try.prog) w B 70 ty 81 i0 zeroE 10 128 Try.underlying70 hi hz0 hz1 hz2 rfl (by decide) v es.length (ee es) hr a2 (mn - d) c2 (ee (ps.drop d)) (by rw [ee_length, hln]) hcell (ee_one _) (by unfold maxLen; omega) (by omega) hB
      refine ⟨v', w', hrun, ?_, hgr, ?_⟩
      · unfold ERow
        rw [ee_append, List.length_append, hln]
        exact hown
      · rcases hat with hat | hat
        · exact .inl hat
        · exact .inr ⟨_, hat, Nat.le_refl _⟩
    by_cases hmd : mc = d
    · rw [if_pos hmd]
      refine fin ad _ ?_
      have : ps.drop d = [] := List.drop_of_length_le (by omega)
      rw [this]
      intro j u hu
      simp [ee] at hu
    · rw [if_neg hmd]
      exact fin _ _ (hrd.cells_at d)
theorem step_appT {ops : Array Oper} {o : Oper} {a : Act} {w : World} {K : Act → World → Prop} {Q : Exit → Act → World → Prop} {E : Prop} (hgd : o.guard = none) (s x : Operand)
    (ho : o.op = .call { callee := .builtin .append, args := #[s, x], argTypes := #[70, 70] }) (sv : Value) (hs : a.eval s = sv) (g : Nat) (h : En) (hx : a.eval x = .slice (some ⟨g, 0, none⟩) 1 1)
    (ta : Option Addr) (n : Nat) (hsv : sv = .slice ta n n) (es : List En) (hn : n = es.length) (hle : n ≤ 1000) (hrd : ERd w ta es) (hg : w.heap[g]? = some (.cells h.cs.toArray 81 (0, 0)))
    (k : ∀ v' w', ERow w' w.heap.size v' (es ++ [h]) → w.grownBy w' none → K (a.put o.dst v') w') :
    if Region.wanted o (yielded ops a.tmps) = true then Oper.wp Try.prog o a w K Q else E := by
  have hw : Region.wanted o (yielded ops a.tmps) = true := by simp [Region.wanted, hgd]
  rw [if_pos hw]
  subst hsv
  obtain ⟨v', w', hr, h2, h3⟩ := run_appT w o.type ta n es hn hle hrd h g hg
  unfold Oper.wp execOp
  simp only [ho, resolve, invoke, builtin, Sem.run_bind, Sem.run_pure, Result.andThen_ok, List.map_toArray, List.map_cons, List.map_nil, hs, hx, hr]
  exact k v' w' h2 h3
theorem step_appX {ops : Array Oper} {o : Oper} {a : Act} {w : World} {K : Act → World → Prop} {Q : Exit → Act → World → Prop} {E : Prop} (hgd : o.guard = none) (s x : Operand)
    (ho : o.op = .call { callee := .builtin .append, args := #[s, x], argTypes := #[70, 70] }) (v : Value) (hs : a.eval s = v) (xv : Value) (hx : a.eval x = xv)
    (B : Nat) (es : List En) (hr : ERow w B v es) (hB : B ≤ w.heap.size) (ma : Option Addr) (mn mc d : Nat) (hxv : xv = sliced ma d mn mc 10) (ps : List En) (hn : mn = ps.length) (hle : mn ≤ 1000) (hd : d ≤ mn) (hc : mn ≤ mc) (hrd : ERd w ma ps) (hl : es.length ≤ 1000000)
    (k : ∀ v' w', ERow w' B v' (es ++ ps.drop d) → Grw w v w' v' → K (a.put o.dst v') w') :
    if Region.wanted o (yielded ops a.tmps) = true then Oper.wp Try.prog o a w K Q else E := by
  have hw : Region.wanted o (yielded ops a.tmps) = true := by simp [Region.wanted, hgd]
  rw [if_pos hw]
  subst hxv
  obtain ⟨v', w', hr, h2, h3⟩ := run_appX w o.type B v es hr hB ma mn mc d ps hn hle hd hc hrd hl
  unfold Oper.wp execOp
  simp only [ho, resolve, invoke, builtin, Sem.run_bind, Sem.run_pure, Result.andThen_ok, List.map_toArray, List.map_cons, List.map_nil, hs, hx, hr]
  exact k v' w' h2 h3
theorem placeR_le {α : Type} (c : α → Int) (l : List α) : (placeR c l).1 ≤ l.length := List.findIdx_le_length
theorem placeR_lt {α : Type} (c : α → Int) (l : List α) (h : (placeR c l).2 = true) : (placeR c l).1 < l.length := by
  unfold placeR at h ⊢
  simp only at h ⊢
  cases hf : l.find? (plQ c) with
  | none => rw [hf] at h; simp at h
  | some a => exact List.findIdx_lt_length_of_exists ⟨a, List.mem_of_find?_eq_some hf, List.find?_some hf⟩
end Go.Proofs.Ytenfgahedbeekaa

