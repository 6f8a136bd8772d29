/- Print: records. -/
import Derived.Test.YtnmbifoinponeaaGreatDoorO
namespace Go.Proofs.YtnmbifoinponeaaGreatDoor
open Go.RowKit Go.Deep Go.Shelf
set_option linter.unusedVariables false
set_option linter.unusedSimpArgs false
attribute [local go_sem] Oper.semAt_some

/- Fields with their numbers. -/
abbrev IX (k : Nat) (w : World) := { p : Nat × VT k // Rds k w p.2 ∧ Tx k p.2 }
def zs (k : Nat) (w : World) : (l : List (VT k)) → Nat → (∀ u ∈ l, Rds k w u ∧ Tx k u) → List (IX k w)
  | [], _, _ => []
  | u :: l, i, h => ⟨(i, u), h u (by simp)⟩ :: zs k w l (i + 1) (fun v hv => h v (by simp [hv]))
theorem zs_length (k : Nat) (w : World) : ∀ (l : List (VT k)) (i : Nat) (h : ∀ u ∈ l, Rds k w u ∧ Tx k u), (zs k w l i h).length = l.length
  | [], _, _ => rfl
  | u :: l, i, h => by simp [zs, zs_length k w l]
theorem zs_map (k : Nat) (w : World) : ∀ (l : List (VT k)) (i : Nat) (h : ∀ u ∈ l, Rds k w u ∧ Tx k u), (zs k w l i h).map (fun x => hdT k x.1.2) = l.map (hdT k)
  | [], _, _ => rfl
  | u :: l, i, h => by simp [zs, zs_map k w l]
theorem zs_idx (k : Nat) (w : World) : ∀ (l : List (VT k)) (i : Nat) (h : ∀ u ∈ l, Rds k w u ∧ Tx k u) (j : Nat) (x : IX k w), (zs k w l i h)[j]? = some x → x.1.1 = i + j
  | [], _, _, j, x, e => by simp [zs] at e
  | u :: l, i, h, 0, x, e => by simp [zs] at e; subst e; rfl
  | u :: l, i, h, j + 1, x, e => by
    simp only [zs, List.getElem?_cons_succ] at e
    rw [zs_idx k w l (i + 1) _ j x e]; omega
def pcI {k : Nat} {w : World} (x : IX k w) : List UInt8 := if x.1.1 = 0 then prT k x.1.2 else 44 :: 32 :: prT k x.1.2
theorem zs_join (k : Nat) (w : World) : ∀ (l : List (VT k)) (i : Nat) (h : ∀ u ∈ l, Rds k w u ∧ Tx k u), (zs k w l i h).flatMap pcI = ((l.map (prT k)).mapIdx fun j x => if i + j = 0 then x else 44 :: 32 :: x).flatten
  | [], _, _ => rfl
  | u :: l, i, h => by
    simp only [zs, List.flatMap_cons, List.map_cons, List.mapIdx_cons, List.flatten_cons]
    rw [zs_join k w l (i + 1)]
    congr 3
    funext j x
    rw [show i + 1 + j = i + (j + 1) from by omega]
theorem zs_joinC (k : Nat) (w : World) (l : List (VT k)) (h : ∀ u ∈ l, Rds k w u ∧ Tx k u) : (zs k w l 0 h).flatMap pcI = joinC (l.map (prT k)) := by
  rw [zs_join]; simp [joinC]
theorem pcI_len {k : Nat} {w : World} (x : IX k w) : (pcI x).length ≤ bnd k + 2 := by
  have := prT_len k w x.1.2 x.2.1 x.2.2
  unfold pcI; split
  · omega
  · simp; omega
theorem pcs_len {k : Nat} {w : World} : ∀ (l : List (IX k w)), (l.flatMap pcI).length ≤ l.length * (bnd k + 2)
  | [] => by simp
  | x :: l => by
    have h1 := pcI_len x
    have h2 := pcs_len l
    simp only [List.flatMap_cons, List.length_append, List.length_cons, Nat.add_mul, Nat.one_mul]
    omega

def PrintSaid (k : Nat) : Prop := ∀ (w0 : World) (t : VT k) (B b : Nat) (l : List UInt8) (w : World), Rds k w0 t → Tx k t → Env w0 → Below w0.heap.size w0 w → w0.heap.size ≤ B → B ≤ w.heap.size → PB B b l w → l.length + bnd k ≤ 140737488355328 →
  Calls Tryz.prog 35 #[.pointer (some ⟨b, 0, none⟩), (hdT k t).v] w (PTo B b l (prT k t) w)

/- Between two rounds. -/
structure RI {k : Nat} {w0 : World} (w : World) (B b : Nat) (l : List UInt8) (c2 : Array Value) (pre : List (IX k w0)) (W : World) : Prop where
  b1 : W.heap[w.heap.size]? = some (.cells #[.pointer (some ⟨b, 0, none⟩)] 65 (0, 0))
  b2 : W.heap[w.heap.size + 1]? = some (.cells c2 31 (0, 0))
  pb : PB B b (l ++ pre.flatMap pcI) W
  be : Below B w W
  ot : Lib.OthersKept 5 (some b) w W
  sz : w.heap.size + 2 ≤ W.heap.size
theorem ownsRowF.grown {w w' : World} {row : Option Nat} {B : Nat} {v : Value} {n : Nat} {xs : List Value} (h : w.ownsRowF B 5 1 v n xs) (hg : w.grownBy w' row) (hr : ∀ r, row = some r → ∃ o : Obj, w.heap[r]? = some o ∧ o.isCells = false) : w'.ownsRowF B 5 1 v n xs := by
  refine ⟨h.1, ?_⟩
  rcases h.2 with hn | ⟨g, cap, cur, fz, rfl, hb, hgg, rest⟩
  · exact .inl hn
  · refine .inr ⟨g, cap, cur, fz, rfl, hb, ?_, rest⟩
    rw [hg.block g (Array.getElem?_eq_some_iff.1 hgg).1 (fun e => by obtain ⟨o, ho, hc⟩ := hr g e.symm; rw [hgg] at ho; cases ho; cases hc)]
    exact hgg
theorem builderF.grown {w w' : World} {row : Option Nat} {B b : Nat} {p : Value} {bs : List Value} (h : Lib.BuilderAtF 68 5 B b p bs w) (hg : w.grownBy w' row) (hr : ∀ r, row = some r → ∃ o : Obj, w.heap[r]? = some o ∧ o.isCells = false) : Lib.BuilderAtF 68 5 B b p bs w' := by
  have hlt := h.lt
  obtain ⟨hB, v, hb, hown, hne⟩ := h
  exact ⟨hB, v, by
    rw [hg.block b hlt (fun e => by obtain ⟨o, ho, hc⟩ := hr b e.symm; rw [hb] at ho; cases ho; cases hc)]
    exact hb, ownsRowF.grown hown hg hr, hne⟩
theorem PB.grown {w w' : World} {row : Option Nat} {B b : Nat} {l : List UInt8} (h : PB B b l w) (hg : w.grownBy w' row) (hr : ∀ r, row = some r → ∃ o : Obj, w.heap[r]? = some o ∧ o.isCells = false) : PB B b l w' := by
  rcases h with h | h
  · exact .inl (builderF.grown h hg hr)
  · exact .inr (builderF.grown h hg hr)
/- Old blocks alone: what lay ahead of the call. -/
theorem kept_grown {w W W' : World} {row : Option Nat} {b B : Nat} (h : Lib.OthersKept 5 (some b) w W) (hg : W.grownBy W' row) (hr : ∀ r, row = some r → B ≤ r) (hB : w.heap.size ≤ B) (hs : w.heap.size ≤ W.heap.size) : Lib.OthersKept 5 (some b) w W' := fun k o hk hb ho => by
  have h1 := h k o hk hb ho
  have hlt := (Array.getElem?_eq_some_iff.1 hk).1
  rw [hg.block k (by omega) (fun e => by have := hr k e.symm; omega)]
  exact h1
theorem RI_own {k : Nat} {w0 : World} (w : World) (B b : Nat) (l : List UInt8) (c2 : Array Value) {C : Nat} (hB : B ≤ w.heap.size) (hC : w.heap.size ≤ C) : OwnFrom C (RI (k := k) (w0 := w0) w B b l c2) := fun s A A' row hs hg hr =>
  ⟨keep_cells hs.b1 hg hr, keep_cells hs.b2 hg hr, hs.pb.grown hg (fun r e => (hr r e).2), ownFrom_below (β := Unit) (w₀ := w) (n₀ := B) hB (Nat.le_trans hB hC) () A A' row hs.be hg hr, kept_grown hs.ot hg (fun r e => (hr r e).1) hC (by have := hs.sz; omega), Nat.le_trans hs.sz hg.size⟩

theorem keepsFrom_others {C b : Nat} {W W' : World} (hs : W.heap.size ≤ W'.heap.size) (h : Lib.OthersKept 5 (some b) W W') (hb : ∃ c, W.heap[b]? = some (.cells c 68 (0, 0))) : KeepsFrom C W W' := ⟨hs, fun j o _ hj ho => h j o hj (fun e => by
  cases e
  obtain ⟨c, hb⟩ := hb
  rw [hb] at hj; cases hj; cases ho) (fun c f e => by subst e; cases ho)⟩
theorem RI.step {k : Nat} {w0 : World} {w W W' : World} {B b : Nat} {l : List UInt8} {c2 : Array Value} {pre : List (IX k w0)} {x : IX k w0} (h : RI w B b l c2 pre W) (hbl : b < w.heap.size) (hp : PB B b (l ++ pre.flatMap pcI ++ pcI x) W') (hb : Below B W W') (hk : Lib.OthersKept 5 (some b) W W') : RI w B b l c2 (pre ++ [x]) W' :=
  ⟨kept_cells hk h.b1 (by omega) (by decide), kept_cells hk h.b2 (by omega) (by decide), by simpa [List.append_assoc] using hp, h.be.trans hb, h.ot.trans hk, by have := h.sz; have := hb.size; omega⟩
theorem RI.long {k : Nat} {w0 : World} {w W : World} {B b : Nat} {l : List UInt8} {c2 : Array Value} {pre : List (IX k w0)} (hl : l.length + 1000 * (bnd k + 2) ≤ 140737488355328) (hp : pre.length < 1000) : (l ++ pre.flatMap pcI).length + (bnd k + 2) ≤ 140737488355328 := by
  have h1 := pcs_len pre
  have h2 : (pre.length + 1) * (bnd k + 2) ≤ 1000 * (bnd k + 2) := Nat.mul_le_mul_right _ (by omega)
  rw [Nat.add_mul, Nat.one_mul] at h2
  rw [List.length_append]
  omega

set_option maxRecDepth 100000 in
set_option maxHeartbeats 2000000 in
theorem print_rec (k : Nat) (ih : PrintSaid k) (w0 : World) (h : Hd) (us : List (VT k)) (B b : Nat) (l : List UInt8) (w : World) (hR : Rds (k + 1) w0 (h, us)) (hX : Tx (k + 1) (h, us)) (E : Env w0) (hb0 : Below w0.heap.size w0 w) (hB0 : w0.heap.size ≤ B) (hBw : B ≤ w.heap.size) (hp : PB B b l w) (hl : l.length + bnd (k + 1) ≤ 140737488355328) (hk : h.kind = 4) :
    Calls Tryz.prog 35 #[.pointer (some ⟨b, 0, none⟩), h.v] w (PTo B b l (([35] ++ Lib.itoa h.rc ++ [123]) ++ joinC (us.map (prT k)) ++ [125]) w) := by
  obtain ⟨hin, hn, hle, hrd, hu⟩ := hR
  obtain ⟨htx, hxu⟩ := hX
  simp only at hin hn hle hrd hu htx hxu
  have r0 := hin.r0
  have r1 := hin.r1
  have hbl := hp.lt
  have hit := Lib.itoa_length_le h.rc r0 r1
  have hZ : ∀ u ∈ us, Rds k w0 u ∧ Tx k u := fun u h => ⟨hu u h, hxu u h⟩
  obtain ⟨kind, int, text, rc, a, n, cap⟩ := h
  simp only at hk r0 r1 hn hle hrd htx hit ⊢
  subst hk
  simp only [Hd.v]
  obtain ⟨M, hM⟩ : ∃ M, M = ([35] ++ Lib.itoa rc ++ [123]) ++ joinC (us.map (prT k)) ++ [125] := ⟨_, rfl⟩
  rw [← hM]
  have HM := hid hM
  have Hn := hid hn
  have E' := E.below hb0
  have HEE := hid E
  obtain ⟨W0, hW0⟩ : ∃ W0, W0 = (w.alloc (.cells #[.pointer (some ⟨b, 0, none⟩)] 65)).alloc (.cells #[.int .i64 4, .int .i64 int, .string text, .int .i64 rc, .slice a n cap] 31) := ⟨_, rfl⟩
  have b1 : W0.heap[w.heap.size]? = some (.cells #[.pointer (some ⟨b, 0, none⟩)] 65 (0, 0)) := by rw [hW0]; exact boxA _ _ _ _ _
  have b2 : W0.heap[w.heap.size + 1]? = some (.cells #[.int .i64 4, .int .i64 int, .string text, .int .i64 rc, .slice a n cap] 31 (0, 0)) := by rw [hW0]; exact boxB _ _ _ _ _
  have hb1 : Below w.heap.size w W0 := by rw [hW0]; exact ((Below.refl _ _).alloc (Nat.le_refl _) _).alloc (by simp) _
  have hz0 : W0.heap.size = w.heap.size + 2 := by rw [hW0]; simp
  have c0 : W0.cell? ⟨w.heap.size, 0, none⟩ = some (.pointer (some ⟨b, 0, none⟩)) := cellOf b1 0
  have c3 : W0.cell? ⟨w.heap.size + 1, 3, none⟩ = some (.int .i64 rc) := cellOf b2 3
  have HE0 := hid (E'.below hb1)
  have HP0 := hid (PB.below hp hb1)
  have H1 := hid b1
  have H2 := hid b2
  have HB0 := hid hb1
  have Hb0 := hid hb0
  have HL : Hid ((⟨#[35]⟩ : ByteArray).size + (Lib.itoa rc).length + (⟨#[123]⟩ : ByteArray).size ≤ 140737488355328) := hid (by have e1 : (⟨#[35]⟩ : ByteArray).size = 1 := rfl; have e2 : (⟨#[123]⟩ : ByteArray).size = 1 := rfl; omega)
  have Hit := hid hit
  have Hl := hid hl
  have hro : Fence.wide.round = none := rfl
  clear E E' hp hb1 b1 b2 hit hl hb0 hM hn
  refine (callsIn_wide (n := 6)).1 ?_
  refine callsIn_of_wp_marks Tryz.func35 rfl trivial ?_ hro
  simp only [Tryz.ntmps35, List.size_toArray, List.length_cons, List.length_nil, Nat.reduceAdd, Nat.reduceSub, Array.replicate_succ, Array.replicate_zero, List.push_toArray, List.append_toArray, List.nil_append, List.cons_append]
  gi_wp2
  refine wpIn_wide.2 ?_
  rw [← hW0]
  clear hW0
  go_region_held3 (fun w2 => w2.cell? ⟨w.heap.size, 0, none⟩ = some (.pointer (some ⟨b, 0, none⟩)) ∧ w2.cell? ⟨w.heap.size + 1, 3, none⟩ = some (.int .i64 rc)) (first | exact g6 | exact g5 | go_keep) ((first
    | (go_at_call 59; (refine (it_any rc r0 r1 _ HE0.out.drew).mono ?_; rintro e w5 ⟨rfl, hb5⟩; obtain ⟨q1, q2, s1, s2, hq2, hz2⟩ := around ⟨#[35]⟩ (itoB rc) ⟨#[123]⟩ (Lib.itoa rc) rfl HL.out; have HQ := hid hq2; have HQS := hid hz2; clear hq2 hz2; have f1 := (hb5.block _ (Array.getElem?_eq_some_iff.1 H1.out).1).trans H1.out; have f2 := (hb5.block _ (Array.getElem?_eq_some_iff.1 H2.out).1).trans H2.out; have g5 : w5.cell? ⟨w.heap.size, 0, none⟩ = some (.pointer (some ⟨b, 0, none⟩)) ∧ w5.cell? ⟨w.heap.size + 1, 3, none⟩ = some (.int .i64 rc) := ⟨cellOf f1 0, cellOf f2 3⟩))
    | (go_at_call 55; (refine (ws_any B b l q2 _ (PB.below (PB.drew HP0.out) hb5) (by have h1 := HQS.out; have h2 := Hit.out; have h3 := Hl.out; have e1 : (⟨#[35]⟩ : ByteArray).size = 1 := rfl; have e2 : (⟨#[123]⟩ : ByteArray).size = 1 := rfl; simp only [bnd] at h3; omega) (Nat.le_trans (Nat.le_trans hBw HB0.out.size) hb5.size)).mono ?_; rintro e w6 ⟨rfl, hp6, hb6, hk6⟩; have g6 : w6.cell? ⟨w.heap.size, 0, none⟩ = some (.pointer (some ⟨b, 0, none⟩)) ∧ w6.cell? ⟨w.heap.size + 1, 3, none⟩ = some (.int .i64 rc) := ⟨cellOf (kept_cells hk6 f1 (by omega) (by decide)) 0, cellOf (kept_cells hk6 f2 (by omega) (by decide)) 3⟩))))
  have k1 := kept_cells hk6 f1 (by omega) (by decide)
  have k2 := kept_cells hk6 f2 (by omega) (by decide)
  have q4 : w6.cell? ⟨w.heap.size + 1, 4, none⟩ = some (.slice a n cap) := cellOf k2 4
  gi_wp2_with (refine ⟨trivial, ?_⟩; gi_at_call 60; refine (all_in _ _ trivial hro _ _ _ _).mono ?_; rintro e w7 ⟨rfl, rfl⟩)
  obtain ⟨Z, hZZ⟩ : ∃ Z, Z = zs k w0 us 0 hZ := ⟨_, rfl⟩
  have hzl : Z.length = n := by rw [hZZ, zs_length, Hn.out]
  have hzm : Z.map (fun x => hdT k x.1.2) = us.map (hdT k) := by rw [hZZ]; exact zs_map _ _ _ _ _
  have hzi : ∀ (j : Nat) (x : IX k w0), Z[j]? = some x → x.1.1 = j := fun j x e => by rw [hZZ] at e; rw [zs_idx _ _ _ _ _ j x e]; omega
  have hzj : Z.flatMap pcI = joinC (us.map (prT k)) := by rw [hZZ]; exact zs_joinC _ _ _ _
  have hb56 : Below B w w6 := ((HB0.out.mono hBw).trans (((Below.refl _ W0).drew.trans hb5).mono (Nat.le_trans hBw HB0.out.size))).trans hb6
  have hot6 : Lib.OthersKept 5 (some b) w w6 := ((kept_below HB0.out).trans (kept_below ((Below.refl _ W0).drew.trans hb5))).trans hk6
  have hs6 : w.heap.size + 2 ≤ w6.heap.size := by have h1 := hb6.size; have h2 : W0.heap.size ≤ w5.heap.size := hb5.size; omega
  obtain ⟨W7, hW7⟩ : ∃ W7, W7 = w6.alloc (.cells #[.slice a n cap] 29) := ⟨_, rfl⟩
  rw [← hW7]
  have hz7 : W7.heap.size = w6.heap.size + 1 := by rw [hW7]; simp
  have hb67 : Below w6.heap.size w6 W7 := by rw [hW7]; exact (Below.refl _ _).alloc (Nat.le_refl _) _
  have e7 : W7.cell? ⟨w6.heap.size, 0, none⟩ = some (.slice a n cap) := by rw [hW7]; exact cellOf (heap_alloc_new w6 _) 0
  have hb07 : Below w0.heap.size w0 W7 := (Hb0.out.trans (hb56.mono hB0)).trans (hb67.mono (by have := hb56.size; have := Hb0.out.size; omega))
  have hvr : VRd W7 a (Z.map fun x => hdT k x.1.2) := by rw [hzm]; exact hrd.below (Nat.le_refl _) hb07
  have hlt1 : Z ≠ [] → ∀ b off, a = some ⟨b, off, none⟩ → b < w0.heap.size := fun hne b off e => by
    obtain ⟨x, hx⟩ : ∃ x, Z[0]? = some x := by
      cases hc : Z with
      | nil => exact absurd hc hne
      | cons y r => exact ⟨y, rfl⟩
    obtain ⟨b', off', e', hc⟩ := hrd 0 (hdT k x.1.2) (by rw [← hzm]; simp [hx])
    rw [e] at e'; cases e'
    exact World.block_lt_of_cell? w0 _ ((hc 0 (by omega)).trans rfl)
  have hseq := all_stops (fun x : IX k w0 => x.1.1) (fun x : IX k w0 => hdT k x.1.2) Z 5 (by omega) w6.heap.size w0.heap.size a n cap hzl hzi hle W7 hb07.size e7 hvr hlt1
  have hz1000 : Z.length ≤ 1000 := by omega
  have HLL : Hid ((l ++ q2.data.toList).length + 1000 * (bnd k + 2) ≤ 140737488355328) := hid (by
    have h1 := HQS.out; have h2 := Hit.out; have h3 := Hl.out
    have e1 : (⟨#[35]⟩ : ByteArray).size = 1 := rfl
    have e2 : (⟨#[123]⟩ : ByteArray).size = 1 := rfl
    have e3 : q2.data.toList.length = q2.size := Array.length_toList
    simp only [bnd] at h3
    rw [List.length_append]; omega)
  have HLL2 : Hid ((l ++ q2.data.toList).length + 1000 * (bnd k + 2) + 1 ≤ 140737488355328) := hid (by
    have h1 := HQS.out; have h2 := Hit.out; have h3 := Hl.out
    have e1 : (⟨#[35]⟩ : ByteArray).size = 1 := rfl
    have e2 : (⟨#[123]⟩ : ByteArray).size = 1 := rfl
    have e3 : q2.data.toList.length = q2.size := Array.length_toList
    simp only [bnd] at h3
    rw [List.length_append]; omega)
  have hM2 : M = q2.data.toList ++ Z.flatMap pcI ++ [125] := by rw [HM.out, HQ.out, hzj]
  have HM2 := hid hM2
  have h70 : RI w B b (l ++ q2.data.toList) #[.int .i64 4, .int .i64 int, .string text, .int .i64 rc, .slice a n cap] ([] : List (IX k w0)) W7 :=
    ⟨(hb67.block _ (by omega)).trans k1, (hb67.block _ (by omega)).trans k2, by simpa using PB.below hp6 hb67, hb56.trans (hb67.mono (by have := hb56.size; omega)), hot6.trans (kept_below hb67), by omega⟩
  have hC : w.heap.size ≤ W7.heap.size := by omega
  clear hW7 hvr hlt1 e7 q4 hrd hZZ hzi hzm hM2 HQ HQS Hit Hl HM HL g5 g6 f1 f2 k1 k2 H1 H2 HE0 HP0 c0 c3 hb5 hb6 hk6 hp6 s1 s2 hb56 hot6 hb67
  refine wpIn_rangeFunc_ownH hro (by omega) (gf := 71) (lb := #[.pointer (some ⟨w6.heap.size, 0, none⟩)]) rfl trivial (enters_of Tryz.func71 (by kernel_rfl) rfl) hseq belowK_t (belowK_b hb07.size) (Below.refl _ _) (fun _ => rfl)
    (RI w B b (l ++ q2.data.toList) #[.int .i64 4, .int .i64 int, .string text, .int .i64 rc, .slice a n cap]) (fun _ _ _ => False) (RI_own w B b _ _ hBw hC) (fun c s A A' row hs hg hr => hs)
    h70
    (fun x a' W => ∃ X, W.heap[X]? = some (.cells #[.int .i64 (hdT k x.1.2).kind, .int .i64 (hdT k x.1.2).int, .string (hdT k x.1.2).text, .int .i64 (hdT k x.1.2).rc, .slice (hdT k x.1.2).a (hdT k x.1.2).n (hdT k x.1.2).cap] 31 (0, 0)) ∧ a' = { tmps := #[.pointer (some ⟨b, 0, none⟩), .agg #[.int .i64 4, .int .i64 int, .string text, .int .i64 rc, .slice a n cap], .pointer (some ⟨w.heap.size, 0, none⟩), .pointer (some ⟨w.heap.size + 1, 0, none⟩), .int .i64 (x.1.1 : Int), .pointer (some ⟨X, 0, none⟩), .pointer (some ⟨w.heap.size + 1, 0, none⟩), .int .i64 4, undef, undef, .bool false, .bool false, undef, undef, undef, undef, undef, .bool false, .bool false, undef, undef, undef, undef, undef, undef, undef, .bool false, .bool false, undef, undef, undef, undef, undef, undef, .bool true, .bool true, .pointer (some ⟨b, 0, none⟩), .pointer (some ⟨w.heap.size + 1, 3, none⟩), .int .i64 rc, .string (itoB rc), .string q1, .string q2, .tuple #[.int .i64 (q2.size : Int), .nilIface], .pointer (some ⟨w.heap.size + 1, 4, none⟩), .slice a n cap, .func (.func 71) #[] #[.pointer (some ⟨w6.heap.size, 0, none⟩)], .int .i64 (x.1.1 : Int), .agg #[.int .i64 (hdT k x.1.2).kind, .int .i64 (hdT k x.1.2).int, .string (hdT k x.1.2).text, .int .i64 (hdT k x.1.2).rc, .slice (hdT k x.1.2).a (hdT k x.1.2).n (hdT k x.1.2).cap], undef, undef, undef, undef, undef, undef, undef, undef, undef], defers := [] })
    (fun x a' u A B row hs hg hr => by
      obtain ⟨X, h2, h4⟩ := hs
      exact ⟨X, keep_cells h2 hg hr, h4⟩)
    ?assign ?body ?done ?stop
  case assign =>
    rintro ll pre x W K hi hK
    simp only [encI, Hd.v]
    gi_wp2
    exact hK _ _ ((KeepsOthers.alloc _ _).from _) ((Below.refl _ W).alloc (by have h1 := hi.be.size; have h2 := Hb0.out.size; omega) _) ((RI_own w B b _ _ hBw hC).alloc _ hi) ⟨W.heap.size, heap_alloc_new W _, rfl⟩
  case body =>
    rintro ll pre x a' W hll ⟨r, hr⟩ hi ⟨X, hx, rfl⟩ hlt
    have HI := hid hi
    have hXb : X ≠ b := by
      rintro rfl
      obtain ⟨c, hc⟩ := hi.pb.kind
      rw [hx] at hc; cases hc
    have hW0' : Below w0.heap.size w0 W := Hb0.out.trans (hi.be.mono hB0)
    have hBW : B ≤ W.heap.size := Nat.le_trans hBw hi.be.size
    have hlong := RI.long (k := k) (w0 := w0) (w := w) (W := W) (B := B) (b := b) (c2 := #[]) (pre := pre) HLL.out (by omega)
    have x2 := x.2
    have g0 : W.cell? ⟨w.heap.size, 0, none⟩ = some (.pointer (some ⟨b, 0, none⟩)) := cellOf hi.b1 0
    have x0 := cellOf hx 0
    have x1 := cellOf hx 1
    have x2' := cellOf hx 2
    have x3 := cellOf hx 3
    have x4 := cellOf hx 4
    simp only [List.getElem?_toArray, List.getElem?_cons_zero, List.getElem?_cons_succ] at x0 x1 x2' x3 x4
    have HX := hid hx
    have Hlong := hid hlong
    have Hhr := hid hr
    clear hx hr hseq hlong hi
    by_cases hz : x.1.1 = 0
    · have hc := hid (ih w0 x.1.2 B b _ W x2.1 x2.2 HEE.out hW0' hB0 hBW HI.out.pb (by have := Hlong.out; omega))
      have Hpc : Hid (pcI x = prT k x.1.2) := hid (by unfold pcI; rw [if_pos hz])
      rw [hz]
      simp only [Hd.v] at hc
      generalize hdT k x.1.2 = u at *
      gi_wp2_with (refine ⟨trivial, ?_⟩; gi_at_call 35; refine (CallsIn.inRound ll (callsIn_wide.2 (Hid.out hc))).mono ?_; rintro e w8 ⟨rfl, hp8, hb8, hk8⟩)
      exact ⟨keepsFrom_others hb8.size hk8 HI.out.pb.kind, hb8.mono hB0, HI.out.step hbl (by rw [Hpc.out]; exact hp8) hb8 hk8⟩
    · have hgt : (0 : Int) < (x.1.1 : Int) := by omega
      have Hpc : Hid (pcI x = 44 :: 32 :: prT k x.1.2) := hid (by unfold pcI; rw [if_neg hz])
      have hcc : Hid (∀ w8 : World, PB B b (l ++ q2.data.toList ++ pre.flatMap pcI ++ [44, 32]) w8 → Below B W w8 → Calls Tryz.prog 35 #[.pointer (some ⟨b, 0, none⟩), (hdT k x.1.2).v] w8 (PTo B b (l ++ q2.data.toList ++ pre.flatMap pcI ++ [44, 32]) (prT k x.1.2) w8)) := hid (fun w8 h1 h2 => ih w0 x.1.2 B b _ w8 x2.1 x2.2 HEE.out (hW0'.trans (h2.mono hB0)) hB0 (Nat.le_trans hBW h2.size) h1 (by have := Hlong.out; rw [List.length_append]; simp only [List.length_cons, List.length_nil]; omega))
      simp only [Hd.v] at hcc
      generalize hdT k x.1.2 = u at *
      clear hz
      generalize x.1.1 = ix at hgt ⊢
      clear ih x2 hzj hzl HM2 h70 HLL HLL2 hin hu hxu hZ hle htx hs6 hz0 HB0 hlt hz1000 Hhr
      dsimp only
      gi_wp2_with (first
        | (refine ⟨trivial, ?_⟩; gi_at_call 35; have hno := hp8; refine (CallsIn.inRound ll (callsIn_wide.2 (Hid.out hcc _ hp8 hb8))).mono ?_; rintro e w9 ⟨rfl, hp9, hb9, hk9⟩)
        | (refine ⟨trivial, ?_⟩; gi_at_call 55; refine (CallsIn.inRound ll (callsIn_wide.2 (ws_any B b _ ⟨#[44, 32]⟩ _ HI.out.pb (by have := Hlong.out; have e1 : (⟨#[44, 32]⟩ : ByteArray).size = 2 := rfl; omega) hBW))).mono ?_; rintro e w8 ⟨rfl, hp8, hb8, hk8⟩; have f1 := kept_cells hk8 HI.out.b1 (by omega) (by decide); have f2 := kept_cells hk8 HX.out hXb (by decide); have y0 := cellOf f1 0; have z0 := cellOf f2 0; have z1 := cellOf f2 1; have z2 := cellOf f2 2; have z3 := cellOf f2 3; have z4 := cellOf f2 4; simp only [List.getElem?_toArray, List.getElem?_cons_zero, List.getElem?_cons_succ] at y0 z0 z1 z2 z3 z4; clear f1 f2))
      exact ⟨keepsFrom_others (Nat.le_trans hb8.size hb9.size) (hk8.trans hk9) HI.out.pb.kind, (hb8.trans hb9).mono hB0, HI.out.step hbl (by rw [Hpc.out]; simpa [List.append_assoc] using hp9) (hb8.trans hb9) (hk8.trans hk9)⟩
  case done =>
    rintro D ys W hD rfl hI hK
    have HI := hid hI
    have HK := hid hK
    have g0 : W.cell? ⟨w.heap.size, 0, none⟩ = some (.pointer (some ⟨b, 0, none⟩)) := cellOf hI.b1 0
    clear hseq hI hK
    gi_wp2_with (refine ⟨trivial, ?_⟩; gi_at_call 55; refine (callsIn_wide.2 (ws_any B b _ ⟨#[125]⟩ _ HI.out.pb (by have h1 := HLL2.out; have h2 := pcs_len ys; have h3 : ys.length * (bnd k + 2) ≤ 1000 * (bnd k + 2) := Nat.mul_le_mul_right _ hz1000; have e1 : (⟨#[125]⟩ : ByteArray).size = 1 := rfl; rw [List.length_append]; omega) (Nat.le_trans hBw HI.out.be.size))).mono ?_; rintro e w8 ⟨rfl, hp8, hb8, hk8⟩)
    have hDb : D ≠ b := by have := HI.out.sz; omega
    have hK' : w8.heap[D]? = some (.deferred (some [])) := hk8 D _ HK.out (fun e => hDb (Option.some.inj e)) (fun c f e => by cases e)
    have hg := grownBy_putObj' w8 D (.deferred none)
    have h9 : PB B b (l ++ M) (w8.putObj D (.deferred none)) := by
      have hp9 := PB.grown hp8 hg (fun r e => by cases e; exact ⟨_, hK', rfl⟩)
      rw [HM2.out]; simpa [List.append_assoc] using hp9
    have h10 : Below B w (w8.putObj D (.deferred none)) := ownFrom_below (β := Unit) (w₀ := w) (n₀ := B) hBw (Nat.le_refl _) () _ _ _ (HI.out.be.trans hb8) hg (fun r e => by cases e; exact ⟨by omega, _, hK', rfl⟩)
    have h11 : Lib.OthersKept 5 (some b) w (w8.putObj D (.deferred none)) := kept_grown (B := w.heap.size) (HI.out.ot.trans hk8) hg (fun r e => by cases e; omega) (Nat.le_refl _) (by have h1 := HI.out.be.size; have h2 := hb8.size; omega)
    refine ⟨by simp, .inl ⟨_, _, rfl, run_takeDeferred hK', ?_⟩⟩
    exact ⟨_, by simp [results, Tryz.results35, go_sem], rfl, h9, h10, h11⟩
  case stop =>
    rintro D c pre W hD _ hf
    exact hf.elim
theorem print_said : ∀ k, PrintSaid k
  | 0 => fun w0 t B b l w hR _ _ _ _ _ _ _ => hR.elim
  | k + 1 => fun w0 t B b l w hR hX E hb0 hB0 hBw hp hl => by
    have hlen := prT_len (k + 1) w0 t hR hX
    obtain ⟨h, us⟩ := t
    have hin : h.In := hR.1
    have htx : h.text.size ≤ 1000000 := hX.1
    have E' := E.below hb0
    simp only [hdT, prT, prH] at hlen ⊢
    by_cases k1 : h.kind = 1
    · rw [if_pos k1] at hlen ⊢
      exact printInt B b l w h hin k1 E' hp hBw (by omega)
    · rw [if_neg k1] at hlen ⊢
      by_cases k2 : h.kind = 2
      · rw [if_pos k2] at hlen ⊢
        exact printText B b l w h hin k2 E' hp hBw htx (by omega)
      · rw [if_neg k2] at hlen ⊢
        by_cases k3 : h.kind = 3
        · rw [if_pos k3] at hlen ⊢
          exact printBool B b l w h hin k3 E' hp hBw (by omega)
        · rw [if_neg k3] at hlen ⊢
          by_cases k4 : h.kind = 4
          · rw [if_pos k4] at hlen ⊢
            exact print_rec k (print_said k) w0 h us B b l w hR hX E hb0 hB0 hBw hp hl k4
          · rw [if_neg k4] at hlen ⊢
            exact printNone B b l w h hin ⟨k1, k2, k3, k4⟩ E' hp hBw (by omega)

set_option maxHeartbeats 400000 in
theorem print_any (k : Nat) (w : World) (t : VT k) (hR : Rds k w t) (hX : Tx k t) (E : Env w) (hk : bnd k ≤ 140737488355328) :
    Calls Tryz.prog 13 #[(hdT k t).v] w fun e w' => e = .returned (.string ⟨(prT k t).toArray⟩) ∧ Below w.heap.size w w' := by
  have K := hid (fun (w1 : World) (b : Nat) hb hB hp => print_said k w t w.heap.size b [] w1 hR hX E hb (Nat.le_refl _) hB hp (by simpa using hk))
  generalize prT k t = M at *
  generalize hdT k t = h at *
  obtain ⟨kind, int, text, rc, a, n, cap⟩ := h
  simp only [Hd.v] at K ⊢
  obtain ⟨W1, hW1⟩ : ∃ W1, W1 = (w.alloc (.cells #[.int .i64 kind, .int .i64 int, .string text, .int .i64 rc, .slice a n cap] 31)).alloc (.cells #[.pointer none, .slice none 0 0] 68) := ⟨_, rfl⟩
  have hb1 : Below w.heap.size w W1 := by rw [hW1]; exact ((Below.refl _ _).alloc (Nat.le_refl _) _).alloc (by simp) _
  have b2 : W1.heap[w.heap.size + 1]? = some (.cells #[.pointer none, .slice none 0 0] 68 (0, 0)) := by rw [hW1]; exact boxB _ _ _ _ _
  have hp1 : PB w.heap.size (w.heap.size + 1) [] W1 := .inl ⟨by omega, _, b2, ⟨by simp [Lib.byteCells], .inl ⟨rfl, rfl⟩⟩, by simp [Value.ownBlock]⟩
  have C := hid (K.out W1 (w.heap.size + 1) hb1 hb1.size hp1)
  have HB := hid hb1
  clear hR hX E K b2 hp1 hb1
  go_enter Tryz.func13, Tryz.ntmps13
  go_wp2_with (first
    | (go_at_call 36; (have hno := hp6; refine (Tryz.Builder_String_any_k w.heap.size (w.heap.size + 1) M _ hp6 (Nat.le_trans HB.out.size hb6.size)).mono ?_; rintro e w7 ⟨rfl, hp7, hb7, hk7⟩))
    | (go_at_call 35; (rw [← hW1]; refine (Hid.out C).mono ?_; rintro e w6 ⟨rfl, hp6, hb6, hk6⟩; simp only [List.nil_append] at hp6)))
  go_ret
  exact ⟨rfl, (HB.out.trans hb6).trans hb7⟩
end Go.Proofs.YtnmbifoinponeaaGreatDoor
