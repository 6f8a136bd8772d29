/- tree.Print, tree.Depth of trees that may be. -/
import Derived.Test.YtdfambocenohgaaGreatDoorJAO
namespace Go.Proofs.YtdfambocenohgaaGreatDoor
open Go.RowKit Go.Deep
set_option linter.unusedVariables false
set_option linter.unusedSimpArgs false
attribute [local go_sem] Oper.semAt_some
set_option maxRecDepth 100000 in
set_option maxHeartbeats 1000000 in
theorem print_any (k : Nat) (w : World) (t : TT k) (d : TVs k w t) (hok : okTr k t) (hall : okT t = true) (hE : EnvT w) (hl : (prT k t).length ≤ 900000000) (hne : prT k t ≠ []) (ho : dpT k t ≤ 900000000) :
    Calls Tryz.prog 9 #[.agg t.h.cs] w fun e w' => e = .returned (.tuple #[.string ⟨(prT k t).toArray⟩, .int .i64 0]) ∧ Below w.heap.size w w' := by
  obtain ⟨W, hW⟩ : ∃ W, W = w.alloc (.cells t.h.cs 24) := ⟨_, rfl⟩
  have hbw : Below w.heap.size w W := by rw [hW]; exact (Below.refl _ w).alloc (Nat.le_refl _) _
  have hb : W.heap[w.heap.size]? = some (.cells t.h.cs 24 (0, 0)) := by rw [hW]; exact heap_alloc_new _ _
  have dW := d.below (Nat.le_refl _) hbw
  have dB := dW.box hb
  have K1 := hid (printed_of W (.inl (.inl (t.atB w.heap.size).h)) (ptT (t.atB w.heap.size)) (fun w1 h1 => whole_tree (dB.below (Nat.le_refl _) h1)) (ptT_ok dW _) ((okT_at t _).trans hall) (hE.below hbw) (prT k t) (dpT k t) (fun w1 h1 hs hp => (wholeTree_any k W (t.atB w.heap.size) dB ⟨hok.rs, hok.ms, hok.fs, hok.es⟩ W.heap.size W.heap.size [] 0 0 w1 (hE.below hbw) (Nat.le_refl _) h1 hs hp (by show 0 + (prT k t).length ≤ _; omega) (by show 0 + dpT k t ≤ _; omega) (by omega) (by omega)).mono (fun e w' h' => ⟨h'.1, h'.2.1.eq rfl (show max 0 (0 + dpT k t) = dpT k t by omega), h'.2.2⟩)))
  have HW := hid hbw
  simp only [TT.atB, labP] at K1
  simp only [TH.cs] at hW ⊢
  have K2 := hid (fun (w1 : World) (hp : Prn w1 W.heap.size W.heap.size (prT k t) 0 (dpT k t)) => string_any w1 _ _ _ _ _ hp hne)
  clear d hok hall hE hl hne ho hbw hb dW dB
  go_enter Tryz.func9, Tryz.ntmps9
  go_wp2_with (first
    | (go_at_call 25; (rw [← hW]; refine (Hid.out K1).mono ?_; rintro e w1 ⟨rfl, hp1, hb1⟩; have K2' := hid (K2.out w1 hp1); have HB := hid hb1; clear hp1 hb1 hW))
    | (go_at_call 26; (refine (Hid.out K2').mono ?_; rintro e w2 ⟨rfl, hb2⟩)))
  go_ret2
  exact ⟨rfl, HW.out.trans ((HB.out.trans hb2).mono HW.out.size)⟩
set_option maxRecDepth 100000 in
set_option maxHeartbeats 1000000 in
theorem depth_any (k : Nat) (w : World) (t : TT k) (d : TVs k w t) (hok : okTr k t) (hall : okT t = true) (hE : EnvT w) (hl : (prT k t).length ≤ 900000000) (ho : dpT k t ≤ 900000000) :
    Calls Tryz.prog 15 #[.agg t.h.cs] w fun e w' => e = .returned (.int .i64 (dpT k t : Nat)) ∧ Below w.heap.size w w' := by
  obtain ⟨W, hW⟩ : ∃ W, W = w.alloc (.cells t.h.cs 24) := ⟨_, rfl⟩
  have hbw : Below w.heap.size w W := by rw [hW]; exact (Below.refl _ w).alloc (Nat.le_refl _) _
  have hb : W.heap[w.heap.size]? = some (.cells t.h.cs 24 (0, 0)) := by rw [hW]; exact heap_alloc_new _ _
  have dW := d.below (Nat.le_refl _) hbw
  have dB := dW.box hb
  have K1 := hid (printed_of W (.inl (.inl (t.atB w.heap.size).h)) (ptT (t.atB w.heap.size)) (fun w1 h1 => whole_tree (dB.below (Nat.le_refl _) h1)) (ptT_ok dW _) ((okT_at t _).trans hall) (hE.below hbw) (prT k t) (dpT k t) (fun w1 h1 hs hp => (wholeTree_any k W (t.atB w.heap.size) dB ⟨hok.rs, hok.ms, hok.fs, hok.es⟩ W.heap.size W.heap.size [] 0 0 w1 (hE.below hbw) (Nat.le_refl _) h1 hs hp (by show 0 + (prT k t).length ≤ _; omega) (by show 0 + dpT k t ≤ _; omega) (by omega) (by omega)).mono (fun e w' h' => ⟨h'.1, h'.2.1.eq rfl (show max 0 (0 + dpT k t) = dpT k t by omega), h'.2.2⟩)))
  have HW := hid hbw
  simp only [TT.atB, labP] at K1
  simp only [TH.cs] at hW ⊢
  generalize dpT k t = D at *
  clear d hok hall hE hl ho hbw hb dW dB
  go_enter Tryz.func15, Tryz.ntmps15
  go_wp2_with (go_at_call 25; (rw [← hW]; refine (Hid.out K1).mono ?_; rintro e w1 ⟨rfl, hp1, hb1⟩; obtain ⟨_, p, v, _, hbx, _⟩ := hp1; have c3 := cellT hbx 3; simp only [List.getElem?_toArray, List.getElem?_cons_zero, List.getElem?_cons_succ] at c3; have HB := hid hb1; clear hb1 hW hbx))
  go_ret
  exact ⟨rfl, HW.out.trans (HB.out.mono HW.out.size)⟩
end Go.Proofs.YtdfambocenohgaaGreatDoor

namespace Go.Proofs.YtdfambocenohgaaGreatDoor
open Go.RowKit Go.Deep
set_option linter.unusedVariables false
set_option linter.unusedSimpArgs false
attribute [local go_sem] Oper.semAt_some
/- An expression that is handed over, wherever it lies. -/
structure EVh (w : World) (h : EH) : Prop where
  i0 : -9223372036854775808 ≤ h.int
  i1 : h.int ≤ 9223372036854775807
  t : h.text.size ≤ 9223372036854775807
  n : h.name.size ≤ 9223372036854775807
  nl : h.nn = h.names.length
  nb : h.nn ≤ 1000000
  ns : ∀ s ∈ h.names, s.size ≤ 9223372036854775807
  nr : SLs w h.na h.names
  ab : h.an ≤ 1000000
structure EVs (k : Nat) (w : World) (t : ET (k + 1)) : Prop where
  h : EVh w t.1
  n : t.1.an = t.2.length
  l : LiesAt 8 t.1.aa (eAt k) t.2
  e : ∀ u ∈ t.2, ERd k w u
theorem EVs.below {k : Nat} {w w' : World} {t : ET (k + 1)} {B : Nat} (d : EVs k w t) (hB : w.heap.size ≤ B) (h : Below B w w') : EVs k w' t :=
  ⟨⟨d.h.i0, d.h.i1, d.h.t, d.h.n, d.h.nl, d.h.nb, d.h.ns, d.h.nr.below hB h, d.h.ab⟩, d.n, d.l, fun u hu => ERd.below k (d.e u hu) hB h⟩
def eAtB {k : Nat} (t : ET (k + 1)) (M o : Nat) : ET (k + 1) := ({ t.1 with b := M, o := o }, t.2)
theorem EVs.at {k : Nat} {W : World} {t : ET (k + 1)} {M o : Nat} (d : EVs k W t) (c : ∀ j, j < 8 → W.cell? ⟨M, o + j, none⟩ = t.1.cs[j]?) : ERd (k + 1) W (eAtB t M o) :=
  ⟨⟨c 0 (by omega), c 1 (by omega), c 2 (by omega), c 3 (by omega), c 4 (by omega), c 5 (by omega), c 6 (by omega), c 7 (by omega), d.h.i0, d.h.i1, d.h.t, d.h.n, d.h.nl, d.h.nb, d.h.ns, d.h.nr, d.h.ab⟩, d.n, d.l, d.e⟩
theorem EVs.box {k : Nat} {W : World} {t : ET (k + 1)} {M : Nat} (d : EVs k W t) (hb : W.heap[M]? = some (.cells t.1.cs 28 (0, 0))) : ERd (k + 1) W (eAtB t M 0) := d.at fun j _ => by rw [Nat.zero_add]; exact cellT hb j
theorem prE_at {k : Nat} (t : ET (k + 1)) (M o : Nat) : prE (k + 1) (eAtB t M o) = prE (k + 1) t := rfl
theorem okAll_at {k : Nat} {t : ET (k + 1)} (h : okAll (k + 1) t) (M o : Nat) : okAll (k + 1) (eAtB t M o) := by
  intro p hp
  rcases List.mem_cons.1 hp with rfl | hp
  · exact h (.inr (.inr t.1)) (List.mem_cons_self ..)
  · exact h p (List.mem_cons_of_mem _ hp)
theorem ptE_ok : ∀ (k : Nat) (t : ET k), ∀ p ∈ ptE k t, PartOk p
  | 0, t => Empty.elim t
  | k + 1, t => fun p hp => by
    rcases List.mem_cons.1 hp with rfl | hp
    · trivial
    · obtain ⟨u, hu, hp⟩ := List.mem_flatMap.1 hp
      exact ptE_ok k u p hp
set_option maxRecDepth 100000 in
set_option maxHeartbeats 1000000 in
theorem exprText_any (k : Nat) (w : World) (t : ET (k + 1)) (d : EVs k w t) (hok : okAll (k + 1) t) (hE : EnvT w) (hl : (prE (k + 1) t).length ≤ 900000000) (hne : prE (k + 1) t ≠ []) (ho : dpE (k + 1) t ≤ 900000000) :
    Calls Tryz.prog 11 #[.agg t.1.cs] w fun e w' => e = .returned (.tuple #[.string ⟨(prE (k + 1) t).toArray⟩, .int .i64 0]) ∧ Below w.heap.size w w' := by
  obtain ⟨W, hW⟩ : ∃ W, W = w.alloc (.cells t.1.cs 28) := ⟨_, rfl⟩
  have hbw : Below w.heap.size w W := by rw [hW]; exact (Below.refl _ w).alloc (Nat.le_refl _) _
  have hb : W.heap[w.heap.size]? = some (.cells t.1.cs 28 (0, 0)) := by rw [hW]; exact heap_alloc_new _ _
  have dB := (d.below (Nat.le_refl _) hbw).box hb
  have hoB := okAll_at hok w.heap.size 0
  have K1 := hid (printed_of W (.inr (.inr (eH (k + 1) (eAtB t w.heap.size 0)))) (ptE (k + 1) (eAtB t w.heap.size 0)) (fun w1 h1 => whole_expr (ERd.below (k + 1) dB (Nat.le_refl _) h1)) (ptE_ok _ _) (List.all_eq_true.2 hoB) (hE.below hbw) (prE (k + 1) t) (dpE (k + 1) t) (fun w1 h1 hs hp => (wholeExpr_any (k + 1) W (eAtB t w.heap.size 0) dB hoB W.heap.size W.heap.size [] 0 0 w1 (hE.below hbw) (Nat.le_refl _) h1 hs hp (by show 0 + (prE (k + 1) t).length ≤ _; omega) (by show 0 + dpE (k + 1) t ≤ _; omega) (by omega) (by omega)).mono (fun e w' h' => ⟨h'.1, h'.2.1.eq rfl (show max 0 (0 + dpE (k + 1) t) = dpE (k + 1) t by omega), h'.2.2⟩)))
  have HW := hid hbw
  simp only [eAtB, eH, labP] at K1
  have K2 := hid (fun (w1 : World) (hp : Prn w1 W.heap.size W.heap.size (prE (k + 1) t) 0 (dpE (k + 1) t)) => string_any w1 _ _ _ _ _ hp hne)
  generalize prE (k + 1) t = L at *
  generalize dpE (k + 1) t = D at *
  simp only [EH.cs] at hW ⊢
  clear d hok hE hl hne ho hbw hb dB hoB
  go_enter Tryz.func11, Tryz.ntmps11
  go_wp2_with (first
    | (go_at_call 25; (rw [← hW]; refine (Hid.out K1).mono ?_; rintro e w1 ⟨rfl, hp1, hb1⟩; have K2' := hid (K2.out w1 hp1); have HB := hid hb1; clear hp1 hb1 hW))
    | (go_at_call 26; (refine (Hid.out K2').mono ?_; rintro e w2 ⟨rfl, hb2⟩)))
  go_ret2
  exact ⟨rfl, HW.out.trans ((HB.out.trans hb2).mono HW.out.size)⟩
end Go.Proofs.YtdfambocenohgaaGreatDoor

namespace Go.Proofs.YtdfambocenohgaaGreatDoor
open Go.RowKit Go.Deep
set_option linter.unusedVariables false
set_option linter.unusedSimpArgs false

def zE : EH := { b := 0, o := 0, kind := 0, op := 0, int := 0, text := emp, name := emp, na := none, nn := 0, nc := 0, aa := none, an := 0, ac := 0, pos := 0, names := [] }
def zS : SH := { b := 0, o := 0, kind := 0, name := emp, label := emp, var := emp, aa := none, an := 0, ac := 0, ba := none, bn := 0, bc := 0, ea := none, en := 0, ec := 0, pos := 0 }
def zD : DH := { sort := wOn, b := 0, o := 0, name := emp, pa := none, pn := 0, pc := 0, key := emp, value := emp, result := emp, ba := none, bn := 0, bc := 0, pos := 0, params := [] }
def kE (X : Nat) : ET 2 := ({ zE with kind := 5, op := 18, aa := some ⟨X, 0, none⟩, an := 1, ac := 1 }, [({ zE with b := X, kind := 1, int := 1 }, [])])
theorem kE_dp (X : Nat) : dpE 2 (kE X) = 2 := by rfl
theorem itoa1 : Lib.itoa 1 = [49] := by kernel_rfl
theorem kE_pr (X : Nat) : prE 2 (kE X) = [45, 32, 40, 49, 41] := by
  have e : prE 1 (({ zE with b := X, kind := 1, int := 1 }, []) : ET 1) = [49] := itoa1
  show unB (kE X).1 { zE with b := X, kind := 1, int := 1 } (prE 1 (({ zE with b := X, kind := 1, int := 1 }, []) : ET 1)) = _
  rw [e]; rfl
theorem kE_ok (X : Nat) : okAll 2 (kE X) := by
  intro p hp
  rcases List.mem_cons.1 hp with rfl | hp
  · rfl
  · obtain ⟨u, hu, hp⟩ := List.mem_flatMap.1 hp
    rcases List.mem_cons.1 hu with rfl | hu
    · rcases List.mem_cons.1 hp with rfl | hp
      · rfl
      · exact absurd hp (by simp)
    · exact absurd hu (by simp)
/- The tree with one break. -/
def kS (X : Nat) : ST 1 := ({ zS with b := X, kind := 8, name := ⟨#[120]⟩ }, [], [], [])
def kT (X Y : Nat) : TT 1 := { h := { b := 0, o := 0, ra := none, rn := 0, rc := 0, ma := none, mn := 0, mc := 0, fa := none, fn := 0, fc := 0, ea := some ⟨Y, 0, none⟩, en := 1, ec := 1 }, rs := [], ms := [], fs := [], es := [({ zD with b := Y, name := ⟨#[101]⟩, ba := some ⟨X, 0, none⟩, bn := 1, bc := 1 }, [kS X])] }
theorem kT_pr (X Y : Nat) : prT 1 (kT X Y) = [111, 110, 32, 101, 40, 41, 32, 123, 32, 98, 114, 101, 97, 107, 32, 120, 59, 32, 125, 10] := by kernel_rfl
theorem kT_dp (X Y : Nat) : dpT 1 (kT X Y) = 1 := by rfl
theorem kT_cnt (X Y : Nat) : cnt (inT (kT X Y)) = 1 := by rfl
theorem kT_okT (X Y : Nat) : okT (kT X Y) = true := by kernel_rfl
end Go.Proofs.YtdfambocenohgaaGreatDoor

namespace Go.Proofs.YtdfambocenohgaaGreatDoor
open Go.RowKit Go.Deep
set_option linter.unusedVariables false
set_option linter.unusedSimpArgs false
theorem mem_1 {α : Type} {a u : α} (h : u ∈ [a]) : u = a := by simpa using h
theorem mem_0 {α : Type} {p : Prop} {u : α} (h : u ∈ ([] : List α)) : p := by simp at h
theorem at_1 {α : Type} {a u : α} {j : Nat} (h : [a][j]? = some u) : j = 0 ∧ u = a := by
  cases j with
  | zero => exact ⟨rfl, by simpa using h.symm⟩
  | succ j => simp at h
theorem lies_0 {α : Type} {z : Nat} {a : Option Addr} {at' : α → Nat × Nat} : LiesAt z a at' [] := fun j t h => by simp at h
theorem lies_1 {α : Type} {z X : Nat} {at' : α → Nat × Nat} {t : α} (h : at' t = (X, 0)) : LiesAt z (some ⟨X, 0, none⟩) at' [t] := fun j u hj => by
  obtain ⟨rfl, rfl⟩ := at_1 hj
  exact ⟨X, 0, rfl, by rw [h, Nat.zero_mul]⟩
theorem sls_0 {w : World} {a : Option Addr} : SLs w a [] := by intro j s h; simp at h
theorem pls_0 {w : World} {a : Option Addr} : PLs w a [] := by intro j s h; simp at h
theorem kE_vs {w : World} {X : Nat} (hb : w.heap[X]? = some (.cells ({ zE with b := X, kind := 1, int := 1 } : EH).cs 28 (0, 0))) : EVs 1 w (kE X) := by
  have c := cellT hb
  refine ⟨⟨of_decide_eq_true rfl, of_decide_eq_true rfl, of_decide_eq_true rfl, of_decide_eq_true rfl, rfl, of_decide_eq_true rfl, fun s h => mem_0 h, sls_0, of_decide_eq_true rfl⟩, rfl, lies_1 rfl, ?_⟩
  intro u hu
  obtain rfl := mem_1 hu
  exact ⟨⟨c 0, c 1, c 2, c 3, c 4, c 5, c 6, c 7, of_decide_eq_true rfl, of_decide_eq_true rfl, of_decide_eq_true rfl, of_decide_eq_true rfl, rfl, of_decide_eq_true rfl, fun s h => mem_0 h, sls_0, of_decide_eq_true rfl⟩, rfl, lies_0, fun u hu => mem_0 hu⟩
theorem dls_0 {k : Nat} {w : World} {s : ByteArray} : DLs k w s none 0 [] := ⟨rfl, lies_0, fun u hu => mem_0 hu, fun u hu => mem_0 hu⟩
theorem kT_vs {w : World} {X Y : Nat} (hb : w.heap[X]? = some (.cells (kS X).1.cs 49 (0, 0))) (hd : w.heap[Y]? = some (.cells ({ zD with b := Y, name := ⟨#[101]⟩, ba := some ⟨X, 0, none⟩, bn := 1, bc := 1 } : DH).cs 52 (0, 0))) : TVs 1 w (kT X Y) := by
  have c := cellT hb
  have q := cellT hd
  refine ⟨dls_0, dls_0, dls_0, ⟨rfl, lies_1 rfl, ?_, ?_⟩, of_decide_eq_true rfl, of_decide_eq_true rfl, of_decide_eq_true rfl, of_decide_eq_true rfl⟩
  · intro u hu
    obtain rfl := mem_1 hu
    refine ⟨⟨q 0, q 1, q 2, q 3, q 4, q 5, q 6, of_decide_eq_true rfl, of_decide_eq_true rfl, of_decide_eq_true rfl, of_decide_eq_true rfl, rfl, of_decide_eq_true rfl, fun s h => mem_0 h, pls_0, of_decide_eq_true rfl⟩, rfl, lies_1 rfl, ?_⟩
    intro u hu
    obtain rfl := mem_1 hu
    exact ⟨⟨c 0, c 1, c 2, c 3, c 4, c 5, c 6, c 7, of_decide_eq_true rfl, of_decide_eq_true rfl, of_decide_eq_true rfl, of_decide_eq_true rfl, of_decide_eq_true rfl, of_decide_eq_true rfl⟩, ⟨rfl, rfl, rfl⟩, ⟨lies_0, lies_0, lies_0⟩, fun u hu => mem_0 hu, fun u hu => mem_0 hu, fun u hu => mem_0 hu⟩
  · intro u hu
    obtain rfl := mem_1 hu
    rfl
theorem kT_tr (X Y : Nat) : okTr 1 (kT X Y) := by
  refine ⟨fun u hu => mem_0 hu, fun u hu => mem_0 hu, fun u hu => mem_0 hu, ?_⟩
  intro u hu
  obtain rfl := mem_1 hu
  intro v hv
  obtain rfl := mem_1 hv
  exact ⟨by kernel_rfl, ⟨of_decide_eq_true rfl, of_decide_eq_true rfl⟩, fun u hu => mem_0 hu, fun u hu => mem_0 hu, fun u hu => mem_0 hu⟩
end Go.Proofs.YtdfambocenohgaaGreatDoor

namespace Go.Proofs.YtdfambocenohgaaGreatDoor
open Go.RowKit Go.Deep
set_option linter.unusedVariables false
set_option linter.unusedSimpArgs false
attribute [local go_sem] Oper.semAt_some
set_option maxRecDepth 100000 in
set_option maxHeartbeats 1000000 in
theorem known_any (w : World) (hE : EnvT w) : Calls Tryz.prog 6 #[] w fun e w' => e = .returned (.bool true) ∧ Below w.heap.size w w' := by
  obtain ⟨X, hX⟩ : ∃ X, X = w.heap.size := ⟨_, rfl⟩
  obtain ⟨W0, hW0⟩ : ∃ W0, W0 = w.alloc (.cells ({ zE with b := X, kind := 1, int := 1 } : EH).cs 28) := ⟨_, rfl⟩
  obtain ⟨W1, hW1⟩ : ∃ W1, W1 = W0.alloc (.cells (kE X).1.cs 28) := ⟨_, rfl⟩
  have b0 : Below w.heap.size w W0 := by rw [hW0]; exact (Below.refl _ w).alloc (Nat.le_refl _) _
  have b1' : Below W0.heap.size W0 W1 := by rw [hW1]; exact (Below.refl _ W0).alloc (Nat.le_refl _) _
  have b1 : Below w.heap.size w W1 := b0.trans (b1'.mono b0.size)
  have z0 : W0.heap.size = w.heap.size + 1 := by rw [hW0]; simp
  have n0 : W0.heap[X]? = some (.cells ({ zE with b := X, kind := 1, int := 1 } : EH).cs 28 (0, 0)) := by rw [hW0, hX]; exact heap_alloc_new _ _
  have n1 : W1.heap[X]? = some (.cells ({ zE with b := X, kind := 1, int := 1 } : EH).cs 28 (0, 0)) := (b1'.block X (by omega)).trans n0
  have m1 : W1.heap[w.heap.size + 1]? = some (.cells (kE X).1.cs 28 (0, 0)) := by rw [← z0, hW1]; exact heap_alloc_new _ _
  have K1 := hid (exprText_any 1 W1 (kE X) (kE_vs n1) (kE_ok X) (hE.below b1) (by rw [kE_pr]; decide) (by rw [kE_pr]; decide) (by rw [kE_dp]; decide))
  rw [kE_pr] at K1
  have R1 := hid (fun (w1 : World) (h : Below W1.heap.size W1 w1) => b1.trans (h.mono b1.size))
  have K2 := hid (fun (w1 : World) (h : Below w.heap.size w w1) => hE.below h)
  have q := cellT m1
  have q0 := q 0
  have q1 := q 1
  have q2 := q 2
  have q3 := q 3
  have q4 := q 4
  have q5 := q 5
  have q6 := q 6
  have q7 := q 7
  simp only [kE, zE, emp, EH.cs, List.getElem?_toArray, List.getElem?_cons_zero, List.getElem?_cons_succ] at q0 q1 q2 q3 q4 q5 q6 q7 K1 hW0 hW1
  clear hE b0 b1' b1 n0 n1 m1 q
  go_enter Tryz.func6, Tryz.ntmps6
  go_upto_region 2 with fail
  rw [← hX, ← hW0, ← hW1]
  rw [← hX] at q0 q1 q2 q3 q4 q5 q6 q7
  clear hW0 hW1 hX z0
  go_upto_region 3 with (go_at_call 11; (refine (Hid.out K1).mono ?_; rintro e w1 ⟨rfl, hb1⟩; have HB1 := hid (R1.out w1 hb1); clear hb1 q0 q1 q2 q3 q4 q5 q6 q7))
  obtain ⟨Y, hY⟩ : ∃ Y, Y = w1.heap.size := ⟨_, rfl⟩
  obtain ⟨W2, hW2⟩ : ∃ W2, W2 = w1.alloc (.cells (kS Y).1.cs 49) := ⟨_, rfl⟩
  obtain ⟨W3, hW3⟩ : ∃ W3, W3 = W2.alloc (.cells ({ zD with b := Y + 1, name := ⟨#[101]⟩, ba := some ⟨Y, 0, none⟩, bn := 1, bc := 1 } : DH).cs 52) := ⟨_, rfl⟩
  obtain ⟨W4, hW4⟩ : ∃ W4, W4 = W3.alloc (.cells (kT Y (Y + 1)).h.cs 24) := ⟨_, rfl⟩
  have z2 : W2.heap.size = Y + 1 := by rw [hW2, hY]; simp
  have z3 : W3.heap.size = Y + 1 + 1 := by rw [hW3]; simp [z2]
  have b2 : Below w1.heap.size w1 W2 := by rw [hW2]; exact (Below.refl _ w1).alloc (Nat.le_refl _) _
  have b3 : Below W2.heap.size W2 W3 := by rw [hW3]; exact (Below.refl _ W2).alloc (Nat.le_refl _) _
  have b4 : Below W3.heap.size W3 W4 := by rw [hW4]; exact (Below.refl _ W3).alloc (Nat.le_refl _) _
  have n2 : W2.heap[Y]? = some (.cells (kS Y).1.cs 49 (0, 0)) := by rw [hW2, hY]; exact heap_alloc_new _ _
  have n3 : W3.heap[Y + 1]? = some (.cells ({ zD with b := Y + 1, name := ⟨#[101]⟩, ba := some ⟨Y, 0, none⟩, bn := 1, bc := 1 } : DH).cs 52 (0, 0)) := by rw [← z2, hW3]; exact heap_alloc_new _ _
  have n4 : W4.heap[Y + 1 + 1]? = some (.cells (kT Y (Y + 1)).h.cs 24 (0, 0)) := by rw [← z3, hW4]; exact heap_alloc_new _ _
  have m2 : W4.heap[Y]? = some (.cells (kS Y).1.cs 49 (0, 0)) := (b4.block Y (by omega)).trans ((b3.block Y (by omega)).trans n2)
  have m3 := (b4.block (Y + 1) (by omega)).trans n3
  have b34 : Below W2.heap.size W2 W4 := b3.trans (b4.mono b3.size)
  have b24 : Below w1.heap.size w1 W4 := b2.trans (b34.mono b2.size)
  have bw4 : Below w.heap.size w W4 := HB1.out.trans (b24.mono HB1.out.size)
  have dT := kT_vs m2 m3
  have HB4 := hid bw4
  have hE4 := K2.out W4 bw4
  have P1 := hid (print_any 1 W4 (kT Y (Y + 1)) dT (kT_tr _ _) (kT_okT _ _) hE4 (by rw [kT_pr]; decide) (by rw [kT_pr]; decide) (by rw [kT_dp]; decide))
  rw [kT_pr] at P1
  have P2 := hid (fun (w2 : World) (h : Below W4.heap.size W4 w2) => isTree_any 1 w2 (kT Y (Y + 1)) (dT.below (Nat.le_refl _) h) (hE4.below h).mx)
  simp only [kT_okT] at P2
  have P3 := hid (fun (w2 : World) (h : Below W4.heap.size W4 w2) => size_any 1 w2 (kT Y (Y + 1)) (dT.below (Nat.le_refl _) h) (of_decide_eq_true rfl))
  simp only [kT_cnt] at P3
  have QB := hid (fun (w2 : World) (h : Below W4.heap.size W4 w2) => cellT ((h.block (Y + 1 + 1) (by have := b4.size; have : W4.heap.size = Y + 1 + 1 + 1 := by { rw [hW4]; simp [z3] }; omega)).trans n4))
  have q := QB.out W4 (Below.refl _ _)
  have q0 := q 0
  have q1 := q 1
  have q2 := q 2
  have q3 := q 3
  simp only [kT, kS, zS, zD, emp, SH.cs, DH.cs, TH.cs, List.getElem?_toArray, List.getElem?_cons_zero, List.getElem?_cons_succ] at q0 q1 q2 q3 P1 P2 P3 hW2 hW3 hW4
  clear z2 z3 b2 b3 b4 n2 n3 n4 m2 m3 b34 b24 bw4 dT hE4 q K1 K2 R1
  go_upto_region 4 with fail
  rw [← hY, ← hW2, ← hW3, ← hW4]
  clear hW2 hW3 hW4 hY
  go_wp2_with (first
    | (go_at_call 9; (refine (Hid.out P1).mono ?_; rintro e w2 ⟨rfl, hb2⟩; have s := QB.out w2 hb2; have s0 := s 0; have s1 := s 1; have s2 := s 2; have s3 := s 3; simp only [kT, kS, zS, zD, emp, TH.cs, List.getElem?_toArray, List.getElem?_cons_zero, List.getElem?_cons_succ] at s0 s1 s2 s3; have P2' := hid (P2.out w2 hb2); have HB2 := hid hb2; clear hb2 s q0 q1 q2 q3))
    | (go_at_call 13; (refine (Hid.out P2').mono ?_; rintro e w3 ⟨rfl, hb3⟩; have HB3 := hid (HB2.out.trans (hb3.mono HB2.out.size)); have s := QB.out w3 HB3.out; have r0 := s 0; have r1 := s 1; have r2 := s 2; have r3 := s 3; simp only [kT, kS, zS, zD, emp, TH.cs, List.getElem?_toArray, List.getElem?_cons_zero, List.getElem?_cons_succ] at r0 r1 r2 r3; have P3' := hid (P3.out w3 HB3.out); clear hb3 s s0 s1 s2 s3))
    | (go_at_call 17; (refine (Hid.out P3').mono ?_; rintro e w4 ⟨rfl, hb4⟩)))
  go_ret
  have h34 := HB3.out.trans (hb4.mono HB3.out.size)
  exact ⟨rfl, HB4.out.trans (h34.mono HB4.out.size)⟩
end Go.Proofs.YtdfambocenohgaaGreatDoor

namespace Go.Proofs.YtdfambocenohgaaGreatDoor
open Go.RowKit Go.Deep
set_option linter.unusedVariables false
set_option linter.unusedSimpArgs false
/- The head of one more; X: where its argument lies, Y: where its names lie. -/
def nH (m X Y : Nat) : EH := match m with
  | 0 => { zE with kind := 11, name := ⟨#[102]⟩, aa := some ⟨X, 0, none⟩, an := 1, ac := 1 }
  | 1 => { zE with kind := 9, name := ⟨#[109]⟩, aa := some ⟨X, 0, none⟩, an := 1, ac := 1 }
  | 2 => { zE with kind := 5, op := 20, aa := some ⟨X, 0, none⟩, an := 1, ac := 1 }
  | 3 => { zE with kind := 8, name := ⟨#[80]⟩, na := some ⟨Y, 0, none⟩, nn := 1, nc := 1, names := [⟨#[120]⟩], aa := some ⟨X, 0, none⟩, an := 1, ac := 1 }
  | _ => { zE with kind := 12, name := ⟨#[112]⟩, aa := some ⟨X, 0, none⟩, an := 1, ac := 1 }
theorem nH_r0 (X Y : Nat) : rightE (nH 0 X Y) = true := by kernel_rfl
theorem nH_r1 (X Y : Nat) : rightE (nH 1 X Y) = true := by kernel_rfl
theorem nH_r2 (X Y : Nat) : rightE (nH 2 X Y) = true := by kernel_rfl
theorem nH_r3 (X Y : Nat) : rightE (nH 3 X Y) = true := by kernel_rfl
theorem nH_r4 (X Y : Nat) : rightE (nH 4 X Y) = true := by kernel_rfl
theorem nH_right (m X Y : Nat) : rightE (nH m X Y) = true := by
  match m with
  | 0 => exact nH_r0 X Y
  | 1 => exact nH_r1 X Y
  | 2 => exact nH_r2 X Y
  | 3 => exact nH_r3 X Y
  | _ + 4 => exact nH_r4 X Y
theorem nH_pr (m X Y : Nat) (e : EH) (p : List UInt8) : p.length < (prH (nH m X Y) [e] [p]).length ∧ (prH (nH m X Y) [e] [p]).length ≤ p.length + 20 := by
  match m with
  | 0 => have : prH (nH 0 X Y) [e] [p] = [102, 40] ++ (jn [p] ++ [41]) := by rfl
         rw [this, jn1]; simp; omega
  | 1 => have : prH (nH 1 X Y) [e] [p] = [109, 91] ++ (p ++ [93]) := by rfl
         rw [this]; simp; omega
  | 2 => have : prH (nH 2 X Y) [e] [p] = [108, 101, 110] ++ (40 :: (jn [p] ++ [41])) := by rfl
         rw [this, jn1]; simp; omega
  | 3 => have : prH (nH 3 X Y) [e] [p] = [80, 123] ++ (jn [120 :: 58 :: 32 :: p] ++ [125]) := by rfl
         rw [this, jn1]; simp; omega
  | _ + 4 => have : prH (nH 4 X Y) [e] [p] = [97, 115, 107, 32, 112, 40] ++ (jn [p] ++ [41]) := by rfl
             show _ < (prH (nH 4 X Y) [e] [p]).length ∧ (prH (nH 4 X Y) [e] [p]).length ≤ _
             rw [this, jn1]; simp; omega
theorem nH_dp (m X Y : Nat) (e : EH) (d : Nat) : dpH (nH m X Y) [e] [d] = 1 + d := by
  match m with
  | 0 => show 1 + max d 0 = _; omega
  | 1 => rfl
  | 2 => show 1 + max d 0 = _; omega
  | 3 => show 1 + max d 0 = _; omega
  | _ + 4 => show 1 + max d 0 = _; omega
/- One more around t. -/
def nUp {k : Nat} (m X Y : Nat) (t : ET (k + 1)) : ET (k + 2) := (nH m X Y, [eAtB t X 0])
structure Nst (k n : Nat) (t : ET (k + 1)) : Prop where
  ok : okAll (k + 1) t
  dp : dpE (k + 1) t = n
  lo : n < (prE (k + 1) t).length
  hi : (prE (k + 1) t).length ≤ 20 * n + 1
  sz : cnt (ptE (k + 1) t) = n + 1
  le : (ptE (k + 1) t).length = n + 1
theorem Nst.up {k n : Nat} {t : ET (k + 1)} (h : Nst k n t) (m X Y : Nat) : Nst (k + 1) (n + 1) (nUp m X Y t) := by
  have hp := nH_pr m X Y (eH (k + 1) (eAtB t X 0)) (prE (k + 1) (eAtB t X 0))
  rw [prE_at] at hp
  have e1 : prE (k + 2) (nUp m X Y t) = prH (nH m X Y) [eH (k + 1) (eAtB t X 0)] [prE (k + 1) t] := rfl
  have e3 : ptE (k + 2) (nUp m X Y t) = .inr (.inr (nH m X Y)) :: (.inr (.inr { t.1 with b := X, o := 0 }) :: (ptE (k + 1) t).tail) := by
    show .inr (.inr (nH m X Y)) :: ([eAtB t X 0].flatMap (ptE (k + 1))) = _
    simp only [List.flatMap_cons, List.flatMap_nil, List.append_nil]
    rfl
  have e4 : ptE (k + 1) t = .inr (.inr t.1) :: (ptE (k + 1) t).tail := rfl
  refine ⟨?_, ?_, ?_, ?_, ?_, ?_⟩
  · intro p hq
    rcases List.mem_cons.1 hq with rfl | hq
    · exact nH_right m X Y
    · obtain ⟨u, hu, hq⟩ := List.mem_flatMap.1 hq
      obtain rfl := mem_1 hu
      exact okAll_at h.ok X 0 p hq
  · have : dpE (k + 2) (nUp m X Y t) = dpH (nH m X Y) [eH (k + 1) (eAtB t X 0)] [dpE (k + 1) t] := rfl
    rw [this, nH_dp, h.dp]; omega
  · rw [e1]; have := h.lo; omega
  · rw [e1]; have := h.hi; omega
  · have hs := h.sz
    rw [e4] at hs
    rw [e3]
    have c : ∀ (x : EH) (l : List Part), cnt (.inr (.inr x) :: l) = cnt l + 1 := fun x l => rfl
    rw [c] at hs
    rw [c, c]; omega
  · have hs := h.le
    rw [e4] at hs
    rw [e3]
    simp only [List.length_cons] at hs ⊢
    omega
/- The innermost. -/
def n0 : ET 1 := ({ zE with kind := 4, name := ⟨#[97]⟩ }, [])
theorem n0_right : rightE n0.1 = true := by kernel_rfl
theorem n0_nst : Nst 0 0 n0 := by
  refine ⟨?_, rfl, of_decide_eq_true rfl, of_decide_eq_true rfl, rfl, rfl⟩
  intro p hq
  rcases List.mem_cons.1 hq with rfl | hq
  · exact n0_right
  · exact mem_0 hq
end Go.Proofs.YtdfambocenohgaaGreatDoor

namespace Go.Proofs.YtdfambocenohgaaGreatDoor
open Go.RowKit Go.Deep
set_option linter.unusedVariables false
set_option linter.unusedSimpArgs false
/- All cells but those of E stay. -/
def Oth (E : Nat) (w w' : World) : Prop := ∀ (b o : Nat) (v : Value), b ≠ E → w.cell? ⟨b, o, none⟩ = some v → w'.cell? ⟨b, o, none⟩ = some v
theorem Oth.of {E : Nat} {w w' : World} (h : Below w.heap.size w w') : Oth E w w' := fun b o v _ hc => belowCell hc (Nat.le_refl _) h
theorem Oth.trans {E : Nat} {x y z : World} (h : Oth E x y) (k : Oth E y z) : Oth E x z := fun b o v hb hc => k b o v hb (h b o v hb hc)
def AvE (E : Nat) : (k : Nat) → ET k → Prop
  | 0, _ => True
  | k + 1, t => t.1.b ≠ E ∧ (∀ b off, t.1.na = some ⟨b, off, none⟩ → b ≠ E) ∧ ∀ u ∈ t.2, AvE E k u
theorem SLs.oth {E : Nat} {w w' : World} {a : Option Addr} {l : List ByteArray} (h : SLs w a l) (ha : ∀ b off, a = some ⟨b, off, none⟩ → b ≠ E) (k : Oth E w w') : SLs w' a l := fun j s e => by
  obtain ⟨b, off, ea, hc⟩ := h j s e
  exact ⟨b, off, ea, k _ _ _ (ha _ _ ea) hc⟩
theorem EHr.oth {E : Nat} {w w' : World} {h : EH} (d : EHr w h) (hb : h.b ≠ E) (ha : ∀ b off, h.na = some ⟨b, off, none⟩ → b ≠ E) (k : Oth E w w') : EHr w' h :=
  ⟨k _ _ _ hb d.c0, k _ _ _ hb d.c1, k _ _ _ hb d.c2, k _ _ _ hb d.c3, k _ _ _ hb d.c4, k _ _ _ hb d.c5, k _ _ _ hb d.c6, k _ _ _ hb d.c7, d.i0, d.i1, d.t, d.n, d.nl, d.nb, d.ns, d.nr.oth ha k, d.ab⟩
theorem ERd.oth {E : Nat} : ∀ (k : Nat) {w w' : World} {t : ET k}, ERd k w t → AvE E k t → Oth E w w' → ERd k w' t
  | 0, _, _, _, d, _, _ => d.elim
  | k + 1, _, _, _, d, a, h => ⟨d.1.oth a.1 a.2.1 h, d.2.1, d.2.2.1, fun u hu => ERd.oth k (d.2.2.2 u hu) (a.2.2 u hu) h⟩
/- An expression handed over whose parts avoid E. -/
def AvV (E : Nat) {k : Nat} (t : ET (k + 1)) : Prop := (∀ b off, t.1.na = some ⟨b, off, none⟩ → b ≠ E) ∧ ∀ u ∈ t.2, AvE E k u
theorem EVs.oth {E k : Nat} {w w' : World} {t : ET (k + 1)} (d : EVs k w t) (a : AvV E t) (h : Oth E w w') : EVs k w' t :=
  ⟨⟨d.h.i0, d.h.i1, d.h.t, d.h.n, d.h.nl, d.h.nb, d.h.ns, d.h.nr.oth a.1 h, d.h.ab⟩, d.n, d.l, fun u hu => ERd.oth k (d.e u hu) (a.2 u hu) h⟩
/- One more around t: X the row that holds t, Y the names. -/
theorem AvV.up {E k : Nat} {t : ET (k + 1)} (a : AvV E t) (m X Y : Nat) (hX : X ≠ E) (hY : Y ≠ E) : AvV E (nUp m X Y t) := by
  refine ⟨?_, ?_⟩
  · intro b off h
    match m with
    | 0 => cases h
    | 1 => cases h
    | 2 => cases h
    | 3 =>
      have : (some ⟨Y, 0, none⟩ : Option Addr) = some ⟨b, off, none⟩ := h
      cases this; exact hY
    | _ + 4 => cases h
  · intro u hu
    obtain rfl := mem_1 hu
    exact ⟨hX, a.1, a.2⟩
theorem EVs.up {k : Nat} {w : World} {t : ET (k + 1)} (d : EVs k w t) (m X Y : Nat) (hX : w.heap[X]? = some (.cells t.1.cs 28 (0, 0))) (hY : m = 3 → w.heap[Y]? = some (.cells #[.string ⟨#[120]⟩] 9 (0, 0))) : EVs (k + 1) w (nUp m X Y t) := by
  have hl : LiesAt 8 (some ⟨X, 0, none⟩) (eAt (k + 1)) [eAtB t X 0] := lies_1 rfl
  have he : ∀ u ∈ [eAtB t X 0], ERd (k + 1) w u := fun u hu => by
    obtain rfl := mem_1 hu
    exact d.box hX
  match m with
  | 0 => exact ⟨⟨of_decide_eq_true rfl, of_decide_eq_true rfl, of_decide_eq_true rfl, of_decide_eq_true rfl, rfl, of_decide_eq_true rfl, fun s h => mem_0 h, sls_0, of_decide_eq_true rfl⟩, rfl, hl, he⟩
  | 1 => exact ⟨⟨of_decide_eq_true rfl, of_decide_eq_true rfl, of_decide_eq_true rfl, of_decide_eq_true rfl, rfl, of_decide_eq_true rfl, fun s h => mem_0 h, sls_0, of_decide_eq_true rfl⟩, rfl, hl, he⟩
  | 2 => exact ⟨⟨of_decide_eq_true rfl, of_decide_eq_true rfl, of_decide_eq_true rfl, of_decide_eq_true rfl, rfl, of_decide_eq_true rfl, fun s h => mem_0 h, sls_0, of_decide_eq_true rfl⟩, rfl, hl, he⟩
  | 3 =>
    have q := cellT (hY rfl) 0
    refine ⟨⟨of_decide_eq_true rfl, of_decide_eq_true rfl, of_decide_eq_true rfl, of_decide_eq_true rfl, rfl, of_decide_eq_true rfl, ?_, ?_, of_decide_eq_true rfl⟩, rfl, hl, he⟩
    · intro s h
      obtain rfl := mem_1 h
      exact of_decide_eq_true rfl
    · intro j s h
      obtain ⟨rfl, rfl⟩ := at_1 h
      exact ⟨Y, 0, rfl, q⟩
  | _ + 4 => exact ⟨⟨of_decide_eq_true rfl, of_decide_eq_true rfl, of_decide_eq_true rfl, of_decide_eq_true rfl, rfl, of_decide_eq_true rfl, fun s h => mem_0 h, sls_0, of_decide_eq_true rfl⟩, rfl, hl, he⟩
theorem n0_vs (w : World) : EVs 0 w n0 := ⟨⟨of_decide_eq_true rfl, of_decide_eq_true rfl, of_decide_eq_true rfl, of_decide_eq_true rfl, rfl, of_decide_eq_true rfl, fun s h => mem_0 h, sls_0, of_decide_eq_true rfl⟩, rfl, lies_0, fun u hu => mem_0 hu⟩
theorem n0_av (E : Nat) : AvV E n0 := ⟨fun b off h => (by cases h), fun u hu => mem_0 hu⟩
end Go.Proofs.YtdfambocenohgaaGreatDoor

namespace Go.Proofs.YtdfambocenohgaaGreatDoor
open Go.RowKit Go.Deep
set_option linter.unusedVariables false
set_option linter.unusedSimpArgs false
theorem set_of {w : World} {b : Nat} {c : Array Value} {e : TypeId} {f : Nat × Nat} (h : w.heap[b]? = some (.cells c e f)) (i : Nat) (u : Value) : (w.setCell ⟨b, i, none⟩ u).heap[b]? = some (.cells (c.setIfInBounds i u) e f) := by
  simp [World.setCell, Array.getElem?_modify, h]
def eight (w : World) (b : Nat) (x : EH) : World := (((((((w.setCell ⟨b, 0, none⟩ (.int .i64 x.kind)).setCell ⟨b, 1, none⟩ (.int .i64 x.op)).setCell ⟨b, 2, none⟩ (.int .i64 x.int)).setCell ⟨b, 3, none⟩ (.string x.text)).setCell ⟨b, 4, none⟩ (.string x.name)).setCell ⟨b, 5, none⟩ (.slice x.na x.nn x.nc)).setCell ⟨b, 6, none⟩ (.slice x.aa x.an x.ac)).setCell ⟨b, 7, none⟩ (.int .i64 x.pos)
theorem eight_new {w : World} {b : Nat} {y : EH} (h : w.heap[b]? = some (.cells y.cs 28 (0, 0))) (x : EH) : (eight w b x).heap[b]? = some (.cells x.cs 28 (0, 0)) := by
  have h1 := set_of (set_of (set_of (set_of (set_of (set_of (set_of (set_of h 0 (.int .i64 x.kind)) 1 (.int .i64 x.op)) 2 (.int .i64 x.int)) 3 (.string x.text)) 4 (.string x.name)) 5 (.slice x.na x.nn x.nc)) 6 (.slice x.aa x.an x.ac)) 7 (.int .i64 x.pos)
  simp only [EH.cs, List.setIfInBounds_toArray, List.set_cons_zero, List.set_cons_succ] at h1
  exact h1
theorem eight_heap (w : World) (b : Nat) (x : EH) {k : Nat} (hk : k ≠ b) : (eight w b x).heap[k]? = w.heap[k]? := by
  unfold eight
  rw [Below.heap_setCell _ _ _ _ hk, Below.heap_setCell _ _ _ _ hk, Below.heap_setCell _ _ _ _ hk, Below.heap_setCell _ _ _ _ hk, Below.heap_setCell _ _ _ _ hk, Below.heap_setCell _ _ _ _ hk, Below.heap_setCell _ _ _ _ hk, Below.heap_setCell _ _ _ _ hk]
theorem eight_below {B : Nat} {w0 w : World} (hb : Below B w0 w) {b : Nat} (hB : B ≤ b) (x : EH) : Below B w0 (eight w b x) := by
  unfold eight
  exact (((((((hb.setCell hB _).setCell hB _).setCell hB _).setCell hB _).setCell hB _).setCell hB _).setCell hB _).setCell hB _
theorem eight_oth (w : World) (b : Nat) (x : EH) : Oth b w (eight w b x) := fun c o v hc h => by
  rw [← h]
  exact World.cell?_of_block (a := ⟨c, o, none⟩) (show (eight w b x).heap[c]? = w.heap[c]? from eight_heap w b x hc)
theorem eight_size (w : World) (b : Nat) (x : EH) : (eight w b x).heap.size = w.heap.size := by simp [eight, World.setCell]
/- What stands between two rounds of nested. -/
def KU8 (w : World) (a : Option Addr) (xs : List Nat) : Prop := ∀ (j : Nat) (x : Nat), xs[j]? = some x → x < 256 ∧ ∃ b off, a = some ⟨b, off, none⟩ ∧ w.cell? ⟨b, off + j, none⟩ = some (.int .u8 x)
theorem KU8.below {w w' : World} {a : Option Addr} {xs : List Nat} (h : KU8 w a xs) (hb : Below w.heap.size w w') : KU8 w' a xs := fun j x hx => by
  obtain ⟨h1, b, off, e, hc⟩ := h j x hx
  exact ⟨h1, b, off, e, belowCell hc (Nat.le_refl _) hb⟩
structure NsR (w : World) (R E i : Nat) (wr : World) : Prop where
  ex : ∃ (k : Nat) (t : ET (k + 1)), wr.heap[E]? = some (.cells t.1.cs 28 (0, 0)) ∧ EVs k wr t ∧ AvV E t ∧ AvV R t ∧ Nst k i t
  r : wr.heap[R]? = some (.cells zE.cs 28 (0, 0))
  b : Below w.heap.size w wr
theorem lt_of_heap {w : World} {b : Nat} {o : Obj} (h : w.heap[b]? = some o) : b < w.heap.size := (Array.getElem?_eq_some_iff.1 h).1
theorem NsR.up {w wr : World} {R E i k : Nat} {t : ET (k + 1)} (hE : wr.heap[E]? = some (.cells t.1.cs 28 (0, 0))) (hv : EVs k wr t) (hav : AvV E t) (har : AvV R t) (hns : Nst k i t) (hr : wr.heap[R]? = some (.cells zE.cs 28 (0, 0))) (hb : Below w.heap.size w wr) (hwE : w.heap.size ≤ E) (hRE : R ≠ E) (m X Y : Nat) {W : World} (hW : Below wr.heap.size wr W) (hX : W.heap[X]? = some (.cells t.1.cs 28 (0, 0))) (hY : m = 3 → W.heap[Y]? = some (.cells #[.string ⟨#[120]⟩] 9 (0, 0))) (hXs : wr.heap.size ≤ X) (hYs : wr.heap.size ≤ Y) : NsR w R E (i + 1) (eight W E (nH m X Y)) := by
  have hEl := lt_of_heap hE
  have hRl := lt_of_heap hr
  refine ⟨⟨k + 1, nUp m X Y t, eight_new ((hW.block E hEl).trans hE) _, ?_, ?_, ?_, hns.up m X Y⟩, ?_, ?_⟩
  · exact ((hv.below (Nat.le_refl _) hW).up m X Y hX hY).oth (hav.up m X Y (by omega) (by omega)) (eight_oth W E _)
  · exact hav.up m X Y (by omega) (by omega)
  · exact har.up m X Y (by omega) (by omega)
  · exact (eight_heap W E _ hRE).trans ((hW.block R hRl).trans hr)
  · exact eight_below (hb.trans (hW.mono hb.size)) hwE _
theorem NsR.up2 {w wr : World} {R E i k : Nat} {t : ET (k + 1)} (hE : wr.heap[E]? = some (.cells t.1.cs 28 (0, 0))) (hv : EVs k wr t) (hav : AvV E t) (har : AvV R t) (hns : Nst k i t) (hr : wr.heap[R]? = some (.cells zE.cs 28 (0, 0))) (hb : Below w.heap.size w wr) (hwE : w.heap.size ≤ E) (hRE : R ≠ E) (m X Y : Nat) {W : World} (hW : Below wr.heap.size (eight wr E (nH m X Y)) W) (hX : W.heap[X]? = some (.cells t.1.cs 28 (0, 0))) (hY : m = 3 → W.heap[Y]? = some (.cells #[.string ⟨#[120]⟩] 9 (0, 0))) (hXs : wr.heap.size ≤ X) (hYs : wr.heap.size ≤ Y) : NsR w R E (i + 1) W := by
  have hEl := lt_of_heap hE
  have hRl := lt_of_heap hr
  have hz := eight_size wr E (nH m X Y)
  refine ⟨⟨k + 1, nUp m X Y t, (hW.block E hEl).trans (eight_new hE _), ?_, ?_, ?_, hns.up m X Y⟩, ?_, ?_⟩
  · exact ((hv.oth hav (eight_oth wr E _)).below (B := wr.heap.size) (by omega) hW).up m X Y hX hY
  · exact hav.up m X Y (by omega) (by omega)
  · exact har.up m X Y (by omega) (by omega)
  · exact (hW.block R hRl).trans ((eight_heap wr E _ hRE).trans hr)
  · exact (eight_below hb hwE _).trans (hW.mono hb.size)
end Go.Proofs.YtdfambocenohgaaGreatDoor

namespace Go.Proofs.YtdfambocenohgaaGreatDoor
open Go.RowKit Go.Deep
set_option linter.unusedVariables false
set_option linter.unusedSimpArgs false
attribute [local go_sem] Oper.semAt_some
set_option maxRecDepth 100000 in
set_option maxHeartbeats 1000000 in
theorem nested_any (w : World) (a : Option Addr) (n c : Nat) (xs : List Nat) (hn : n = xs.length) (hn6 : n ≤ 60) (hr : KU8 w a xs) :
    Calls Tryz.prog 23 #[.slice a n c] w fun e w' => ∃ (k : Nat) (t : ET (k + 1)), e = .returned (.tuple #[.agg t.1.cs, .int .i64 (n : Int)]) ∧ EVs k w' t ∧ Nst k n t ∧ Below w.heap.size w w' := by
  obtain ⟨R, hR⟩ : ∃ R, R = w.heap.size := ⟨_, rfl⟩
  obtain ⟨W0, hW0⟩ : ∃ W0, W0 = w.alloc (.cells zE.cs 28) := ⟨_, rfl⟩
  obtain ⟨W1, hW1⟩ : ∃ W1, W1 = W0.alloc (.cells n0.1.cs 28) := ⟨_, rfl⟩
  have b0 : Below w.heap.size w W0 := by rw [hW0]; exact (Below.refl _ w).alloc (Nat.le_refl _) _
  have b1' : Below W0.heap.size W0 W1 := by rw [hW1]; exact (Below.refl _ W0).alloc (Nat.le_refl _) _
  have b1 : Below w.heap.size w W1 := b0.trans (b1'.mono b0.size)
  have z0 : W0.heap.size = R + 1 := by rw [hW0, hR]; simp
  have m0 : W1.heap[R]? = some (.cells zE.cs 28 (0, 0)) := (b1'.block R (by omega)).trans (by rw [hW0, hR]; exact heap_alloc_new _ _)
  have m1 : W1.heap[R + 1]? = some (.cells n0.1.cs 28 (0, 0)) := by rw [← z0, hW1]; exact heap_alloc_new _ _
  have HS : Hid (NsR w R (R + 1) 0 W1) := hid ⟨⟨0, n0, m1, n0_vs _, n0_av _, n0_av _, n0_nst⟩, m0, b1⟩
  have HRw := hid hR
  have hnI : (n : Int) ≤ 60 := by omega
  have HN := hid hn
  have HR := hid hr
  simp only [n0, zE, emp, EH.cs] at hW0 hW1
  clear b0 b1' b1 m0 m1 hn hr
  go_enter Tryz.func23, Tryz.ntmps23
  go_upto_region 2 with fail
  rw [← hR, ← hW0, ← hW1]
  clear hW0 hW1 z0 hR
  go_wp2
  go_loopg [5] n (fun g x wr => ∃ i : Nat, i + g = n ∧ x = .int .i64 (i : Int) ∧ NsR w R (R + 1) i wr)
  case atStart => exact ⟨0, by omega, rfl, HS.out⟩
  case round =>
    obtain ⟨i, hi, rfl, hk⟩ := hrel
    cases gk with
    | zero =>
      have hin : i = n := by omega
      subst hin
      obtain ⟨⟨k, ⟨⟨b, o, kind, op, int, text, name, na, nn, nc, aa, an, ac, pos, names⟩, ts⟩, hE, hv, hav, har, hns⟩, hRb, hb⟩ := hk
      have q := cellT hE
      have q0 := q 0
      have q1 := q 1
      have q2 := q 2
      have q3 := q 3
      have q4 := q 4
      have q5 := q 5
      have q6 := q 6
      have q7 := q 7
      have s := cellT hRb
      have s0 := s 0
      have s1 := s 1
      have s2 := s 2
      have s3 := s 3
      have s4 := s 4
      have s5 := s 5
      have s6 := s 6
      have s7 := s 7
      have f0 := freeT hRb 0
      have f1 := freeT hRb 1
      have f2 := freeT hRb 2
      have f3 := freeT hRb 3
      have f4 := freeT hRb 4
      have f5 := freeT hRb 5
      have f6 := freeT hRb 6
      have f7 := freeT hRb 7
      simp only [EH.cs, zE, emp, List.getElem?_toArray, List.getElem?_cons_zero, List.getElem?_cons_succ] at q0 q1 q2 q3 q4 q5 q6 q7 s0 s1 s2 s3 s4 s5 s6 s7
      have HV := hid hv
      have HA := hid har
      have HNs := hid hns
      have HB := hid hb
      have HRb := hid hRb
      clear hi q hE hv hav har hns hRb hb s
      go_wp2
      have h8 := eight_new HRb.out ⟨b, o, kind, op, int, text, name, na, nn, nc, aa, an, ac, pos, names⟩
      have hb8 := eight_below HB.out (b := R) (by rw [HRw.out]; exact Nat.le_refl _) ⟨b, o, kind, op, int, text, name, na, nn, nc, aa, an, ac, pos, names⟩
      have hv8 := EVs.oth HV.out HA.out (eight_oth wr R ⟨b, o, kind, op, int, text, name, na, nn, nc, aa, an, ac, pos, names⟩)
      have z := cellT h8
      have z0 := z 0
      have z1 := z 1
      have z2 := z 2
      have z3 := z 3
      have z4 := z 4
      have z5 := z 5
      have z6 := z 6
      have z7 := z 7
      simp only [eight, EH.cs, List.getElem?_toArray, List.getElem?_cons_zero, List.getElem?_cons_succ] at z0 z1 z2 z3 z4 z5 z6 z7
      refine bodyPost_ret (v := .tuple #[.agg (EH.cs ⟨b, o, kind, op, int, text, name, na, nn, nc, aa, an, ac, pos, names⟩), .int .i64 (i : Int)]) (by simp [results, Tryz.results23, go_sem, z0, z1, z2, z3, z4, z5, z6, z7, EH.cs]) rfl ⟨k, (⟨b, o, kind, op, int, text, name, na, nn, nc, aa, an, ac, pos, names⟩, ts), rfl, hv8, HNs.out, hb8⟩
    | succ g =>
      obtain ⟨x, hx⟩ : ∃ x, xs[i]? = some x := ⟨xs[i]'(by have := HN.out; omega), List.getElem?_eq_getElem _⟩
      obtain ⟨⟨k, ⟨⟨b, o, kind, op, int, text, name, na, nn, nc, aa, an, ac, pos, names⟩, ts⟩, hE, hv, hav, har, hns⟩, hRb, hb⟩ := hk
      obtain ⟨hx2, ba, oa, rfl, hc⟩ := HR.out i x hx
      have hcx := belowCell hc (Nat.le_refl _) hb
      have hEl := lt_of_heap hE
      have q := cellT hE
      have q0 := q 0
      have q1 := q 1
      have q2 := q 2
      have q3 := q 3
      have q4 := q 4
      have q5 := q 5
      have q6 := q 6
      have q7 := q 7
      have f0 := freeT hE 0
      have f1 := freeT hE 1
      have f2 := freeT hE 2
      have f3 := freeT hE 3
      have f4 := freeT hE 4
      have f5 := freeT hE 5
      have f6 := freeT hE 6
      have f7 := freeT hE 7
      simp only [EH.cs, zE, emp, List.getElem?_toArray, List.getElem?_cons_zero, List.getElem?_cons_succ] at q0 q1 q2 q3 q4 q5 q6 q7
      have HV := hid hv
      have HAE := hid hav
      have HA := hid har
      have HNs := hid hns
      have HB := hid hb
      have HRb := hid hRb
      have HE := hid hE
      have hil : (i : Int) < (n : Int) := by omega
      have hi0 : (0 : Int) ≤ (i : Int) := by omega
      have hxI : (x : Int) < 256 := by omega
      have hx0 : (0 : Int) ≤ (x : Int) := by omega
      clear q hE hv hav har hns hRb hb hc hx hx2
      obtain ⟨u, m, hm, rfl⟩ : ∃ u m : Nat, m < 5 ∧ x = 5 * u + m := ⟨x / 5, x % 5, by omega, by omega⟩
      rcases (show m = 0 ∨ m = 1 ∨ m = 2 ∨ m = 3 ∨ m = 4 by omega) with rfl | rfl | rfl | rfl | rfl
      · have hr5 : ((5 * u + 0 : Nat) : Int) % 5 = 0 := by omega
        go_wp2
        go_roundg g
        case measure => omega
        refine ⟨i + 1, by omega, by go_num, NsR.up2 HE.out HV.out HAE.out HA.out HNs.out HRb.out HB.out (by have := HRw.out; omega) (by omega) 0 wr.heap.size wr.heap.size ?_ ?_ ?_ ?_ ?_⟩
        · exact (Below.refl _ _).alloc (by rw [eight_size]; exact Nat.le_refl _) _
        · have := heap_alloc_new (eight wr (R + 1) (nH 0 wr.heap.size wr.heap.size)) (.cells (EH.cs ⟨b, o, kind, op, int, text, name, na, nn, nc, aa, an, ac, pos, names⟩) 28)
          rw [eight_size] at this
          exact this
        · intro h; cases h
        · exact Nat.le_refl _
        · exact Nat.le_refl _
      · have hr5 : ((5 * u + 1 : Nat) : Int) % 5 = 1 := by omega
        go_wp2
        go_roundg g
        case measure => omega
        refine ⟨i + 1, by omega, by go_num, NsR.up2 HE.out HV.out HAE.out HA.out HNs.out HRb.out HB.out (by have := HRw.out; omega) (by omega) 1 wr.heap.size wr.heap.size ?_ ?_ ?_ ?_ ?_⟩
        · exact (Below.refl _ _).alloc (by rw [eight_size]; exact Nat.le_refl _) _
        · have := heap_alloc_new (eight wr (R + 1) (nH 1 wr.heap.size wr.heap.size)) (.cells (EH.cs ⟨b, o, kind, op, int, text, name, na, nn, nc, aa, an, ac, pos, names⟩) 28)
          rw [eight_size] at this
          exact this
        · intro h; cases h
        · exact Nat.le_refl _
        · exact Nat.le_refl _
      · have hr5 : ((5 * u + 2 : Nat) : Int) % 5 = 2 := by omega
        go_wp2
        go_roundg g
        case measure => omega
        refine ⟨i + 1, by omega, by go_num, NsR.up2 HE.out HV.out HAE.out HA.out HNs.out HRb.out HB.out (by have := HRw.out; omega) (by omega) 2 wr.heap.size wr.heap.size ?_ ?_ ?_ ?_ ?_⟩
        · exact (Below.refl _ _).alloc (by rw [eight_size]; exact Nat.le_refl _) _
        · have := heap_alloc_new (eight wr (R + 1) (nH 2 wr.heap.size wr.heap.size)) (.cells (EH.cs ⟨b, o, kind, op, int, text, name, na, nn, nc, aa, an, ac, pos, names⟩) 28)
          rw [eight_size] at this
          exact this
        · intro h; cases h
        · exact Nat.le_refl _
        · exact Nat.le_refl _
      · have hr5 : ((5 * u + 3 : Nat) : Int) % 5 = 3 := by omega
        have hEl2 : R + 1 < wr.heap.size + 1 := by omega
        have hEl3 : ¬ R + 1 = wr.heap.size := by omega
        have hEl4 : ¬ R + 1 = wr.heap.size + 1 := by omega
        go_wp2
        go_roundg g
        case measure => omega
        refine ⟨i + 1, by omega, by go_num, NsR.up2 HE.out HV.out HAE.out HA.out HNs.out HRb.out HB.out (by have := HRw.out; omega) (by omega) 3 (wr.heap.size + 1) wr.heap.size ?_ ?_ ?_ ?_ ?_⟩
        · exact ((Below.refl _ _).alloc (by rw [eight_size]; exact Nat.le_refl _) _).alloc (by rw [World.size_alloc, eight_size]; omega) _
        · have := heap_alloc_new ((eight wr (R + 1) (nH 3 (wr.heap.size + 1) wr.heap.size)).alloc (.cells #[.string ⟨#[120]⟩] 9)) (.cells (EH.cs ⟨b, o, kind, op, int, text, name, na, nn, nc, aa, an, ac, pos, names⟩) 28)
          rw [World.size_alloc, eight_size] at this
          exact this
        · intro _
          have := heap_alloc_new (eight wr (R + 1) (nH 3 (wr.heap.size + 1) wr.heap.size)) (.cells #[.string ⟨#[120]⟩] 9)
          rw [eight_size] at this
          exact (Below.heap_alloc ((eight wr (R + 1) (nH 3 (wr.heap.size + 1) wr.heap.size)).alloc (.cells #[.string ⟨#[120]⟩] 9)) _ _ (by rw [World.size_alloc, eight_size]; omega)).trans this
        · omega
        · exact Nat.le_refl _
      · have hr5 : ((5 * u + 4 : Nat) : Int) % 5 = 4 := by omega
        go_wp2
        go_roundg g
        case measure => omega
        refine ⟨i + 1, by omega, by go_num, NsR.up2 HE.out HV.out HAE.out HA.out HNs.out HRb.out HB.out (by have := HRw.out; omega) (by omega) 4 wr.heap.size wr.heap.size ?_ ?_ ?_ ?_ ?_⟩
        · exact (Below.refl _ _).alloc (by rw [eight_size]; exact Nat.le_refl _) _
        · have := heap_alloc_new (eight wr (R + 1) (nH 4 wr.heap.size wr.heap.size)) (.cells (EH.cs ⟨b, o, kind, op, int, text, name, na, nn, nc, aa, an, ac, pos, names⟩) 28)
          rw [eight_size] at this
          exact this
        · intro h; cases h
        · exact Nat.le_refl _
        · exact Nat.le_refl _
end Go.Proofs.YtdfambocenohgaaGreatDoor

namespace Go.Proofs.YtdfambocenohgaaGreatDoor
open Go.RowKit Go.Deep
set_option linter.unusedVariables false
set_option linter.unusedSimpArgs false
/- A truth, as a condition. -/
def lE (j X : Nat) : ET (j + 1) := ({ zE with b := X, kind := 3, int := 1 }, [])
def oS (X S : Nat) : SH := { zS with b := S, kind := 13, aa := some ⟨X, 0, none⟩, an := 1, ac := 1 }
def wS (X S B : Nat) : SH := { zS with b := S, kind := 6, aa := some ⟨X, 0, none⟩, an := 1, ac := 1, ba := some ⟨B, 0, none⟩, bn := 1, bc := 1 }
def bS0 {k : Nat} (t : ET (k + 1)) (X S : Nat) : ST (k + 2) := (oS X S, [eAtB t X 0], [], [])
def bUp {j : Nat} (s : ST (j + 2)) (X S B : Nat) : ST (j + 3) := (wS X S B, [lE (j + 1) X], [s], [])
theorem lb_emp : lbB emp = [] := by kernel_rfl
theorem rs_emp : rsB emp = [] := by kernel_rfl
theorem lE_right (X : Nat) : rightE { zE with b := X, kind := 3, int := 1 } = true := by kernel_rfl
theorem oS_right (X S : Nat) : rightS (oS X S) = true := by kernel_rfl
theorem wS_right (X S B : Nat) : rightS (wS X S B) = true := by kernel_rfl
theorem lE_ok (j X : Nat) : okAll (j + 1) (lE j X) := by
  intro p hq
  rcases List.mem_cons.1 hq with rfl | hq
  · exact lE_right X
  · exact mem_0 hq
structure Bod (j i n : Nat) (s : ST (j + 2)) : Prop where
  ok : okSt (j + 2) s
  rp : ∀ p ∈ ptS (j + 2) s, rightP p = true
  dp : dpS (j + 2) s = i + n
  lo : n < (prS (j + 2) s).length
  hi : (prS (j + 2) s).length ≤ 20 * n + 40 * i + 40
  sz : cnt (ptS (j + 2) s) = 2 * i + n + 2
  le : (ptS (j + 2) s).length = 2 * i + n + 2
theorem cnt_r (x : Sum SH EH) (l : List Part) : cnt (.inr x :: l) = cnt l + 1 := rfl
theorem Bod.zero {k n : Nat} {t : ET (k + 1)} (h : Nst k n t) (X S : Nat) : Bod k 0 n (bS0 t X S) := by
  have e1 : prS (k + 2) (bS0 t X S) = catL [sDo] ++ prE (k + 1) t ++ [59] := rfl
  have e2 : ptS (k + 2) (bS0 t X S) = .inr (.inl (oS X S)) :: (.inr (.inr { t.1 with b := X, o := 0 }) :: (ptE (k + 1) t).tail) := by
    show .inr (.inl (oS X S)) :: ([eAtB t X 0].flatMap (ptE (k + 1)) ++ ([] ++ [])) = _
    simp only [List.flatMap_cons, List.flatMap_nil, List.append_nil]
    rfl
  have e4 : ptE (k + 1) t = .inr (.inr t.1) :: (ptE (k + 1) t).tail := rfl
  have ew : (catL [sDo]).length = 3 := rfl
  have hlo := h.lo
  have hhi := h.hi
  have hsz := h.sz
  have hle := h.le
  rw [e4, cnt_r] at hsz
  rw [e4, List.length_cons] at hle
  refine ⟨⟨oS_right X S, ⟨of_decide_eq_true rfl, of_decide_eq_true rfl⟩, fun u hu => ?_, fun u hu => mem_0 hu, fun u hu => mem_0 hu⟩, ?_, ?_, ?_, ?_, ?_, ?_⟩
  · obtain rfl := mem_1 hu
    exact okAll_at h.ok X 0
  · intro p hp
    rcases List.mem_cons.1 hp with rfl | hp
    · exact oS_right X S
    · rcases List.mem_append.1 hp with hp | hp
      · obtain ⟨u, hu, hp⟩ := List.mem_flatMap.1 hp
        obtain rfl := mem_1 hu
        exact okAll_at h.ok X 0 p hp
      · exact mem_0 hp
  · have : dpS (k + 2) (bS0 t X S) = dpE (k + 1) t := rfl
    rw [this, h.dp]; omega
  · rw [e1]; simp only [List.length_append, ew, List.length_cons, List.length_nil]; omega
  · rw [e1]; simp only [List.length_append, ew, List.length_cons, List.length_nil]; omega
  · rw [e2, cnt_r, cnt_r]; omega
  · rw [e2]; simp only [List.length_cons]; omega
theorem Bod.up {j i n : Nat} {s : ST (j + 2)} (h : Bod j i n s) (X S B : Nat) : Bod (j + 1) (i + 1) n (bUp s X S B) := by
  have e1 : prS (j + 3) (bUp s X S B) = [] ++ catL [sWhile] ++ [116, 114, 117, 101] ++ bkB [prS (j + 2) s] := by
    have h0 : prS (j + 3) (bUp s X S B) = lbB emp ++ catL [sWhile] ++ [116, 114, 117, 101] ++ bkB [prS (j + 2) s] := rfl
    rw [h0, lb_emp]
  have e2 : ptS (j + 3) (bUp s X S B) = .inr (.inl (wS X S B)) :: (.inr (.inr { zE with b := X, kind := 3, int := 1 }) :: ptS (j + 2) s) := by
    show .inr (.inl (wS X S B)) :: ([lE (j + 1) X].flatMap (ptE (j + 2)) ++ ([s].flatMap (ptS (j + 2)) ++ [])) = _
    simp only [List.flatMap_cons, List.flatMap_nil, List.append_nil]
    rfl
  have ew : (catL [sWhile]).length = 6 := rfl
  have eb : (bkB [prS (j + 2) s]).length = (prS (j + 2) s).length + 5 := by simp [bkB]
  have hlo := h.lo
  have hhi := h.hi
  refine ⟨⟨wS_right X S B, ⟨of_decide_eq_true rfl, of_decide_eq_true rfl⟩, fun u hu => ?_, fun u hu => ?_, fun u hu => mem_0 hu⟩, ?_, ?_, ?_, ?_, ?_, ?_⟩
  · obtain rfl := mem_1 hu
    exact lE_ok _ _
  · obtain rfl := mem_1 hu
    exact h.ok
  · intro p hp
    rw [e2] at hp
    rcases List.mem_cons.1 hp with rfl | hp
    · exact wS_right X S B
    · rcases List.mem_cons.1 hp with rfl | hp
      · exact lE_right X
      · exact h.rp p hp
  · have : dpS (j + 3) (bUp s X S B) = max 0 (1 + max (dpS (j + 2) s) 0) := rfl
    rw [this, h.dp]; omega
  · rw [e1]; simp only [List.length_append, ew, eb, List.length_cons, List.length_nil]; omega
  · rw [e1]; simp only [List.length_append, ew, eb, List.length_cons, List.length_nil]; omega
  · rw [e2, cnt_r, cnt_r, h.sz]; omega
  · rw [e2]; simp only [List.length_cons, h.le]; omega
/- As they lie: a row of one statement in block S. -/
theorem bS0_rd {k : Nat} {w : World} {t : ET (k + 1)} (d : EVs k w t) {X S : Nat} (hX : w.heap[X]? = some (.cells t.1.cs 28 (0, 0))) (hS : w.heap[S]? = some (.cells (oS X S).cs 49 (0, 0))) : SRds (k + 2) w (bS0 t X S) := by
  have c := cellT hS
  refine ⟨⟨c 0, c 1, c 2, c 3, c 4, c 5, c 6, c 7, of_decide_eq_true rfl, of_decide_eq_true rfl, of_decide_eq_true rfl, of_decide_eq_true rfl, of_decide_eq_true rfl, of_decide_eq_true rfl⟩, ⟨rfl, rfl, rfl⟩, ⟨lies_1 rfl, lies_0, lies_0⟩, fun u hu => ?_, fun u hu => mem_0 hu, fun u hu => mem_0 hu⟩
  obtain rfl := mem_1 hu
  exact d.box hX
theorem bUp_rd {j : Nat} {w : World} {s : ST (j + 2)} (d : SRds (j + 2) w s) {X S B : Nat} (hB : sAt (j + 2) s = (B, 0)) (hX : w.heap[X]? = some (.cells ({ zE with b := X, kind := 3, int := 1 } : EH).cs 28 (0, 0))) (hS : w.heap[S]? = some (.cells (wS X S B).cs 49 (0, 0))) : SRds (j + 3) w (bUp s X S B) := by
  have c := cellT hS
  have q := cellT hX
  refine ⟨⟨c 0, c 1, c 2, c 3, c 4, c 5, c 6, c 7, of_decide_eq_true rfl, of_decide_eq_true rfl, of_decide_eq_true rfl, of_decide_eq_true rfl, of_decide_eq_true rfl, of_decide_eq_true rfl⟩, ⟨rfl, rfl, rfl⟩, ⟨lies_1 rfl, lies_1 hB, lies_0⟩, fun u hu => ?_, fun u hu => ?_, fun u hu => mem_0 hu⟩
  · obtain rfl := mem_1 hu
    exact ⟨⟨q 0, q 1, q 2, q 3, q 4, q 5, q 6, q 7, of_decide_eq_true rfl, of_decide_eq_true rfl, of_decide_eq_true rfl, of_decide_eq_true rfl, rfl, of_decide_eq_true rfl, fun s h => mem_0 h, sls_0, of_decide_eq_true rfl⟩, rfl, lies_0, fun u hu => mem_0 hu⟩
  · obtain rfl := mem_1 hu
    exact d
/- The tree of one event. -/
def nD (B Y : Nat) : DH := { zD with b := Y, name := ⟨#[101]⟩, ba := some ⟨B, 0, none⟩, bn := 1, bc := 1 }
def nT {j : Nat} (s : ST (j + 2)) (B Y : Nat) : TT (j + 2) := { h := { b := 0, o := 0, ra := none, rn := 0, rc := 0, ma := none, mn := 0, mc := 0, fa := none, fn := 0, fc := 0, ea := some ⟨Y, 0, none⟩, en := 1, ec := 1 }, rs := [], ms := [], fs := [], es := [(nD B Y, [s])] }
theorem nD_right (B Y : Nat) : rightD (nD B Y) = true := by kernel_rfl
theorem nT_vs {j : Nat} {w : World} {s : ST (j + 2)} (d : SRds (j + 2) w s) {B Y : Nat} (hB : sAt (j + 2) s = (B, 0)) (hd : w.heap[Y]? = some (.cells (nD B Y).cs 52 (0, 0))) : TVs (j + 2) w (nT s B Y) := by
  have q := cellT hd
  refine ⟨dls_0, dls_0, dls_0, ⟨rfl, lies_1 rfl, ?_, ?_⟩, of_decide_eq_true rfl, of_decide_eq_true rfl, of_decide_eq_true rfl, of_decide_eq_true rfl⟩
  · intro u hu
    obtain rfl := mem_1 hu
    refine ⟨⟨q 0, q 1, q 2, q 3, q 4, q 5, q 6, of_decide_eq_true rfl, of_decide_eq_true rfl, of_decide_eq_true rfl, of_decide_eq_true rfl, rfl, of_decide_eq_true rfl, fun s h => mem_0 h, pls_0, of_decide_eq_true rfl⟩, rfl, lies_1 hB, ?_⟩
    intro u hu
    obtain rfl := mem_1 hu
    exact d
  · intro u hu
    obtain rfl := mem_1 hu
    rfl
theorem nT_tr {j i n : Nat} {s : ST (j + 2)} (h : Bod j i n s) (B Y : Nat) : okTr (j + 2) (nT s B Y) := by
  refine ⟨fun u hu => mem_0 hu, fun u hu => mem_0 hu, fun u hu => mem_0 hu, ?_⟩
  intro u hu
  obtain rfl := mem_1 hu
  intro v hv
  obtain rfl := mem_1 hv
  exact h.ok
theorem nT_in {j : Nat} (s : ST (j + 2)) (B Y : Nat) : inT (nT s B Y) = .inl (.inr (nD B Y)) :: ptS (j + 2) s := by
  show [] ++ ([] ++ ([] ++ [((nD B Y, [s]) : DT (j + 2))].flatMap ptD)) = _
  rw [List.nil_append, List.nil_append, List.nil_append]
  have h : ∀ u : DT (j + 2), [u].flatMap ptD = ptD u := fun u => by simp
  have h2 : ptD (k := j + 2) (nD B Y, [s]) = .inl (.inr (nD B Y)) :: ptS (j + 2) s := by
    show .inl (.inr (nD B Y)) :: [s].flatMap (ptS (j + 2)) = _
    rw [List.flatMap_singleton]
  exact (h (nD B Y, [s])).trans h2
theorem nT_okT {j i n : Nat} {s : ST (j + 2)} (h : Bod j i n s) (B Y : Nat) : okT (nT s B Y) = true := by
  have e : rightT (nT s B Y).h = true := rfl
  unfold okT
  rw [e, Bool.true_and, nT_in, List.all_cons, List.all_eq_true.2 h.rp, Bool.and_true]
  exact nD_right B Y
theorem nT_dp {j i n : Nat} {s : ST (j + 2)} (h : Bod j i n s) (B Y : Nat) : dpT (j + 2) (nT s B Y) = 1 + i + n := by
  have : dpT (j + 2) (nT s B Y) = max (max (max 0 0) 0) (max (1 + max (dpS (j + 2) s) 0) 0) := rfl
  rw [this, h.dp]; omega
theorem nT_cnt {j i n : Nat} {s : ST (j + 2)} (h : Bod j i n s) (B Y : Nat) : cnt (inT (nT s B Y)) = 2 * i + n + 2 := by
  rw [nT_in, ← h.sz]; rfl
theorem nT_len {j i n : Nat} {s : ST (j + 2)} (h : Bod j i n s) (B Y : Nat) : (inT (nT s B Y)).length = 2 * i + n + 3 := by
  rw [nT_in, List.length_cons, h.le]
theorem nT_pr {j i n : Nat} {s : ST (j + 2)} (h : Bod j i n s) (B Y : Nat) : n < (prT (j + 2) (nT s B Y)).length ∧ (prT (j + 2) (nT s B Y)).length ≤ 20 * n + 40 * i + 60 := by
  have e : prT (j + 2) (nT s B Y) = [] ++ [] ++ [] ++ ((catL [wOn, sSp, ⟨#[101]⟩] ++ catL [sPar] ++ [] ++ [41] ++ [] ++ bkB [prS (j + 2) s] ++ [10]) ++ []) := by
    have h0 : prT (j + 2) (nT s B Y) = [] ++ [] ++ [] ++ ((catL [wOn, sSp, ⟨#[101]⟩] ++ catL [sPar] ++ [] ++ [41] ++ rsB emp ++ bkB [prS (j + 2) s] ++ [10]) ++ []) := rfl
    rw [h0, rs_emp]
  have ew : (catL [wOn, sSp, ⟨#[101]⟩]).length = 4 := rfl
  have ew2 : (catL [sPar]).length = 1 := rfl
  have eb : (bkB [prS (j + 2) s]).length = (prS (j + 2) s).length + 5 := by simp [bkB]
  have hlo := h.lo
  have hhi := h.hi
  rw [e]
  simp only [List.length_append, ew, ew2, eb, List.length_cons, List.length_nil]
  omega
end Go.Proofs.YtdfambocenohgaaGreatDoor

