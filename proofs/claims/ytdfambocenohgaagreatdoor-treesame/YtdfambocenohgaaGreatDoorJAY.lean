/- TreeSame: for every two trees the call returns true. -/
import Derived.Test.YtdfambocenohgaaGreatDoorJAX
import Derived.Test.YtdfambocenohgaaGreatDoorTie
import Derived.Test.YtdfambocenohgaaGreatDoorCards
import Derived.LaidSub
import Derived.LaidLaws
import Derived.LaidHandle
import Derived.Shelf.Vars
import Derived.Lib.LaidTab
import Derived.Handed
import Derived.ChangeSame
import Derived.ChangeAt
import Derived.OpenShut
import Derived.ProofKit
import Derived.ChangeMaps5
import Derived.ChangeOld
import Derived.ChangeVars
import Derived.JoinedOf
import Derived.RowKit
import Derived.RowKitTokens
import Derived.SevenTiedAt
import Derived.Deep.Slices
import GoSem.PinnedTables
namespace Go.Proofs.YtdfambocenohgaaGreatDoor
open Go.RowKit Go.Deep
set_option linter.unusedVariables false
set_option linter.unusedSimpArgs false
attribute [local go_sem] Oper.semAt_some
set_option maxRecDepth 100000 in
set_option maxHeartbeats 1000000 in
theorem print_any (k : Nat) (w : World) (t : TT k) (d : TVs k w t) (hok : okTr k t) (hall : okT t = true) (hE : EnvT w) (hl : (prT k t).length ≤ 900000000) (hne : prT k t ≠ []) (ho : dpT k t ≤ 900000000) :
    Calls Tryz.prog 9 #[.agg t.h.cs] w fun e w' => e = .returned (.tuple #[.string ⟨(prT k t).toArray⟩, .int .i64 0]) ∧ Below w.heap.size w w' := by
  obtain ⟨W, hW⟩ : ∃ W, W = w.alloc (.cells t.h.cs 24) := ⟨_, rfl⟩
  have hbw : Below w.heap.size w W := by rw [hW]; exact (Below.refl _ w).alloc (Nat.le_refl _) _
  have hb : W.heap[w.heap.size]? = some (.cells t.h.cs 24 (0, 0)) := by rw [hW]; exact heap_alloc_new _ _
  have dW := d.below (Nat.le_refl _) hbw
  have dB := dW.box hb
  have K1 := hid (printed_of W (.inl (.inl (t.atB w.heap.size).h)) (ptT (t.atB w.heap.size)) (fun w1 h1 => whole_tree (dB.below (Nat.le_refl _) h1)) (ptT_ok dW _) ((okT_at t _).trans hall) (hE.below hbw) (prT k t) (dpT k t) (fun w1 h1 hs hp => (wholeTree_any k W (t.atB w.heap.size) dB ⟨hok.rs, hok.ms, hok.fs, hok.es⟩ W.heap.size W.heap.size [] 0 0 w1 (hE.below hbw) (Nat.le_refl _) h1 hs hp (by show 0 + (prT k t).length ≤ _; omega) (by show 0 + dpT k t ≤ _; omega) (by omega) (by omega)).mono (fun e w' h' => ⟨h'.1, h'.2.1.eq rfl (show max 0 (0 + dpT k t) = dpT k t by omega), h'.2.2⟩)))
  have HW := hid hbw
  simp only [TT.atB, labP] at K1
  simp only [TH.cs] at hW ⊢
  have K2 := hid (fun (w1 : World) (hp : Prn w1 W.heap.size W.heap.size (prT k t) 0 (dpT k t)) => string_any w1 _ _ _ _ _ hp hne)
  clear d hok hall hE hl hne ho hbw hb dW dB
  go_enter Tryz.func9, Tryz.ntmps9
  go_wp2_with (first
    | (go_at_call 25; (rw [← hW]; refine (Hid.out K1).mono ?_; rintro e w1 ⟨rfl, hp1, hb1⟩; have K2' := hid (K2.out w1 hp1); have HB := hid hb1; clear hp1 hb1 hW))
    | (go_at_call 26; (refine (Hid.out K2').mono ?_; rintro e w2 ⟨rfl, hb2⟩)))
  go_ret2
  exact ⟨rfl, HW.out.trans ((HB.out.trans hb2).mono HW.out.size)⟩
end Go.Proofs.YtdfambocenohgaaGreatDoor

namespace Go.Proofs.YtdfambocenohgaaGreatDoor
open Go.RowKit Go.Deep
set_option linter.unusedVariables false
set_option linter.unusedSimpArgs false
attribute [local go_sem] Oper.semAt_some
/- An expression that is handed over, wherever it lies. -/
structure EVh (w : World) (h : EH) : Prop where
  i0 : -9223372036854775808 ≤ h.int
  i1 : h.int ≤ 9223372036854775807
  t : h.text.size ≤ 9223372036854775807
  n : h.name.size ≤ 9223372036854775807
  nl : h.nn = h.names.length
  nb : h.nn ≤ 1000000
  ns : ∀ s ∈ h.names, s.size ≤ 9223372036854775807
  nr : SLs w h.na h.names
  ab : h.an ≤ 1000000
structure EVs (k : Nat) (w : World) (t : ET (k + 1)) : Prop where
  h : EVh w t.1
  n : t.1.an = t.2.length
  l : LiesAt 8 t.1.aa (eAt k) t.2
  e : ∀ u ∈ t.2, ERd k w u
theorem EVs.below {k : Nat} {w w' : World} {t : ET (k + 1)} {B : Nat} (d : EVs k w t) (hB : w.heap.size ≤ B) (h : Below B w w') : EVs k w' t :=
  ⟨⟨d.h.i0, d.h.i1, d.h.t, d.h.n, d.h.nl, d.h.nb, d.h.ns, d.h.nr.below hB h, d.h.ab⟩, d.n, d.l, fun u hu => ERd.below k (d.e u hu) hB h⟩
def eAtB {k : Nat} (t : ET (k + 1)) (M o : Nat) : ET (k + 1) := ({ t.1 with b := M, o := o }, t.2)
theorem EVs.at {k : Nat} {W : World} {t : ET (k + 1)} {M o : Nat} (d : EVs k W t) (c : ∀ j, j < 8 → W.cell? ⟨M, o + j, none⟩ = t.1.cs[j]?) : ERd (k + 1) W (eAtB t M o) :=
  ⟨⟨c 0 (by omega), c 1 (by omega), c 2 (by omega), c 3 (by omega), c 4 (by omega), c 5 (by omega), c 6 (by omega), c 7 (by omega), d.h.i0, d.h.i1, d.h.t, d.h.n, d.h.nl, d.h.nb, d.h.ns, d.h.nr, d.h.ab⟩, d.n, d.l, d.e⟩
theorem EVs.box {k : Nat} {W : World} {t : ET (k + 1)} {M : Nat} (d : EVs k W t) (hb : W.heap[M]? = some (.cells t.1.cs 28 (0, 0))) : ERd (k + 1) W (eAtB t M 0) := d.at fun j _ => by rw [Nat.zero_add]; exact cellT hb j
theorem okAll_at {k : Nat} {t : ET (k + 1)} (h : okAll (k + 1) t) (M o : Nat) : okAll (k + 1) (eAtB t M o) := by
  intro p hp
  rcases List.mem_cons.1 hp with rfl | hp
  · exact h (.inr (.inr t.1)) (List.mem_cons_self ..)
  · exact h p (List.mem_cons_of_mem _ hp)
theorem ptE_ok : ∀ (k : Nat) (t : ET k), ∀ p ∈ ptE k t, PartOk p
  | 0, t => Empty.elim t
  | k + 1, t => fun p hp => by
    rcases List.mem_cons.1 hp with rfl | hp
    · trivial
    · obtain ⟨u, hu, hp⟩ := List.mem_flatMap.1 hp
      exact ptE_ok k u p hp
set_option maxRecDepth 100000 in
set_option maxHeartbeats 1000000 in
theorem exprText_any (k : Nat) (w : World) (t : ET (k + 1)) (d : EVs k w t) (hok : okAll (k + 1) t) (hE : EnvT w) (hl : (prE (k + 1) t).length ≤ 900000000) (hne : prE (k + 1) t ≠ []) (ho : dpE (k + 1) t ≤ 900000000) :
    Calls Tryz.prog 11 #[.agg t.1.cs] w fun e w' => e = .returned (.tuple #[.string ⟨(prE (k + 1) t).toArray⟩, .int .i64 0]) ∧ Below w.heap.size w w' := by
  obtain ⟨W, hW⟩ : ∃ W, W = w.alloc (.cells t.1.cs 28) := ⟨_, rfl⟩
  have hbw : Below w.heap.size w W := by rw [hW]; exact (Below.refl _ w).alloc (Nat.le_refl _) _
  have hb : W.heap[w.heap.size]? = some (.cells t.1.cs 28 (0, 0)) := by rw [hW]; exact heap_alloc_new _ _
  have dB := (d.below (Nat.le_refl _) hbw).box hb
  have hoB := okAll_at hok w.heap.size 0
  have K1 := hid (printed_of W (.inr (.inr (eH (k + 1) (eAtB t w.heap.size 0)))) (ptE (k + 1) (eAtB t w.heap.size 0)) (fun w1 h1 => whole_expr (ERd.below (k + 1) dB (Nat.le_refl _) h1)) (ptE_ok _ _) (List.all_eq_true.2 hoB) (hE.below hbw) (prE (k + 1) t) (dpE (k + 1) t) (fun w1 h1 hs hp => (wholeExpr_any (k + 1) W (eAtB t w.heap.size 0) dB hoB W.heap.size W.heap.size [] 0 0 w1 (hE.below hbw) (Nat.le_refl _) h1 hs hp (by show 0 + (prE (k + 1) t).length ≤ _; omega) (by show 0 + dpE (k + 1) t ≤ _; omega) (by omega) (by omega)).mono (fun e w' h' => ⟨h'.1, h'.2.1.eq rfl (show max 0 (0 + dpE (k + 1) t) = dpE (k + 1) t by omega), h'.2.2⟩)))
  have HW := hid hbw
  simp only [eAtB, eH, labP] at K1
  have K2 := hid (fun (w1 : World) (hp : Prn w1 W.heap.size W.heap.size (prE (k + 1) t) 0 (dpE (k + 1) t)) => string_any w1 _ _ _ _ _ hp hne)
  generalize prE (k + 1) t = L at *
  generalize dpE (k + 1) t = D at *
  simp only [EH.cs] at hW ⊢
  clear d hok hE hl hne ho hbw hb dB hoB
  go_enter Tryz.func11, Tryz.ntmps11
  go_wp2_with (first
    | (go_at_call 25; (rw [← hW]; refine (Hid.out K1).mono ?_; rintro e w1 ⟨rfl, hp1, hb1⟩; have K2' := hid (K2.out w1 hp1); have HB := hid hb1; clear hp1 hb1 hW))
    | (go_at_call 26; (refine (Hid.out K2').mono ?_; rintro e w2 ⟨rfl, hb2⟩)))
  go_ret2
  exact ⟨rfl, HW.out.trans ((HB.out.trans hb2).mono HW.out.size)⟩
end Go.Proofs.YtdfambocenohgaaGreatDoor

namespace Go.Proofs.YtdfambocenohgaaGreatDoor
open Go.RowKit Go.Deep
set_option linter.unusedVariables false
set_option linter.unusedSimpArgs false

def zE : EH := { b := 0, o := 0, kind := 0, op := 0, int := 0, text := emp, name := emp, na := none, nn := 0, nc := 0, aa := none, an := 0, ac := 0, pos := 0, names := [] }
def zS : SH := { b := 0, o := 0, kind := 0, name := emp, label := emp, var := emp, aa := none, an := 0, ac := 0, ba := none, bn := 0, bc := 0, ea := none, en := 0, ec := 0, pos := 0 }
def zD : DH := { sort := wOn, b := 0, o := 0, name := emp, pa := none, pn := 0, pc := 0, key := emp, value := emp, result := emp, ba := none, bn := 0, bc := 0, pos := 0, params := [] }
def kE (X : Nat) : ET 2 := ({ zE with kind := 5, op := 18, aa := some ⟨X, 0, none⟩, an := 1, ac := 1 }, [({ zE with b := X, kind := 1, int := 1 }, [])])
theorem kE_dp (X : Nat) : dpE 2 (kE X) = 2 := by rfl
theorem itoa1 : Lib.itoa 1 = [49] := by kernel_rfl
theorem kE_pr (X : Nat) : prE 2 (kE X) = [45, 32, 40, 49, 41] := by
  have e : prE 1 (({ zE with b := X, kind := 1, int := 1 }, []) : ET 1) = [49] := itoa1
  show unB (kE X).1 { zE with b := X, kind := 1, int := 1 } (prE 1 (({ zE with b := X, kind := 1, int := 1 }, []) : ET 1)) = _
  rw [e]; rfl
theorem kE_ok (X : Nat) : okAll 2 (kE X) := by
  intro p hp
  rcases List.mem_cons.1 hp with rfl | hp
  · rfl
  · obtain ⟨u, hu, hp⟩ := List.mem_flatMap.1 hp
    rcases List.mem_cons.1 hu with rfl | hu
    · rcases List.mem_cons.1 hp with rfl | hp
      · rfl
      · exact absurd hp (by simp)
    · exact absurd hu (by simp)
/- The tree with one break. -/
def kS (X : Nat) : ST 1 := ({ zS with b := X, kind := 8, name := ⟨#[120]⟩ }, [], [], [])
def kT (X Y : Nat) : TT 1 := { h := { b := 0, o := 0, ra := none, rn := 0, rc := 0, ma := none, mn := 0, mc := 0, fa := none, fn := 0, fc := 0, ea := some ⟨Y, 0, none⟩, en := 1, ec := 1 }, rs := [], ms := [], fs := [], es := [({ zD with b := Y, name := ⟨#[101]⟩, ba := some ⟨X, 0, none⟩, bn := 1, bc := 1 }, [kS X])] }
theorem kT_pr (X Y : Nat) : prT 1 (kT X Y) = [111, 110, 32, 101, 40, 41, 32, 123, 32, 98, 114, 101, 97, 107, 32, 120, 59, 32, 125, 10] := by kernel_rfl
theorem kT_dp (X Y : Nat) : dpT 1 (kT X Y) = 1 := by rfl
theorem kT_cnt (X Y : Nat) : cnt (inT (kT X Y)) = 1 := by rfl
theorem kT_okT (X Y : Nat) : okT (kT X Y) = true := by kernel_rfl
end Go.Proofs.YtdfambocenohgaaGreatDoor

namespace Go.Proofs.YtdfambocenohgaaGreatDoor
open Go.RowKit Go.Deep
set_option linter.unusedVariables false
set_option linter.unusedSimpArgs false
theorem mem_1 {α : Type} {a u : α} (h : u ∈ [a]) : u = a := by simpa using h
theorem mem_0 {α : Type} {p : Prop} {u : α} (h : u ∈ ([] : List α)) : p := by simp at h
theorem at_1 {α : Type} {a u : α} {j : Nat} (h : [a][j]? = some u) : j = 0 ∧ u = a := by
  cases j with
  | zero => exact ⟨rfl, by simpa using h.symm⟩
  | succ j => simp at h
theorem lies_0 {α : Type} {z : Nat} {a : Option Addr} {at' : α → Nat × Nat} : LiesAt z a at' [] := fun j t h => by simp at h
theorem lies_1 {α : Type} {z X : Nat} {at' : α → Nat × Nat} {t : α} (h : at' t = (X, 0)) : LiesAt z (some ⟨X, 0, none⟩) at' [t] := fun j u hj => by
  obtain ⟨rfl, rfl⟩ := at_1 hj
  exact ⟨X, 0, rfl, by rw [h, Nat.zero_mul]⟩
theorem sls_0 {w : World} {a : Option Addr} : SLs w a [] := by intro j s h; simp at h
theorem pls_0 {w : World} {a : Option Addr} : PLs w a [] := by intro j s h; simp at h
theorem kE_vs {w : World} {X : Nat} (hb : w.heap[X]? = some (.cells ({ zE with b := X, kind := 1, int := 1 } : EH).cs 28 (0, 0))) : EVs 1 w (kE X) := by
  have c := cellT hb
  refine ⟨⟨of_decide_eq_true rfl, of_decide_eq_true rfl, of_decide_eq_true rfl, of_decide_eq_true rfl, rfl, of_decide_eq_true rfl, fun s h => mem_0 h, sls_0, of_decide_eq_true rfl⟩, rfl, lies_1 rfl, ?_⟩
  intro u hu
  obtain rfl := mem_1 hu
  exact ⟨⟨c 0, c 1, c 2, c 3, c 4, c 5, c 6, c 7, of_decide_eq_true rfl, of_decide_eq_true rfl, of_decide_eq_true rfl, of_decide_eq_true rfl, rfl, of_decide_eq_true rfl, fun s h => mem_0 h, sls_0, of_decide_eq_true rfl⟩, rfl, lies_0, fun u hu => mem_0 hu⟩
theorem dls_0 {k : Nat} {w : World} {s : ByteArray} : DLs k w s none 0 [] := ⟨rfl, lies_0, fun u hu => mem_0 hu, fun u hu => mem_0 hu⟩
theorem kT_vs {w : World} {X Y : Nat} (hb : w.heap[X]? = some (.cells (kS X).1.cs 49 (0, 0))) (hd : w.heap[Y]? = some (.cells ({ zD with b := Y, name := ⟨#[101]⟩, ba := some ⟨X, 0, none⟩, bn := 1, bc := 1 } : DH).cs 52 (0, 0))) : TVs 1 w (kT X Y) := by
  have c := cellT hb
  have q := cellT hd
  refine ⟨dls_0, dls_0, dls_0, ⟨rfl, lies_1 rfl, ?_, ?_⟩, of_decide_eq_true rfl, of_decide_eq_true rfl, of_decide_eq_true rfl, of_decide_eq_true rfl⟩
  · intro u hu
    obtain rfl := mem_1 hu
    refine ⟨⟨q 0, q 1, q 2, q 3, q 4, q 5, q 6, of_decide_eq_true rfl, of_decide_eq_true rfl, of_decide_eq_true rfl, of_decide_eq_true rfl, rfl, of_decide_eq_true rfl, fun s h => mem_0 h, pls_0, of_decide_eq_true rfl⟩, rfl, lies_1 rfl, ?_⟩
    intro u hu
    obtain rfl := mem_1 hu
    exact ⟨⟨c 0, c 1, c 2, c 3, c 4, c 5, c 6, c 7, of_decide_eq_true rfl, of_decide_eq_true rfl, of_decide_eq_true rfl, of_decide_eq_true rfl, of_decide_eq_true rfl, of_decide_eq_true rfl⟩, ⟨rfl, rfl, rfl⟩, ⟨lies_0, lies_0, lies_0⟩, fun u hu => mem_0 hu, fun u hu => mem_0 hu, fun u hu => mem_0 hu⟩
  · intro u hu
    obtain rfl := mem_1 hu
    rfl
theorem kT_tr (X Y : Nat) : okTr 1 (kT X Y) := by
  refine ⟨fun u hu => mem_0 hu, fun u hu => mem_0 hu, fun u hu => mem_0 hu, ?_⟩
  intro u hu
  obtain rfl := mem_1 hu
  intro v hv
  obtain rfl := mem_1 hv
  exact ⟨by kernel_rfl, ⟨of_decide_eq_true rfl, of_decide_eq_true rfl⟩, fun u hu => mem_0 hu, fun u hu => mem_0 hu, fun u hu => mem_0 hu⟩
end Go.Proofs.YtdfambocenohgaaGreatDoor

namespace Go.Proofs.YtdfambocenohgaaGreatDoor
open Go.RowKit Go.Deep
set_option linter.unusedVariables false
set_option linter.unusedSimpArgs false
attribute [local go_sem] Oper.semAt_some
set_option maxRecDepth 100000 in
set_option maxHeartbeats 1000000 in
theorem known_any (w : World) (hE : EnvT w) : Calls Tryz.prog 6 #[] w fun e w' => e = .returned (.bool true) ∧ Below w.heap.size w w' := by
  obtain ⟨X, hX⟩ : ∃ X, X = w.heap.size := ⟨_, rfl⟩
  obtain ⟨W0, hW0⟩ : ∃ W0, W0 = w.alloc (.cells ({ zE with b := X, kind := 1, int := 1 } : EH).cs 28) := ⟨_, rfl⟩
  obtain ⟨W1, hW1⟩ : ∃ W1, W1 = W0.alloc (.cells (kE X).1.cs 28) := ⟨_, rfl⟩
  have b0 : Below w.heap.size w W0 := by rw [hW0]; exact (Below.refl _ w).alloc (Nat.le_refl _) _
  have b1' : Below W0.heap.size W0 W1 := by rw [hW1]; exact (Below.refl _ W0).alloc (Nat.le_refl _) _
  have b1 : Below w.heap.size w W1 := b0.trans (b1'.mono b0.size)
  have z0 : W0.heap.size = w.heap.size + 1 := by rw [hW0]; simp
  have n0 : W0.heap[X]? = some (.cells ({ zE with b := X, kind := 1, int := 1 } : EH).cs 28 (0, 0)) := by rw [hW0, hX]; exact heap_alloc_new _ _
  have n1 : W1.heap[X]? = some (.cells ({ zE with b := X, kind := 1, int := 1 } : EH).cs 28 (0, 0)) := (b1'.block X (by omega)).trans n0
  have m1 : W1.heap[w.heap.size + 1]? = some (.cells (kE X).1.cs 28 (0, 0)) := by rw [← z0, hW1]; exact heap_alloc_new _ _
  have K1 := hid (exprText_any 1 W1 (kE X) (kE_vs n1) (kE_ok X) (hE.below b1) (by rw [kE_pr]; decide) (by rw [kE_pr]; decide) (by rw [kE_dp]; decide))
  rw [kE_pr] at K1
  have R1 := hid (fun (w1 : World) (h : Below W1.heap.size W1 w1) => b1.trans (h.mono b1.size))
  have K2 := hid (fun (w1 : World) (h : Below w.heap.size w w1) => hE.below h)
  have q := cellT m1
  have q0 := q 0
  have q1 := q 1
  have q2 := q 2
  have q3 := q 3
  have q4 := q 4
  have q5 := q 5
  have q6 := q 6
  have q7 := q 7
  simp only [kE, zE, emp, EH.cs, List.getElem?_toArray, List.getElem?_cons_zero, List.getElem?_cons_succ] at q0 q1 q2 q3 q4 q5 q6 q7 K1 hW0 hW1
  clear hE b0 b1' b1 n0 n1 m1 q
  go_enter Tryz.func6, Tryz.ntmps6
  go_upto_region 2 with fail
  rw [← hX, ← hW0, ← hW1]
  rw [← hX] at q0 q1 q2 q3 q4 q5 q6 q7
  clear hW0 hW1 hX z0
  go_upto_region 3 with (go_at_call 11; (refine (Hid.out K1).mono ?_; rintro e w1 ⟨rfl, hb1⟩; have HB1 := hid (R1.out w1 hb1); clear hb1 q0 q1 q2 q3 q4 q5 q6 q7))
  obtain ⟨Y, hY⟩ : ∃ Y, Y = w1.heap.size := ⟨_, rfl⟩
  obtain ⟨W2, hW2⟩ : ∃ W2, W2 = w1.alloc (.cells (kS Y).1.cs 49) := ⟨_, rfl⟩
  obtain ⟨W3, hW3⟩ : ∃ W3, W3 = W2.alloc (.cells ({ zD with b := Y + 1, name := ⟨#[101]⟩, ba := some ⟨Y, 0, none⟩, bn := 1, bc := 1 } : DH).cs 52) := ⟨_, rfl⟩
  obtain ⟨W4, hW4⟩ : ∃ W4, W4 = W3.alloc (.cells (kT Y (Y + 1)).h.cs 24) := ⟨_, rfl⟩
  have z2 : W2.heap.size = Y + 1 := by rw [hW2, hY]; simp
  have z3 : W3.heap.size = Y + 1 + 1 := by rw [hW3]; simp [z2]
  have b2 : Below w1.heap.size w1 W2 := by rw [hW2]; exact (Below.refl _ w1).alloc (Nat.le_refl _) _
  have b3 : Below W2.heap.size W2 W3 := by rw [hW3]; exact (Below.refl _ W2).alloc (Nat.le_refl _) _
  have b4 : Below W3.heap.size W3 W4 := by rw [hW4]; exact (Below.refl _ W3).alloc (Nat.le_refl _) _
  have n2 : W2.heap[Y]? = some (.cells (kS Y).1.cs 49 (0, 0)) := by rw [hW2, hY]; exact heap_alloc_new _ _
  have n3 : W3.heap[Y + 1]? = some (.cells ({ zD with b := Y + 1, name := ⟨#[101]⟩, ba := some ⟨Y, 0, none⟩, bn := 1, bc := 1 } : DH).cs 52 (0, 0)) := by rw [← z2, hW3]; exact heap_alloc_new _ _
  have n4 : W4.heap[Y + 1 + 1]? = some (.cells (kT Y (Y + 1)).h.cs 24 (0, 0)) := by rw [← z3, hW4]; exact heap_alloc_new _ _
  have m2 : W4.heap[Y]? = some (.cells (kS Y).1.cs 49 (0, 0)) := (b4.block Y (by omega)).trans ((b3.block Y (by omega)).trans n2)
  have m3 := (b4.block (Y + 1) (by omega)).trans n3
  have b34 : Below W2.heap.size W2 W4 := b3.trans (b4.mono b3.size)
  have b24 : Below w1.heap.size w1 W4 := b2.trans (b34.mono b2.size)
  have bw4 : Below w.heap.size w W4 := HB1.out.trans (b24.mono HB1.out.size)
  have dT := kT_vs m2 m3
  have HB4 := hid bw4
  have hE4 := K2.out W4 bw4
  have P1 := hid (print_any 1 W4 (kT Y (Y + 1)) dT (kT_tr _ _) (kT_okT _ _) hE4 (by rw [kT_pr]; decide) (by rw [kT_pr]; decide) (by rw [kT_dp]; decide))
  rw [kT_pr] at P1
  have P2 := hid (fun (w2 : World) (h : Below W4.heap.size W4 w2) => isTree_any 1 w2 (kT Y (Y + 1)) (dT.below (Nat.le_refl _) h) (hE4.below h).mx)
  simp only [kT_okT] at P2
  have P3 := hid (fun (w2 : World) (h : Below W4.heap.size W4 w2) => size_any 1 w2 (kT Y (Y + 1)) (dT.below (Nat.le_refl _) h) (of_decide_eq_true rfl))
  simp only [kT_cnt] at P3
  have QB := hid (fun (w2 : World) (h : Below W4.heap.size W4 w2) => cellT ((h.block (Y + 1 + 1) (by have := b4.size; have : W4.heap.size = Y + 1 + 1 + 1 := by { rw [hW4]; simp [z3] }; omega)).trans n4))
  have q := QB.out W4 (Below.refl _ _)
  have q0 := q 0
  have q1 := q 1
  have q2 := q 2
  have q3 := q 3
  simp only [kT, kS, zS, zD, emp, SH.cs, DH.cs, TH.cs, List.getElem?_toArray, List.getElem?_cons_zero, List.getElem?_cons_succ] at q0 q1 q2 q3 P1 P2 P3 hW2 hW3 hW4
  clear z2 z3 b2 b3 b4 n2 n3 n4 m2 m3 b34 b24 bw4 dT hE4 q K1 K2 R1
  go_upto_region 4 with fail
  rw [← hY, ← hW2, ← hW3, ← hW4]
  clear hW2 hW3 hW4 hY
  go_wp2_with (first
    | (go_at_call 9; (refine (Hid.out P1).mono ?_; rintro e w2 ⟨rfl, hb2⟩; have s := QB.out w2 hb2; have s0 := s 0; have s1 := s 1; have s2 := s 2; have s3 := s 3; simp only [kT, kS, zS, zD, emp, TH.cs, List.getElem?_toArray, List.getElem?_cons_zero, List.getElem?_cons_succ] at s0 s1 s2 s3; have P2' := hid (P2.out w2 hb2); have HB2 := hid hb2; clear hb2 s q0 q1 q2 q3))
    | (go_at_call 13; (refine (Hid.out P2').mono ?_; rintro e w3 ⟨rfl, hb3⟩; have HB3 := hid (HB2.out.trans (hb3.mono HB2.out.size)); have s := QB.out w3 HB3.out; have r0 := s 0; have r1 := s 1; have r2 := s 2; have r3 := s 3; simp only [kT, kS, zS, zD, emp, TH.cs, List.getElem?_toArray, List.getElem?_cons_zero, List.getElem?_cons_succ] at r0 r1 r2 r3; have P3' := hid (P3.out w3 HB3.out); clear hb3 s s0 s1 s2 s3))
    | (go_at_call 17; (refine (Hid.out P3').mono ?_; rintro e w4 ⟨rfl, hb4⟩)))
  go_ret
  have h34 := HB3.out.trans (hb4.mono HB3.out.size)
  exact ⟨rfl, HB4.out.trans (h34.mono HB4.out.size)⟩
end Go.Proofs.YtdfambocenohgaaGreatDoor

namespace Go.Proofs.YtdfambocenohgaaGreatDoor
open Go.RowKit Go.Deep
set_option linter.unusedVariables false
set_option linter.unusedSimpArgs false
set_option maxRecDepth 100000 in
theorem few_any (k : Nat) (w : World) (t : TT k) (d : TWs k w t) : Calls Tryz.prog 7 #[.agg t.h.cs] w (FewP w (SzT t)) := by
  obtain ⟨W, hW⟩ : ∃ W, W = w.alloc (.cells t.h.cs 24) := ⟨_, rfl⟩
  have hbw : Below w.heap.size w W := by rw [hW]; exact (Below.refl _ w).alloc (Nat.le_refl _) _
  have hb : W.heap[w.heap.size]? = some (.cells t.h.cs 24 (0, 0)) := by rw [hW]; exact heap_alloc_new _ _
  have K := hid (helpTree_any k W t (d.below (Nat.le_refl _) hbw))
  have c0 := cellT hb 0
  have c1 := cellT hb 1
  have c2 := cellT hb 2
  have c3 := cellT hb 3
  simp only [TH.cs, List.getElem?_toArray, List.getElem?_cons_zero, List.getElem?_cons_succ] at c0 c1 c2 c3 hW
  have HW := hid hbw
  clear d hbw hb
  simp only [TH.cs]
  go_enter Tryz.func7, Tryz.ntmps7
  go_upto_region 1 with fail
  rw [← hW]
  clear hW
  go_wp2_with (go_at_call 24; (refine (Hid.out K).mono ?_; rintro e w1 ⟨b, rfl, hP, hb1⟩; have HP := hid hP; have HB := hid (HW.out.trans (hb1.mono HW.out.size)); clear hP hb1))
  go_ret
  exact ⟨b, rfl, HP.out, HB.out⟩
theorem iff_bool {b c : Bool} {P : Prop} (h : b = true ↔ P) (g : c = true ↔ P) : b = c := by
  have : (b = true ↔ c = true) := h.trans g.symm
  cases b <;> cases c <;> simp_all
theorem bar_len {k : Nat} {w w' : World} {t v : TT k} (d : TVs k w t) (e : TVs k w' v) (h : BarT t v) : (inT v).length = (inT t).length := by
  have h2 := ((alkT_iff d e 0 0).2 (samT_bar h)).1
  rw [ptT_at, ptT_at, List.length_cons, List.length_cons] at h2
  omega
set_option maxRecDepth 100000 in
set_option maxHeartbeats 8000000 in
theorem treeSame_any (k1 k2 : Nat) (w : World) (hE : EnvT w) (t : TT k1) (u : TT k2) (d : TWs k1 w t) (e : TWs k2 w u) (s1 : SmT t) (s2 : SmT u) :
    Calls Tryz.prog 4 #[.agg t.h.cs, .agg u.h.cs] w fun e w' => e = .returned (.bool true) ∧ Below w.heap.size w w' := by
  obtain ⟨A, hA⟩ : ∃ A, A = w.alloc (.cells t.h.cs 24) := ⟨_, rfl⟩
  obtain ⟨W, hW⟩ : ∃ W, W = A.alloc (.cells u.h.cs 24) := ⟨_, rfl⟩
  obtain ⟨X, hX⟩ : ∃ X, X = w.heap.size := ⟨_, rfl⟩
  have zA : A.heap.size = X + 1 := by rw [hA, hX]; simp
  have bA : Below w.heap.size w A := by rw [hA]; exact (Below.refl _ w).alloc (Nat.le_refl _) _
  have bW : Below w.heap.size w W := by rw [hW]; exact bA.alloc bA.size _
  have m1 : W.heap[X]? = some (.cells t.h.cs 24 (0, 0)) := by rw [hW, Below.heap_alloc _ _ _ (by omega), hA, hX]; exact heap_alloc_new w _
  have m2 : W.heap[X + 1]? = some (.cells u.h.cs 24 (0, 0)) := by rw [hW, ← zA]; exact heap_alloc_new A _
  have WT : Hid (∀ V, Below W.heap.size W V → Below w.heap.size w V) := hid (fun V hV => bW.trans (hV.mono bW.size))
  have CBX := hid (fun (V : World) (hV : Below W.heap.size W V) => (show ((V.cell? ⟨X, 0, none⟩ = some (.slice t.h.ra t.h.rn t.h.rc) ∧ V.cell? ⟨X, 1, none⟩ = some (.slice t.h.ma t.h.mn t.h.mc) ∧ V.cell? ⟨X, 2, none⟩ = some (.slice t.h.fa t.h.fn t.h.fc) ∧ V.cell? ⟨X, 3, none⟩ = some (.slice t.h.ea t.h.en t.h.ec)) ∧ V.cell? ⟨X + 1, 0, none⟩ = some (.slice u.h.ra u.h.rn u.h.rc) ∧ V.cell? ⟨X + 1, 1, none⟩ = some (.slice u.h.ma u.h.mn u.h.mc) ∧ V.cell? ⟨X + 1, 2, none⟩ = some (.slice u.h.fa u.h.fn u.h.fc) ∧ V.cell? ⟨X + 1, 3, none⟩ = some (.slice u.h.ea u.h.en u.h.ec)) ∧ Below W.heap.size W V from by
    have g1 := (hV.block _ (heap_lt m1)).trans m1
    have g2 := (hV.block _ (heap_lt m2)).trans m2
    exact ⟨⟨⟨cellT g1 0, cellT g1 1, cellT g1 2, cellT g1 3⟩, cellT g2 0, cellT g2 1, cellT g2 2, cellT g2 3⟩, hV⟩))
  have K6 := hid (known_any W (hE.below bW))
  have KF1 := hid (fun (V : World) (hV : Below W.heap.size W V) => few_any k1 V t (d.below (Nat.le_refl _) (WT.out V hV)))
  have KF2 := hid (fun (V : World) (hV : Below W.heap.size W V) => few_any k2 V u (e.below (Nat.le_refl _) (WT.out V hV)))
  have DT := hid (fun (V : World) (hV : Below W.heap.size W V) (hs : SzT t) => tvs_of (d.below (Nat.le_refl _) (WT.out V hV)) hs)
  have DU := hid (fun (V : World) (hV : Below W.heap.size W V) (hs : SzT u) => tvs_of (e.below (Nat.le_refl _) (WT.out V hV)) hs)
  have SM := hid s1
  simp only [TH.cs] at hA hW KF1 KF2 ⊢
  subst hX
  obtain ⟨⟨⟨x0, x1, x2, x3⟩, y0, y1, y2, y3⟩, _⟩ := CBX.out W (Below.refl _ _)
  clear d e zA bA bW m1 m2 s1 s2 hE
  go_enter Tryz.func4, Tryz.ntmps4
  go_upto_region 5 with (first
    | (have hno := KG2; go_at_call 7; (refine (Hid.out KG2).mono ?_; rintro e w3 ⟨b3, rfl, hp3, hb3⟩; have HB3 := hid (HB2.out.trans (hb3.mono HB2.out.size)); have HP3 := hid hp3; clear hb3 hp3 x0 x1 x2 x3 y0 y1 y2 y3; cases b3))
    | (have hno := KG1; go_at_call 7; (refine (Hid.out KG1).mono ?_; rintro e w2 ⟨b2, rfl, hp2, hb2⟩; have HB2 := hid (HB1.out.trans (hb2.mono HB1.out.size)); have HP2 := hid hp2; have KG2 := hid (KF2.out w2 HB2.out); clear hb2 hp2 x0 x1 x2 x3 y0 y1 y2 y3; obtain ⟨⟨⟨x0, x1, x2, x3⟩, y0, y1, y2, y3⟩, _⟩ := CBX.out w2 HB2.out; cases b2))
    | (go_at_call 6; (rw [← hA, ← hW]; refine (Hid.out K6).mono ?_; rintro e w1 ⟨rfl, hb1⟩; have HB1 := hid hb1; have KG1 := hid (KF1.out w1 hb1); clear hb1 x0 x1 x2 x3 y0 y1 y2 y3; obtain ⟨⟨⟨x0, x1, x2, x3⟩, y0, y1, y2, y3⟩, _⟩ := CBX.out w1 HB1.out)))
  · go_ret
    exact ⟨rfl, WT.out _ HB2.out⟩
  · go_ret
    exact ⟨rfl, WT.out _ HB3.out⟩
  have S1 := HP2.out (by first | rfl | trivial)
  have S2 := HP3.out (by first | rfl | trivial)
  have L1 : (inT t).length ≤ 100000 := Nat.le_trans (inT_len t S1) (by omega)
  have L2 : (inT u).length ≤ 100000 := Nat.le_trans (inT_len u S2) (by omega)
  have HBD : Hid (Below W.heap.size W w3.drew) := hid HB3.out.drew
  have KA := hid (sameT_any k1 k2 w3.drew t u (DT.out _ HBD.out S1) (DU.out _ HBD.out S2) L1 L2)
  have K19 := hid (fun (V : World) (hV : Below W.heap.size W V) => refAlike_any k1 k2 V t u (DT.out V hV S1) (DU.out V hV S2))
  have K20 := hid (fun (V : World) (hV : Below W.heap.size W V) => bare_any k1 V t (DT.out V hV S1) SM.out)
  have K22c := hid (fun (V : World) (hV : Below W.heap.size W V) (v : TT k1) (hv : TVs k1 V v) (hB : BarT t v) => sameT_any k1 k1 V t v (DT.out V hV S1) hv L1 (by rw [bar_len (DT.out V hV S1) hv hB]; exact L1))
  have K22d := hid (fun (V : World) (hV : Below W.heap.size W V) => sameT_any k1 k1 V t t (DT.out V hV S1) (DT.out V hV S1) L1 L1)
  have HSS := hid (fun (V : World) (hV : Below W.heap.size W V) => samT_self (DT.out V hV S1))
  simp only [TH.cs] at KA K19 K22d
  clear S1 S2 L1 L2 HP2 HP3 KF1 KF2 KG1 KG2 K6 hA hW
  go_region_held3 (fun V => ((V.cell? ⟨w.heap.size, 0, none⟩ = some (.slice t.h.ra t.h.rn t.h.rc) ∧ V.cell? ⟨w.heap.size, 1, none⟩ = some (.slice t.h.ma t.h.mn t.h.mc) ∧ V.cell? ⟨w.heap.size, 2, none⟩ = some (.slice t.h.fa t.h.fn t.h.fc) ∧ V.cell? ⟨w.heap.size, 3, none⟩ = some (.slice t.h.ea t.h.en t.h.ec)) ∧ V.cell? ⟨w.heap.size + 1, 0, none⟩ = some (.slice u.h.ra u.h.rn u.h.rc) ∧ V.cell? ⟨w.heap.size + 1, 1, none⟩ = some (.slice u.h.ma u.h.mn u.h.mc) ∧ V.cell? ⟨w.heap.size + 1, 2, none⟩ = some (.slice u.h.fa u.h.fn u.h.fc) ∧ V.cell? ⟨w.heap.size + 1, 3, none⟩ = some (.slice u.h.ea u.h.en u.h.ec)) ∧ Below W.heap.size W V) (first | exact CBX.out _ HBD.out | exact CBX.out _ h9 | exact CBX.out _ h8 | exact CBX.out _ h7 | exact CBX.out _ h6 | exact CBX.out _ h5) (first
    | (have hno := KE; go_at_call 22; (refine (Hid.out KE).mono ?_; rintro e w9 ⟨hb9, b9, rfl, hi9⟩; have h9 : Below W.heap.size W w9 := h8.trans (hb9.mono h8.size); obtain rfl : b9 = true := hi9.2 (HSS.out _ h8); clear hb9 hi9 h8))
    | (have hno := KD; go_at_call 22; (refine (Hid.out KD).mono ?_; rintro e w8 ⟨hb8, b8, rfl, hi8⟩; have h8 : Below W.heap.size W w8 := h7.trans (hb8.mono h7.size); obtain rfl : b8 = true := hi8.2 (samT_bar HB7.out); have KE := hid (K22d.out w8 h8); clear hb8 hi8 h7))
    | (have hno := KC; go_at_call 20; (refine (Hid.out KC).mono ?_; rintro e w7 ⟨v, rfl, hT7, hB7, hb7⟩; have h7 : Below W.heap.size W w7 := h6.trans (hb7.mono h6.size); have HB7 := hid hB7; have KD := hid (K22c.out w7 h7 v hT7 hB7); simp only [TH.cs] at KD ⊢; clear hb7 hT7 hB7 h6))
    | (have hno := KB; go_at_call 19; (refine (Hid.out KB).mono ?_; rintro e w6 ⟨hb6, b6, rfl, hi6⟩; have h6 : Below W.heap.size W w6 := h5.trans (hb6.mono h5.size); obtain rfl : b6 = b5 := iff_bool hi6 HI5.out; have KC := hid (K20.out w6 h6); simp only [TH.cs] at KC; clear hb6 hi6 h5 HI5))
    | (go_at_call 22; (refine (Hid.out KA).mono ?_; rintro e w5 ⟨hb5, b5, rfl, hi5⟩; have h5 : Below W.heap.size W w5 := HBD.out.trans (hb5.mono HBD.out.size); have HI5 := hid hi5; have KB := hid (K19.out w5 h5); clear hb5 hi5)))
  go_wp2
  go_ret
  exact ⟨rfl, WT.out _ h9⟩
end Go.Proofs.YtdfambocenohgaaGreatDoor

namespace Go.Proofs.YtdfambocenohgaaGreatDoor
open Go.ChangeShapes Go.WideShapes Go.ChangeAt Go.RowKit Go.Deep Go.Shelf
set_option linter.unusedVariables false
set_option linter.unusedSimpArgs false

theorem pow_named : Tryz.prog.globalNamed "internal/strconv.uint64pow10" = some 0 := by kernel_rfl
theorem env_of {W : World} (hL : laidMetH Tryz.prog Rows.treeNestsRow.laid W) (hs : W.ShapedOpen Tryz.prog) : EnvT W := by
  constructor
  · have h := hL.filter (fun x => x.1 == "internal/strconv.uint64pow10")
    have e : (Rows.treeNestsRow.laid.filter fun x => x.1 == "internal/strconv.uint64pow10") = [("internal/strconv.uint64pow10", Lib.tabData .u64 Lib.pow10Tab)] := by kernel_rfl
    rw [e] at h
    have h2 : laidMet Tryz.prog [("internal/strconv.uint64pow10", Lib.tabData .u64 Lib.pow10Tab)] W := (laidMetH_iff.1 h).1
    exact Lib.tabIs_of_head (t := 176) (e := 125) (n := 20) pow_named (by kernel_rfl) (by kernel_rfl) (by kernel_rfl) (by kernel_rfl) (by kernel_rfl) h2
  · exact cell_of_shapedOpen_int hs (t := 3) (zero := #[.int .i64 0]) (of_decide_eq_true (by kernel_rfl)) (by kernel_rfl) rfl (by kernel_rfl) (by kernel_rfl) Tryz.underlying3

/- A contract under the row's conditions, the world's shape and the tables at hand. -/
theorem handed_laid {H : Type} {enc : TypeId × Value → H} {a : Assume} {C : Checked} {os : Os} {f : FuncId} {fn : Func} {s : ChangeSpec} {conds : List PathCond} {apart fresh handsOn again : Bool} {X : World → Array Value → Prop}
    (hX : ∀ (w w' : World) (args : Array Value), w.heap = w'.heap → X w args → X w' args)
    (own : ownKnob C.prog.godebug = none) (started : os.Started) (noInit : C.prog.inits.idxOf? f = none) (hfn : C.prog.funcs[f]? = some fn)
    (witness : ∃ (w : World) (tape : Tape) (i : Input), w.os = os ∧ (w.forCall tape i).Shaped C.prog ∧ i.vars = [] ∧ Input.okWide C.prog (w.forCall tape i) .any w.heap.size f i ∧
      ((s.pre enc C.prog fn conds apart (w.forCall tape i).memory i.args ∧ X (w.forCall tape i).memory i.args) ∧ sizedMet enc C.prog fn (OpenSpec.ofChange s) apart (w.forCall tape i).memory i.args) ∧ a.holds C.prog (lone (Frame.enter C.prog f i.args .normal) [] (w.forCall tape i)))
    (contract : ∀ (W : World) (base : Nat) (args : Array Value) (ds gs : List (DataW H)) (before : List MemPlace),
      (∀ (j : Nat) t v, fn.params[j]? = some t → args[j]? = some v → Value.okWide C.prog W .any base t v) →
      DataW.Whole enc C.prog fn.params.toList s.vars apart W args.toList ds gs before →
      (DataW.weightsEach C.prog (fn.params.toList ++ s.plain.varTypes C.prog) (ds ++ gs)).all (· ≤ reachBytes) = true → X W args → W.ShapedOpen C.prog →
      Calls C.prog f args W fun e W' => ∃ v, e = .returned v ∧ s.post enc C.prog fn apart fresh handsOn again W args v W') :
    ReturnsInHanded a C os f .any (fun w args => (s.pre enc C.prog fn conds apart w args ∧ X w args) ∧ sizedMet enc C.prog fn (OpenSpec.ofChange s) apart w args) (s.post enc C.prog fn apart fresh handsOn again) := by
  refine returnsInHanded_of_calls own started noInit witness ?_
  intro w tape i _ hsh _ hok hpre hholds
  obtain ⟨_, _, _, fn', hfn', _, _, _, _, hval⟩ := hok
  obtain rfl : fn' = fn := Option.some.inj (hfn'.symm.trans hfn)
  obtain ⟨⟨⟨ds, gs, before, hw, hc⟩, hx⟩, hz⟩ := hpre
  refine (contract (w.forCall tape i) w.heap.size i.args ds gs before hval (DataW.Whole.of_heap (w' := w.forCall tape i) (by rfl) hw) (hz.weights hw) (hX _ _ _ (by rfl) hx) hsh).mono fun e W' ⟨v, he, hp⟩ => ?_
  subst he
  exact ChangeSpec.post_blind hp
theorem ownN : ownKnob Tryz.prog.godebug = none := by kernel_rfl
theorem laidOut : laidOutB Tryz.prog = true := by kernel_rfl
def cellsIn (c : Array Value) : Obj → Obj
  | .cells _ t frozen => .cells c t frozen
  | o => o
def firstCells : Array Value := (Go.Pinned.utf8FirstZ.map fun (x : Nat) => Value.int .u8 (x : Int)).toArray
def tables (h : Array Obj) : Array Obj := ((((h.modify 0 (cellsIn #[.int .u64 1, .int .u64 10, .int .u64 100, .int .u64 1000, .int .u64 10000, .int .u64 100000, .int .u64 1000000, .int .u64 10000000, .int .u64 100000000, .int .u64 1000000000, .int .u64 10000000000, .int .u64 100000000000, .int .u64 1000000000000, .int .u64 10000000000000, .int .u64 100000000000000, .int .u64 1000000000000000, .int .u64 10000000000000000, .int .u64 100000000000000000, .int .u64 1000000000000000000, .int .u64 10000000000000000000])).modify 4 (cellsIn firstCells)).modify 5 (cellsIn #[.int .u8 128, .int .u8 191, .int .u8 160, .int .u8 191, .int .u8 128, .int .u8 159, .int .u8 144, .int .u8 191, .int .u8 128, .int .u8 143, .int .u8 0, .int .u8 0, .int .u8 0, .int .u8 0, .int .u8 0, .int .u8 0, .int .u8 0, .int .u8 0, .int .u8 0, .int .u8 0, .int .u8 0, .int .u8 0, .int .u8 0, .int .u8 0, .int .u8 0, .int .u8 0, .int .u8 0, .int .u8 0, .int .u8 0, .int .u8 0, .int .u8 0, .int .u8 0])).modify 1 (cellsIn #[.int .u8 0, .int .u8 1, .int .u8 28, .int .u8 2, .int .u8 29, .int .u8 14, .int .u8 24, .int .u8 3, .int .u8 30, .int .u8 22, .int .u8 20, .int .u8 15, .int .u8 25, .int .u8 17, .int .u8 4, .int .u8 8, .int .u8 31, .int .u8 27, .int .u8 13, .int .u8 23, .int .u8 21, .int .u8 19, .int .u8 16, .int .u8 7, .int .u8 26, .int .u8 12, .int .u8 18, .int .u8 6, .int .u8 11, .int .u8 5, .int .u8 10, .int .u8 9])).modify 2 (cellsIn #[.int .u8 0, .int .u8 1, .int .u8 56, .int .u8 2, .int .u8 57, .int .u8 49, .int .u8 28, .int .u8 3, .int .u8 61, .int .u8 58, .int .u8 42, .int .u8 50, .int .u8 38, .int .u8 29, .int .u8 17, .int .u8 4, .int .u8 62, .int .u8 47, .int .u8 59, .int .u8 36, .int .u8 45, .int .u8 43, .int .u8 51, .int .u8 22, .int .u8 53, .int .u8 39, .int .u8 33, .int .u8 30, .int .u8 24, .int .u8 18, .int .u8 12, .int .u8 5, .int .u8 63, .int .u8 55, .int .u8 48, .int .u8 27, .int .u8 60, .int .u8 41, .int .u8 37, .int .u8 16, .int .u8 46, .int .u8 35, .int .u8 44, .int .u8 21, .int .u8 52, .int .u8 32, .int .u8 23, .int .u8 11, .int .u8 54, .int .u8 26, .int .u8 40, .int .u8 15, .int .u8 34, .int .u8 20, .int .u8 31, .int .u8 10, .int .u8 25, .int .u8 14, .int .u8 19, .int .u8 9, .int .u8 13, .int .u8 8, .int .u8 7, .int .u8 6])
/- A world for the witness is the settled one, the tables holding what is listed. -/
set_option maxRecDepth 100000 in
theorem laid_met (os : Os) (args : Array Value) : laidMetH Tryz.prog Rows.treeNestsRow.laid (({ World.holding Tryz.prog os ⟨#[], #[], []⟩ with heap := tables (World.holding Tryz.prog os ⟨#[], #[], []⟩).heap } : World).forCall (fun _ _ => 0) ⟨#[], args, []⟩).memory :=
  laidMetH_of_parts3 (fuel := 8) (laidMet_of_run' 8 (by kernel_rfl) (by kernel_rfl)) (by kernel_rfl) (by kernel_rfl)

end Go.Proofs.YtdfambocenohgaaGreatDoor

namespace Go.Proofs.YtdfambocenohgaaGreatDoor
open Go.ChangeShapes Go.WideShapes Go.ChangeAt Go.RowKit Go.Deep
set_option linter.unusedVariables false
set_option linter.unusedSimpArgs false
theorem laid_same : Rows.treeSameRow.laid = Rows.treeNestsRow.laid := rfl
section
variable {H : Type} {enc : TypeId × Value → H} {W : World}
set_option maxRecDepth 100000 in
theorem tree_arg {v : Value} {base : Nat} {d : DataW H} {p : List MemPlace} (hv : Value.okWide Tryz.prog W .any base 24 v) (h : DataW.Trod enc Tryz.prog W 0 (fun _ => true) true 24 v d p) (hs : ∀ n ∈ d.weights Tryz.prog 24, n ≤ reachBytes) : ∃ (k : Nat) (t : TT k), v = .agg t.h.cs ∧ TWs k W t ∧ SmT t := by
  obtain ⟨cs, rfl, _⟩ := okWide_struct Tryz.underlying24 hv
  obtain ⟨m, hm⟩ := h
  obtain ⟨k, t, e, hw, hsm⟩ := treeF (cs := cs.toList) ⟨_, hm, hs⟩
  refine ⟨k, t, ?_, hw, hsm⟩
  have : cs = t.h.cs := by
    have := congrArg List.toArray e
    simpa using this
  rw [this]
end
set_option maxRecDepth 100000 in
theorem treeSame_lifted (os : Os) (started : os.Started) (H : Type) (enc : TypeId × Value → H) :
    ReturnsInHanded {} Tryz.checked os 4 .any (fun w args => (Rows.treeSameSpec.pre enc Tryz.prog Tryz.f4 [] false w args ∧ laidMetH Tryz.prog Rows.treeSameRow.laid w) ∧ sizedMet enc Tryz.prog Tryz.f4 (OpenSpec.ofChange Rows.treeSameSpec) false w args)
      (Rows.treeSameSpec.post enc Tryz.prog Tryz.f4 false true false false) := by
  refine handed_laid (C := Tryz.checked) (X := fun w _ => laidMetH Tryz.prog Rows.treeSameRow.laid w) (fun _ _ _ hh h => h.of_heap hh) ownN started (by kernel_rfl) Tryz.func4
    (ChangeSpec.witness_at (enc := enc) (C := Tryz.checked) (os := os) (X := fun w _ => laidMetH Tryz.prog Rows.treeSameRow.laid w) false ({ World.holding Tryz.prog os ⟨#[], #[], []⟩ with heap := tables (World.holding Tryz.prog os ⟨#[], #[], []⟩).heap } : World) #[.agg #[.slice none 0 0, .slice none 0 0, .slice none 0 0, .slice none 0 0], .agg #[.slice none 0 0, .slice none 0 0, .slice none 0 0, .slice none 0 0]] 8 rfl (by kernel_rfl) (by kernel_rfl) (by kernel_rfl) (by kernel_rfl) (by kernel_rfl) (laid_met os _)) ?_
  intro W base args ds gs before hval0 hW hwt hL hsh
  have hval : ∀ (j : Nat) t v, Tryz.f4.params[j]? = some t → args[j]? = some v → Value.okWide Tryz.prog W .any base t v := hval0
  have hW' := hW
  obtain ⟨p, q, hA0, hV, rfl, hfz, hnd⟩ := hW
  have hA : DataW.TrodAll enc Tryz.prog W 0 (fun _ => true) true Tryz.f4.params.toList args.toList ds p := hA0
  have hwt' : ∀ (i : Nat) (t : TypeId) (d : DataW H), (Tryz.f4.params.toList ++ Rows.treeSameSpec.plain.varTypes Tryz.prog)[i]? = some t → (ds ++ gs)[i]? = some d → ∀ n ∈ d.weights Tryz.prog t, n ≤ reachBytes := fun i t d e1 e2 n hn => by
    have := List.all_eq_true.1 hwt n (mem_each e1 e2 n hn)
    simpa using this
  rw [Tryz.params4] at hA hval hwt'
  obtain ⟨v0, vs0, d0, ds0, p0, q0, hargs, rfl, rfl, h0, r0⟩ := trodAll_cons hA
  obtain ⟨v1, vs1, d1, ds1, p1, q1, rfl, rfl, rfl, h1, r1⟩ := trodAll_cons r0
  obtain ⟨rfl, rfl, rfl⟩ := trodAll_nil r1
  obtain rfl : args = #[v0, v1] := by cases args; simp_all
  obtain ⟨rfl, rfl⟩ := trodVars_none hV
  obtain ⟨k1, t1, rfl, w1, s1⟩ := tree_arg (hval 0 24 v0 rfl rfl) h0 (hwt' 0 24 d0 rfl rfl)
  obtain ⟨k2, t2, rfl, w2, s2⟩ := tree_arg (hval 1 24 v1 rfl rfl) h1 (hwt' 1 24 d1 rfl rfl)
  have lt0 : ∀ x ∈ p0, x.block < W.heap.size := by obtain ⟨m, hm⟩ := h0; exact DataW.trod_lt m _ _ _ hm
  have lt1 : ∀ x ∈ p1, x.block < W.heap.size := by obtain ⟨m, hm⟩ := h1; exact DataW.trod_lt m _ _ _ hm
  clear hA0 hval0
  rw [laid_same] at hL
  refine (treeSame_any k1 k2 W (env_of hL hsh) t1 t2 w1 w2 s1 s2).mono fun e W' ⟨he, bel⟩ => ?_
  subst he
  exact ⟨_, rfl, _, _, _, [], _, [], hW', trodAll_mk1 (shut_bool Tryz.underlying4 _), (trodAll_cons_mk (Below.trod laidOut (by kernel_rfl) (of_decide_eq_true (by kernel_rfl)) h0 bel lt0) (trodAll_cons_mk (Below.trod laidOut (by kernel_rfl) (of_decide_eq_true (by kernel_rfl)) h1 bel lt1) trodAll_mk0)), rfl, bel.frame _, fun h => by cases h⟩

set_option maxRecDepth 100000 in
theorem treeSame_row : Rows.TreeSameSaid :=
  OpenClaim.holds_of_wide 4 Tryz.f4 rfl rfl rfl rfl rfl rfl rfl ⟨rfl, rfl, rfl, rfl, rfl⟩ rfl rfl rfl rfl rfl (by kernel_rfl) Tryz.func4 (by kernel_rfl)
    (of_decide_eq_true (by kernel_rfl)) (by unfold Func.isWrapper; first | (rw [if_pos (by decide +kernel)]; kernel_rfl) | (rw [if_neg (by decide +kernel)]; exact ⟨rfl, rfl⟩))
    (fun os started H enc _ => treeSame_lifted os started H enc)

theorem treeSame_card : Rows.TreeSameCardSaid :=
  Claim7.holds_tied_plain_at .later [] [.data, .data, .data, .data, .pinned] true (true, "9d5df9ef5482f6532202ed0312d6d44dae45128e7a6f8fd6bc4d301eec3a37a8") true
    treeSame_row (fun _ h => by cases h) (by kernel_rfl) (fun _ h => by cases h) treeSame_row_tie rfl ⟨rfl, rfl⟩ (by kernel_rfl) rfl
    (fun f fn hf hfn => by
      obtain rfl : f = 4 := Option.some.inj ((show Tryz.prog.funcNamed "windlass/windlasslaw6.TreeSame" = some 4 by kernel_rfl).symm.trans hf) |>.symm
      obtain rfl : fn = Tryz.f4 := (Option.some.inj (Tryz.func4.symm.trans hfn)).symm
      exact ⟨by kernel_rfl, fun j t ht => by
        rw [Tryz.params4] at ht
        rcases j with _ | _ | j
        · obtain rfl : t = 24 := by simpa using ht.symm
          exact (show Tryz.prog.wantsStandIn 24 = false by kernel_rfl)
        · obtain rfl : t = 24 := by simpa using ht.symm
          exact (show Tryz.prog.wantsStandIn 24 = false by kernel_rfl)
        · simp at ht⟩)
    (by kernel_rfl)
end Go.Proofs.YtdfambocenohgaaGreatDoor

