/-
  CodeReads returns true for every bytes, code, place, byte and cut, and its arguments read behind the call as they read before.
  No condition.
-/
import Derived.Test.YthnolocldeokeaaGreatJAU
import Derived.ProofKit
import Derived.OpenShut
import Derived.ChangeOld
import Derived.ChangeSlices
import Derived.ChangeMaps5
import Derived.SizedLaws
import Derived.Deep.Slices
namespace Go.Proofs.YthnolocldeokeaaGreat
open Go.RowKit Go.Deep Go.Shelf
set_option linter.unusedVariables false
set_option linter.unusedSimpArgs false
set_option maxRecDepth 100000
set_option maxHeartbeats 4000000 in
theorem known9_any (SO : ShapeC) (w : World) : Calls Tryz.prog 6 #[] w fun e w' => e = .returned (.bool true) ∧ Below w.heap.size w w' := by
  obtain ⟨A0, hA0⟩ : ∃ A0, A0 = w.alloc (.cells #[.int .i64 1, .int .i64 0, .int .i64 1, .int .i64 0] 46) := ⟨_, rfl⟩
  obtain ⟨A1, hA1⟩ : ∃ A1, A1 = A0.alloc (.cells #[.string ⟨#[102]⟩, .slice (some ⟨w.heap.size, 0, none⟩) 2 2, .int .i64 0, .int .i64 0] 49) := ⟨_, rfl⟩
  obtain ⟨A, hA⟩ : ∃ A, A = A1.alloc (.cells #[.slice none 0 0, .slice none 0 0, .slice (some ⟨w.heap.size + 1, 0, none⟩) 1 1, .slice none 0 0] 26) := ⟨_, rfl⟩
  have z0 : A0.heap.size = w.heap.size + 1 := by rw [hA0]; simp
  have z1 : A1.heap.size = w.heap.size + 2 := by rw [hA1]; simp; omega
  have z2 : A.heap.size = w.heap.size + 3 := by rw [hA]; simp; omega
  have b0 : Below w.heap.size w A0 := by rw [hA0]; exact (Below.refl _ _).alloc (Nat.le_refl _) _
  have b1 : Below w.heap.size w A1 := by rw [hA1]; exact b0.alloc (by omega) _
  have b2 : Below w.heap.size w A := by rw [hA]; exact b1.alloc (by omega) _
  have m0 : A.heap[w.heap.size]? = some (.cells #[.int .i64 1, .int .i64 0, .int .i64 1, .int .i64 0] 46 (0, 0)) := by rw [hA, Below.heap_alloc _ _ _ (by omega), hA1, Below.heap_alloc _ _ _ (by omega), hA0]; exact heap_alloc_new w _
  have m1 : A.heap[w.heap.size + 1]? = some (.cells #[.string ⟨#[102]⟩, .slice (some ⟨w.heap.size, 0, none⟩) 2 2, .int .i64 0, .int .i64 0] 49 (0, 0)) := by rw [hA, Below.heap_alloc _ _ _ (by omega), hA1, ← z0]; exact heap_alloc_new A0 _
  have m2 : A.heap[w.heap.size + 2]? = some (.cells #[.slice none 0 0, .slice none 0 0, .slice (some ⟨w.heap.size + 1, 0, none⟩) 1 1, .slice none 0 0] 26 (0, 0)) := by rw [hA, ← z1]; exact heap_alloc_new A1 _
  have c0 := cellOf m2 0
  have c1 := cellOf m2 1
  have c2 := cellOf m2 2
  have c3 := cellOf m2 3
  simp only [List.getElem?_toArray, List.getElem?_cons_zero, List.getElem?_cons_succ] at c0 c1 c2 c3
  have K1 := uses_any SO A _ _ (kPRd m0 m1) ⟨31, -1, 3, 0, 0⟩ (by kernel_rfl) 2 (by omega) (kPf_len _) ⟨by simp, by simp, by simp, by simp⟩
  rw [kUs] at K1
  simp only [PH.v, Opx.cs] at K1
  have K1 := hid K1
  have HBA := hid b2
  clear m0 m1 m2 b0 b1 b2 z0 z1 z2
  have KD := hid (fun (V : World) (a : Option Addr) (n c : Nat) hb ho => kDec SO V a n c hb ho)
  have KE := hid (fun (V : World) (C : CH) (fs es : List (FH × Fx)) (d : CdRd V C kCx fs es) (jr : JRd V C.ia []) (jn : C.inn = ([] : List Int).length) => (encode_any SO V C kCx fs es d [] jr jn (fun x hx => by simp at hx)).mono (fun e w' h => (by
    obtain ⟨hb, h | h⟩ := h
    · rw [kCx_is] at h; cases h.1
    · obtain ⟨_, v, he, hr⟩ := h
      rw [kCx_enc] at hr
      exact ⟨hb, v, he, hr⟩ : Below V.heap.size V w' ∧ ∃ v, e = .returned (.tuple #[v, .int .i64 0]) ∧ Row w' V.heap.size v kBs)))
  have KI := hid (fun (V : World) (C : CH) (fs es : List (FH × Fx)) (d : CdRd V C kCx fs es) => (by
    have := codeIs_any SO V C kCx fs es d
    rw [kCx_is] at this; exact this : Calls Tryz.prog 17 #[C.v] V fun e w' => e = .returned (.bool true) ∧ Below V.heap.size V w'))
  /- the code that the law makes, from a world on -/
  have MK : Hid (∀ V : World, ∃ B : World, B = (((V.alloc (.cells #[.string ⟨#[101]⟩, .slice none 0 0, .int .i64 0, .int .i64 0] 49)).alloc (.cells #[.int .i64 35, .int .i64 0, .int .i64 0, .int .i64 0, .int .i64 0, .int .i64 40, .int .i64 0, .int .i64 (-1), .int .i64 0, .int .i64 0] 54)).alloc (.cells #[.int .i64 0, .slice (some ⟨V.heap.size + 1, 0, none⟩) 2 2] 57)).alloc (.cells #[.slice none 0 0, .slice none 0 0, .slice none 0 0, .slice (some ⟨V.heap.size, 0, none⟩) 1 1, .slice none 0 0, .slice none 0 0, .slice none 0 0, .slice (some ⟨V.heap.size + 1 + 1, 0, none⟩) 1 1] 31) ∧ Below V.heap.size V B ∧ B.heap[V.heap.size + 1 + 1 + 1]? = some (.cells #[.slice none 0 0, .slice none 0 0, .slice none 0 0, .slice (some ⟨V.heap.size, 0, none⟩) 1 1, .slice none 0 0, .slice none 0 0, .slice none 0 0, .slice (some ⟨V.heap.size + 1 + 1, 0, none⟩) 1 1] 31 (0, 0)) ∧ CdRd B ⟨⟨none, 0, 0, none, 0, 0, none, 0, 0, some ⟨V.heap.size, 0, none⟩, 1, 1⟩, none, 0, 0, none, 0, 0, none, 0, 0, some ⟨V.heap.size + 1 + 1, 0, none⟩, 1, 1⟩ kCx [] [((⟨0, some ⟨V.heap.size + 1, 0, none⟩, 2, 2⟩ : FH), kFx)]) := hid (fun V => by
    refine ⟨_, rfl, ?_⟩
    obtain ⟨B0, hB0⟩ : ∃ B0, B0 = V.alloc (.cells #[.string ⟨#[101]⟩, .slice none 0 0, .int .i64 0, .int .i64 0] 49) := ⟨_, rfl⟩
    rw [← hB0]
    obtain ⟨B1, hB1⟩ : ∃ B1, B1 = B0.alloc (.cells #[.int .i64 35, .int .i64 0, .int .i64 0, .int .i64 0, .int .i64 0, .int .i64 40, .int .i64 0, .int .i64 (-1), .int .i64 0, .int .i64 0] 54) := ⟨_, rfl⟩
    rw [← hB1]
    obtain ⟨B2, hB2⟩ : ∃ B2, B2 = B1.alloc (.cells #[.int .i64 0, .slice (some ⟨V.heap.size + 1, 0, none⟩) 2 2] 57) := ⟨_, rfl⟩
    rw [← hB2]
    obtain ⟨B3, hB3⟩ : ∃ B3, B3 = B2.alloc (.cells #[.slice none 0 0, .slice none 0 0, .slice none 0 0, .slice (some ⟨V.heap.size, 0, none⟩) 1 1, .slice none 0 0, .slice none 0 0, .slice none 0 0, .slice (some ⟨V.heap.size + 1 + 1, 0, none⟩) 1 1] 31) := ⟨_, rfl⟩
    rw [← hB3]
    have z0 : B0.heap.size = V.heap.size + 1 := by rw [hB0]; simp
    have z1 : B1.heap.size = V.heap.size + 1 + 1 := by rw [hB1]; simp; omega
    have z2 : B2.heap.size = V.heap.size + 1 + 1 + 1 := by rw [hB2]; simp; omega
    have b0 : Below V.heap.size V B0 := by rw [hB0]; exact (Below.refl _ _).alloc (Nat.le_refl _) _
    have b1 : Below V.heap.size V B1 := by rw [hB1]; exact b0.alloc (by omega) _
    have b2 : Below V.heap.size V B2 := by rw [hB2]; exact b1.alloc (by omega) _
    have b3 : Below V.heap.size V B3 := by rw [hB3]; exact b2.alloc (by omega) _
    refine ⟨b3, by rw [hB3, ← z2]; exact heap_alloc_new B2 _, kCd ?_ ?_ ?_⟩
    · rw [hB3, Below.heap_alloc _ _ _ (by omega), hB2, Below.heap_alloc _ _ _ (by omega), hB1, Below.heap_alloc _ _ _ (by omega), hB0]; exact heap_alloc_new V _
    · rw [hB3, Below.heap_alloc _ _ _ (by omega), hB2, Below.heap_alloc _ _ _ (by omega), hB1, ← z0]; exact heap_alloc_new B0 _
    · rw [hB3, Below.heap_alloc _ _ _ (by omega), hB2, ← z1]; exact heap_alloc_new B1 _)
  clear SO
  go_enter Tryz.func6, Tryz.ntmps6
  go_upto_region 2 with fail
  rw [← hA0, ← hA1, ← hA]
  clear hA0 hA1 hA
  rw [show w.heap.size + 1 + 1 = w.heap.size + 2 from rfl]
  go_upto_region 3 with (go_at_call 15; (refine (Hid.out K1).mono ?_; rintro e w1 ⟨v1, rfl, hk1, hb1⟩; obtain ⟨la, lc, rfl, hi1⟩ := hk1.ird; have HI1 := hid hi1; have HW1 := hid (HBA.out.trans (hb1.mono HBA.out.size)); clear hk1 hb1 hi1))
  clear c0 c1 c2 c3 K1 HBA
  obtain ⟨B, hB, bB, mB, cB⟩ := MK.out w1
  go_upto_region 4 with fail
  rw [← hB]
  clear hB
  obtain ⟨k0, k1, k2, k3, k4, k5, k6, k7⟩ := cell_eight mB
  have K2 := KE.out B _ _ _ cB (jrd_nil _ _) rfl
  simp only [CH.v, CH.cs] at K2
  have K2 := hid K2
  have CB := hid cB
  have MB := hid mB
  have HWB := hid (HW1.out.trans (bB.mono HW1.out.size))
  have HIB := hid (HI1.out.below bB)
  have hzB : w1.heap.size + 1 + 1 + 1 < B.heap.size := lt_of_heap mB
  clear cB mB bB HI1 HW1 MK KE
  go_upto_region 5 with (go_at_call 8; (refine (Hid.out K2).mono ?_; rintro e w2 ⟨hb2, v2, rfl, hr2⟩; obtain ⟨va, vc, rfl, _⟩ := hr2.form; have K3 := hid (KD.out w2 va _ vc (hr2.rd (by unfold Byt; simp [kBs])) (fun k e => by obtain ⟨cur, hc⟩ := hr2.cells e; exact lt_of_heap hc)); have HB2 := hid hb2; clear hr2 hb2))
  clear k0 k1 k2 k3 k4 k5 k6 k7 K2 KD
  go_upto_region 6 with (go_at_call 10; (refine (Hid.out K3).mono ?_; rintro e w3 ⟨hb3, ⟨⟨ra, rn, rc, ma, mn, mc, fa, fn, fc, ea, en, ec⟩, ia, inn, ic, ta, tn, tc, ga, gn, gc, ha, hn, hc⟩, cx, fl, el, rfl, hce, hcd, hjr, hjn⟩; simp only [CH.v, CH.cs]; have HB3 := hid (HB2.out.trans (hb3.mono HB2.out.size)); have CE := hid hce; have CD := hid hcd; have JR := hid hjr; have JN := hid hjn; clear hb3 hce hcd hjr hjn))
  obtain ⟨E0, hE0⟩ : ∃ E0, E0 = w3.alloc (.cells #[.slice ra rn rc, .slice ma mn mc, .slice fa fn fc, .slice ea en ec, .slice ia inn ic, .slice ta tn tc, .slice ga gn gc, .slice ha hn hc] 31) := ⟨_, rfl⟩
  have bE : Below w3.heap.size w3 E0 := by rw [hE0]; exact (Below.refl _ _).alloc (Nat.le_refl _) _
  have mE : E0.heap[w3.heap.size]? = some (.cells #[.slice ra rn rc, .slice ma mn mc, .slice fa fn fc, .slice ea en ec, .slice ia inn ic, .slice ta tn tc, .slice ga gn gc, .slice ha hn hc] 31 (0, 0)) := by rw [hE0]; exact heap_alloc_new w3 _
  rw [← hE0]
  clear hE0
  have bBE : Below B.heap.size B E0 := HB3.out.trans (bE.mono HB3.out.size)
  have GT : Hid (∀ V : World, Below E0.heap.size E0 V → V.heap[w1.heap.size + 1 + 1 + 1]? = some (.cells #[.slice none 0 0, .slice none 0 0, .slice none 0 0, .slice (some ⟨w1.heap.size, 0, none⟩) 1 1, .slice none 0 0, .slice none 0 0, .slice none 0 0, .slice (some ⟨w1.heap.size + 1 + 1, 0, none⟩) 1 1] 31 (0, 0)) ∧ V.heap[w3.heap.size]? = some (.cells #[.slice ra rn rc, .slice ma mn mc, .slice fa fn fc, .slice ea en ec, .slice ia inn ic, .slice ta tn tc, .slice ga gn gc, .slice ha hn hc] 31 (0, 0)) ∧ CdRd V (⟨⟨none, 0, 0, none, 0, 0, none, 0, 0, some ⟨w1.heap.size, 0, none⟩, 1, 1⟩, none, 0, 0, none, 0, 0, none, 0, 0, some ⟨w1.heap.size + 1 + 1, 0, none⟩, 1, 1⟩ : CH) kCx [] [((⟨0, some ⟨w1.heap.size + 1, 0, none⟩, 2, 2⟩ : FH), kFx)] ∧ CdRd V (⟨⟨ra, rn, rc, ma, mn, mc, fa, fn, fc, ea, en, ec⟩, ia, inn, ic, ta, tn, tc, ga, gn, gc, ha, hn, hc⟩ : CH) cx fl el ∧ JRd V ia [] ∧ Below w.heap.size w V) := hid (fun V hV => by
    have b1 : Below B.heap.size B V := bBE.trans (hV.mono bBE.size)
    have b2 : Below w3.heap.size w3 V := bE.trans (hV.mono bE.size)
    exact ⟨(b1.block _ hzB).trans MB.out, (hV.block _ (lt_of_heap mE)).trans mE, CB.out.below (Nat.le_refl _) b1, CD.out.below (Nat.le_refl _) b2, CRd.below JR.out (Nat.le_refl _) b2, HWB.out.trans (b1.mono HWB.out.size)⟩)
  have b5 : Below E0.heap.size E0 (E0.alloc (.cells #[.int .i64 3, .int .i64 4] 3)) := (Below.refl _ _).alloc (Nat.le_refl _) _
  have K4 := ints_yes (E0.alloc (.cells #[.int .i64 3, .int .i64 4] 3)) la (some ⟨E0.heap.size, 0, none⟩) 2 lc 2 [3, 4] rfl (by omega) (HIB.out.below (bBE.trans (b5.mono bBE.size))) (fun j x hx => ⟨E0.heap.size, 0, rfl, by
    have q := cellOf (heap_alloc_new E0 (.cells #[.int .i64 3, .int .i64 4] 3))
    match j, hx with
    | 0, hx => simp at hx; subst hx; exact q 0
    | 1, hx => simp at hx; subst hx; exact q 1
    | j + 2, hx => simp at hx⟩)
  have K4 := hid K4
  have B5 := hid b5
  have K5 : Hid (∀ V : World, Below E0.heap.size E0 V → Calls Tryz.prog 11 #[(⟨⟨none, 0, 0, none, 0, 0, none, 0, 0, some ⟨w1.heap.size, 0, none⟩, 1, 1⟩, none, 0, 0, none, 0, 0, none, 0, 0, some ⟨w1.heap.size + 1 + 1, 0, none⟩, 1, 1⟩ : CH).v, (⟨⟨ra, rn, rc, ma, mn, mc, fa, fn, fc, ea, en, ec⟩, ia, inn, ic, ta, tn, tc, ga, gn, gc, ha, hn, hc⟩ : CH).v] V fun e w' => e = .returned (.bool true) ∧ Below V.heap.size V w') := hid (fun V hV => by
    obtain ⟨_, _, h1, h2, h3, _⟩ := GT.out V hV
    exact same_yes V (⟨⟨none, 0, 0, none, 0, 0, none, 0, 0, some ⟨w1.heap.size, 0, none⟩, 1, 1⟩, none, 0, 0, none, 0, 0, none, 0, 0, some ⟨w1.heap.size + 1 + 1, 0, none⟩, 1, 1⟩ : CH) (⟨⟨ra, rn, rc, ma, mn, mc, fa, fn, fc, ea, en, ec⟩, ia, inn, ic, ta, tn, tc, ga, gn, gc, ha, hn, hc⟩ : CH) kCx cx _ _ fl el [] h1 h2 CE.out (jrd_nil _ _) h3 rfl JN.out)
  have K6 : Hid (∀ V : World, Below E0.heap.size E0 V → Calls Tryz.prog 17 #[(⟨⟨none, 0, 0, none, 0, 0, none, 0, 0, some ⟨w1.heap.size, 0, none⟩, 1, 1⟩, none, 0, 0, none, 0, 0, none, 0, 0, some ⟨w1.heap.size + 1 + 1, 0, none⟩, 1, 1⟩ : CH).v] V fun e w' => e = .returned (.bool true) ∧ Below V.heap.size V w') := hid (fun V hV => KI.out V (⟨⟨none, 0, 0, none, 0, 0, none, 0, 0, some ⟨w1.heap.size, 0, none⟩, 1, 1⟩, none, 0, 0, none, 0, 0, none, 0, 0, some ⟨w1.heap.size + 1 + 1, 0, none⟩, 1, 1⟩ : CH) _ _ (GT.out V hV).2.2.1)
  simp only [CH.v, CH.cs] at K5 K6
  clear bE mE bBE b5 MB CB CE CD JR JN HB2 HB3 HIB K3 HWB KI
  go_wp2_with (first
    | (go_at_call 16; (refine (Hid.out K4).mono ?_; rintro e w4 ⟨rfl, hb4⟩; have HB4 := hid (B5.out.trans (hb4.mono B5.out.size)); obtain ⟨k0, k1, k2, k3, k4, k5, k6, k7⟩ := cell_eight (GT.out w4 HB4.out).1; obtain ⟨j0, j1, j2, j3, j4, j5, j6, j7⟩ := cell_eight (GT.out w4 HB4.out).2.1; clear hb4))
    | (go_at_call 11; (refine (K5.out w4 HB4.out).mono ?_; rintro e w5 ⟨rfl, hb5⟩; have HB5 := hid (HB4.out.trans (hb5.mono HB4.out.size)); clear k0 k1 k2 k3 k4 k5 k6 k7 j0 j1 j2 j3 j4 j5 j6 j7; obtain ⟨k0, k1, k2, k3, k4, k5, k6, k7⟩ := cell_eight (GT.out w5 HB5.out).1; clear hb5))
    | (go_at_call 17; (refine (K6.out w5 HB5.out).mono ?_; rintro e w6 ⟨rfl, hb6⟩; have HB6 := hid (GT.out w6 (HB5.out.trans (hb6.mono HB5.out.size))).2.2.2.2.2; clear hb6)))
  go_ret
  exact ⟨rfl, HB6.out⟩
end Go.Proofs.YthnolocldeokeaaGreat

namespace Go.Proofs.YthnolocldeokeaaGreat
open Go.RowKit Go.Deep Go.Shelf
set_option linter.unusedVariables false
set_option linter.unusedSimpArgs false
set_option maxRecDepth 100000
theorem Row.len {w : World} {B : Nat} {a : Option Addr} {n cap : Nat} {xs : List Nat} (h : Row w B (.slice a n cap) xs) : n = xs.length ∧ xs.length ≤ cap := by
  rcases h.2 with ⟨e, hn⟩ | ⟨g, cap', cur, e, hb, hgg, hc, rest⟩
  · cases e; exact ⟨hn.symm, by omega⟩
  · cases e; exact ⟨rfl, hc⟩
theorem Row.cellAt {w : World} {B : Nat} {a : Option Addr} {n cap : Nat} {xs : List Nat} (h : Row w B (.slice a n cap) xs) {j x : Nat} (hj : xs[j]? = some x) : ∃ g, a = some ⟨g, 0, none⟩ ∧ B ≤ g ∧ w.cell? ⟨g, j, none⟩ = some (.int .u8 (x : Int)) ∧ w.frozen? ⟨g, j, none⟩ = false := by
  have hlt := (List.getElem?_eq_some_iff.1 hj).1
  rcases h.2 with ⟨e, hn⟩ | ⟨g, cap', cur, e, hb, hgg, hc, hm, hs, ht⟩
  · omega
  · cases e
    refine ⟨g, rfl, hb, ?_, freeOf hgg j⟩
    rw [cellOf hgg j]
    have h1 : (cur.toList.take (xs.length * 1))[j]? = (bv xs)[j]? := by rw [ht]
    rw [List.getElem?_take, if_pos (by omega)] at h1
    rw [Array.getElem?_toList] at h1
    rw [h1]
    simp [bv, hj]
theorem Row.set {w : World} {B g n cap : Nat} {xs : List Nat} (h : Row w B (.slice (some ⟨g, 0, none⟩) n cap) xs) (j x : Nat) (hj : j < xs.length) : Row (w.setCell ⟨g, j, none⟩ (.int .u8 (x : Int))) B (.slice (some ⟨g, 0, none⟩) n cap) (xs.set j x) := by
  rcases h.2 with ⟨e, hn⟩ | ⟨g', cap', cur, e, hb, hgg, hc, hm, hs, ht⟩
  · cases e
  · cases e
    refine ⟨by simp [bv], .inr ⟨g, cap, _, by rw [List.length_set], hb, heap_set_at hgg j _, by rw [List.length_set]; exact hc, hm, by simpa using hs, ?_⟩⟩
    rw [List.length_set, Array.toList_setIfInBounds, List.take_set, ht]
    simp [bv]
theorem Row.cut {w : World} {B : Nat} {a : Option Addr} {n cap : Nat} {xs : List Nat} (h : Row w B (.slice a n cap) xs) (j : Nat) (hj : j ≤ xs.length) : Row w B (.slice a j cap) (xs.take j) := by
  have hl : (xs.take j).length = j := by rw [List.length_take]; omega
  rcases h.2 with ⟨e, hn⟩ | ⟨g', cap', cur, e, hb, hgg, hc, hm, hs, ht⟩
  · cases e
    have hj0 : j = 0 := by omega
    subst hj0
    exact Row.nil w B
  · cases e
    refine ⟨by rw [bv_length, Nat.mul_one], .inr ⟨g', cap, cur, by rw [hl], hb, hgg, by omega, hm, hs, ?_⟩⟩
    rw [hl]
    have : cur.toList.take (j * 1) = (cur.toList.take (xs.length * 1)).take (j * 1) := by rw [List.take_take]; congr 1; omega
    rw [this, ht]
    simp [bv]
theorem xor_byte (a b : Int) : ∃ y : Nat, y < 256 ∧ bits .xor .u8 a b = (y : Int) := by
  refine ⟨((BitVec.ofInt 8 a ^^^ BitVec.ofInt 8 b).toNat), (BitVec.ofInt 8 a ^^^ BitVec.ofInt 8 b).isLt, ?_⟩
  show IntKind.u8.wrap ((BitVec.ofInt 8 a ^^^ BitVec.ofInt 8 b).toNat : Int) = _
  have := (BitVec.ofInt 8 a ^^^ BitVec.ofInt 8 b).isLt
  rw [IntKind.wrap_u8]
  omega
theorem Byt.set {xs : List Nat} (h : Byt xs) (j x : Nat) (hx : x < 256) : Byt (xs.set j x) := fun y hy => by
  rcases List.mem_or_eq_of_mem_set hy with h1 | h1
  · exact h y h1
  · rw [h1]; exact hx
theorem ofB_inj' {a b : List Nat} (ha : Byt a) (hb : Byt b) (h : ofB a = ofB b) : a = b := by
  rw [← sb_ofB ha, h, sb_ofB hb]
theorem streq' (a b : ByteArray) : (a.toList == b.toList) = decide (a = b) := by
  rw [ByteArray.toList_eq, ByteArray.toList_eq]
  by_cases h : a = b
  · simp [h]
  · have : ¬ a.data = b.data := fun e => h (by cases a; cases b; simp at e; simp [e])
    simp [h, this]
theorem bytes_any (w : World) (v1 v2 : Value) (xs ys : List Nat) (h1 : Rd w v1 xs) (h2 : Rd w v2 ys) :
    Calls Tryz.prog 13 #[v1, v2] w fun e w' => e = .returned (.bool (decide (xs = ys))) ∧ w' = w := by
  have e1 := h1.conv
  have e2 := h2.conv
  obtain ⟨a1, c1, rfl, _, b1, _⟩ := h1
  obtain ⟨a2, c2, rfl, _, b2, _⟩ := h2
  have e3 : decide (ofB xs = ofB ys) = decide (xs = ys) := by
    by_cases h : xs = ys
    · simp [h]
    · have : ¬ ofB xs = ofB ys := fun e => h (ofB_inj' b1 b2 e)
      simp [h, this]
  rw [← e3]
  clear e3
  go_enter Tryz.func13, Tryz.ntmps13
  go_wp2
  go_ret
  exact ⟨by simp [streq'], rfl⟩
/- The bytes of whatever is written. -/
theorem flat_byt {α : Type} {f : α → List Nat} (h : ∀ x, Byt (f x)) : ∀ l : List α, Byt ((l.map f).flatten)
  | [] => fun x hx => by cases hx
  | a :: l => by rw [List.map_cons, List.flatten_cons]; exact (h a).append (flat_byt h l)
theorem encTy_byt (t : TyP) : Byt (encTy t) := (enc_byt _).append (enc_byt _)
theorem cnt_byt {α : Type} {f : α → List Nat} (h : ∀ x, Byt (f x)) (l : List α) : Byt (enc l.length ++ (l.map f).flatten) := (enc_byt _).append (flat_byt h l)
theorem encSg_byt (s : Sg) : Byt (encSg s) := ((encX_byt _).append (cnt_byt encTy_byt _)).append (encTy_byt _)
theorem encMp_byt (m : Mp) : Byt (encMp m) := ((encX_byt _).append (encTy_byt _)).append (encTy_byt _)
theorem encRc_byt (r : Rc) : Byt (encRc r) := ((encX_byt _).append (cnt_byt encX_byt _)).append (cnt_byt encTy_byt _)
theorem foe_byt (s : Shp) (o : Opx) (i : Fin 4) : Byt (foe s o i) := by
  unfold foe
  split
  · exact fun x hx => by cases hx
  · exact enc_byt _
theorem encOp_byt (o : Opx) : Byt (encOp o) := (enc_byt _).append (flat_byt (foe_byt _ _) _)
theorem encFx_byt (f : Fx) : Byt (encFx f) := (enc_byt _).append (cnt_byt encOp_byt _)
theorem encC_byt (c : Cx) (xs : List Int) : Byt (encC c xs) :=
  ((((((cnt_byt encRc_byt _).append (cnt_byt encMp_byt _)).append (cnt_byt encSg_byt _)).append (cnt_byt encSg_byt _)).append (cnt_byt (fun _ => enc_byt _) _)).append (cnt_byt encX_byt _)).append (flat_byt encFx_byt _)
/- What Encode gives, in one form: some bytes. -/
def EnW (w : World) (e : Ending) (w' : World) : Prop := Below w.heap.size w w' ∧ ∃ v k bs, e = .returned (.tuple #[v, .int .i64 k]) ∧ Row w' w.heap.size v bs ∧ Byt bs ∧ bs.length ≤ 10000000
theorem enw_any (SO : ShapeC) (w : World) (C : CH) (c : Cx) (xs : List Int) (fs es : List (FH × Fx)) (d : CwRd w C c xs fs es) : Calls Tryz.prog 8 #[C.v] w (EnW w) :=
  (encode_any SO w C c fs es d.cd xs d.ir d.i1 d.ix).mono fun e w' h => by
    obtain ⟨hb, ⟨_, he⟩ | ⟨hi, v, he, hr⟩⟩ := h
    · exact ⟨hb, _, _, [], he, Row.nil _ _, (fun x hx => absurd hx (by simp) : Byt []), Nat.zero_le _⟩
    · exact ⟨hb, _, _, _, he, hr, encC_byt _ _, encC_le (is_sm hi) (d.i1.symm.trans d.cd.i1) d.ix⟩
set_option maxHeartbeats 4000000 in
theorem codeReads_any (SO : ShapeC) (w : World) (ba : Option Addr) (bcap : Nat) (bb : List Nat) (hb0 : Rd w (.slice ba bb.length bcap) bb) (hbl : bb.length ≤ 9223372036854775807) (hbo : bb.length ≠ 0 → ∀ k, (Value.slice ba bb.length bcap).ownBlock = some k → k < w.heap.size) (C : CH) (c : Cx) (xs : List Int) (fs es : List (FH × Fx)) (d : CwRd w C c xs fs es) (at' cut : Int) (by' : Nat) :
    Calls Tryz.prog 4 #[.slice ba bb.length bcap, C.v, .int .i64 at', .int .u8 (by' : Int), .int .i64 cut] w fun e w' => e = .returned (.bool true) ∧ Below w.heap.size w w' := by
  obtain ⟨W0, hW0⟩ : ∃ W0, W0 = w.alloc (.cells C.cs 31) := ⟨_, rfl⟩
  have bw : Below w.heap.size w W0 := by rw [hW0]; exact (Below.refl _ _).alloc (Nat.le_refl _) _
  have q0 : W0.heap[w.heap.size]? = some (.cells C.cs 31 (0, 0)) := by rw [hW0]; exact heap_alloc_new w _
  have K0 := hid (known9_any SO W0)
  have KF := hid (fun (V : World) (hV : Below w.heap.size w V) => few9_any V C c xs fs es (d.below hV))
  have KE := hid (fun (V : World) (hV : Below w.heap.size w V) => enw_any SO V C c xs fs es (d.below hV))
  have RB : Hid (∀ V : World, Below w.heap.size w V → Rd V (.slice ba bb.length bcap) bb) := hid (fun V hV => hb0.below (Nat.le_refl _) hV)
  have BO := hid hbo
  have SOH := hid SO
  have GT : Hid (∀ V : World, Below W0.heap.size W0 V → V.heap[w.heap.size]? = some (.cells C.cs 31 (0, 0)) ∧ Below w.heap.size w V) := hid (fun V hV => ⟨(hV.block _ (lt_of_heap q0)).trans q0, bw.trans (hV.mono bw.size)⟩)
  have TR : Hid (∀ {x y : World}, Below W0.heap.size W0 x → Below x.heap.size x y → Below W0.heap.size W0 y) := hid (fun h1 h2 => h1.trans (h2.mono h1.size))
  clear d bw q0 hb0 hbo SO
  obtain ⟨⟨ra, rn, rc, ma, mn, mc, pfa, pfn, pfc, pea, pen, pec⟩, ia, inn, ic, ta, tn, tc, ga, gn, gc, ha, hn, hc⟩ := C
  simp only [CH.v, CH.cs] at hW0 GT KF KE ⊢
  go_enter Tryz.func4, Tryz.ntmps4
  go_upto_region 1 with fail
  rw [← hW0]
  clear hW0
  go_upto_region 3 with (go_at_call 6; (refine (Hid.out K0).mono ?_; rintro e w1 ⟨rfl, hb1⟩; have HB1 := hid hb1; clear hb1))
  obtain ⟨k0, k1, k2, k3, k4, k5, k6, k7⟩ := cell_eight (GT.out w1 HB1.out).1
  have KF1 := hid (KF.out w1 (GT.out w1 HB1.out).2)
  clear KF K0
  by_cases hlong : (5000 : Int) < (bb.length : Int)
  · go_wp2
    go_ret
    exact ⟨rfl, (GT.out w1 HB1.out).2⟩
  go_upto_region 5 with (go_at_call 7; (refine (Hid.out KF1).mono ?_; rintro e w2 ⟨hb2, b2, rfl, _⟩; have HB2 := hid (TR.out HB1.out hb2); clear hb2; cases b2))
  · go_ret
    exact ⟨rfl, (GT.out w2 HB2.out).2⟩
  clear k0 k1 k2 k3 k4 k5 k6 k7 HB1 KF1
  obtain ⟨k0, k1, k2, k3, k4, k5, k6, k7⟩ := cell_eight (GT.out w2 HB2.out).1
  have HBW := hid (GT.out w2 HB2.out).2
  have KE1 := hid (KE.out w2 HBW.out)
  clear KE GT TR HB2
  go_upto_if 27 with fail
  go_cut [0] from 15 to 62 (fun s wc => ∃ (a : Option Addr) (n cp : Nat) (bs : List Nat), s = .slice a n cp ∧ Rd wc (.slice a n cp) bs ∧ bs.length ≤ 1000000000 ∧ (∀ k, (Value.slice a n cp).ownBlock = some k → k < wc.heap.size) ∧ Below w.heap.size w wc)
  case first =>
    by_cases hz : (bb.length : Int) = 0
    · go_upto_region 8 with (first
        | (go_at_call 8; (refine (Hid.out KE1).mono ?_; rintro e w3 ⟨hb3, vb, kk, bs, rfl, hvb, hby, hln⟩; have B3 := hid (HBW.out.trans (hb3.mono HBW.out.size)); have Hvb := hid hvb; have HBy := hid hby; have hbl2 : bs.length ≤ 1099511627776 := (by omega); have hln' := hid hln; clear hb3 hvb hby hln k0 k1 k2 k3 k4 k5 k6 k7))
        | (at_builtin; refine wpList_appR _ rfl _ _ rfl (.slice none 0 0) vb (by rfl) (by rfl) w3.heap.size [] bs (Row.nil _ _) (Hvb.out.rd HBy.out) Hvb.out.nilOf (Nat.le_refl _) (by simp) hbl2 ?_; intro v4 w4 hr4 hg4; obtain ⟨ca, cc, rfl, _⟩ := hr4.form; have Hr4 := hid hr4; have B4 := hid hg4.nil; clear hr4 hg4))
      have hr4 : Row w4 w3.heap.size (.slice ca bs.length cc) bs := Hr4.out
      have Hr4' := hid hr4
      have B4' : Hid (Below w.heap.size w w4) := hid (B3.out.trans (B4.out.mono B3.out.size))
      clear hr4 Hr4 hz
      go_cut [42] from 35 to 41 (fun v42 wd => v42 = .bool (decide (0 ≤ at') && decide (at' < (bs.length : Int))) ∧ wd = w4)
      case first =>
        by_cases h1 : 0 ≤ at'
        · by_cases h2 : at' < (bs.length : Int)
          · go_wp2
            go_meet
            case rel => exact ⟨by simp [h1, h2], rfl⟩
          · go_wp2
            go_meet
            case rel => exact ⟨by simp [h1, h2], rfl⟩
        · have Hh1 := hid h1
          go_wp2
          go_meet
          case rel => exact ⟨by rw [decide_eq_false (by have := Hh1.out; omega), Bool.false_and], rfl⟩
      case rest =>
      obtain ⟨rfl, rfl⟩ := hcut
      go_upto_if 42 with fail
      go_cut [0] from 35 to 51 (fun v0 wd => ∃ (ca : Option Addr) (cc : Nat) (cs : List Nat), v0 = .slice ca bs.length cc ∧ Row wd w3.heap.size (.slice ca bs.length cc) cs ∧ Byt cs ∧ cs.length = bs.length ∧ Below w3.heap.size w3 wd)
      case first =>
        by_cases h0 : 0 ≤ at' ∧ at' < (bs.length : Int)
        · obtain ⟨h01, h02⟩ := h0
          obtain ⟨an, rfl⟩ : ∃ an : Nat, at' = (an : Int) := ⟨at'.toNat, by omega⟩
          have hanl : an < bs.length := by omega
          obtain ⟨x, hx⟩ : ∃ x, bs[an]? = some x := ⟨bs[an], by simp [hanl]⟩
          obtain ⟨g9, rfl, hB9, hc9, hf9⟩ := Hr4'.out.cellAt hx
          obtain ⟨y, hy, ey⟩ := xor_byte (x : Int) (by' : Int)
          have HN := hid (Hr4'.out.set an y hanl)
          have HB9 := hid hB9
          clear hx hB9
          have hde : (decide ((0 : Int) ≤ (an : Int)) && decide ((an : Int) < (bs.length : Int))) = true := by simp [hanl]
          go_wp2
          go_meet
          case rel => exact ⟨_, _, bs.set an y, rfl, HN.out, HBy.out.set an y hy, by rw [List.length_set], B4.out.setCell (p := ⟨g9, an, none⟩) HB9.out _⟩
        · by_cases h1 : 0 ≤ at'
          · have h2 : ¬ at' < (bs.length : Int) := fun h => h0 ⟨h1, h⟩
            have hde : (decide ((0 : Int) ≤ at') && decide (at' < (bs.length : Int))) = false := by simp [h1, h2]
            clear h0
            go_wp2
            go_meet
            case rel => exact ⟨_, _, bs, rfl, Hr4'.out, HBy.out, rfl, B4.out⟩
          · have hde : (decide ((0 : Int) ≤ at') && decide (at' < (bs.length : Int))) = false := by simp [h1]
            clear h0
            go_wp2
            go_meet
            case rel => exact ⟨_, _, bs, rfl, Hr4'.out, HBy.out, rfl, B4.out⟩
      case rest =>
        obtain ⟨ca2, cc2, cs2, rfl, hr5, hby5, hl5, hb5⟩ := hcut
        have Hr5 := hid hr5
        have Hby5 := hid hby5
        have Hl5 := hid hl5
        have B5 := hid (B3.out.trans (hb5.mono B3.out.size))
        have hcc : bs.length ≤ cc2 := by have := hr5.len.2; rw [hl5] at this; exact this
        have hccI : (bs.length : Int) ≤ (cc2 : Int) := by omega
        clear hr5 hby5 hl5 hb5 Hr4' B4 B4' hcc
        have OWN : Hid (∀ (V : World) (a : Option Addr) (n c : Nat) (zs : List Nat), Row V w3.heap.size (.slice a n c) zs → ∀ k, (Value.slice a n c).ownBlock = some k → k < V.heap.size) := hid (fun V a n c zs h k e => (h.own k e).2)
        go_upto_region 10 with fail
        by_cases h1 : 0 ≤ cut
        · by_cases h2 : cut < (bs.length : Int)
          · obtain ⟨kn, rfl⟩ : ∃ kn : Nat, cut = (kn : Int) := ⟨cut.toNat, by omega⟩
            have hkl : kn < bs.length := by omega
            have HC := hid (Hr5.out.cut kn (by rw [Hl5.out]; omega))
            go_wp2
            go_meet
            case rel => exact ⟨_, _, _, cs2.take kn, rfl, HC.out.rd (fun x hx => Hby5.out x (List.mem_of_mem_take hx)), by have := hln'.out; rw [List.length_take, Hl5.out]; omega, OWN.out _ _ _ _ _ HC.out, B5.out⟩
          · go_wp2
            go_meet
            case rel => exact ⟨_, _, _, cs2, rfl, Hr5.out.rd Hby5.out, by have := hln'.out; rw [Hl5.out]; omega, OWN.out _ _ _ _ _ Hr5.out, B5.out⟩
        · go_wp2
          go_meet
          case rel => exact ⟨_, _, _, cs2, rfl, Hr5.out.rd Hby5.out, by have := hln'.out; rw [Hl5.out]; omega, OWN.out _ _ _ _ _ Hr5.out, B5.out⟩
    · have HZ : Hid (bb.length ≠ 0) := hid (by omega)
      go_wp2
      go_meet
      case rel => exact ⟨_, _, _, bb, rfl, RB.out _ HBW.out, by omega, fun k e => Nat.lt_of_lt_of_le (BO.out HZ.out k e) HBW.out.size, HBW.out⟩
  case rest =>
    obtain ⟨a, n, cp, bs, rfl, hrd, hln, hown, hbw⟩ := hcut
    have KD := hid (decode_any SOH.out wc a n cp bs hrd hln hown)
    have RD := hid (fun (V : World) (hV : Below wc.heap.size wc V) => hrd.below (Nat.le_refl _) hV)
    have BW := hid hbw
    have KZ : Hid (∀ V : World, Calls Tryz.prog 11 #[zCH.v, zCH.v] V fun e w' => e = .returned (.bool true) ∧ Below V.heap.size V w') := hid (fun V => same_yes V zCH zCH c0 c0 [] [] [] [] [] (zero_cd V) (zero_cd V) (CEq.refl _) (jrd_nil _ _) (jrd_nil _ _) rfl rfl)
    simp only [zCH, CH.v, CH.cs] at KZ
    clear hrd hln hown hbw RB BO k0 k1 k2 k3 k4 k5 k6 k7 KE1
    go_upto_region 13 with (go_at_call 10; (refine (Hid.out KD).mono ?_; rintro e w5 ⟨hb5, rfl | ⟨⟨⟨xra, xrn, xrc, xma, xmn, xmc, xfa, xfn, xfc, xea, xen, xec⟩, yia, yin, yic, yta, ytn, ytc, yga, ygn, ygc, yha, yhn, yhc⟩, cy, fl, el, xs2, rfl, hi, hxl, hxi, hbs, hcd, hj, hn2⟩⟩ <;> simp only [zeroC, CH.v, CH.cs]))
    · have HB5 := hid hb5
      clear hb5
      obtain ⟨E0, hE0⟩ : ∃ E0, E0 = w5.alloc (.cells #[.slice none 0 0, .slice none 0 0, .slice none 0 0, .slice none 0 0, .slice none 0 0, .slice none 0 0, .slice none 0 0, .slice none 0 0] 31) := ⟨_, rfl⟩
      have bE : Below w5.heap.size w5 E0 := by rw [hE0]; exact (Below.refl _ _).alloc (Nat.le_refl _) _
      have mE : E0.heap[w5.heap.size]? = some (.cells #[.slice none 0 0, .slice none 0 0, .slice none 0 0, .slice none 0 0, .slice none 0 0, .slice none 0 0, .slice none 0 0, .slice none 0 0] 31 (0, 0)) := by rw [hE0]; exact heap_alloc_new w5 _
      rw [← hE0]
      clear hE0
      obtain ⟨k0, k1, k2, k3, k4, k5, k6, k7⟩ := cell_eight mE
      have HE := hid (BW.out.trans ((HB5.out.trans (bE.mono HB5.out.size)).mono BW.out.size))
      have KZ1 := hid (KZ.out E0)
      clear mE bE HB5 KZ
      go_wp2_with (go_at_call 11; (refine (Hid.out KZ1).mono ?_; rintro e w6 ⟨rfl, hb6⟩; have HB6 := hid (HE.out.trans (hb6.mono HE.out.size)); clear hb6))
      go_ret
      exact ⟨rfl, HB6.out⟩
    · have HB5 := hid hb5
      have HI := hid hi
      have HX1 := hid hxl
      have HX2 := hid hxi
      have HBS := hid hbs
      have HCD := hid hcd
      have HJ := hid hj
      have HN2 := hid hn2
      clear hb5 hi hxl hxi hbs hcd hj hn2 KZ
      obtain ⟨E0, hE0⟩ : ∃ E0, E0 = w5.alloc (.cells #[.slice xra xrn xrc, .slice xma xmn xmc, .slice xfa xfn xfc, .slice xea xen xec, .slice yia yin yic, .slice yta ytn ytc, .slice yga ygn ygc, .slice yha yhn yhc] 31) := ⟨_, rfl⟩
      have bE : Below w5.heap.size w5 E0 := by rw [hE0]; exact (Below.refl _ _).alloc (Nat.le_refl _) _
      have mE : E0.heap[w5.heap.size]? = some (.cells #[.slice xra xrn xrc, .slice xma xmn xmc, .slice xfa xfn xfc, .slice xea xen xec, .slice yia yin yic, .slice yta ytn ytc, .slice yga ygn ygc, .slice yha yhn yhc] 31 (0, 0)) := by rw [hE0]; exact heap_alloc_new w5 _
      rw [← hE0]
      clear hE0
      have HE := hid (HB5.out.trans (bE.mono HB5.out.size))
      have GE : Hid (∀ V : World, Below E0.heap.size E0 V → V.heap[w5.heap.size]? = some (.cells #[.slice xra xrn xrc, .slice xma xmn xmc, .slice xfa xfn xfc, .slice xea xen xec, .slice yia yin yic, .slice yta ytn ytc, .slice yga ygn ygc, .slice yha yhn yhc] 31 (0, 0)) ∧ CdRd V (⟨⟨xra, xrn, xrc, xma, xmn, xmc, xfa, xfn, xfc, xea, xen, xec⟩, yia, yin, yic, yta, ytn, ytc, yga, ygn, ygc, yha, yhn, yhc⟩ : CH) cy fl el ∧ JRd V yia xs2 ∧ Below wc.heap.size wc V) := hid (fun V hV => by
        have b2 : Below w5.heap.size w5 V := bE.trans (hV.mono bE.size)
        exact ⟨(hV.block _ (lt_of_heap mE)).trans mE, HCD.out.below (Nat.le_refl _) b2, CRd.below HJ.out (Nat.le_refl _) b2, HE.out.trans (hV.mono HE.out.size)⟩)
      have KE2 : Hid (Calls Tryz.prog 8 #[((⟨⟨xra, xrn, xrc, xma, xmn, xmc, xfa, xfn, xfc, xea, xen, xec⟩, yia, yin, yic, yta, ytn, ytc, yga, ygn, ygc, yha, yhn, yhc⟩ : CH)).v] E0 fun e w' => Below E0.heap.size E0 w' ∧ ∃ va vc, e = .returned (.tuple #[.slice va bs.length vc, .int .i64 0]) ∧ Rd w' (.slice va bs.length vc) bs) := hid ((encode_any SOH.out E0 _ cy fl el (GE.out E0 (Below.refl _ _)).2.1 xs2 (GE.out E0 (Below.refl _ _)).2.2.1 HN2.out HX2.out).mono fun e w' h => by
        obtain ⟨hb, ⟨hf, _⟩ | ⟨_, v, he, hr⟩⟩ := h
        · rw [HI.out] at hf; cases hf
        · rw [← HBS.out] at hr
          obtain ⟨va, vc, rfl, _⟩ := hr.form
          exact ⟨hb, va, vc, he, hr.rd (by rw [HBS.out]; exact encC_byt _ _)⟩)
      have KI2 : Hid (∀ V : World, Below E0.heap.size E0 V → Calls Tryz.prog 9 #[((⟨⟨xra, xrn, xrc, xma, xmn, xmc, xfa, xfn, xfc, xea, xen, xec⟩, yia, yin, yic, yta, ytn, ytc, yga, ygn, ygc, yha, yhn, yhc⟩ : CH)).v] V fun e w' => e = .returned (.bool true) ∧ Below V.heap.size V w') := hid (fun V hV => by
        have := refIs_any V _ _ _ _ (GE.out V hV).2.1
        rw [isEq (GE.out V hV).2.1, HI.out] at this
        exact this)
      simp only [CH.v, CH.cs] at KE2 KI2
      obtain ⟨k0, k1, k2, k3, k4, k5, k6, k7⟩ := cell_eight mE
      clear mE bE HB5 HI HX1 HX2 HBS HCD HJ HN2 HE SOH KD
      go_upto_region 16 with (go_at_call 8; (refine (Hid.out KE2).mono ?_; rintro e w6 ⟨hb6, va, vc, rfl, hr6⟩; have HB6 := hid hb6; have HR6 := hid hr6; clear hb6 hr6 k0 k1 k2 k3 k4 k5 k6 k7))
      obtain ⟨k0, k1, k2, k3, k4, k5, k6, k7⟩ := cell_eight (GE.out w6 HB6.out).1
      have KB := hid (bytes_any w6 _ _ bs bs HR6.out (RD.out w6 (GE.out w6 HB6.out).2.2.2))
      rw [show decide (bs = bs) = true from by simp] at KB
      go_wp2_with (first
        | (go_at_call 13; (refine (Hid.out KB).mono ?_; rintro e w7 ⟨rfl, hw7⟩; subst hw7))
        | (go_at_call 9; (refine (KI2.out _ HB6.out).mono ?_; rintro e w8 ⟨rfl, hb8⟩; have HB8 := hid (BW.out.trans ((GE.out w8 (HB6.out.trans (hb8.mono HB6.out.size))).2.2.2.mono BW.out.size)); clear hb8)))
      go_ret
      exact ⟨rfl, HB8.out⟩
end Go.Proofs.YthnolocldeokeaaGreat

namespace Go.Proofs.YthnolocldeokeaaGreat
open Go.ChangeShapes Go.WideShapes Go.ChangeAt Go.RowKit Go.Deep
set_option linter.unusedVariables false
set_option linter.unusedSimpArgs false
theorem cellsU8 : Tryz.prog.cellsOf 5 = 1 := by kernel_rfl
set_option maxRecDepth 100000 in
theorem rd_of {H : Type} {enc : TypeId × Value → H} {W : World} {v : Value} {d : DataW H} {ps : List MemPlace} {a0 : Option Addr} {len cap : Nat} (hv : v = .slice a0 len cap) (h : DataW.Trod enc Tryz.prog W 0 (fun _ => true) true 34 v d ps) :
    ∃ bs : List Nat, bs.length = len ∧ Rd W v bs ∧ (v.ownBlock = none → v = .slice none 0 0) := by
  subst hv
  obtain ⟨fuel, hf⟩ := h
  rcases open_ints Tryz.underlying34 Tryz.underlying5 cellsU8 hf with ⟨hcs, _⟩ | ⟨a, l, c, zs, hcs, _, hl, hm, hz, _, hc, hwf⟩
  · simp [Value.cells] at hcs
    obtain ⟨rfl, rfl, rfl⟩ := hcs
    exact ⟨[], rfl, Rd.nil W, fun _ => rfl⟩
  · simp [Value.cells] at hcs
    obtain ⟨rfl, rfl, rfl⟩ := hcs
    simp at hz
    have hzl : ((zs.take len).map Int.toNat).length = len := by simp; omega
    have hby : ∀ z ∈ zs, 0 ≤ z ∧ z ≤ 255 := fun z hz => by simpa [Lit.wf, IntKind.min, IntKind.max, IntKind.signed, IntKind.bits] using hwf z hz
    refine ⟨(zs.take len).map Int.toNat, hzl, ⟨some a, cap, by rw [hzl], by omega, ?_, ?_⟩, fun e => by cases e⟩
    · intro x hx
      simp only [List.mem_map] at hx
      obtain ⟨z, hz, rfl⟩ := hx
      have := hby z (List.mem_of_mem_take hz)
      omega
    · intro j x hx
      simp only [List.getElem?_map, Option.map_eq_some_iff] at hx
      obtain ⟨z, hz', rfl⟩ := hx
      have hz2 := List.mem_of_getElem? hz'
      rw [List.getElem?_take] at hz'
      split at hz'
      · rename_i hjl
        have h0 := hc 0 (by omega)
        have hj := hc j (by omega)
        have hspot := World.cell?_spot h0
        obtain ⟨b, off, spot⟩ := a
        simp [Addr.add] at hspot
        subst hspot
        refine ⟨b, off, rfl, ?_⟩
        rw [Addr.add_lit] at hj
        rw [hj]
        have := hby z (List.mem_of_mem_take hz2)
        have e : zs.getD j 0 = z := by simp [List.getD, hz']
        rw [e]
        congr 2
        omega
      · cases hz'


set_option maxRecDepth 100000 in
theorem byte_of {H : Type} {enc : TypeId × Value → H} {W : World} {x : Int} {d : DataW H} {ps : List MemPlace} (h : DataW.Trod enc Tryz.prog W 0 (fun _ => true) true 5 (.int .u8 x) d ps) : ∃ n : Nat, x = (n : Int) ∧ n < 256 := by
  obtain ⟨fuel, hf⟩ := h
  obtain ⟨n, e, _, w⟩ := DataW.trod_int Tryz.underlying5 hf
  simp [Value.cells] at e
  subst e
  have : 0 ≤ x ∧ x ≤ 255 := by simpa [Lit.wf, IntKind.min, IntKind.max, IntKind.signed, IntKind.bits] using w
  exact ⟨x.toNat, by omega, by omega⟩
set_option maxRecDepth 100000 in
theorem reads_lifted (os : Os) (started : os.Started) (H : Type) (enc : TypeId × Value → H) :
    ReturnsInHanded {} Tryz.checked os 4 .any (Rows.codeReadsSpec.pre6 enc Tryz.prog Tryz.f4 Rows.codeReadsRow.domain false) (Rows.codeReadsSpec.post enc Tryz.prog Tryz.f4 false true false false) := by
  refine returnsInHanded_of_change_sized (C := Tryz.checked) ownN started (by kernel_rfl) Tryz.func4
    (ChangeSpec.witness6 (enc := enc) (C := Tryz.checked) false ⟨#[], #[.slice none 0 0, .agg #[.slice none 0 0, .slice none 0 0, .slice none 0 0, .slice none 0 0, .slice none 0 0, .slice none 0 0, .slice none 0 0, .slice none 0 0], .int .i64 0, .int .u8 0, .int .i64 0], []⟩ 8 (by kernel_rfl) (by kernel_rfl) (by kernel_rfl) (by kernel_rfl)) ?_
  intro W base args ds gs before hval0 hW hcnd hsz _
  have hval : ∀ (j : Nat) t v, Tryz.f4.params[j]? = some t → args[j]? = some v → Value.okWide Tryz.prog W .any base t v := hval0
  have hW' := hW
  obtain ⟨p, q, hA0, hV, rfl, hfz, hnd⟩ := hW
  have hA : DataW.TrodAll enc Tryz.prog W 0 (fun _ => true) true Tryz.f4.params.toList args.toList ds p := hA0
  rw [Tryz.params4] at hA hval
  obtain ⟨v0, vs0, d0, ds0, p0, q0, hargs, rfl, rfl, h0, r0⟩ := trodAll_cons hA
  obtain ⟨v1, vs1, d1, ds1, p1, q1, rfl, rfl, rfl, h1, r1⟩ := trodAll_cons r0
  obtain ⟨v2, vs2, d2, ds2, p2, q2, rfl, rfl, rfl, h2, r2⟩ := trodAll_cons r1
  obtain ⟨v3, vs3, d3, ds3, p3, q3, rfl, rfl, rfl, h3, r3⟩ := trodAll_cons r2
  obtain ⟨v4, vs4, d4, ds4, p4, q4, rfl, rfl, rfl, h4, r4⟩ := trodAll_cons r3
  obtain ⟨rfl, rfl, rfl⟩ := trodAll_nil r4
  obtain rfl : args = #[v0, v1, v2, v3, v4] := by cases args; simp_all
  obtain ⟨rfl, rfl⟩ := trodVars_none hV
  have lt0 : ∀ x ∈ p0, x.block < W.heap.size := by obtain ⟨m, hm⟩ := h0; exact DataW.trod_lt m _ _ _ hm
  have lt1 : ∀ x ∈ p1, x.block < W.heap.size := by obtain ⟨m, hm⟩ := h1; exact DataW.trod_lt m _ _ _ hm
  have lt2 : ∀ x ∈ p2, x.block < W.heap.size := by obtain ⟨m, hm⟩ := h2; exact DataW.trod_lt m _ _ _ hm
  have lt3 : ∀ x ∈ p3, x.block < W.heap.size := by obtain ⟨m, hm⟩ := h3; exact DataW.trod_lt m _ _ _ hm
  have lt4 : ∀ x ∈ p4, x.block < W.heap.size := by obtain ⟨m, hm⟩ := h4; exact DataW.trod_lt m _ _ _ hm
  have hs : f_Sm 31 d1 := fun n hn => by
    have h1 := List.all_eq_true.1 hsz n (DataW.weights_mem_each (j := 1) (t := 31) (d := d1) rfl rfl n hn)
    exact of_decide_eq_true h1
  obtain ⟨C, c, xs, fs, es, rfl, hC⟩ := code_arg (hval 1 31 v1 rfl rfl) h1 hs
  obtain ⟨x2, rfl⟩ := okWide_int Tryz.underlying3 (hval 2 3 v2 rfl rfl)
  obtain ⟨x3, rfl⟩ := okWide_int Tryz.underlying5 (hval 3 5 v3 rfl rfl)
  obtain ⟨x4, rfl⟩ := okWide_int Tryz.underlying3 (hval 4 3 v4 rfl rfl)
  obtain ⟨a0, len0, cap0, rfl⟩ := okWide_slice Tryz.underlying34 (hval 0 34 v0 rfl rfl)
  obtain ⟨b3, rfl, hb3⟩ := byte_of h3
  obtain ⟨bb, rfl, hbb, hnil⟩ := rd_of rfl h0
  have hbl : bb.length ≤ 9223372036854775807 := by
    obtain ⟨m, hm⟩ := h0
    rcases open_slice Tryz.underlying34 hm with ⟨hcs, _⟩ | ⟨a, l, c, m', n', D', Pl, hcs, _, hl, hm', hmm, _, hx⟩
    · simp [Value.cells] at hcs; obtain ⟨_, h1, _⟩ := hcs; simp [h1]
    · simp [Value.cells] at hcs; unfold maxLen at hm'; omega
  have hbo : bb.length ≠ 0 → ∀ k, (Value.slice a0 bb.length cap0).ownBlock = some k → k < W.heap.size := fun hz k hk => by
    obtain ⟨a', cap', e', _, _, hcell⟩ := hbb
    obtain ⟨b, off, hab, hc⟩ := hcell 0 (bb[0]'(by omega)) (List.getElem?_eq_getElem (by omega))
    cases e'
    subst hab
    cases hk
    exact World.block_lt_of_cell? W _ hc
  clear hA0 hval0
  refine (codeReads_any shapeOf_any W a0 cap0 bb hbb hbl hbo C c xs fs es hC x2 x4 b3).mono fun e W' ⟨he, bel⟩ => ?_
  subst he
  exact ⟨_, rfl, _, _, _, [], _, [], hW', trodAll_mk1 (shut_bool Tryz.underlying4 _), (trodAll_cons_mk (Below.trod laidOut (by kernel_rfl) (of_decide_eq_true (by kernel_rfl)) h0 bel lt0) (trodAll_cons_mk (Below.trod laidOut (by kernel_rfl) (of_decide_eq_true (by kernel_rfl)) h1 bel lt1) (trodAll_cons_mk (Below.trod laidOut (by kernel_rfl) (of_decide_eq_true (by kernel_rfl)) h2 bel lt2) (trodAll_cons_mk (Below.trod laidOut (by kernel_rfl) (of_decide_eq_true (by kernel_rfl)) h3 bel lt3) (trodAll_cons_mk (Below.trod laidOut (by kernel_rfl) (of_decide_eq_true (by kernel_rfl)) h4 bel lt4) trodAll_mk0))))), rfl, bel.frame _, fun h => by cases h⟩
theorem codeReads_holds : Rows.CodeReadsSaid :=
  OpenClaim.holds_of_wide 4 Tryz.f4 rfl rfl rfl rfl rfl rfl rfl ⟨rfl, rfl, rfl, rfl, rfl⟩ rfl rfl rfl rfl rfl (by kernel_rfl) Tryz.func4 (by kernel_rfl)
    (of_decide_eq_true (by kernel_rfl)) (by unfold Func.isWrapper; first | (rw [if_pos (by decide +kernel)]; kernel_rfl) | (rw [if_neg (by decide +kernel)]; exact ⟨rfl, rfl⟩))
    (fun os started H enc _ => reads_lifted os started H enc)
end Go.Proofs.YthnolocldeokeaaGreat

