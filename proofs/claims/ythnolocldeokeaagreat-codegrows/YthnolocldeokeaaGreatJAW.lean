/-
  CodeGrows returns true for every three numbers, and its arguments read behind the call as they read before.
  No condition.
-/
import Derived.Test.YthnolocldeokeaaGreatJAV
import Derived.ProofKit
import Derived.OpenShut
import Derived.ChangeOld
namespace Go.Proofs.YthnolocldeokeaaGreat
open Go.RowKit Go.Deep Go.Shelf
set_option linter.unusedVariables false
set_option linter.unusedSimpArgs false
set_option maxRecDepth 100000
set_option maxHeartbeats 4000000 in
theorem known9_any (SO : ShapeC) (w : World) : Calls Tryz.prog 6 #[] w fun e w' => e = .returned (.bool true) ∧ Below w.heap.size w w' := by
  obtain ⟨A0, hA0⟩ : ∃ A0, A0 = w.alloc (.cells #[.int .i64 1, .int .i64 0, .int .i64 1, .int .i64 0] 46) := ⟨_, rfl⟩
  obtain ⟨A1, hA1⟩ : ∃ A1, A1 = A0.alloc (.cells #[.string ⟨#[102]⟩, .slice (some ⟨w.heap.size, 0, none⟩) 2 2, .int .i64 0, .int .i64 0] 49) := ⟨_, rfl⟩
  obtain ⟨A, hA⟩ : ∃ A, A = A1.alloc (.cells #[.slice none 0 0, .slice none 0 0, .slice (some ⟨w.heap.size + 1, 0, none⟩) 1 1, .slice none 0 0] 26) := ⟨_, rfl⟩
  have z0 : A0.heap.size = w.heap.size + 1 := by rw [hA0]; simp
  have z1 : A1.heap.size = w.heap.size + 2 := by rw [hA1]; simp; omega
  have z2 : A.heap.size = w.heap.size + 3 := by rw [hA]; simp; omega
  have b0 : Below w.heap.size w A0 := by rw [hA0]; exact (Below.refl _ _).alloc (Nat.le_refl _) _
  have b1 : Below w.heap.size w A1 := by rw [hA1]; exact b0.alloc (by omega) _
  have b2 : Below w.heap.size w A := by rw [hA]; exact b1.alloc (by omega) _
  have m0 : A.heap[w.heap.size]? = some (.cells #[.int .i64 1, .int .i64 0, .int .i64 1, .int .i64 0] 46 (0, 0)) := by rw [hA, Below.heap_alloc _ _ _ (by omega), hA1, Below.heap_alloc _ _ _ (by omega), hA0]; exact heap_alloc_new w _
  have m1 : A.heap[w.heap.size + 1]? = some (.cells #[.string ⟨#[102]⟩, .slice (some ⟨w.heap.size, 0, none⟩) 2 2, .int .i64 0, .int .i64 0] 49 (0, 0)) := by rw [hA, Below.heap_alloc _ _ _ (by omega), hA1, ← z0]; exact heap_alloc_new A0 _
  have m2 : A.heap[w.heap.size + 2]? = some (.cells #[.slice none 0 0, .slice none 0 0, .slice (some ⟨w.heap.size + 1, 0, none⟩) 1 1, .slice none 0 0] 26 (0, 0)) := by rw [hA, ← z1]; exact heap_alloc_new A1 _
  have c0 := cellOf m2 0
  have c1 := cellOf m2 1
  have c2 := cellOf m2 2
  have c3 := cellOf m2 3
  simp only [List.getElem?_toArray, List.getElem?_cons_zero, List.getElem?_cons_succ] at c0 c1 c2 c3
  have K1 := uses_any SO A _ _ (kPRd m0 m1) ⟨31, -1, 3, 0, 0⟩ (by kernel_rfl) 2 (by omega) (kPf_len _) ⟨by simp, by simp, by simp, by simp⟩
  rw [kUs] at K1
  simp only [PH.v, Opx.cs] at K1
  have K1 := hid K1
  have HBA := hid b2
  clear m0 m1 m2 b0 b1 b2 z0 z1 z2
  have KD := hid (fun (V : World) (a : Option Addr) (n c : Nat) hb ho => kDec SO V a n c hb ho)
  have KE := hid (fun (V : World) (C : CH) (fs es : List (FH × Fx)) (d : CdRd V C kCx fs es) (jr : JRd V C.ia []) (jn : C.inn = ([] : List Int).length) => (encode_any SO V C kCx fs es d [] jr jn (fun x hx => by simp at hx)).mono (fun e w' h => (by
    obtain ⟨hb, h | h⟩ := h
    · rw [kCx_is] at h; cases h.1
    · obtain ⟨_, v, he, hr⟩ := h
      rw [kCx_enc] at hr
      exact ⟨hb, v, he, hr⟩ : Below V.heap.size V w' ∧ ∃ v, e = .returned (.tuple #[v, .int .i64 0]) ∧ Row w' V.heap.size v kBs)))
  have KI := hid (fun (V : World) (C : CH) (fs es : List (FH × Fx)) (d : CdRd V C kCx fs es) => (by
    have := codeIs_any SO V C kCx fs es d
    rw [kCx_is] at this; exact this : Calls Tryz.prog 17 #[C.v] V fun e w' => e = .returned (.bool true) ∧ Below V.heap.size V w'))
  /- the code that the law makes, from a world on -/
  have MK : Hid (∀ V : World, ∃ B : World, B = (((V.alloc (.cells #[.string ⟨#[101]⟩, .slice none 0 0, .int .i64 0, .int .i64 0] 49)).alloc (.cells #[.int .i64 35, .int .i64 0, .int .i64 0, .int .i64 0, .int .i64 0, .int .i64 40, .int .i64 0, .int .i64 (-1), .int .i64 0, .int .i64 0] 54)).alloc (.cells #[.int .i64 0, .slice (some ⟨V.heap.size + 1, 0, none⟩) 2 2] 57)).alloc (.cells #[.slice none 0 0, .slice none 0 0, .slice none 0 0, .slice (some ⟨V.heap.size, 0, none⟩) 1 1, .slice none 0 0, .slice none 0 0, .slice none 0 0, .slice (some ⟨V.heap.size + 1 + 1, 0, none⟩) 1 1] 31) ∧ Below V.heap.size V B ∧ B.heap[V.heap.size + 1 + 1 + 1]? = some (.cells #[.slice none 0 0, .slice none 0 0, .slice none 0 0, .slice (some ⟨V.heap.size, 0, none⟩) 1 1, .slice none 0 0, .slice none 0 0, .slice none 0 0, .slice (some ⟨V.heap.size + 1 + 1, 0, none⟩) 1 1] 31 (0, 0)) ∧ CdRd B ⟨⟨none, 0, 0, none, 0, 0, none, 0, 0, some ⟨V.heap.size, 0, none⟩, 1, 1⟩, none, 0, 0, none, 0, 0, none, 0, 0, some ⟨V.heap.size + 1 + 1, 0, none⟩, 1, 1⟩ kCx [] [((⟨0, some ⟨V.heap.size + 1, 0, none⟩, 2, 2⟩ : FH), kFx)]) := hid (fun V => by
    refine ⟨_, rfl, ?_⟩
    obtain ⟨B0, hB0⟩ : ∃ B0, B0 = V.alloc (.cells #[.string ⟨#[101]⟩, .slice none 0 0, .int .i64 0, .int .i64 0] 49) := ⟨_, rfl⟩
    rw [← hB0]
    obtain ⟨B1, hB1⟩ : ∃ B1, B1 = B0.alloc (.cells #[.int .i64 35, .int .i64 0, .int .i64 0, .int .i64 0, .int .i64 0, .int .i64 40, .int .i64 0, .int .i64 (-1), .int .i64 0, .int .i64 0] 54) := ⟨_, rfl⟩
    rw [← hB1]
    obtain ⟨B2, hB2⟩ : ∃ B2, B2 = B1.alloc (.cells #[.int .i64 0, .slice (some ⟨V.heap.size + 1, 0, none⟩) 2 2] 57) := ⟨_, rfl⟩
    rw [← hB2]
    obtain ⟨B3, hB3⟩ : ∃ B3, B3 = B2.alloc (.cells #[.slice none 0 0, .slice none 0 0, .slice none 0 0, .slice (some ⟨V.heap.size, 0, none⟩) 1 1, .slice none 0 0, .slice none 0 0, .slice none 0 0, .slice (some ⟨V.heap.size + 1 + 1, 0, none⟩) 1 1] 31) := ⟨_, rfl⟩
    rw [← hB3]
    have z0 : B0.heap.size = V.heap.size + 1 := by rw [hB0]; simp
    have z1 : B1.heap.size = V.heap.size + 1 + 1 := by rw [hB1]; simp; omega
    have z2 : B2.heap.size = V.heap.size + 1 + 1 + 1 := by rw [hB2]; simp; omega
    have b0 : Below V.heap.size V B0 := by rw [hB0]; exact (Below.refl _ _).alloc (Nat.le_refl _) _
    have b1 : Below V.heap.size V B1 := by rw [hB1]; exact b0.alloc (by omega) _
    have b2 : Below V.heap.size V B2 := by rw [hB2]; exact b1.alloc (by omega) _
    have b3 : Below V.heap.size V B3 := by rw [hB3]; exact b2.alloc (by omega) _
    refine ⟨b3, by rw [hB3, ← z2]; exact heap_alloc_new B2 _, kCd ?_ ?_ ?_⟩
    · rw [hB3, Below.heap_alloc _ _ _ (by omega), hB2, Below.heap_alloc _ _ _ (by omega), hB1, Below.heap_alloc _ _ _ (by omega), hB0]; exact heap_alloc_new V _
    · rw [hB3, Below.heap_alloc _ _ _ (by omega), hB2, Below.heap_alloc _ _ _ (by omega), hB1, ← z0]; exact heap_alloc_new B0 _
    · rw [hB3, Below.heap_alloc _ _ _ (by omega), hB2, ← z1]; exact heap_alloc_new B1 _)
  clear SO
  go_enter Tryz.func6, Tryz.ntmps6
  go_upto_region 2 with fail
  rw [← hA0, ← hA1, ← hA]
  clear hA0 hA1 hA
  rw [show w.heap.size + 1 + 1 = w.heap.size + 2 from rfl]
  go_upto_region 3 with (go_at_call 15; (refine (Hid.out K1).mono ?_; rintro e w1 ⟨v1, rfl, hk1, hb1⟩; obtain ⟨la, lc, rfl, hi1⟩ := hk1.ird; have HI1 := hid hi1; have HW1 := hid (HBA.out.trans (hb1.mono HBA.out.size)); clear hk1 hb1 hi1))
  clear c0 c1 c2 c3 K1 HBA
  obtain ⟨B, hB, bB, mB, cB⟩ := MK.out w1
  go_upto_region 4 with fail
  rw [← hB]
  clear hB
  obtain ⟨k0, k1, k2, k3, k4, k5, k6, k7⟩ := cell_eight mB
  have K2 := KE.out B _ _ _ cB (jrd_nil _ _) rfl
  simp only [CH.v, CH.cs] at K2
  have K2 := hid K2
  have CB := hid cB
  have MB := hid mB
  have HWB := hid (HW1.out.trans (bB.mono HW1.out.size))
  have HIB := hid (HI1.out.below bB)
  have hzB : w1.heap.size + 1 + 1 + 1 < B.heap.size := lt_of_heap mB
  clear cB mB bB HI1 HW1 MK KE
  go_upto_region 5 with (go_at_call 8; (refine (Hid.out K2).mono ?_; rintro e w2 ⟨hb2, v2, rfl, hr2⟩; obtain ⟨va, vc, rfl, _⟩ := hr2.form; have K3 := hid (KD.out w2 va _ vc (hr2.rd (by unfold Byt; simp [kBs])) (fun k e => by obtain ⟨cur, hc⟩ := hr2.cells e; exact lt_of_heap hc)); have HB2 := hid hb2; clear hr2 hb2))
  clear k0 k1 k2 k3 k4 k5 k6 k7 K2 KD
  go_upto_region 6 with (go_at_call 10; (refine (Hid.out K3).mono ?_; rintro e w3 ⟨hb3, ⟨⟨ra, rn, rc, ma, mn, mc, fa, fn, fc, ea, en, ec⟩, ia, inn, ic, ta, tn, tc, ga, gn, gc, ha, hn, hc⟩, cx, fl, el, rfl, hce, hcd, hjr, hjn⟩; simp only [CH.v, CH.cs]; have HB3 := hid (HB2.out.trans (hb3.mono HB2.out.size)); have CE := hid hce; have CD := hid hcd; have JR := hid hjr; have JN := hid hjn; clear hb3 hce hcd hjr hjn))
  obtain ⟨E0, hE0⟩ : ∃ E0, E0 = w3.alloc (.cells #[.slice ra rn rc, .slice ma mn mc, .slice fa fn fc, .slice ea en ec, .slice ia inn ic, .slice ta tn tc, .slice ga gn gc, .slice ha hn hc] 31) := ⟨_, rfl⟩
  have bE : Below w3.heap.size w3 E0 := by rw [hE0]; exact (Below.refl _ _).alloc (Nat.le_refl _) _
  have mE : E0.heap[w3.heap.size]? = some (.cells #[.slice ra rn rc, .slice ma mn mc, .slice fa fn fc, .slice ea en ec, .slice ia inn ic, .slice ta tn tc, .slice ga gn gc, .slice ha hn hc] 31 (0, 0)) := by rw [hE0]; exact heap_alloc_new w3 _
  rw [← hE0]
  clear hE0
  have bBE : Below B.heap.size B E0 := HB3.out.trans (bE.mono HB3.out.size)
  have GT : Hid (∀ V : World, Below E0.heap.size E0 V → V.heap[w1.heap.size + 1 + 1 + 1]? = some (.cells #[.slice none 0 0, .slice none 0 0, .slice none 0 0, .slice (some ⟨w1.heap.size, 0, none⟩) 1 1, .slice none 0 0, .slice none 0 0, .slice none 0 0, .slice (some ⟨w1.heap.size + 1 + 1, 0, none⟩) 1 1] 31 (0, 0)) ∧ V.heap[w3.heap.size]? = some (.cells #[.slice ra rn rc, .slice ma mn mc, .slice fa fn fc, .slice ea en ec, .slice ia inn ic, .slice ta tn tc, .slice ga gn gc, .slice ha hn hc] 31 (0, 0)) ∧ CdRd V (⟨⟨none, 0, 0, none, 0, 0, none, 0, 0, some ⟨w1.heap.size, 0, none⟩, 1, 1⟩, none, 0, 0, none, 0, 0, none, 0, 0, some ⟨w1.heap.size + 1 + 1, 0, none⟩, 1, 1⟩ : CH) kCx [] [((⟨0, some ⟨w1.heap.size + 1, 0, none⟩, 2, 2⟩ : FH), kFx)] ∧ CdRd V (⟨⟨ra, rn, rc, ma, mn, mc, fa, fn, fc, ea, en, ec⟩, ia, inn, ic, ta, tn, tc, ga, gn, gc, ha, hn, hc⟩ : CH) cx fl el ∧ JRd V ia [] ∧ Below w.heap.size w V) := hid (fun V hV => by
    have b1 : Below B.heap.size B V := bBE.trans (hV.mono bBE.size)
    have b2 : Below w3.heap.size w3 V := bE.trans (hV.mono bE.size)
    exact ⟨(b1.block _ hzB).trans MB.out, (hV.block _ (lt_of_heap mE)).trans mE, CB.out.below (Nat.le_refl _) b1, CD.out.below (Nat.le_refl _) b2, CRd.below JR.out (Nat.le_refl _) b2, HWB.out.trans (b1.mono HWB.out.size)⟩)
  have b5 : Below E0.heap.size E0 (E0.alloc (.cells #[.int .i64 3, .int .i64 4] 3)) := (Below.refl _ _).alloc (Nat.le_refl _) _
  have K4 := ints_yes (E0.alloc (.cells #[.int .i64 3, .int .i64 4] 3)) la (some ⟨E0.heap.size, 0, none⟩) 2 lc 2 [3, 4] rfl (by omega) (HIB.out.below (bBE.trans (b5.mono bBE.size))) (fun j x hx => ⟨E0.heap.size, 0, rfl, by
    have q := cellOf (heap_alloc_new E0 (.cells #[.int .i64 3, .int .i64 4] 3))
    match j, hx with
    | 0, hx => simp at hx; subst hx; exact q 0
    | 1, hx => simp at hx; subst hx; exact q 1
    | j + 2, hx => simp at hx⟩)
  have K4 := hid K4
  have B5 := hid b5
  have K5 : Hid (∀ V : World, Below E0.heap.size E0 V → Calls Tryz.prog 11 #[(⟨⟨none, 0, 0, none, 0, 0, none, 0, 0, some ⟨w1.heap.size, 0, none⟩, 1, 1⟩, none, 0, 0, none, 0, 0, none, 0, 0, some ⟨w1.heap.size + 1 + 1, 0, none⟩, 1, 1⟩ : CH).v, (⟨⟨ra, rn, rc, ma, mn, mc, fa, fn, fc, ea, en, ec⟩, ia, inn, ic, ta, tn, tc, ga, gn, gc, ha, hn, hc⟩ : CH).v] V fun e w' => e = .returned (.bool true) ∧ Below V.heap.size V w') := hid (fun V hV => by
    obtain ⟨_, _, h1, h2, h3, _⟩ := GT.out V hV
    exact same_yes V (⟨⟨none, 0, 0, none, 0, 0, none, 0, 0, some ⟨w1.heap.size, 0, none⟩, 1, 1⟩, none, 0, 0, none, 0, 0, none, 0, 0, some ⟨w1.heap.size + 1 + 1, 0, none⟩, 1, 1⟩ : CH) (⟨⟨ra, rn, rc, ma, mn, mc, fa, fn, fc, ea, en, ec⟩, ia, inn, ic, ta, tn, tc, ga, gn, gc, ha, hn, hc⟩ : CH) kCx cx _ _ fl el [] h1 h2 CE.out (jrd_nil _ _) h3 rfl JN.out)
  have K6 : Hid (∀ V : World, Below E0.heap.size E0 V → Calls Tryz.prog 17 #[(⟨⟨none, 0, 0, none, 0, 0, none, 0, 0, some ⟨w1.heap.size, 0, none⟩, 1, 1⟩, none, 0, 0, none, 0, 0, none, 0, 0, some ⟨w1.heap.size + 1 + 1, 0, none⟩, 1, 1⟩ : CH).v] V fun e w' => e = .returned (.bool true) ∧ Below V.heap.size V w') := hid (fun V hV => KI.out V (⟨⟨none, 0, 0, none, 0, 0, none, 0, 0, some ⟨w1.heap.size, 0, none⟩, 1, 1⟩, none, 0, 0, none, 0, 0, none, 0, 0, some ⟨w1.heap.size + 1 + 1, 0, none⟩, 1, 1⟩ : CH) _ _ (GT.out V hV).2.2.1)
  simp only [CH.v, CH.cs] at K5 K6
  clear bE mE bBE b5 MB CB CE CD JR JN HB2 HB3 HIB K3 HWB KI
  go_wp2_with (first
    | (go_at_call 16; (refine (Hid.out K4).mono ?_; rintro e w4 ⟨rfl, hb4⟩; have HB4 := hid (B5.out.trans (hb4.mono B5.out.size)); obtain ⟨k0, k1, k2, k3, k4, k5, k6, k7⟩ := cell_eight (GT.out w4 HB4.out).1; obtain ⟨j0, j1, j2, j3, j4, j5, j6, j7⟩ := cell_eight (GT.out w4 HB4.out).2.1; clear hb4))
    | (go_at_call 11; (refine (K5.out w4 HB4.out).mono ?_; rintro e w5 ⟨rfl, hb5⟩; have HB5 := hid (HB4.out.trans (hb5.mono HB4.out.size)); clear k0 k1 k2 k3 k4 k5 k6 k7 j0 j1 j2 j3 j4 j5 j6 j7; obtain ⟨k0, k1, k2, k3, k4, k5, k6, k7⟩ := cell_eight (GT.out w5 HB5.out).1; clear hb5))
    | (go_at_call 17; (refine (K6.out w5 HB5.out).mono ?_; rintro e w6 ⟨rfl, hb6⟩; have HB6 := hid (GT.out w6 (HB5.out.trans (hb6.mono HB5.out.size))).2.2.2.2.2; clear hb6)))
  go_ret
  exact ⟨rfl, HB6.out⟩
end Go.Proofs.YthnolocldeokeaaGreat

namespace Go.Proofs.YthnolocldeokeaaGreat
open Go.RowKit Go.Deep Go.Shelf
set_option linter.unusedVariables false
set_option linter.unusedSimpArgs false
set_option maxRecDepth 100000
theorem Row.len {w : World} {B : Nat} {a : Option Addr} {n cap : Nat} {xs : List Nat} (h : Row w B (.slice a n cap) xs) : n = xs.length ∧ xs.length ≤ cap := by
  rcases h.2 with ⟨e, hn⟩ | ⟨g, cap', cur, e, hb, hgg, hc, rest⟩
  · cases e; exact ⟨hn.symm, by omega⟩
  · cases e; exact ⟨rfl, hc⟩
theorem Row.set {w : World} {B g n cap : Nat} {xs : List Nat} (h : Row w B (.slice (some ⟨g, 0, none⟩) n cap) xs) (j x : Nat) (hj : j < xs.length) : Row (w.setCell ⟨g, j, none⟩ (.int .u8 (x : Int))) B (.slice (some ⟨g, 0, none⟩) n cap) (xs.set j x) := by
  rcases h.2 with ⟨e, hn⟩ | ⟨g', cap', cur, e, hb, hgg, hc, hm, hs, ht⟩
  · cases e
  · cases e
    refine ⟨by simp [bv], .inr ⟨g, cap, _, by rw [List.length_set], hb, heap_set_at hgg j _, by rw [List.length_set]; exact hc, hm, by simpa using hs, ?_⟩⟩
    rw [List.length_set, Array.toList_setIfInBounds, List.take_set, ht]
    simp [bv]
theorem Byt.set {xs : List Nat} (h : Byt xs) (j x : Nat) (hx : x < 256) : Byt (xs.set j x) := fun y hy => by
  rcases List.mem_or_eq_of_mem_set hy with h1 | h1
  · exact h y h1
  · rw [h1]; exact hx
theorem ofB_inj' {a b : List Nat} (ha : Byt a) (hb : Byt b) (h : ofB a = ofB b) : a = b := by
  rw [← sb_ofB ha, h, sb_ofB hb]
theorem streq' (a b : ByteArray) : (a.toList == b.toList) = decide (a = b) := by
  rw [ByteArray.toList_eq, ByteArray.toList_eq]
  by_cases h : a = b
  · simp [h]
  · have : ¬ a.data = b.data := fun e => h (by cases a; cases b; simp at e; simp [e])
    simp [h, this]
/- The bytes of whatever is written. -/
theorem flat_byt {α : Type} {f : α → List Nat} (h : ∀ x, Byt (f x)) : ∀ l : List α, Byt ((l.map f).flatten)
  | [] => fun x hx => by cases hx
  | a :: l => by rw [List.map_cons, List.flatten_cons]; exact (h a).append (flat_byt h l)
theorem encTy_byt (t : TyP) : Byt (encTy t) := (enc_byt _).append (enc_byt _)
theorem cnt_byt {α : Type} {f : α → List Nat} (h : ∀ x, Byt (f x)) (l : List α) : Byt (enc l.length ++ (l.map f).flatten) := (enc_byt _).append (flat_byt h l)
theorem encSg_byt (s : Sg) : Byt (encSg s) := ((encX_byt _).append (cnt_byt encTy_byt _)).append (encTy_byt _)
theorem encMp_byt (m : Mp) : Byt (encMp m) := ((encX_byt _).append (encTy_byt _)).append (encTy_byt _)
theorem encRc_byt (r : Rc) : Byt (encRc r) := ((encX_byt _).append (cnt_byt encX_byt _)).append (cnt_byt encTy_byt _)
theorem foe_byt (s : Shp) (o : Opx) (i : Fin 4) : Byt (foe s o i) := by
  unfold foe
  split
  · exact fun x hx => by cases hx
  · exact enc_byt _
theorem encOp_byt (o : Opx) : Byt (encOp o) := (enc_byt _).append (flat_byt (foe_byt _ _) _)
theorem encFx_byt (f : Fx) : Byt (encFx f) := (enc_byt _).append (cnt_byt encOp_byt _)
theorem encC_byt (c : Cx) (xs : List Int) : Byt (encC c xs) :=
  ((((((cnt_byt encRc_byt _).append (cnt_byt encMp_byt _)).append (cnt_byt encSg_byt _)).append (cnt_byt encSg_byt _)).append (cnt_byt (fun _ => enc_byt _) _)).append (cnt_byt encX_byt _)).append (flat_byt encFx_byt _)
/- What Encode gives, in one form: some bytes. -/
end Go.Proofs.YthnolocldeokeaaGreat

namespace Go.Proofs.YthnolocldeokeaaGreat
open Go.RowKit Go.Deep Go.Shelf
set_option linter.unusedVariables false
set_option linter.unusedSimpArgs false
set_option maxRecDepth 100000
theorem s35 : (shpAt 35).d = 0 ∧ (shpAt 35).a = 0 ∧ (shpAt 35).b = 0 ∧ (shpAt 35).k = 0 := ⟨by kernel_rfl, by kernel_rfl, by kernel_rfl, by kernel_rfl⟩
theorem s3 : (shpAt 3).d = 1 ∧ (shpAt 3).a = 0 ∧ (shpAt 3).b = 0 ∧ (shpAt 3).k = 8 := ⟨by kernel_rfl, by kernel_rfl, by kernel_rfl, by kernel_rfl⟩
theorem s40 : (shpAt 40).d = 0 ∧ (shpAt 40).a = 4 ∧ (shpAt 40).b = 0 ∧ (shpAt 40).k = 0 := ⟨by kernel_rfl, by kernel_rfl, by kernel_rfl, by kernel_rfl⟩
theorem op35 (c : Cx) (r : Int) (n : Nat) : isOpB c r n ⟨35, 0, 0, 0, 0⟩ = true := by
  obtain ⟨h1, h2, h3, h4⟩ := s35
  simp [isOpB, isC, h1, h2, h3, h4, bnd, inB, rowLen]
theorem op3 (c : Cx) (r : Int) (hr : 1 ≤ r) (n : Nat) (k : Nat) : isOpB c r n ⟨3, 0, 0, 0, (k : Int) % 2⟩ = true := by
  obtain ⟨h1, h2, h3, h4⟩ := s3
  have a1 : ¬ (k : Int) % 2 < 0 := by omega
  have a2 : ¬ 1 < (k : Int) % 2 := by omega
  have a3 : ¬ r - 1 < 0 := by omega
  simp [isOpB, isC, h1, h2, h3, h4, bnd, inB, rowLen, a1, a2, a3]
theorem op40 (c : Cx) (r : Int) (hr : 0 ≤ r) (n : Nat) : isOpB c r n ⟨40, 0, -1, 0, 0⟩ = true := by
  obtain ⟨h1, h2, h3, h4⟩ := s40
  simp [isOpB, isC, h1, h2, h3, h4, bnd, inB, rowLen]
  omega
theorem hRight (o i t : Nat) (r : Int) : rightB (hCx o i t r).p = true := by
  show rightB (⟨[], [], [], [((⟨⟨#[101]⟩, none, 0, 0, 0, 0⟩ : GH), kSe)]⟩ : Pg) = true
  kernel_rfl
theorem hIs {o i t : Nat} {r : Int} (ho : o ≤ 60) (hi : i ≤ 60) (ht : t ≤ 60) (h1 : 1 ≤ r) (h2 : r ≤ 2) : isB (hCx o i t r) = true := by
  have hc : constB (hCx o i t r) = true := by
    unfold constB
    simp only [Bool.and_eq_true, decide_eq_true_eq]
    refine ⟨⟨by show i ≤ 1000; omega, by show (ttL t).length ≤ 1000; rw [ttL_len]; omega⟩, List.all_eq_true.2 fun s hs => ?_⟩
    have := List.eq_of_mem_replicate (show s ∈ ttL t from hs)
    subst this
    first
      | kernel_rfl
      | exact of_decide_eq_true (by kernel_rfl)
  have hf : isFnB (hCx o i t r) 0 (hFx o r) = true := by
    unfold isFnB
    have hl : (hFx o r).ops.length = o + 2 := by show (opL o ++ [(⟨40, 0, -1, 0, 0⟩ : Opx)]).length = _; rw [List.length_append, opL_len]; rfl
    have e1 : ¬ (hFx o r).regs < ((0 : Nat) : Int) := by show ¬ r < _; omega
    have e2 : ¬ 64 < (hFx o r).regs := by show ¬ 64 < r; omega
    have e3 : ¬ (hFx o r).ops.length < 1 := by omega
    have e4 : ¬ 2000 < (hFx o r).ops.length := by omega
    rw [decide_eq_false e1, decide_eq_false e2, decide_eq_false e3, decide_eq_false e4]
    simp only [Bool.or_false, Bool.not_false, Bool.true_and]
    refine List.all_eq_true.2 fun x hx => ?_
    rcases List.mem_append.1 (show x ∈ opL o ++ [(⟨40, 0, -1, 0, 0⟩ : Opx)] from hx) with hx | hx
    · rcases List.mem_cons.1 hx with rfl | hx
      · exact op35 _ _ _
      · obtain ⟨j, _, rfl⟩ := List.mem_map.1 hx
        exact op3 _ _ (by show 1 ≤ r; exact h1) _ j
    · rw [List.mem_singleton.1 hx]
      exact op40 _ _ (by show 0 ≤ r; omega) _
  unfold isB
  rw [hRight, hc]
  simp only [Bool.true_and, Bool.and_eq_true, decide_eq_true_eq]
  refine ⟨⟨⟨rfl, rfl⟩, rfl⟩, ?_⟩
  show ([(kSe, hFx o r)].all fun x => isFnB (hCx o i t r) x.1.params.length x.2) = true
  simp only [List.all_cons, List.all_nil, Bool.and_true]
  exact hf
theorem sq_in {i : Nat} (hi : i ≤ 60) : ∀ x ∈ sqL i, inR x := fun x hx => by
  obtain ⟨j, hj, rfl⟩ := List.mem_map.1 hx
  have hj2 := List.mem_range.1 hj
  have h0 : (0 : Int) ≤ (j : Int) := by omega
  have h1 : (j : Int) ≤ 60 := by omega
  have := Int.mul_nonneg h0 h0
  have h2 : (j : Int) * (j : Int) ≤ 60 * 60 := Int.mul_le_mul h1 h1 h0 (by omega)
  exact ⟨by omega, by omega⟩
/- No two unlike codes have the same bytes. -/
theorem encC_inj {c d : Cx} {xs ys : List Int} (hc : isB c = true) (hx : xs.length = c.ints) (hxi : ∀ x ∈ xs, inR x) (hd : isB d = true) (hy : ys.length = d.ints) (hyi : ∀ x ∈ ys, inR x) (e : encC c xs = encC d ys) : xs = ys ∧ CEq c d := by
  have P := is_P hc hx hxi
  have Q := is_P hd hy hyi
  obtain ⟨s1, s2, s3, s4, s5, s6, s7, q0, q1, q2, q3, q4, q5, q6, q7⟩ := chain_fw P []
  obtain ⟨t1, t2, t3, t4, t5, t6, t7, r0, r1, r2, r3, r4, r5, r6, r7⟩ := chain_fw Q []
  rw [List.append_nil, ← encC_all] at q0 r0
  rw [e] at q0
  obtain ⟨z0, rfl⟩ := Prod.mk.inj (q0.symm.trans r0)
  obtain ⟨z1, rfl⟩ := Prod.mk.inj (q1.symm.trans r1)
  obtain ⟨z2, rfl⟩ := Prod.mk.inj (q2.symm.trans r2)
  obtain ⟨z3, rfl⟩ := Prod.mk.inj (q3.symm.trans r3)
  obtain ⟨z4, rfl⟩ := Prod.mk.inj (q4.symm.trans r4)
  obtain ⟨z5, rfl⟩ := Prod.mk.inj (q5.symm.trans r5)
  rw [z2] at q6
  obtain ⟨z6, rfl⟩ := Prod.mk.inj (q6.symm.trans r6)
  rw [z3] at q7
  obtain ⟨z7, _⟩ := Prod.mk.inj (q7.symm.trans r7)
  exact ⟨z4, ⟨⟨z0, z1, z2, z3⟩, z5, z6, z7⟩⟩
def LE (o i t : Nat) (r : Int) : List Nat := encC (hCx o i t r) (sqL i)
theorem LE_ne {o i t o2 i2 t2 : Nat} {r r2 : Int} (ho : o ≤ 60) (hi : i ≤ 60) (ht : t ≤ 60) (h1 : 1 ≤ r) (h2 : r ≤ 2) (ho2 : o2 ≤ 60) (hi2 : i2 ≤ 60) (ht2 : t2 ≤ 60) (h3 : 1 ≤ r2) (h4 : r2 ≤ 2) (hne : o ≠ o2 ∨ i ≠ i2 ∨ t ≠ t2 ∨ r ≠ r2) : ((ofB (LE o i t r)).toList == (ofB (LE o2 i2 t2 r2)).toList) = false := by
  rw [streq']
  refine decide_eq_false fun e => ?_
  have e := ofB_inj' (encC_byt _ _) (encC_byt _ _) e
  obtain ⟨z, ce⟩ := encC_inj (hIs ho hi ht h1 h2) (sqL_len i) (sq_in hi) (hIs ho2 hi2 ht2 h3 h4) (sqL_len i2) (sq_in hi2) e
  have a1 : i = i2 := by rw [← sqL_len i, z, sqL_len]
  have a2 : t = t2 := by
    have := congrArg List.length (show ttL t = ttL t2 from ce.t)
    rw [ttL_len, ttL_len] at this; exact this
  have ev : [hFx o r] = [hFx o2 r2] := ce.e
  have ev2 : hFx o r = hFx o2 r2 := by injection ev
  have a3 : r = r2 := congrArg Fx.regs ev2
  have a4 : o = o2 := by
    have := congrArg (fun f : Fx => f.ops.length) ev2
    simp [hFx, opL_len] at this
    exact this
  rcases hne with h | h | h | h
  · exact h a4
  · exact h a1
  · exact h a2
  · exact h a3
theorem henc (SO : ShapeC) (w : World) (C : CH) (el : List (FH × Fx)) {o i t : Nat} {r : Int} (ho : o ≤ 60) (hi : i ≤ 60) (ht : t ≤ 60) (h1 : 1 ≤ r) (h2 : r ≤ 2) (d : CdRd w C (hCx o i t r) [] el) (jr : JRd w C.ia (sqL i)) (jn : C.inn = i) :
    Calls Tryz.prog 8 #[C.v] w fun e w' => Below w.heap.size w w' ∧ ∃ a n c, e = .returned (.tuple #[.slice a n c, .int .i64 0]) ∧ Rd w' (.slice a n c) (LE o i t r) :=
  (encode_any SO w C _ _ _ d (sqL i) jr (by rw [sqL_len]; exact jn) (sq_in hi)).mono fun e w' h => by
    obtain ⟨hb, ⟨hf, _⟩ | ⟨_, v, he, hr⟩⟩ := h
    · rw [hIs ho hi ht h1 h2] at hf; cases hf
    · obtain ⟨va, vc, rfl, _⟩ := hr.form
      exact ⟨hb, va, _, vc, he, hr.rd (encC_byt _ _)⟩
end Go.Proofs.YthnolocldeokeaaGreat

namespace Go.Proofs.YthnolocldeokeaaGreat
open Go.RowKit Go.Deep Go.Shelf
set_option linter.unusedVariables false
set_option linter.unusedSimpArgs false
set_option maxRecDepth 100000
set_option maxHeartbeats 4000000 in
theorem codeGrows_any (SO : ShapeC) (w : World) (n0 n1 n2 : Int) (h00 : 0 ≤ n0) (h01 : n0 ≤ 255) (h10 : 0 ≤ n1) (h11 : n1 ≤ 255) (h20 : 0 ≤ n2) (h21 : n2 ≤ 255) : Calls Tryz.prog 5 #[.int .u8 n0, .int .u8 n1, .int .u8 n2] w fun e w' => e = .returned (.bool true) ∧ Below w.heap.size w w' := by
  have K0 := hid (known9_any SO w)
  have SOH := hid SO
  clear SO
  obtain ⟨o, ho⟩ : ∃ o : Nat, n0 % 50 = (o : Int) := ⟨(n0 % 50).toNat, by omega⟩
  obtain ⟨i, hi⟩ : ∃ i : Nat, n1 % 50 = (i : Int) := ⟨(n1 % 50).toNat, by omega⟩
  obtain ⟨t, ht⟩ : ∃ t : Nat, n2 % 50 = (t : Int) := ⟨(n2 % 50).toNat, by omega⟩
  have oI : (o : Int) ≤ 49 := by omega
  have iI : (i : Int) ≤ 49 := by omega
  have tI : (t : Int) ≤ 49 := by omega
  have oN : o + 1 ≤ 60 := by omega
  have iN : i + 1 ≤ 60 := by omega
  have tN : t + 1 ≤ 60 := by omega
  have oN0 : o ≤ 60 := by omega
  have iN0 : i ≤ 60 := by omega
  have tN0 : t ≤ 60 := by omega
  have o0 : (0 : Int) ≤ (o : Int) := by omega
  have i0 : (0 : Int) ≤ (i : Int) := by omega
  have t0 : (0 : Int) ≤ (t : Int) := by omega
  have co : ((o + 1 : Nat) : Int) = (o : Int) + 1 := by omega
  have ci : ((i + 1 : Nat) : Int) = (i : Int) + 1 := by omega
  have ct : ((t + 1 : Nat) : Int) = (t : Int) + 1 := by omega
  have H0 := hid (fun V : World => handler_any V o i t 1 oN0 iN0 tN0)
  have H1 := hid (fun V : World => handler_any V (o + 1) i t 1 oN iN0 tN0)
  have H2 := hid (fun V : World => handler_any V o (i + 1) t 1 oN0 iN tN0)
  have H3 := hid (fun V : World => handler_any V o i (t + 1) 1 oN0 iN0 tN)
  have H4 := hid (fun V : World => handler_any V o i t 2 oN0 iN0 tN0)
  rw [co] at H1
  rw [ci] at H2
  rw [ct] at H3
  clear co ci ct
  have nab := LE_ne (o := o) (i := i) (t := t) (r := 1) (o2 := o + 1) (i2 := i) (t2 := t) (r2 := 1) oN0 iN0 tN0 (by omega) (by omega) oN iN0 tN0 (by omega) (by omega) (.inl (by omega))
  have nac := LE_ne (o := o) (i := i) (t := t) (r := 1) (o2 := o) (i2 := i + 1) (t2 := t) (r2 := 1) oN0 iN0 tN0 (by omega) (by omega) oN0 iN tN0 (by omega) (by omega) (.inr (.inl (by omega)))
  have nad := LE_ne (o := o) (i := i) (t := t) (r := 1) (o2 := o) (i2 := i) (t2 := t + 1) (r2 := 1) oN0 iN0 tN0 (by omega) (by omega) oN0 iN0 tN (by omega) (by omega) (.inr (.inr (.inl (by omega))))
  have nai := LE_ne (o := o) (i := i) (t := t) (r := 1) (o2 := o) (i2 := i) (t2 := t) (r2 := 2) oN0 iN0 tN0 (by omega) (by omega) oN0 iN0 tN0 (by omega) (by omega) (.inr (.inr (.inr (by omega))))
  have nbc := LE_ne (o := o + 1) (i := i) (t := t) (r := 1) (o2 := o) (i2 := i + 1) (t2 := t) (r2 := 1) oN iN0 tN0 (by omega) (by omega) oN0 iN tN0 (by omega) (by omega) (.inl (by omega))
  have ncd := LE_ne (o := o) (i := i + 1) (t := t) (r := 1) (o2 := o) (i2 := i) (t2 := t + 1) (r2 := 1) oN0 iN tN0 (by omega) (by omega) oN0 iN0 tN (by omega) (by omega) (.inr (.inl (by omega)))
  obtain ⟨LA, hLA⟩ : ∃ L, L = LE o i t 1 := ⟨_, rfl⟩
  obtain ⟨LB, hLB⟩ : ∃ L, L = LE (o + 1) i t 1 := ⟨_, rfl⟩
  obtain ⟨LC, hLC⟩ : ∃ L, L = LE o (i + 1) t 1 := ⟨_, rfl⟩
  obtain ⟨LD, hLD⟩ : ∃ L, L = LE o i (t + 1) 1 := ⟨_, rfl⟩
  obtain ⟨LI, hLI⟩ : ∃ L, L = LE o i t 2 := ⟨_, rfl⟩
  rw [← hLA, ← hLB] at nab
  rw [← hLA, ← hLC] at nac
  rw [← hLA, ← hLD] at nad
  rw [← hLA, ← hLI] at nai
  rw [← hLB, ← hLC] at nbc
  rw [← hLC, ← hLD] at ncd
  have HN := hid (And.intro nab (And.intro nac (And.intro nad (And.intro nai (And.intro nbc ncd)))))
  clear nab nac nad nai nbc ncd
  have E0 := hid (fun (V : World) (C : CH) (el : List (FH × Fx)) (d : CdRd V C (hCx o i t 1) [] el) (jr : JRd V C.ia (sqL i)) (jn : C.inn = i) => henc SOH.out V C el oN0 iN0 tN0 (by omega : (1 : Int) ≤ 1) (by omega : (1 : Int) ≤ 2) d jr jn)
  rw [← hLA] at E0
  have E1 := hid (fun (V : World) (C : CH) (el : List (FH × Fx)) (d : CdRd V C (hCx (o + 1) i t 1) [] el) (jr : JRd V C.ia (sqL i)) (jn : C.inn = i) => henc SOH.out V C el oN iN0 tN0 (by omega : (1 : Int) ≤ 1) (by omega : (1 : Int) ≤ 2) d jr jn)
  rw [← hLB] at E1
  have E2 := hid (fun (V : World) (C : CH) (el : List (FH × Fx)) (d : CdRd V C (hCx o (i + 1) t 1) [] el) (jr : JRd V C.ia (sqL (i + 1))) (jn : C.inn = (i + 1)) => henc SOH.out V C el oN0 iN tN0 (by omega : (1 : Int) ≤ 1) (by omega : (1 : Int) ≤ 2) d jr jn)
  rw [← hLC] at E2
  have E3 := hid (fun (V : World) (C : CH) (el : List (FH × Fx)) (d : CdRd V C (hCx o i (t + 1) 1) [] el) (jr : JRd V C.ia (sqL i)) (jn : C.inn = i) => henc SOH.out V C el oN0 iN0 tN (by omega : (1 : Int) ≤ 1) (by omega : (1 : Int) ≤ 2) d jr jn)
  rw [← hLD] at E3
  have E4 := hid (fun (V : World) (C : CH) (el : List (FH × Fx)) (d : CdRd V C (hCx o i t 2) [] el) (jr : JRd V C.ia (sqL i)) (jn : C.inn = i) => henc SOH.out V C el oN0 iN0 tN0 (by omega : (1 : Int) ≤ 2) (by omega : (2 : Int) ≤ 2) d jr jn)
  rw [← hLI] at E4
  have ISA := hid (hIs oN0 iN0 tN0 (by omega : (1 : Int) ≤ 1) (by omega : (1 : Int) ≤ 2))
  clear hLA hLB hLC hLD hLI oN iN tN SOH
  go_enter Tryz.func5, Tryz.ntmps5
  go_upto_region 3 with (go_at_call 6; (refine (Hid.out K0).mono ?_; rintro e w1 ⟨rfl, hb1⟩; have HW := hid hb1; clear hb1))
  clear K0
  go_upto_region 4 with (go_at_call 14; (refine (H0.out w1).mono ?_; rintro e w2 ⟨hb2, ⟨⟨ra0, rn0, rc0, ma0, mn0, mc0, fa0, fn0, fc0, ea0, en0, ec0⟩, ia0, inn0, ic0, ta0, tn0, tc0, ga0, gn0, gc0, ha0, hn0, hc0⟩, el0, rfl, hcd, hjr, hjn⟩; simp only [CH.v, CH.cs]; have HB2 := hid hb2; have CD := hid hcd; have JR := hid hjr; have JN := hid hjn; clear hb2 hcd hjr hjn))
  obtain ⟨w3, hw3⟩ : ∃ w3, w3 = w2.alloc (.cells #[.slice ra0 rn0 rc0, .slice ma0 mn0 mc0, .slice fa0 fn0 fc0, .slice ea0 en0 ec0, .slice ia0 inn0 ic0, .slice ta0 tn0 tc0, .slice ga0 gn0 gc0, .slice ha0 hn0 hc0] 31) := ⟨_, rfl⟩
  have bE : Below w2.heap.size w2 w3 := by rw [hw3]; exact (Below.refl _ _).alloc (Nat.le_refl _) _
  have mE : w3.heap[w2.heap.size]? = some (.cells #[.slice ra0 rn0 rc0, .slice ma0 mn0 mc0, .slice fa0 fn0 fc0, .slice ea0 en0 ec0, .slice ia0 inn0 ic0, .slice ta0 tn0 tc0, .slice ga0 gn0 gc0, .slice ha0 hn0 hc0] 31 (0, 0)) := by rw [hw3]; exact heap_alloc_new w2 _
  rw [← hw3]
  clear hw3
  have bW : Below w.heap.size w w3 := HW.out.trans ((HB2.out.trans (bE.mono HB2.out.size)).mono HW.out.size)
  have GM : Hid (∀ V : World, Below w3.heap.size w3 V → V.heap[w2.heap.size]? = some (.cells #[.slice ra0 rn0 rc0, .slice ma0 mn0 mc0, .slice fa0 fn0 fc0, .slice ea0 en0 ec0, .slice ia0 inn0 ic0, .slice ta0 tn0 tc0, .slice ga0 gn0 gc0, .slice ha0 hn0 hc0] 31 (0, 0)) ∧ CdRd V (⟨⟨ra0, rn0, rc0, ma0, mn0, mc0, fa0, fn0, fc0, ea0, en0, ec0⟩, ia0, inn0, ic0, ta0, tn0, tc0, ga0, gn0, gc0, ha0, hn0, hc0⟩ : CH) (hCx o i t 1) [] el0 ∧ JRd V ia0 (sqL i) ∧ Below w.heap.size w V) := hid (fun V hV => by
    have b2 : Below w2.heap.size w2 V := bE.trans (hV.mono bE.size)
    exact ⟨(hV.block _ (lt_of_heap mE)).trans mE, CD.out.below (Nat.le_refl _) b2, CRd.below JR.out (Nat.le_refl _) b2, bW.trans (hV.mono bW.size)⟩)
  have EM : Hid (∀ V : World, Below w3.heap.size w3 V → Calls Tryz.prog 8 #[(⟨⟨ra0, rn0, rc0, ma0, mn0, mc0, fa0, fn0, fc0, ea0, en0, ec0⟩, ia0, inn0, ic0, ta0, tn0, tc0, ga0, gn0, gc0, ha0, hn0, hc0⟩ : CH).v] V fun e w' => Below V.heap.size V w' ∧ ∃ a n c, e = .returned (.tuple #[.slice a n c, .int .i64 0]) ∧ Rd w' (.slice a n c) LA) := hid (fun V hV => E0.out V _ el0 (GM.out V hV).2.1 (GM.out V hV).2.2.1 JN.out)
  have IM : Hid (∀ V : World, Below w3.heap.size w3 V → Calls Tryz.prog 9 #[(⟨⟨ra0, rn0, rc0, ma0, mn0, mc0, fa0, fn0, fc0, ea0, en0, ec0⟩, ia0, inn0, ic0, ta0, tn0, tc0, ga0, gn0, gc0, ha0, hn0, hc0⟩ : CH).v] V fun e w' => e = .returned (.bool true) ∧ Below V.heap.size V w') := hid (fun V hV => by
    have := refIs_any V _ _ _ _ (GM.out V hV).2.1
    rw [isEq (GM.out V hV).2.1, ISA.out] at this
    exact this)
  simp only [CH.v, CH.cs] at EM IM
  obtain ⟨k0, k1, k2, k3, k4, k5, k6, k7⟩ := cell_eight mE
  clear mE bE bW HB2 CD JR JN HW H0 E0 ISA
  have TR : Hid (∀ {x y : World}, Below w3.heap.size w3 x → Below x.heap.size x y → Below w3.heap.size w3 y) := hid (fun h1 h2 => h1.trans (h2.mono h1.size))
  go_upto_region 5 with (go_at_call 8; (refine (EM.out w3 (Below.refl _ _)).mono ?_; rintro e w4 ⟨hb, a0, an0, ac0, rfl, hr⟩; have HB4 := hid hb; have R0 := hid hr; clear hb hr k0 k1 k2 k3 k4 k5 k6 k7))
  go_upto_region 6 with (first
    | (have hno := KE1; (go_at_call 8; (refine (Hid.out KE1).mono ?_; rintro e w6 ⟨hb, a1, an1, ac1, rfl, hr⟩; have HB6 := hid (TR.out HB5.out hb); have R0 := hid (R0'.out.below (Nat.le_refl _) hb); have R1 := hid hr; clear hb hr HB5 R0' KE1)))
    | (go_at_call 14; (refine (H1.out w4).mono ?_; rintro e w5 ⟨hb, ⟨⟨ra1, rn1, rc1, ma1, mn1, mc1, fa1, fn1, fc1, ea1, en1, ec1⟩, ia1, inn1, ic1, ta1, tn1, tc1, ga1, gn1, gc1, ha1, hn1, hc1⟩, el1, rfl, hcd, hjr, hjn⟩; simp only [CH.v, CH.cs]; have KE1 := E1.out w5 _ el1 hcd hjr hjn; simp only [CH.v, CH.cs] at KE1; have KE1 := hid KE1; have HB5 := hid (TR.out HB4.out hb); have R0' := hid (R0.out.below (Nat.le_refl _) hb); clear hb hcd hjr hjn HB4 R0 H1 E1)))
  go_upto_region 7 with (first
    | (have hno := KE2; (go_at_call 8; (refine (Hid.out KE2).mono ?_; rintro e w8 ⟨hb, a2, an2, ac2, rfl, hr⟩; have HB8 := hid (TR.out HB7.out hb); have R0 := hid (R0'.out.below (Nat.le_refl _) hb); have R1 := hid (R1'.out.below (Nat.le_refl _) hb); have R2 := hid hr; clear hb hr HB7 R0' R1' KE2)))
    | (go_at_call 14; (refine (H2.out w6).mono ?_; rintro e w7 ⟨hb, ⟨⟨ra2, rn2, rc2, ma2, mn2, mc2, fa2, fn2, fc2, ea2, en2, ec2⟩, ia2, inn2, ic2, ta2, tn2, tc2, ga2, gn2, gc2, ha2, hn2, hc2⟩, el2, rfl, hcd, hjr, hjn⟩; simp only [CH.v, CH.cs]; have KE2 := E2.out w7 _ el2 hcd hjr hjn; simp only [CH.v, CH.cs] at KE2; have KE2 := hid KE2; have HB7 := hid (TR.out HB6.out hb); have R0' := hid (R0.out.below (Nat.le_refl _) hb); have R1' := hid (R1.out.below (Nat.le_refl _) hb); clear hb hcd hjr hjn HB6 R0 R1 H2 E2)))
  go_upto_region 8 with (first
    | (have hno := KE3; (go_at_call 8; (refine (Hid.out KE3).mono ?_; rintro e w10 ⟨hb, a3, an3, ac3, rfl, hr⟩; have HB10 := hid (TR.out HB9.out hb); have R0 := hid (R0'.out.below (Nat.le_refl _) hb); have R1 := hid (R1'.out.below (Nat.le_refl _) hb); have R2 := hid (R2'.out.below (Nat.le_refl _) hb); have R3 := hid hr; clear hb hr HB9 R0' R1' R2' KE3)))
    | (go_at_call 14; (refine (H3.out w8).mono ?_; rintro e w9 ⟨hb, ⟨⟨ra3, rn3, rc3, ma3, mn3, mc3, fa3, fn3, fc3, ea3, en3, ec3⟩, ia3, inn3, ic3, ta3, tn3, tc3, ga3, gn3, gc3, ha3, hn3, hc3⟩, el3, rfl, hcd, hjr, hjn⟩; simp only [CH.v, CH.cs]; have KE3 := E3.out w9 _ el3 hcd hjr hjn; simp only [CH.v, CH.cs] at KE3; have KE3 := hid KE3; have HB9 := hid (TR.out HB8.out hb); have R0' := hid (R0.out.below (Nat.le_refl _) hb); have R1' := hid (R1.out.below (Nat.le_refl _) hb); have R2' := hid (R2.out.below (Nat.le_refl _) hb); clear hb hcd hjr hjn HB8 R0 R1 R2 H3 E3)))
  go_upto_region 9 with (first
    | (have hno := KE4; (go_at_call 8; (refine (Hid.out KE4).mono ?_; rintro e w12 ⟨hb, a4, an4, ac4, rfl, hr⟩; have HB12 := hid (TR.out HB11.out hb); have R0 := hid (R0'.out.below (Nat.le_refl _) hb); have R1 := hid (R1'.out.below (Nat.le_refl _) hb); have R2 := hid (R2'.out.below (Nat.le_refl _) hb); have R3 := hid (R3'.out.below (Nat.le_refl _) hb); have R4 := hid hr; clear hb hr HB11 R0' R1' R2' R3' KE4)))
    | (go_at_call 14; (refine (H4.out w10).mono ?_; rintro e w11 ⟨hb, ⟨⟨ra4, rn4, rc4, ma4, mn4, mc4, fa4, fn4, fc4, ea4, en4, ec4⟩, ia4, inn4, ic4, ta4, tn4, tc4, ga4, gn4, gc4, ha4, hn4, hc4⟩, el4, rfl, hcd, hjr, hjn⟩; simp only [CH.v, CH.cs]; have KE4 := E4.out w11 _ el4 hcd hjr hjn; simp only [CH.v, CH.cs] at KE4; have KE4 := hid KE4; have HB11 := hid (TR.out HB10.out hb); have R0' := hid (R0.out.below (Nat.le_refl _) hb); have R1' := hid (R1.out.below (Nat.le_refl _) hb); have R2' := hid (R2.out.below (Nat.le_refl _) hb); have R3' := hid (R3.out.below (Nat.le_refl _) hb); clear hb hcd hjr hjn HB10 R0 R1 R2 R3 H4 E4)))
  obtain ⟨k0, k1, k2, k3, k4, k5, k6, k7⟩ := cell_eight (GM.out w12 HB12.out).1
  go_upto_region 10 with (go_at_call 8; (refine (EM.out w12 HB12.out).mono ?_; rintro e w13 ⟨hb, a9, an9, ac9, rfl, hr⟩; have HB13 := hid (TR.out HB12.out hb); have R0' := hid (R0.out.below (Nat.le_refl _) hb); have R1' := hid (R1.out.below (Nat.le_refl _) hb); have R2' := hid (R2.out.below (Nat.le_refl _) hb); have R3' := hid (R3.out.below (Nat.le_refl _) hb); have R4' := hid (R4.out.below (Nat.le_refl _) hb); have R9 := hid hr; clear hb hr HB12 R0 R1 R2 R3 R4 k0 k1 k2 k3 k4 k5 k6 k7))
  obtain ⟨k0, k1, k2, k3, k4, k5, k6, k7⟩ := cell_eight (GM.out w13 HB13.out).1
  go_upto_region 12 with (go_at_call 9; (refine (IM.out w13 HB13.out).mono ?_; rintro e w14 ⟨rfl, hb⟩; have HB14 := hid (GM.out w14 (TR.out HB13.out hb)).2.2.2; have e0 := (R0'.out.below (Nat.le_refl _) hb).conv; have e1 := (R1'.out.below (Nat.le_refl _) hb).conv; have e2 := (R2'.out.below (Nat.le_refl _) hb).conv; have e3 := (R3'.out.below (Nat.le_refl _) hb).conv; have e4 := (R4'.out.below (Nat.le_refl _) hb).conv; have e5 := (R9.out.below (Nat.le_refl _) hb).conv; clear hb HB13 R0' R1' R2' R3' R4' R9 k0 k1 k2 k3 k4 k5 k6 k7))
  obtain ⟨nab, nac, nad, nai, nbc, ncd⟩ := HN.out
  go_wp2
  go_ret
  exact ⟨rfl, HB14.out⟩
end Go.Proofs.YthnolocldeokeaaGreat

namespace Go.Proofs.YthnolocldeokeaaGreat
open Go.ChangeShapes Go.WideShapes Go.ChangeAt Go.RowKit Go.Deep
set_option linter.unusedVariables false
set_option linter.unusedSimpArgs false
set_option maxRecDepth 100000 in
theorem grows_lifted (os : Os) (started : os.Started) (H : Type) (enc : TypeId × Value → H) :
    ReturnsInHanded {} Tryz.checked os 5 .any (Rows.codeGrowsSpec.pre6 enc Tryz.prog Tryz.f5 Rows.codeGrowsRow.domain false) (Rows.codeGrowsSpec.post enc Tryz.prog Tryz.f5 false true false false) := by
  refine returnsInHanded_of_change (C := Tryz.checked) ownN started (by kernel_rfl) Tryz.func5
    (ChangeSpec.witness6 (enc := enc) (C := Tryz.checked) false ⟨#[], #[.int .u8 0, .int .u8 0, .int .u8 0], []⟩ 8 (by kernel_rfl) (by kernel_rfl) (by kernel_rfl) (by kernel_rfl)) ?_
  intro W base args ds gs before hval0 hW hcnd _
  have hval : ∀ (j : Nat) t v, Tryz.f5.params[j]? = some t → args[j]? = some v → Value.okWide Tryz.prog W .any base t v := hval0
  have hW' := hW
  obtain ⟨p, q, hA0, hV, rfl, hfz, hnd⟩ := hW
  have hA : DataW.TrodAll enc Tryz.prog W 0 (fun _ => true) true Tryz.f5.params.toList args.toList ds p := hA0
  rw [Tryz.params5] at hA hval
  obtain ⟨v0, vs0, d0, ds0, p0, q0, hargs, rfl, rfl, h0, r0⟩ := trodAll_cons hA
  obtain ⟨v1, vs1, d1, ds1, p1, q1, rfl, rfl, rfl, h1, r1⟩ := trodAll_cons r0
  obtain ⟨v2, vs2, d2, ds2, p2, q2, rfl, rfl, rfl, h2, r2⟩ := trodAll_cons r1
  obtain ⟨rfl, rfl, rfl⟩ := trodAll_nil r2
  obtain rfl : args = #[v0, v1, v2] := by cases args; simp_all
  obtain ⟨rfl, rfl⟩ := trodVars_none hV
  obtain ⟨a0, rfl, rfl, rfl, w0⟩ := open_int Tryz.underlying5 (hval 0 5 v0 rfl rfl) h0
  obtain ⟨a1, rfl, rfl, rfl, w1⟩ := open_int Tryz.underlying5 (hval 1 5 v1 rfl rfl) h1
  obtain ⟨a2, rfl, rfl, rfl, w2⟩ := open_int Tryz.underlying5 (hval 2 5 v2 rfl rfl) h2
  clear hA0 hval0
  have b0 : 0 ≤ a0 ∧ a0 ≤ 255 := by simpa [Lit.wf, IntKind.min, IntKind.max, IntKind.signed, IntKind.bits] using w0
  have b1 : 0 ≤ a1 ∧ a1 ≤ 255 := by simpa [Lit.wf, IntKind.min, IntKind.max, IntKind.signed, IntKind.bits] using w1
  have b2 : 0 ≤ a2 ∧ a2 ≤ 255 := by simpa [Lit.wf, IntKind.min, IntKind.max, IntKind.signed, IntKind.bits] using w2
  refine (codeGrows_any shapeOf_any W a0 a1 a2 b0.1 b0.2 b1.1 b1.2 b2.1 b2.2).mono fun e W' ⟨he, bel⟩ => ?_
  subst he
  exact ⟨_, rfl, _, _, _, [], _, [], hW', trodAll_mk1 (shut_bool Tryz.underlying4 _), (trodAll_cons_mk (shut_int Tryz.underlying5 w0) (trodAll_cons_mk (shut_int Tryz.underlying5 w1) (trodAll_cons_mk (shut_int Tryz.underlying5 w2) trodAll_mk0))), rfl, bel.frame _, fun h => by cases h⟩
theorem codeGrows_holds : Rows.CodeGrowsSaid :=
  OpenClaim.holds_of_wide 5 Tryz.f5 rfl rfl rfl rfl rfl rfl rfl ⟨rfl, rfl, rfl, rfl, rfl⟩ rfl rfl rfl rfl rfl (by kernel_rfl) Tryz.func5 (by kernel_rfl)
    (of_decide_eq_true (by kernel_rfl)) (by unfold Func.isWrapper; first | (rw [if_pos (by decide +kernel)]; kernel_rfl) | (rw [if_neg (by decide +kernel)]; exact ⟨rfl, rfl⟩))
    (fun os started H enc _ => grows_lifted os started H enc)
end Go.Proofs.YthnolocldeokeaaGreat

