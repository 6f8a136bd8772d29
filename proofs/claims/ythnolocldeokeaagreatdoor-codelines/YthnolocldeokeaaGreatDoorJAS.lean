/-
  CodeLines returns true for every two instructions, and its arguments read behind the call as they read before; the library's tables hold what the program's text lays there.
  No condition besides.
-/
import Derived.Test.YthnolocldeokeaaGreatDoorJAR
import Derived.Test.YthnolocldeokeaaGreatDoorTie
import Derived.Test.YthnolocldeokeaaGreatDoorCards
import Derived.LaidSub
import Derived.LaidLaws
import Derived.LaidHandle
import Derived.Shelf.Vars
import Derived.Lib.LaidTab
import Derived.Handed
import Derived.ChangeSame
import Derived.ChangeVars
import Derived.JoinedOf
import Derived.RowKit
import Derived.RowKitTokens
import Derived.SevenTiedAt
import Derived.ProofKit
import Derived.OpenShut
import Derived.ChangeOld
namespace Go.Proofs.YthnolocldeokeaaGreatDoor
open Go.RowKit Go.Deep Go.Shelf
set_option linter.unusedVariables false
set_option linter.unusedSimpArgs false
set_option maxRecDepth 100000
set_option maxHeartbeats 4000000 in
theorem known9_any (SO : ShapeC) (w : World) : Calls Tryz.prog 4 #[] w fun e w' => e = .returned (.bool true) ∧ Below w.heap.size w w' := by
  obtain ⟨A0, hA0⟩ : ∃ A0, A0 = w.alloc (.cells #[.int .i64 1, .int .i64 0, .int .i64 1, .int .i64 0] 32) := ⟨_, rfl⟩
  obtain ⟨A1, hA1⟩ : ∃ A1, A1 = A0.alloc (.cells #[.string ⟨#[102]⟩, .slice (some ⟨w.heap.size, 0, none⟩) 2 2, .int .i64 0, .int .i64 0] 35) := ⟨_, rfl⟩
  obtain ⟨A, hA⟩ : ∃ A, A = A1.alloc (.cells #[.slice none 0 0, .slice none 0 0, .slice (some ⟨w.heap.size + 1, 0, none⟩) 1 1, .slice none 0 0] 40) := ⟨_, rfl⟩
  have z0 : A0.heap.size = w.heap.size + 1 := by rw [hA0]; simp
  have z1 : A1.heap.size = w.heap.size + 2 := by rw [hA1]; simp; omega
  have z2 : A.heap.size = w.heap.size + 3 := by rw [hA]; simp; omega
  have b0 : Below w.heap.size w A0 := by rw [hA0]; exact (Below.refl _ _).alloc (Nat.le_refl _) _
  have b1 : Below w.heap.size w A1 := by rw [hA1]; exact b0.alloc (by omega) _
  have b2 : Below w.heap.size w A := by rw [hA]; exact b1.alloc (by omega) _
  have m0 : A.heap[w.heap.size]? = some (.cells #[.int .i64 1, .int .i64 0, .int .i64 1, .int .i64 0] 32 (0, 0)) := by rw [hA, Below.heap_alloc _ _ _ (by omega), hA1, Below.heap_alloc _ _ _ (by omega), hA0]; exact heap_alloc_new w _
  have m1 : A.heap[w.heap.size + 1]? = some (.cells #[.string ⟨#[102]⟩, .slice (some ⟨w.heap.size, 0, none⟩) 2 2, .int .i64 0, .int .i64 0] 35 (0, 0)) := by rw [hA, Below.heap_alloc _ _ _ (by omega), hA1, ← z0]; exact heap_alloc_new A0 _
  have m2 : A.heap[w.heap.size + 2]? = some (.cells #[.slice none 0 0, .slice none 0 0, .slice (some ⟨w.heap.size + 1, 0, none⟩) 1 1, .slice none 0 0] 40 (0, 0)) := by rw [hA, ← z1]; exact heap_alloc_new A1 _
  have c0 := cellOf m2 0
  have c1 := cellOf m2 1
  have c2 := cellOf m2 2
  have c3 := cellOf m2 3
  simp only [List.getElem?_toArray, List.getElem?_cons_zero, List.getElem?_cons_succ] at c0 c1 c2 c3
  have K1 := uses_any SO A _ _ (kPRd m0 m1) ⟨31, -1, 3, 0, 0⟩ (by kernel_rfl) 2 (by omega) (kPf_len _) ⟨by simp, by simp, by simp, by simp⟩
  rw [kUs] at K1
  simp only [PH.v, Opx.cs] at K1
  have K1 := hid K1
  have HBA := hid b2
  clear m0 m1 m2 b0 b1 b2 z0 z1 z2
  have KD := hid (fun (V : World) (a : Option Addr) (n c : Nat) hb ho => kDec SO V a n c hb ho)
  have KE := hid (fun (V : World) (C : CH) (fs es : List (FH × Fx)) (d : CdRd V C kCx fs es) (jr : JRd V C.ia []) (jn : C.inn = ([] : List Int).length) => (encode_any SO V C kCx fs es d [] jr jn (fun x hx => by simp at hx)).mono (fun e w' h => (by
    obtain ⟨hb, h | h⟩ := h
    · rw [kCx_is] at h; cases h.1
    · obtain ⟨_, v, he, hr⟩ := h
      rw [kCx_enc] at hr
      exact ⟨hb, v, he, hr⟩ : Below V.heap.size V w' ∧ ∃ v, e = .returned (.tuple #[v, .int .i64 0]) ∧ Row w' V.heap.size v kBs)))
  have KI := hid (fun (V : World) (C : CH) (fs es : List (FH × Fx)) (d : CdRd V C kCx fs es) => (by
    have := codeIs_any SO V C kCx fs es d
    rw [kCx_is] at this; exact this : Calls Tryz.prog 12 #[C.v] V fun e w' => e = .returned (.bool true) ∧ Below V.heap.size V w'))
  /- the code that the law makes, from a world on -/
  have MK : Hid (∀ V : World, ∃ B : World, B = (((V.alloc (.cells #[.string ⟨#[101]⟩, .slice none 0 0, .int .i64 0, .int .i64 0] 35)).alloc (.cells #[.int .i64 35, .int .i64 0, .int .i64 0, .int .i64 0, .int .i64 0, .int .i64 40, .int .i64 0, .int .i64 (-1), .int .i64 0, .int .i64 0] 23)).alloc (.cells #[.int .i64 0, .slice (some ⟨V.heap.size + 1, 0, none⟩) 2 2] 46)).alloc (.cells #[.slice none 0 0, .slice none 0 0, .slice none 0 0, .slice (some ⟨V.heap.size, 0, none⟩) 1 1, .slice none 0 0, .slice none 0 0, .slice none 0 0, .slice (some ⟨V.heap.size + 1 + 1, 0, none⟩) 1 1] 51) ∧ Below V.heap.size V B ∧ B.heap[V.heap.size + 1 + 1 + 1]? = some (.cells #[.slice none 0 0, .slice none 0 0, .slice none 0 0, .slice (some ⟨V.heap.size, 0, none⟩) 1 1, .slice none 0 0, .slice none 0 0, .slice none 0 0, .slice (some ⟨V.heap.size + 1 + 1, 0, none⟩) 1 1] 51 (0, 0)) ∧ CdRd B ⟨⟨none, 0, 0, none, 0, 0, none, 0, 0, some ⟨V.heap.size, 0, none⟩, 1, 1⟩, none, 0, 0, none, 0, 0, none, 0, 0, some ⟨V.heap.size + 1 + 1, 0, none⟩, 1, 1⟩ kCx [] [((⟨0, some ⟨V.heap.size + 1, 0, none⟩, 2, 2⟩ : FH), kFx)]) := hid (fun V => by
    refine ⟨_, rfl, ?_⟩
    obtain ⟨B0, hB0⟩ : ∃ B0, B0 = V.alloc (.cells #[.string ⟨#[101]⟩, .slice none 0 0, .int .i64 0, .int .i64 0] 35) := ⟨_, rfl⟩
    rw [← hB0]
    obtain ⟨B1, hB1⟩ : ∃ B1, B1 = B0.alloc (.cells #[.int .i64 35, .int .i64 0, .int .i64 0, .int .i64 0, .int .i64 0, .int .i64 40, .int .i64 0, .int .i64 (-1), .int .i64 0, .int .i64 0] 23) := ⟨_, rfl⟩
    rw [← hB1]
    obtain ⟨B2, hB2⟩ : ∃ B2, B2 = B1.alloc (.cells #[.int .i64 0, .slice (some ⟨V.heap.size + 1, 0, none⟩) 2 2] 46) := ⟨_, rfl⟩
    rw [← hB2]
    obtain ⟨B3, hB3⟩ : ∃ B3, B3 = B2.alloc (.cells #[.slice none 0 0, .slice none 0 0, .slice none 0 0, .slice (some ⟨V.heap.size, 0, none⟩) 1 1, .slice none 0 0, .slice none 0 0, .slice none 0 0, .slice (some ⟨V.heap.size + 1 + 1, 0, none⟩) 1 1] 51) := ⟨_, rfl⟩
    rw [← hB3]
    have z0 : B0.heap.size = V.heap.size + 1 := by rw [hB0]; simp
    have z1 : B1.heap.size = V.heap.size + 1 + 1 := by rw [hB1]; simp; omega
    have z2 : B2.heap.size = V.heap.size + 1 + 1 + 1 := by rw [hB2]; simp; omega
    have b0 : Below V.heap.size V B0 := by rw [hB0]; exact (Below.refl _ _).alloc (Nat.le_refl _) _
    have b1 : Below V.heap.size V B1 := by rw [hB1]; exact b0.alloc (by omega) _
    have b2 : Below V.heap.size V B2 := by rw [hB2]; exact b1.alloc (by omega) _
    have b3 : Below V.heap.size V B3 := by rw [hB3]; exact b2.alloc (by omega) _
    refine ⟨b3, by rw [hB3, ← z2]; exact heap_alloc_new B2 _, kCd ?_ ?_ ?_⟩
    · rw [hB3, Below.heap_alloc _ _ _ (by omega), hB2, Below.heap_alloc _ _ _ (by omega), hB1, Below.heap_alloc _ _ _ (by omega), hB0]; exact heap_alloc_new V _
    · rw [hB3, Below.heap_alloc _ _ _ (by omega), hB2, Below.heap_alloc _ _ _ (by omega), hB1, ← z0]; exact heap_alloc_new B0 _
    · rw [hB3, Below.heap_alloc _ _ _ (by omega), hB2, ← z1]; exact heap_alloc_new B1 _)
  clear SO
  go_enter Tryz.func4, Tryz.ntmps4
  go_upto_region 2 with fail
  rw [← hA0, ← hA1, ← hA]
  clear hA0 hA1 hA
  rw [show w.heap.size + 1 + 1 = w.heap.size + 2 from rfl]
  go_upto_region 3 with (go_at_call 7; (refine (Hid.out K1).mono ?_; rintro e w1 ⟨v1, rfl, hk1, hb1⟩; obtain ⟨la, lc, rfl, hi1⟩ := hk1.ird; have HI1 := hid hi1; have HW1 := hid (HBA.out.trans (hb1.mono HBA.out.size)); clear hk1 hb1 hi1))
  clear c0 c1 c2 c3 K1 HBA
  obtain ⟨B, hB, bB, mB, cB⟩ := MK.out w1
  go_upto_region 4 with fail
  rw [← hB]
  clear hB
  obtain ⟨k0, k1, k2, k3, k4, k5, k6, k7⟩ := cell_eight mB
  have K2 := KE.out B _ _ _ cB (jrd_nil _ _) rfl
  simp only [CH.v, CH.cs] at K2
  have K2 := hid K2
  have CB := hid cB
  have MB := hid mB
  have HWB := hid (HW1.out.trans (bB.mono HW1.out.size))
  have HIB := hid (HI1.out.below bB)
  have hzB : w1.heap.size + 1 + 1 + 1 < B.heap.size := lt_of_heap mB
  clear cB mB bB HI1 HW1 MK KE
  go_upto_region 5 with (go_at_call 8; (refine (Hid.out K2).mono ?_; rintro e w2 ⟨hb2, v2, rfl, hr2⟩; obtain ⟨va, vc, rfl, _⟩ := hr2.form; have K3 := hid (KD.out w2 va _ vc (hr2.rd (by unfold Byt; simp [kBs])) (fun k e => by obtain ⟨cur, hc⟩ := hr2.cells e; exact lt_of_heap hc)); have HB2 := hid hb2; clear hr2 hb2))
  clear k0 k1 k2 k3 k4 k5 k6 k7 K2 KD
  go_upto_region 6 with (go_at_call 9; (refine (Hid.out K3).mono ?_; rintro e w3 ⟨hb3, ⟨⟨ra, rn, rc, ma, mn, mc, fa, fn, fc, ea, en, ec⟩, ia, inn, ic, ta, tn, tc, ga, gn, gc, ha, hn, hc⟩, cx, fl, el, rfl, hce, hcd, hjr, hjn⟩; simp only [CH.v, CH.cs]; have HB3 := hid (HB2.out.trans (hb3.mono HB2.out.size)); have CE := hid hce; have CD := hid hcd; have JR := hid hjr; have JN := hid hjn; clear hb3 hce hcd hjr hjn))
  obtain ⟨E0, hE0⟩ : ∃ E0, E0 = w3.alloc (.cells #[.slice ra rn rc, .slice ma mn mc, .slice fa fn fc, .slice ea en ec, .slice ia inn ic, .slice ta tn tc, .slice ga gn gc, .slice ha hn hc] 51) := ⟨_, rfl⟩
  have bE : Below w3.heap.size w3 E0 := by rw [hE0]; exact (Below.refl _ _).alloc (Nat.le_refl _) _
  have mE : E0.heap[w3.heap.size]? = some (.cells #[.slice ra rn rc, .slice ma mn mc, .slice fa fn fc, .slice ea en ec, .slice ia inn ic, .slice ta tn tc, .slice ga gn gc, .slice ha hn hc] 51 (0, 0)) := by rw [hE0]; exact heap_alloc_new w3 _
  rw [← hE0]
  clear hE0
  have bBE : Below B.heap.size B E0 := HB3.out.trans (bE.mono HB3.out.size)
  have GT : Hid (∀ V : World, Below E0.heap.size E0 V → V.heap[w1.heap.size + 1 + 1 + 1]? = some (.cells #[.slice none 0 0, .slice none 0 0, .slice none 0 0, .slice (some ⟨w1.heap.size, 0, none⟩) 1 1, .slice none 0 0, .slice none 0 0, .slice none 0 0, .slice (some ⟨w1.heap.size + 1 + 1, 0, none⟩) 1 1] 51 (0, 0)) ∧ V.heap[w3.heap.size]? = some (.cells #[.slice ra rn rc, .slice ma mn mc, .slice fa fn fc, .slice ea en ec, .slice ia inn ic, .slice ta tn tc, .slice ga gn gc, .slice ha hn hc] 51 (0, 0)) ∧ CdRd V (⟨⟨none, 0, 0, none, 0, 0, none, 0, 0, some ⟨w1.heap.size, 0, none⟩, 1, 1⟩, none, 0, 0, none, 0, 0, none, 0, 0, some ⟨w1.heap.size + 1 + 1, 0, none⟩, 1, 1⟩ : CH) kCx [] [((⟨0, some ⟨w1.heap.size + 1, 0, none⟩, 2, 2⟩ : FH), kFx)] ∧ CdRd V (⟨⟨ra, rn, rc, ma, mn, mc, fa, fn, fc, ea, en, ec⟩, ia, inn, ic, ta, tn, tc, ga, gn, gc, ha, hn, hc⟩ : CH) cx fl el ∧ JRd V ia [] ∧ Below w.heap.size w V) := hid (fun V hV => by
    have b1 : Below B.heap.size B V := bBE.trans (hV.mono bBE.size)
    have b2 : Below w3.heap.size w3 V := bE.trans (hV.mono bE.size)
    exact ⟨(b1.block _ hzB).trans MB.out, (hV.block _ (lt_of_heap mE)).trans mE, CB.out.below (Nat.le_refl _) b1, CD.out.below (Nat.le_refl _) b2, CRd.below JR.out (Nat.le_refl _) b2, HWB.out.trans (b1.mono HWB.out.size)⟩)
  have b5 : Below E0.heap.size E0 (E0.alloc (.cells #[.int .i64 3, .int .i64 4] 3)) := (Below.refl _ _).alloc (Nat.le_refl _) _
  have K4 := ints_yes (E0.alloc (.cells #[.int .i64 3, .int .i64 4] 3)) la (some ⟨E0.heap.size, 0, none⟩) 2 lc 2 [3, 4] rfl (by omega) (HIB.out.below (bBE.trans (b5.mono bBE.size))) (fun j x hx => ⟨E0.heap.size, 0, rfl, by
    have q := cellOf (heap_alloc_new E0 (.cells #[.int .i64 3, .int .i64 4] 3))
    match j, hx with
    | 0, hx => simp at hx; subst hx; exact q 0
    | 1, hx => simp at hx; subst hx; exact q 1
    | j + 2, hx => simp at hx⟩)
  have K4 := hid K4
  have B5 := hid b5
  have K5 : Hid (∀ V : World, Below E0.heap.size E0 V → Calls Tryz.prog 11 #[(⟨⟨none, 0, 0, none, 0, 0, none, 0, 0, some ⟨w1.heap.size, 0, none⟩, 1, 1⟩, none, 0, 0, none, 0, 0, none, 0, 0, some ⟨w1.heap.size + 1 + 1, 0, none⟩, 1, 1⟩ : CH).v, (⟨⟨ra, rn, rc, ma, mn, mc, fa, fn, fc, ea, en, ec⟩, ia, inn, ic, ta, tn, tc, ga, gn, gc, ha, hn, hc⟩ : CH).v] V fun e w' => e = .returned (.bool true) ∧ Below V.heap.size V w') := hid (fun V hV => by
    obtain ⟨_, _, h1, h2, h3, _⟩ := GT.out V hV
    exact same_yes V (⟨⟨none, 0, 0, none, 0, 0, none, 0, 0, some ⟨w1.heap.size, 0, none⟩, 1, 1⟩, none, 0, 0, none, 0, 0, none, 0, 0, some ⟨w1.heap.size + 1 + 1, 0, none⟩, 1, 1⟩ : CH) (⟨⟨ra, rn, rc, ma, mn, mc, fa, fn, fc, ea, en, ec⟩, ia, inn, ic, ta, tn, tc, ga, gn, gc, ha, hn, hc⟩ : CH) kCx cx _ _ fl el [] h1 h2 CE.out (jrd_nil _ _) h3 rfl JN.out)
  have K6 : Hid (∀ V : World, Below E0.heap.size E0 V → Calls Tryz.prog 12 #[(⟨⟨none, 0, 0, none, 0, 0, none, 0, 0, some ⟨w1.heap.size, 0, none⟩, 1, 1⟩, none, 0, 0, none, 0, 0, none, 0, 0, some ⟨w1.heap.size + 1 + 1, 0, none⟩, 1, 1⟩ : CH).v] V fun e w' => e = .returned (.bool true) ∧ Below V.heap.size V w') := hid (fun V hV => KI.out V (⟨⟨none, 0, 0, none, 0, 0, none, 0, 0, some ⟨w1.heap.size, 0, none⟩, 1, 1⟩, none, 0, 0, none, 0, 0, none, 0, 0, some ⟨w1.heap.size + 1 + 1, 0, none⟩, 1, 1⟩ : CH) _ _ (GT.out V hV).2.2.1)
  simp only [CH.v, CH.cs] at K5 K6
  clear bE mE bBE b5 MB CB CE CD JR JN HB2 HB3 HIB K3 HWB KI
  go_wp2_with (first
    | (go_at_call 10; (refine (Hid.out K4).mono ?_; rintro e w4 ⟨rfl, hb4⟩; have HB4 := hid (B5.out.trans (hb4.mono B5.out.size)); obtain ⟨k0, k1, k2, k3, k4, k5, k6, k7⟩ := cell_eight (GT.out w4 HB4.out).1; obtain ⟨j0, j1, j2, j3, j4, j5, j6, j7⟩ := cell_eight (GT.out w4 HB4.out).2.1; clear hb4))
    | (go_at_call 11; (refine (K5.out w4 HB4.out).mono ?_; rintro e w5 ⟨rfl, hb5⟩; have HB5 := hid (HB4.out.trans (hb5.mono HB4.out.size)); clear k0 k1 k2 k3 k4 k5 k6 k7 j0 j1 j2 j3 j4 j5 j6 j7; obtain ⟨k0, k1, k2, k3, k4, k5, k6, k7⟩ := cell_eight (GT.out w5 HB5.out).1; clear hb5))
    | (go_at_call 12; (refine (K6.out w5 HB5.out).mono ?_; rintro e w6 ⟨rfl, hb6⟩; have HB6 := hid (GT.out w6 (HB5.out.trans (hb6.mono HB5.out.size))).2.2.2.2.2; clear hb6)))
  go_ret
  exact ⟨rfl, HB6.out⟩
end Go.Proofs.YthnolocldeokeaaGreatDoor

namespace Go.Proofs.YthnolocldeokeaaGreatDoor
open Go.RowKit Go.Deep Go.Shelf
set_option linter.unusedVariables false
set_option linter.unusedSimpArgs false
set_option maxRecDepth 100000
theorem frm_no {k : Int} (h : isC k = false) : (frm k).ok = false := by
  unfold isC at h
  simp at h
  unfold frm
  repeat (rw [if_neg (by omega)])
theorem frm_yes {k : Int} (h : (frm k).ok = true) : isC k = true := by
  cases hc : isC k with
  | true => rfl
  | false => rw [frm_no hc] at h; cases h
theorem streq2 {a b : ByteArray} (h : ¬ a = b) : (a.toList == b.toList) = false := by
  rw [ByteArray.toList_eq, ByteArray.toList_eq]
  have : ¬ a.data = b.data := fun e => h (by cases a; cases b; simp at e; simp [e])
  simp [this]
theorem eqlO (w : World) {a b c d e a' b' c' d' e' : Int} (h : ¬ (⟨a, b, c, d, e⟩ : Opx) = ⟨a', b', c', d', e'⟩) : Sem.run Tryz.prog (binOp .eql 23 (.agg #[.int .i64 a, .int .i64 b, .int .i64 c, .int .i64 d, .int .i64 e]) (.agg #[.int .i64 a', .int .i64 b', .int .i64 c', .int .i64 d', .int .i64 e'])) w = .ok (.bool false) w := by
  by_cases h1 : a = a'
  · by_cases h2 : b = b'
    · by_cases h3 : c = c'
      · by_cases h4 : d = d'
        · by_cases h5 : e = e'
          · exact absurd (by rw [h1, h2, h3, h4, h5]) h
          · subst h1 h2 h3 h4
            have q : (e == e') = false := by simp [h5]
            simp [go_sem, Tryz.underlying23, Tryz.underlying3, q]
        · subst h1 h2 h3
          have q : (d == d') = false := by simp [h4]
          simp [go_sem, Tryz.underlying23, Tryz.underlying3, q]
      · subst h1 h2
        have q : (c == c') = false := by simp [h3]
        simp [go_sem, Tryz.underlying23, Tryz.underlying3, q]
    · subst h1
      have q : (b == b') = false := by simp [h2]
      simp [go_sem, Tryz.underlying23, Tryz.underlying3, q]
  · have q : (a == a') = false := by simp [h1]
    simp [go_sem, Tryz.underlying23, Tryz.underlying3, q]
theorem two_alc {w : World} {x y : Array Value} {T : TypeId} : ∃ W, W = (w.alloc (.cells x T)).alloc (.cells y T) ∧ Below w.heap.size w W ∧ W.heap[w.heap.size]? = some (.cells x T (0, 0)) ∧ W.heap[w.heap.size + 1]? = some (.cells y T (0, 0)) := by
  obtain ⟨A, hA⟩ : ∃ A, A = w.alloc (.cells x T) := ⟨_, rfl⟩
  have z : A.heap.size = w.heap.size + 1 := by rw [hA]; simp
  have b : Below w.heap.size w A := by rw [hA]; exact (Below.refl _ _).alloc (Nat.le_refl _) _
  refine ⟨_, rfl, ?_, ?_, ?_⟩
  · rw [← hA]; exact b.alloc (by omega) _
  · rw [← hA, Below.heap_alloc _ _ _ (by omega), hA]; exact heap_alloc_new w _
  · rw [← hA, ← z]; exact heap_alloc_new A _
set_option maxHeartbeats 4000000 in
theorem codeLines_any (SO : ShapeC) (w : World) (o p : Opx) (ho : inOp o) (hp : inOp p) (E : EnvT w) :
    Calls Tryz.prog 3 #[.agg o.cs, .agg p.cs] w fun e w' => e = .returned (.bool true) ∧ Below w.heap.size w w' := by
  obtain ⟨W0, hW0, bw, m0, m1⟩ := two_alc (w := w) (x := o.cs) (y := p.cs) (T := 23)
  have K0 := hid (known9_any SO W0)
  have KO := hid (fun V : World => of_any V o.c)
  have KP := hid (fun V : World => of_any V p.c)
  have L1 := hid (fun (hc : isC o.c = true) (V : World) (hV : Below w.heap.size w V) => line_any SO o ho hc V (E.below hV))
  have L2 := hid (fun (hc : isC p.c = true) (V : World) (hV : Below w.heap.size w V) => line_any SO p hp hc V (E.below hV))
  have Z1 := hid (fun (hc : isC o.c = true) => ln_size hc ho)
  have N1 := hid (fun (hc : isC o.c = true) => ln_ten hc)
  have IN := hid (fun (h1 : isC o.c = true) (h2 : isC p.c = true) => @ln_inj o p h1 h2)
  simp only [frmR] at KO KP
  clear SO E ho hp
  obtain ⟨c1, d1, a1, b1, k1⟩ := o
  obtain ⟨c2, d2, a2, b2, k2⟩ := p
  obtain ⟨s, hs⟩ : ∃ s, s = lnB ⟨c1, d1, a1, b1, k1⟩ := ⟨_, rfl⟩
  obtain ⟨t, ht⟩ : ∃ t, t = lnB ⟨c2, d2, a2, b2, k2⟩ := ⟨_, rfl⟩
  have ST0 : Hid ((⟨c1, d1, a1, b1, k1⟩ : Opx) = ⟨c2, d2, a2, b2, k2⟩ → s = t) := hid (fun e => by rw [hs, ht, e])
  simp only [Opx.cs] at hW0 m0 m1 KO KP L1 L2 Z1 N1 IN ⊢
  rw [← hs] at L1 Z1 N1 IN
  rw [← ht] at L2 IN
  clear hs ht
  obtain ⟨f1, hf1⟩ : ∃ f, f = frm c1 := ⟨_, rfl⟩
  obtain ⟨f2, hf2⟩ : ∃ f, f = frm c2 := ⟨_, rfl⟩
  have Y1 : Hid (f1.ok = true → isC c1 = true) := hid (fun h => frm_yes (by rw [← hf1]; exact h))
  have Y2 : Hid (f2.ok = true → isC c2 = true) := hid (fun h => frm_yes (by rw [← hf2]; exact h))
  rw [← hf1] at KO
  rw [← hf2] at KP
  clear hf1 hf2
  obtain ⟨g1, g2, g3, g4, g5⟩ := f1
  obtain ⟨e1, e2, e3, e4, e5⟩ := f2
  simp only [Frm.cs] at KO KP Y1 Y2
  have GT : Hid (∀ V : World, Below W0.heap.size W0 V → ((V.cell? ⟨w.heap.size, 0, none⟩ = some (.int .i64 c1) ∧ V.cell? ⟨w.heap.size, 1, none⟩ = some (.int .i64 d1) ∧ V.cell? ⟨w.heap.size, 2, none⟩ = some (.int .i64 a1) ∧ V.cell? ⟨w.heap.size, 3, none⟩ = some (.int .i64 b1) ∧ V.cell? ⟨w.heap.size, 4, none⟩ = some (.int .i64 k1)) ∧ V.cell? ⟨w.heap.size + 1, 0, none⟩ = some (.int .i64 c2) ∧ V.cell? ⟨w.heap.size + 1, 1, none⟩ = some (.int .i64 d2) ∧ V.cell? ⟨w.heap.size + 1, 2, none⟩ = some (.int .i64 a2) ∧ V.cell? ⟨w.heap.size + 1, 3, none⟩ = some (.int .i64 b2) ∧ V.cell? ⟨w.heap.size + 1, 4, none⟩ = some (.int .i64 k2)) ∧ Below w.heap.size w V) := hid (fun V hV => by
    have q0 := (hV.block _ (lt_of_heap m0)).trans m0
    have q1 := (hV.block _ (lt_of_heap m1)).trans m1
    exact ⟨⟨⟨cellOf q0 0, cellOf q0 1, cellOf q0 2, cellOf q0 3, cellOf q0 4⟩, cellOf q1 0, cellOf q1 1, cellOf q1 2, cellOf q1 3, cellOf q1 4⟩, bw.trans (hV.mono bw.size)⟩)
  have TR : Hid (∀ {x y : World}, Below W0.heap.size W0 x → Below x.heap.size x y → Below W0.heap.size W0 y) := hid (fun h1 h2 => h1.trans (h2.mono h1.size))
  clear m0 m1 bw
  go_enter Tryz.func3, Tryz.ntmps3
  go_upto_region 1 with fail
  rw [← hW0]
  clear hW0
  go_upto_region 3 with (go_at_call 4; (refine (Hid.out K0).mono ?_; rintro e w1 ⟨rfl, hb1⟩; have HB1 := hid hb1; clear hb1))
  clear K0
  obtain ⟨⟨⟨x0, x1, x2, x3, x4⟩, y0, y1, y2, y3, y4⟩, _⟩ := GT.out w1 HB1.out
  go_upto_region 4 with (go_at_call 5; (refine (KO.out w1).mono ?_; rintro e w2 ⟨rfl, hb2⟩; have HB2 := hid (TR.out HB1.out hb2); clear hb2 x0 x1 x2 x3 x4 y0 y1 y2 y3 y4))
  obtain ⟨w3, hw3⟩ : ∃ w3, w3 = w2.alloc (.cells #[.bool g1, .bool g2, .bool g3, .bool g4] 26) := ⟨_, rfl⟩
  have b3 : Below w2.heap.size w2 w3 := by rw [hw3]; exact (Below.refl _ _).alloc (Nat.le_refl _) _
  have HB3 := hid (TR.out HB2.out b3)
  rw [← hw3]
  clear hw3 b3 HB1 HB2 KO
  obtain ⟨⟨⟨x0, x1, x2, x3, x4⟩, y0, y1, y2, y3, y4⟩, _⟩ := GT.out w3 HB3.out
  go_upto_region 5 with (go_at_call 5; (refine (KP.out w3).mono ?_; rintro e w4 ⟨rfl, hb4⟩; have HB4 := hid (TR.out HB3.out hb4); clear hb4 x0 x1 x2 x3 x4 y0 y1 y2 y3 y4))
  obtain ⟨w5, hw5⟩ : ∃ w5, w5 = w4.alloc (.cells #[.bool e1, .bool e2, .bool e3, .bool e4] 26) := ⟨_, rfl⟩
  have b5 : Below w4.heap.size w4 w5 := by rw [hw5]; exact (Below.refl _ _).alloc (Nat.le_refl _) _
  have HB5 := hid (TR.out HB4.out b5)
  rw [← hw5]
  clear hw5 b5 HB3 HB4 KP
  cases g5 with
  | false =>
    go_wp2
    go_ret
    exact ⟨rfl, (GT.out w5 HB5.out).2⟩
  | true =>
  cases e5 with
  | false =>
    go_wp2
    go_ret
    exact ⟨rfl, (GT.out w5 HB5.out).2⟩
  | true =>
  have hc1 := Y1.out (by first | rfl | trivial)
  have hc2 := Y2.out (by first | rfl | trivial)
  have hd : Below W0.heap.size W0 w5.drew := TR.out HB5.out (Below.refl _ _).drew
  have KA := hid (L1.out hc1 w5.drew (GT.out _ hd).2)
  have KB := hid (fun (V : World) (hV : Below w.heap.size w V) => L2.out hc2 V hV)
  obtain ⟨zp, zs⟩ := Z1.out hc1
  have NT := hid (N1.out hc1)
  have INJ := hid (IN.out hc1 hc2)
  clear Y1 Y2 L1 L2 Z1 N1 IN hc1 hc2
  obtain ⟨⟨⟨x0, x1, x2, x3, x4⟩, y0, y1, y2, y3, y4⟩, _⟩ := GT.out w5 HB5.out
  go_upto_region 7 with fail
  go_region_held3 (fun V => (V.cell? ⟨w.heap.size, 0, none⟩ = some (.int .i64 c1) ∧ V.cell? ⟨w.heap.size, 1, none⟩ = some (.int .i64 d1) ∧ V.cell? ⟨w.heap.size, 2, none⟩ = some (.int .i64 a1) ∧ V.cell? ⟨w.heap.size, 3, none⟩ = some (.int .i64 b1) ∧ V.cell? ⟨w.heap.size, 4, none⟩ = some (.int .i64 k1)) ∧ V.cell? ⟨w.heap.size + 1, 0, none⟩ = some (.int .i64 c2) ∧ V.cell? ⟨w.heap.size + 1, 1, none⟩ = some (.int .i64 d2) ∧ V.cell? ⟨w.heap.size + 1, 2, none⟩ = some (.int .i64 a2) ∧ V.cell? ⟨w.heap.size + 1, 3, none⟩ = some (.int .i64 b2) ∧ V.cell? ⟨w.heap.size + 1, 4, none⟩ = some (.int .i64 k2)) (first | exact s7 | exact s6 | go_keep) (first
    | (have hno := KB1; (go_at_call 6; (refine (Hid.out KB1).mono ?_; rintro e w7 ⟨rfl, hb⟩; have h7 := TR.out h6 hb; have s7 := (GT.out w7 h7).1; clear hb KB1)))
    | (go_at_call 6; (refine (Hid.out KA).mono ?_; rintro e w6 ⟨rfl, hb⟩; have h6 := TR.out hd hb; have s6 := (GT.out w6 h6).1; have KB1 := hid (KB.out w6 (GT.out w6 h6).2); clear hb)))
  have zI : (s.size : Int) ≤ 120 := by omega
  have zJ : (0 : Int) < (s.size : Int) := by omega
  have H7 := hid h7
  clear KA KB hd x0 x1 x2 x3 x4 y0 y1 y2 y3 y4 zp zs
  go_wp2
  go_loopg [11] s.size (fun g x wr => ∃ j : Nat, j + g = s.size ∧ x = .int .i64 (j : Int) ∧ Below W0.heap.size W0 wr)
  case atStart => exact ⟨0, by omega, rfl, H7.out⟩
  case round =>
    obtain ⟨j, hj, rfl, hb⟩ := hrel
    cases gk with
    | succ g =>
      have hjI : (j : Int) < (s.size : Int) := by omega
      have hj0 : (0 : Int) ≤ (j : Int) := by omega
      have HB := hid hb
      have hjs : j < s.size := by omega
      have hne : ((s[j]'hjs).toNat : Int) ≠ 10 := by
        have h1 := NT.out (s[j]'hjs) (by
          have : s[j]'hjs = s.data[j]'hjs := rfl
          rw [this]; simp)
        intro e
        apply h1
        have e2 : (s[j]'hjs).toNat = 10 := by omega
        exact UInt8.toNat_inj.1 (e2.trans (by rfl))
      have nb : (((s[j]'hjs).toNat : Int) == 10) = false := by simp [hne]
      have nb2 : ¬ (s[j]'hjs).toNat = 10 := by omega
      clear hb hne
      go_wp2
      go_roundg g
      case measure => omega
      exact ⟨j + 1, by omega, by go_num, HB.out⟩
    | zero =>
      have hjn : j = s.size := by omega
      subst hjn
      obtain ⟨⟨⟨x0, x1, x2, x3, x4⟩, y0, y1, y2, y3, y4⟩, gw⟩ := GT.out wr hb
      have HG := hid gw
      clear hb gw
      by_cases he : (⟨c1, d1, a1, b1, k1⟩ : Opx) = ⟨c2, d2, a2, b2, k2⟩
      · have hst := ST0.out he
        obtain ⟨q1, q2, q3, q4, q5⟩ := Opx.mk.inj he
        subst q1 q2 q3 q4 q5 hst
        have nb : (s.toList == s.toList) = true := by simp
        clear he
        go_wp2
        go_ret
        exact ⟨rfl, HG.out⟩
      · have nb := streq2 (fun e => he (INJ.out e))
        have hn' := fun W : World => eqlO W he
        clear he
        go_wp2
        go_ret
        exact ⟨rfl, HG.out⟩
end Go.Proofs.YthnolocldeokeaaGreatDoor

namespace Go.Proofs.YthnolocldeokeaaGreatDoor
open Go.ChangeShapes Go.WideShapes Go.ChangeAt Go.RowKit Go.Deep Go.Shelf
set_option linter.unusedVariables false
set_option linter.unusedSimpArgs false
set_option maxRecDepth 100000
theorem cellsI3 : Tryz.prog.cellsOf 3 = 1 := by kernel_rfl
theorem pow_named : Tryz.prog.globalNamed "internal/strconv.uint64pow10" = some 0 := by kernel_rfl
theorem env_of {W : World} (hL : laidMetH Tryz.prog Rows.codeLinesRow.laid W) : EnvT W := by
  have h := hL.filter (fun x => x.1 == "internal/strconv.uint64pow10")
  have e : (Rows.codeLinesRow.laid.filter fun x => x.1 == "internal/strconv.uint64pow10") = [("internal/strconv.uint64pow10", Lib.tabData .u64 Lib.pow10Tab)] := by kernel_rfl
  rw [e] at h
  have h2 : laidMet Tryz.prog [("internal/strconv.uint64pow10", Lib.tabData .u64 Lib.pow10Tab)] W := (laidMetH_iff.1 h).1
  exact Lib.tabIs_of_head (t := 168) (e := 97) (n := 20) pow_named (by kernel_rfl) (by kernel_rfl) (by kernel_rfl) (by kernel_rfl) (by kernel_rfl) h2
/- A contract under the row's conditions, the world's shape and the tables at hand. -/
theorem handed_laid {H : Type} {enc : TypeId × Value → H} {a : Assume} {C : Checked} {os : Os} {f : FuncId} {fn : Func} {s : ChangeSpec} {conds : List PathCond} {apart fresh handsOn again : Bool} {X : World → Array Value → Prop}
    (hX : ∀ (w w' : World) (args : Array Value), w.heap = w'.heap → X w args → X w' args)
    (own : ownKnob C.prog.godebug = none) (started : os.Started) (noInit : C.prog.inits.idxOf? f = none) (hfn : C.prog.funcs[f]? = some fn)
    (witness : ∃ (w : World) (tape : Tape) (i : Input), w.os = os ∧ (w.forCall tape i).Shaped C.prog ∧ i.vars = [] ∧ Input.okWide C.prog (w.forCall tape i) .any w.heap.size f i ∧
      ((s.pre enc C.prog fn conds apart (w.forCall tape i).memory i.args ∧ X (w.forCall tape i).memory i.args) ∧ sizedMet enc C.prog fn (OpenSpec.ofChange s) apart (w.forCall tape i).memory i.args) ∧ a.holds C.prog (lone (Frame.enter C.prog f i.args .normal) [] (w.forCall tape i)))
    (contract : ∀ (W : World) (base : Nat) (args : Array Value) (ds gs : List (DataW H)) (before : List MemPlace),
      (∀ (j : Nat) t v, fn.params[j]? = some t → args[j]? = some v → Value.okWide C.prog W .any base t v) →
      DataW.Whole enc C.prog fn.params.toList s.vars apart W args.toList ds gs before →
      (DataW.weightsEach C.prog (fn.params.toList ++ s.plain.varTypes C.prog) (ds ++ gs)).all (· ≤ reachBytes) = true → X W args → W.ShapedOpen C.prog →
      Calls C.prog f args W fun e W' => ∃ v, e = .returned v ∧ s.post enc C.prog fn apart fresh handsOn again W args v W') :
    ReturnsInHanded a C os f .any (fun w args => (s.pre enc C.prog fn conds apart w args ∧ X w args) ∧ sizedMet enc C.prog fn (OpenSpec.ofChange s) apart w args) (s.post enc C.prog fn apart fresh handsOn again) := by
  refine returnsInHanded_of_calls own started noInit witness ?_
  intro w tape i _ hsh _ hok hpre hholds
  obtain ⟨_, _, _, fn', hfn', _, _, _, _, hval⟩ := hok
  obtain rfl : fn' = fn := Option.some.inj (hfn'.symm.trans hfn)
  obtain ⟨⟨⟨ds, gs, before, hw, hc⟩, hx⟩, hz⟩ := hpre
  refine (contract (w.forCall tape i) w.heap.size i.args ds gs before hval (DataW.Whole.of_heap (w' := w.forCall tape i) (by rfl) hw) (hz.weights hw) (hX _ _ _ (by rfl) hx) hsh).mono fun e W' ⟨v, he, hp⟩ => ?_
  subst he
  exact ChangeSpec.post_blind hp
def cellsIn (c : Array Value) : Obj → Obj
  | .cells _ t frozen => .cells c t frozen
  | o => o
def tables (h : Array Obj) : Array Obj := ((h.modify 0 (cellsIn #[.int .u64 1, .int .u64 10, .int .u64 100, .int .u64 1000, .int .u64 10000, .int .u64 100000, .int .u64 1000000, .int .u64 10000000, .int .u64 100000000, .int .u64 1000000000, .int .u64 10000000000, .int .u64 100000000000, .int .u64 1000000000000, .int .u64 10000000000000, .int .u64 100000000000000, .int .u64 1000000000000000, .int .u64 10000000000000000, .int .u64 100000000000000000, .int .u64 1000000000000000000, .int .u64 10000000000000000000])).modify 1 (cellsIn #[.int .u8 0, .int .u8 1, .int .u8 28, .int .u8 2, .int .u8 29, .int .u8 14, .int .u8 24, .int .u8 3, .int .u8 30, .int .u8 22, .int .u8 20, .int .u8 15, .int .u8 25, .int .u8 17, .int .u8 4, .int .u8 8, .int .u8 31, .int .u8 27, .int .u8 13, .int .u8 23, .int .u8 21, .int .u8 19, .int .u8 16, .int .u8 7, .int .u8 26, .int .u8 12, .int .u8 18, .int .u8 6, .int .u8 11, .int .u8 5, .int .u8 10, .int .u8 9])).modify 2 (cellsIn #[.int .u8 0, .int .u8 1, .int .u8 56, .int .u8 2, .int .u8 57, .int .u8 49, .int .u8 28, .int .u8 3, .int .u8 61, .int .u8 58, .int .u8 42, .int .u8 50, .int .u8 38, .int .u8 29, .int .u8 17, .int .u8 4, .int .u8 62, .int .u8 47, .int .u8 59, .int .u8 36, .int .u8 45, .int .u8 43, .int .u8 51, .int .u8 22, .int .u8 53, .int .u8 39, .int .u8 33, .int .u8 30, .int .u8 24, .int .u8 18, .int .u8 12, .int .u8 5, .int .u8 63, .int .u8 55, .int .u8 48, .int .u8 27, .int .u8 60, .int .u8 41, .int .u8 37, .int .u8 16, .int .u8 46, .int .u8 35, .int .u8 44, .int .u8 21, .int .u8 52, .int .u8 32, .int .u8 23, .int .u8 11, .int .u8 54, .int .u8 26, .int .u8 40, .int .u8 15, .int .u8 34, .int .u8 20, .int .u8 31, .int .u8 10, .int .u8 25, .int .u8 14, .int .u8 19, .int .u8 9, .int .u8 13, .int .u8 8, .int .u8 7, .int .u8 6])
/- A world for the witness is the settled one, the tables holding what is listed. -/
theorem laid_met (os : Os) (args : Array Value) : laidMetH Tryz.prog Rows.codeLinesRow.laid (({ World.holding Tryz.prog os ⟨#[], #[], []⟩ with heap := tables (World.holding Tryz.prog os ⟨#[], #[], []⟩).heap } : World).forCall (fun _ _ => 0) ⟨#[], args, []⟩).memory :=
  laidMetH_of_parts3 (fuel := 8) (laidMet_of_run' 8 (by kernel_rfl) (by kernel_rfl)) (by kernel_rfl) (by kernel_rfl)
section
variable {H : Type} {enc : TypeId × Value → H} {W : World}
theorem int_in {c : Value} (h : f_TrdT enc W 3 [c]) : ∃ n, c = .int .i64 n ∧ -9223372036854775808 ≤ n ∧ n ≤ 9223372036854775807 := by
  obtain ⟨fuel, x, hf⟩ := h
  obtain ⟨n, e, _, w⟩ := DataW.trod_int Tryz.underlying3 hf
  simp at e
  have w' : -9223372036854775808 ≤ n ∧ n ≤ 9223372036854775807 := by simpa [Lit.wf, IntKind.min, IntKind.max, IntKind.signed, IntKind.bits] using w
  exact ⟨n, e, w'⟩
theorem op_in {cs : List Value} (hl : cs.length = 5) (h : f_TrdT enc W 23 cs) : ∃ o : Opx, cs = o.cs.toList ∧ inOp o := by
  obtain ⟨fuel, x, hf⟩ := h
  obtain ⟨xs, n, _, rfl, _, hlen, hf⟩ := DataW.trod_struct Tryz.underlying23 hf
  match cs, hl with
  | [c0, c1, c2, c3, c4], _ =>
    match xs, hlen with
    | [y0, y1, y2, y3, y4], _ =>
      have h0 := hf 0 _ rfl
      have h1 := hf 1 _ rfl
      have h2 := hf 2 _ rfl
      have h3 := hf 3 _ rfl
      have h4 := hf 4 _ rfl
      simp [cellsI3] at h0 h1 h2 h3 h4
      obtain ⟨n0, rfl, _⟩ := int_in ⟨_, _, h0⟩
      obtain ⟨n1, rfl, i1⟩ := int_in ⟨_, _, h1⟩
      obtain ⟨n2, rfl, i2⟩ := int_in ⟨_, _, h2⟩
      obtain ⟨n3, rfl, i3⟩ := int_in ⟨_, _, h3⟩
      obtain ⟨n4, rfl, i4⟩ := int_in ⟨_, _, h4⟩
      exact ⟨⟨n0, n1, n2, n3, n4⟩, rfl, i1, i2, i3, i4⟩
theorem op_arg {v : Value} {base : Nat} {d : DataW H} {p : List MemPlace} (hv : Value.okWide Tryz.prog W .any base 23 v) (h : DataW.Trod enc Tryz.prog W 0 (fun _ => true) true 23 v d p) : ∃ o : Opx, v = .agg o.cs ∧ inOp o := by
  obtain ⟨cs, rfl, hs⟩ := okWide_struct Tryz.underlying23 hv
  obtain ⟨m, hm⟩ := h
  have hlen : cs.toList.length = 5 := by
    have hm' := hm
    obtain ⟨xs, n, _, _, hl, _, _⟩ := DataW.trod_struct Tryz.underlying23 hm'
    rw [show Tryz.prog.cellsOf 23 = 5 by kernel_rfl] at hl; exact hl
  obtain ⟨o, e, h2⟩ := op_in (cs := cs.toList) hlen ⟨_, _, hm⟩
  refine ⟨o, ?_, h2⟩
  have : cs = o.cs := by rw [← Array.toList_inj]; exact e
  rw [this]
end
theorem lines_lifted (os : Os) (started : os.Started) (H : Type) (enc : TypeId × Value → H) :
    ReturnsInHanded {} Tryz.checked os 3 .any (fun w args => (Rows.codeLinesSpec.pre enc Tryz.prog Tryz.f3 [] false w args ∧ laidMetH Tryz.prog Rows.codeLinesRow.laid w) ∧ sizedMet enc Tryz.prog Tryz.f3 (OpenSpec.ofChange Rows.codeLinesSpec) false w args)
      (Rows.codeLinesSpec.post enc Tryz.prog Tryz.f3 false true false false) := by
  refine handed_laid (C := Tryz.checked) (X := fun w _ => laidMetH Tryz.prog Rows.codeLinesRow.laid w) (fun _ _ _ hh h => h.of_heap hh) ownN started (by kernel_rfl) Tryz.func3
    (ChangeSpec.witness_at (enc := enc) (C := Tryz.checked) (os := os) (X := fun w _ => laidMetH Tryz.prog Rows.codeLinesRow.laid w) false ({ World.holding Tryz.prog os ⟨#[], #[], []⟩ with heap := tables (World.holding Tryz.prog os ⟨#[], #[], []⟩).heap } : World) #[.agg #[.int .i64 0, .int .i64 0, .int .i64 0, .int .i64 0, .int .i64 0], .agg #[.int .i64 0, .int .i64 0, .int .i64 0, .int .i64 0, .int .i64 0]] 8 rfl (by kernel_rfl) (by kernel_rfl) (by kernel_rfl) (by kernel_rfl) (by kernel_rfl) (laid_met os _)) ?_
  intro W base args ds gs before hval0 hW _ hL hsh
  have hval : ∀ (j : Nat) t v, Tryz.f3.params[j]? = some t → args[j]? = some v → Value.okWide Tryz.prog W .any base t v := hval0
  have hW' := hW
  obtain ⟨p, q, hA0, hV, rfl, hfz, hnd⟩ := hW
  have hA : DataW.TrodAll enc Tryz.prog W 0 (fun _ => true) true Tryz.f3.params.toList args.toList ds p := hA0
  rw [Tryz.params3] at hA hval
  obtain ⟨v0, vs0, d0, ds0, p0, q0, hargs, rfl, rfl, h0, r0⟩ := trodAll_cons hA
  obtain ⟨v1, vs1, d1, ds1, p1, q1, rfl, rfl, rfl, h1, r1⟩ := trodAll_cons r0
  obtain ⟨rfl, rfl, rfl⟩ := trodAll_nil r1
  obtain rfl : args = #[v0, v1] := by cases args; simp_all
  obtain ⟨rfl, rfl⟩ := trodVars_none hV
  obtain ⟨o, rfl, ho⟩ := op_arg (hval 0 23 v0 rfl rfl) h0
  obtain ⟨r, rfl, hr⟩ := op_arg (hval 1 23 v1 rfl rfl) h1
  have lt0 : ∀ x ∈ p0, x.block < W.heap.size := by obtain ⟨m, hm⟩ := h0; exact DataW.trod_lt m _ _ _ hm
  have lt1 : ∀ x ∈ p1, x.block < W.heap.size := by obtain ⟨m, hm⟩ := h1; exact DataW.trod_lt m _ _ _ hm
  clear hA0 hval0
  refine (codeLines_any shapeOf_any W o r ho hr (env_of hL)).mono fun e W' ⟨he, bel⟩ => ?_
  subst he
  exact ⟨_, rfl, _, _, _, [], _, [], hW', trodAll_mk1 (shut_bool Tryz.underlying4 _), (trodAll_cons_mk (Below.trod laidOut (by kernel_rfl) (of_decide_eq_true (by kernel_rfl)) h0 bel lt0) (trodAll_cons_mk (Below.trod laidOut (by kernel_rfl) (of_decide_eq_true (by kernel_rfl)) h1 bel lt1) trodAll_mk0)), rfl, bel.frame _, fun h => by cases h⟩
theorem codeLines_row : Rows.CodeLinesSaid :=
  OpenClaim.holds_of_wide 3 Tryz.f3 rfl rfl rfl rfl rfl rfl rfl ⟨rfl, rfl, rfl, rfl, rfl⟩ rfl rfl rfl rfl rfl (by kernel_rfl) Tryz.func3 (by kernel_rfl)
    (of_decide_eq_true (by kernel_rfl)) (by unfold Func.isWrapper; first | (rw [if_pos (by decide +kernel)]; kernel_rfl) | (rw [if_neg (by decide +kernel)]; exact ⟨rfl, rfl⟩))
    (fun os started H enc _ => lines_lifted os started H enc)
theorem codeLines_card : Rows.CodeLinesCardSaid :=
  Claim7.holds_tied_plain_at .later [] [.data, .data, .data] true (true, "0faecbb7892efa31d2311e2d6e8a3d6b9299d0160d27e8b6d57b17ae9251865b") false
    codeLines_row (fun _ h => by cases h) (by kernel_rfl) (fun _ h => by cases h) codeLines_row_tie rfl ⟨rfl, rfl⟩ (by kernel_rfl) rfl
    (fun f fn hf hfn => by
      obtain rfl : f = 3 := Option.some.inj ((show Tryz.prog.funcNamed "windlass/windlasslaw9.CodeLines" = some 3 by kernel_rfl).symm.trans hf) |>.symm
      obtain rfl : fn = Tryz.f3 := (Option.some.inj (Tryz.func3.symm.trans hfn)).symm
      exact ⟨by kernel_rfl, fun j t ht => by
        rw [Tryz.params3] at ht
        have h3 : t = 23 := by
          rcases j with _ | _ | j
          · simpa using ht.symm
          · simpa using ht.symm
          · simp at ht
        subst h3
        exact (show Tryz.prog.wantsStandIn 23 = false by kernel_rfl)⟩)
    (by kernel_rfl)
end Go.Proofs.YthnolocldeokeaaGreatDoor

