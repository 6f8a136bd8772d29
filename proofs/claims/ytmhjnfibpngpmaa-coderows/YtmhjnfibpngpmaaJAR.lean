/-
  CodeRows returns true for every two numbers, and its arguments read behind the call as they read before.
  No condition.
-/
import Derived.Test.YtmhjnfibpngpmaaJAQ
import Derived.ProofKit
import Derived.OpenShut
import Derived.ChangeOld
namespace Go.Proofs.Ytmhjnfibpngpmaa
open Go.RowKit Go.Deep Go.Shelf
set_option linter.unusedVariables false
set_option linter.unusedSimpArgs false
set_option maxRecDepth 100000
set_option maxHeartbeats 4000000 in
theorem known9_any (SO : ShapeC) (w : World) : Calls Try.prog 7 #[] w fun e w' => e = .returned (.bool true) ∧ Below w.heap.size w w' := by
  obtain ⟨A0, hA0⟩ : ∃ A0, A0 = w.alloc (.cells #[.int .i64 1, .int .i64 0, .int .i64 1, .int .i64 0] 24) := ⟨_, rfl⟩
  obtain ⟨A1, hA1⟩ : ∃ A1, A1 = A0.alloc (.cells #[.string ⟨#[102]⟩, .slice (some ⟨w.heap.size, 0, none⟩) 2 2, .int .i64 0, .int .i64 0] 29) := ⟨_, rfl⟩
  obtain ⟨A, hA⟩ : ∃ A, A = A1.alloc (.cells #[.slice none 0 0, .slice none 0 0, .slice (some ⟨w.heap.size + 1, 0, none⟩) 1 1, .slice none 0 0] 36) := ⟨_, rfl⟩
  have z0 : A0.heap.size = w.heap.size + 1 := by rw [hA0]; simp
  have z1 : A1.heap.size = w.heap.size + 2 := by rw [hA1]; simp; omega
  have z2 : A.heap.size = w.heap.size + 3 := by rw [hA]; simp; omega
  have b0 : Below w.heap.size w A0 := by rw [hA0]; exact (Below.refl _ _).alloc (Nat.le_refl _) _
  have b1 : Below w.heap.size w A1 := by rw [hA1]; exact b0.alloc (by omega) _
  have b2 : Below w.heap.size w A := by rw [hA]; exact b1.alloc (by omega) _
  have m0 : A.heap[w.heap.size]? = some (.cells #[.int .i64 1, .int .i64 0, .int .i64 1, .int .i64 0] 24 (0, 0)) := by rw [hA, Below.heap_alloc _ _ _ (by omega), hA1, Below.heap_alloc _ _ _ (by omega), hA0]; exact heap_alloc_new w _
  have m1 : A.heap[w.heap.size + 1]? = some (.cells #[.string ⟨#[102]⟩, .slice (some ⟨w.heap.size, 0, none⟩) 2 2, .int .i64 0, .int .i64 0] 29 (0, 0)) := by rw [hA, Below.heap_alloc _ _ _ (by omega), hA1, ← z0]; exact heap_alloc_new A0 _
  have m2 : A.heap[w.heap.size + 2]? = some (.cells #[.slice none 0 0, .slice none 0 0, .slice (some ⟨w.heap.size + 1, 0, none⟩) 1 1, .slice none 0 0] 36 (0, 0)) := by rw [hA, ← z1]; exact heap_alloc_new A1 _
  have c0 := cellOf m2 0
  have c1 := cellOf m2 1
  have c2 := cellOf m2 2
  have c3 := cellOf m2 3
  simp only [List.getElem?_toArray, List.getElem?_cons_zero, List.getElem?_cons_succ] at c0 c1 c2 c3
  have K1 := uses_any SO A _ _ (kPRd m0 m1) ⟨31, -1, 3, 0, 0⟩ (by kernel_rfl) 2 (by omega) (kPf_len _) ⟨by simp, by simp, by simp, by simp⟩
  rw [kUs] at K1
  simp only [PH.v, Opx.cs] at K1
  have K1 := hid K1
  have HBA := hid b2
  clear m0 m1 m2 b0 b1 b2 z0 z1 z2
  have KD := hid (fun (V : World) (a : Option Addr) (n c : Nat) hb ho => kDec SO V a n c hb ho)
  have KE := hid (fun (V : World) (C : CH) (fs es : List (FH × Fx)) (d : CdRd V C kCx fs es) (jr : JRd V C.ia []) (jn : C.inn = ([] : List Int).length) => (encode_any SO V C kCx fs es d [] jr jn (fun x hx => by simp at hx)).mono (fun e w' h => (by
    obtain ⟨hb, h | h⟩ := h
    · rw [kCx_is] at h; cases h.1
    · obtain ⟨_, v, he, hr⟩ := h
      rw [kCx_enc] at hr
      exact ⟨hb, v, he, hr⟩ : Below V.heap.size V w' ∧ ∃ v, e = .returned (.tuple #[v, .int .i64 0]) ∧ Row w' V.heap.size v kBs)))
  have KI := hid (fun (V : World) (C : CH) (fs es : List (FH × Fx)) (d : CdRd V C kCx fs es) => (by
    have := codeIs_any SO V C kCx fs es d
    rw [kCx_is] at this; exact this : Calls Try.prog 23 #[C.v] V fun e w' => e = .returned (.bool true) ∧ Below V.heap.size V w'))
  /- the code that the law makes, from a world on -/
  have MK : Hid (∀ V : World, ∃ B : World, B = (((V.alloc (.cells #[.string ⟨#[101]⟩, .slice none 0 0, .int .i64 0, .int .i64 0] 29)).alloc (.cells #[.int .i64 35, .int .i64 0, .int .i64 0, .int .i64 0, .int .i64 0, .int .i64 40, .int .i64 0, .int .i64 (-1), .int .i64 0, .int .i64 0] 41)).alloc (.cells #[.int .i64 0, .slice (some ⟨V.heap.size + 1, 0, none⟩) 2 2] 73)).alloc (.cells #[.slice none 0 0, .slice none 0 0, .slice none 0 0, .slice (some ⟨V.heap.size, 0, none⟩) 1 1, .slice none 0 0, .slice none 0 0, .slice none 0 0, .slice (some ⟨V.heap.size + 1 + 1, 0, none⟩) 1 1] 52) ∧ Below V.heap.size V B ∧ B.heap[V.heap.size + 1 + 1 + 1]? = some (.cells #[.slice none 0 0, .slice none 0 0, .slice none 0 0, .slice (some ⟨V.heap.size, 0, none⟩) 1 1, .slice none 0 0, .slice none 0 0, .slice none 0 0, .slice (some ⟨V.heap.size + 1 + 1, 0, none⟩) 1 1] 52 (0, 0)) ∧ CdRd B ⟨⟨none, 0, 0, none, 0, 0, none, 0, 0, some ⟨V.heap.size, 0, none⟩, 1, 1⟩, none, 0, 0, none, 0, 0, none, 0, 0, some ⟨V.heap.size + 1 + 1, 0, none⟩, 1, 1⟩ kCx [] [((⟨0, some ⟨V.heap.size + 1, 0, none⟩, 2, 2⟩ : FH), kFx)]) := hid (fun V => by
    refine ⟨_, rfl, ?_⟩
    obtain ⟨B0, hB0⟩ : ∃ B0, B0 = V.alloc (.cells #[.string ⟨#[101]⟩, .slice none 0 0, .int .i64 0, .int .i64 0] 29) := ⟨_, rfl⟩
    rw [← hB0]
    obtain ⟨B1, hB1⟩ : ∃ B1, B1 = B0.alloc (.cells #[.int .i64 35, .int .i64 0, .int .i64 0, .int .i64 0, .int .i64 0, .int .i64 40, .int .i64 0, .int .i64 (-1), .int .i64 0, .int .i64 0] 41) := ⟨_, rfl⟩
    rw [← hB1]
    obtain ⟨B2, hB2⟩ : ∃ B2, B2 = B1.alloc (.cells #[.int .i64 0, .slice (some ⟨V.heap.size + 1, 0, none⟩) 2 2] 73) := ⟨_, rfl⟩
    rw [← hB2]
    obtain ⟨B3, hB3⟩ : ∃ B3, B3 = B2.alloc (.cells #[.slice none 0 0, .slice none 0 0, .slice none 0 0, .slice (some ⟨V.heap.size, 0, none⟩) 1 1, .slice none 0 0, .slice none 0 0, .slice none 0 0, .slice (some ⟨V.heap.size + 1 + 1, 0, none⟩) 1 1] 52) := ⟨_, rfl⟩
    rw [← hB3]
    have z0 : B0.heap.size = V.heap.size + 1 := by rw [hB0]; simp
    have z1 : B1.heap.size = V.heap.size + 1 + 1 := by rw [hB1]; simp; omega
    have z2 : B2.heap.size = V.heap.size + 1 + 1 + 1 := by rw [hB2]; simp; omega
    have b0 : Below V.heap.size V B0 := by rw [hB0]; exact (Below.refl _ _).alloc (Nat.le_refl _) _
    have b1 : Below V.heap.size V B1 := by rw [hB1]; exact b0.alloc (by omega) _
    have b2 : Below V.heap.size V B2 := by rw [hB2]; exact b1.alloc (by omega) _
    have b3 : Below V.heap.size V B3 := by rw [hB3]; exact b2.alloc (by omega) _
    refine ⟨b3, by rw [hB3, ← z2]; exact heap_alloc_new B2 _, kCd ?_ ?_ ?_⟩
    · rw [hB3, Below.heap_alloc _ _ _ (by omega), hB2, Below.heap_alloc _ _ _ (by omega), hB1, Below.heap_alloc _ _ _ (by omega), hB0]; exact heap_alloc_new V _
    · rw [hB3, Below.heap_alloc _ _ _ (by omega), hB2, Below.heap_alloc _ _ _ (by omega), hB1, ← z0]; exact heap_alloc_new B0 _
    · rw [hB3, Below.heap_alloc _ _ _ (by omega), hB2, ← z1]; exact heap_alloc_new B1 _)
  clear SO
  go_enter Try.func7, Try.ntmps7
  go_upto_region 2 with fail
  rw [← hA0, ← hA1, ← hA]
  clear hA0 hA1 hA
  rw [show w.heap.size + 1 + 1 = w.heap.size + 2 from rfl]
  go_upto_region 3 with (go_at_call 8; (refine (Hid.out K1).mono ?_; rintro e w1 ⟨v1, rfl, hk1, hb1⟩; obtain ⟨la, lc, rfl, hi1⟩ := hk1.ird; have HI1 := hid hi1; have HW1 := hid (HBA.out.trans (hb1.mono HBA.out.size)); clear hk1 hb1 hi1))
  clear c0 c1 c2 c3 K1 HBA
  obtain ⟨B, hB, bB, mB, cB⟩ := MK.out w1
  go_upto_region 4 with fail
  rw [← hB]
  clear hB
  obtain ⟨k0, k1, k2, k3, k4, k5, k6, k7⟩ := cell_eight mB
  have K2 := KE.out B _ _ _ cB (jrd_nil _ _) rfl
  simp only [CH.v, CH.cs] at K2
  have K2 := hid K2
  have CB := hid cB
  have MB := hid mB
  have HWB := hid (HW1.out.trans (bB.mono HW1.out.size))
  have HIB := hid (HI1.out.below bB)
  have hzB : w1.heap.size + 1 + 1 + 1 < B.heap.size := lt_of_heap mB
  clear cB mB bB HI1 HW1 MK KE
  go_upto_region 5 with (go_at_call 20; (refine (Hid.out K2).mono ?_; rintro e w2 ⟨hb2, v2, rfl, hr2⟩; obtain ⟨va, vc, rfl, _⟩ := hr2.form; have K3 := hid (KD.out w2 va _ vc (hr2.rd (by unfold Byt; simp [kBs])) (fun k e => by obtain ⟨cur, hc⟩ := hr2.cells e; exact lt_of_heap hc)); have HB2 := hid hb2; clear hr2 hb2))
  clear k0 k1 k2 k3 k4 k5 k6 k7 K2 KD
  go_upto_region 6 with (go_at_call 21; (refine (Hid.out K3).mono ?_; rintro e w3 ⟨hb3, ⟨⟨ra, rn, rc, ma, mn, mc, fa, fn, fc, ea, en, ec⟩, ia, inn, ic, ta, tn, tc, ga, gn, gc, ha, hn, hc⟩, cx, fl, el, rfl, hce, hcd, hjr, hjn⟩; simp only [CH.v, CH.cs]; have HB3 := hid (HB2.out.trans (hb3.mono HB2.out.size)); have CE := hid hce; have CD := hid hcd; have JR := hid hjr; have JN := hid hjn; clear hb3 hce hcd hjr hjn))
  obtain ⟨E0, hE0⟩ : ∃ E0, E0 = w3.alloc (.cells #[.slice ra rn rc, .slice ma mn mc, .slice fa fn fc, .slice ea en ec, .slice ia inn ic, .slice ta tn tc, .slice ga gn gc, .slice ha hn hc] 52) := ⟨_, rfl⟩
  have bE : Below w3.heap.size w3 E0 := by rw [hE0]; exact (Below.refl _ _).alloc (Nat.le_refl _) _
  have mE : E0.heap[w3.heap.size]? = some (.cells #[.slice ra rn rc, .slice ma mn mc, .slice fa fn fc, .slice ea en ec, .slice ia inn ic, .slice ta tn tc, .slice ga gn gc, .slice ha hn hc] 52 (0, 0)) := by rw [hE0]; exact heap_alloc_new w3 _
  rw [← hE0]
  clear hE0
  have bBE : Below B.heap.size B E0 := HB3.out.trans (bE.mono HB3.out.size)
  have GT : Hid (∀ V : World, Below E0.heap.size E0 V → V.heap[w1.heap.size + 1 + 1 + 1]? = some (.cells #[.slice none 0 0, .slice none 0 0, .slice none 0 0, .slice (some ⟨w1.heap.size, 0, none⟩) 1 1, .slice none 0 0, .slice none 0 0, .slice none 0 0, .slice (some ⟨w1.heap.size + 1 + 1, 0, none⟩) 1 1] 52 (0, 0)) ∧ V.heap[w3.heap.size]? = some (.cells #[.slice ra rn rc, .slice ma mn mc, .slice fa fn fc, .slice ea en ec, .slice ia inn ic, .slice ta tn tc, .slice ga gn gc, .slice ha hn hc] 52 (0, 0)) ∧ CdRd V (⟨⟨none, 0, 0, none, 0, 0, none, 0, 0, some ⟨w1.heap.size, 0, none⟩, 1, 1⟩, none, 0, 0, none, 0, 0, none, 0, 0, some ⟨w1.heap.size + 1 + 1, 0, none⟩, 1, 1⟩ : CH) kCx [] [((⟨0, some ⟨w1.heap.size + 1, 0, none⟩, 2, 2⟩ : FH), kFx)] ∧ CdRd V (⟨⟨ra, rn, rc, ma, mn, mc, fa, fn, fc, ea, en, ec⟩, ia, inn, ic, ta, tn, tc, ga, gn, gc, ha, hn, hc⟩ : CH) cx fl el ∧ JRd V ia [] ∧ Below w.heap.size w V) := hid (fun V hV => by
    have b1 : Below B.heap.size B V := bBE.trans (hV.mono bBE.size)
    have b2 : Below w3.heap.size w3 V := bE.trans (hV.mono bE.size)
    exact ⟨(b1.block _ hzB).trans MB.out, (hV.block _ (lt_of_heap mE)).trans mE, CB.out.below (Nat.le_refl _) b1, CD.out.below (Nat.le_refl _) b2, CRd.below JR.out (Nat.le_refl _) b2, HWB.out.trans (b1.mono HWB.out.size)⟩)
  have b5 : Below E0.heap.size E0 (E0.alloc (.cells #[.int .i64 3, .int .i64 4] 3)) := (Below.refl _ _).alloc (Nat.le_refl _) _
  have K4 := ints_yes (E0.alloc (.cells #[.int .i64 3, .int .i64 4] 3)) la (some ⟨E0.heap.size, 0, none⟩) 2 lc 2 [3, 4] rfl (by omega) (HIB.out.below (bBE.trans (b5.mono bBE.size))) (fun j x hx => ⟨E0.heap.size, 0, rfl, by
    have q := cellOf (heap_alloc_new E0 (.cells #[.int .i64 3, .int .i64 4] 3))
    match j, hx with
    | 0, hx => simp at hx; subst hx; exact q 0
    | 1, hx => simp at hx; subst hx; exact q 1
    | j + 2, hx => simp at hx⟩)
  have K4 := hid K4
  have B5 := hid b5
  have K5 : Hid (∀ V : World, Below E0.heap.size E0 V → Calls Try.prog 14 #[(⟨⟨none, 0, 0, none, 0, 0, none, 0, 0, some ⟨w1.heap.size, 0, none⟩, 1, 1⟩, none, 0, 0, none, 0, 0, none, 0, 0, some ⟨w1.heap.size + 1 + 1, 0, none⟩, 1, 1⟩ : CH).v, (⟨⟨ra, rn, rc, ma, mn, mc, fa, fn, fc, ea, en, ec⟩, ia, inn, ic, ta, tn, tc, ga, gn, gc, ha, hn, hc⟩ : CH).v] V fun e w' => e = .returned (.bool true) ∧ Below V.heap.size V w') := hid (fun V hV => by
    obtain ⟨_, _, h1, h2, h3, _⟩ := GT.out V hV
    exact same_yes V (⟨⟨none, 0, 0, none, 0, 0, none, 0, 0, some ⟨w1.heap.size, 0, none⟩, 1, 1⟩, none, 0, 0, none, 0, 0, none, 0, 0, some ⟨w1.heap.size + 1 + 1, 0, none⟩, 1, 1⟩ : CH) (⟨⟨ra, rn, rc, ma, mn, mc, fa, fn, fc, ea, en, ec⟩, ia, inn, ic, ta, tn, tc, ga, gn, gc, ha, hn, hc⟩ : CH) kCx cx _ _ fl el [] h1 h2 CE.out (jrd_nil _ _) h3 rfl JN.out)
  have K6 : Hid (∀ V : World, Below E0.heap.size E0 V → Calls Try.prog 23 #[(⟨⟨none, 0, 0, none, 0, 0, none, 0, 0, some ⟨w1.heap.size, 0, none⟩, 1, 1⟩, none, 0, 0, none, 0, 0, none, 0, 0, some ⟨w1.heap.size + 1 + 1, 0, none⟩, 1, 1⟩ : CH).v] V fun e w' => e = .returned (.bool true) ∧ Below V.heap.size V w') := hid (fun V hV => KI.out V (⟨⟨none, 0, 0, none, 0, 0, none, 0, 0, some ⟨w1.heap.size, 0, none⟩, 1, 1⟩, none, 0, 0, none, 0, 0, none, 0, 0, some ⟨w1.heap.size + 1 + 1, 0, none⟩, 1, 1⟩ : CH) _ _ (GT.out V hV).2.2.1)
  simp only [CH.v, CH.cs] at K5 K6
  clear bE mE bBE b5 MB CB CE CD JR JN HB2 HB3 HIB K3 HWB KI
  go_wp2_with (first
    | (go_at_call 22; (refine (Hid.out K4).mono ?_; rintro e w4 ⟨rfl, hb4⟩; have HB4 := hid (B5.out.trans (hb4.mono B5.out.size)); obtain ⟨k0, k1, k2, k3, k4, k5, k6, k7⟩ := cell_eight (GT.out w4 HB4.out).1; obtain ⟨j0, j1, j2, j3, j4, j5, j6, j7⟩ := cell_eight (GT.out w4 HB4.out).2.1; clear hb4))
    | (go_at_call 14; (refine (K5.out w4 HB4.out).mono ?_; rintro e w5 ⟨rfl, hb5⟩; have HB5 := hid (HB4.out.trans (hb5.mono HB4.out.size)); clear k0 k1 k2 k3 k4 k5 k6 k7 j0 j1 j2 j3 j4 j5 j6 j7; obtain ⟨k0, k1, k2, k3, k4, k5, k6, k7⟩ := cell_eight (GT.out w5 HB5.out).1; clear hb5))
    | (go_at_call 23; (refine (K6.out w5 HB5.out).mono ?_; rintro e w6 ⟨rfl, hb6⟩; have HB6 := hid (GT.out w6 (HB5.out.trans (hb6.mono HB5.out.size))).2.2.2.2.2; clear hb6)))
  go_ret
  exact ⟨rfl, HB6.out⟩
end Go.Proofs.Ytmhjnfibpngpmaa

namespace Go.Proofs.Ytmhjnfibpngpmaa
open Go.RowKit Go.Deep Go.Shelf
set_option linter.unusedVariables false
set_option linter.unusedSimpArgs false
set_option maxRecDepth 100000
def nm1 (j : Nat) : ByteArray := ofB [97 + j]
def nmL (k : Nat) : List ByteArray := (List.range k).map nm1
def tyL (k : Nat) : List TyP := List.replicate k (1, 0)
def rwL (k : Nat) (f : Int) : List Int := (List.range k).map fun (j : Nat) => f + (j : Int)
theorem nmL_succ (k : Nat) : (nmL (k + 1)).map stc = (nmL k).map stc ++ [stc (nm1 k)] := by simp [nmL, List.range_succ]
theorem tyL_succ (k : Nat) : (tyL (k + 1)).map tyc = (tyL k).map tyc ++ [tyc (1, 0)] := by simp [tyL, List.replicate_succ']
theorem nmL_len (k : Nat) : (nmL k).length = k := by simp [nmL]
theorem tyL_len (k : Nat) : (tyL k).length = k := by simp [tyL]
theorem rwL_len (k : Nat) (f : Int) : (rwL k f).length = k := by simp [rwL]
theorem nm1_size (j : Nat) : (nm1 j).size = 1 := rfl
theorem nmL_size (k : Nat) : ∀ s ∈ nmL k, s.size ≤ 1000000 := fun s hs => by
  obtain ⟨j, _, rfl⟩ := List.mem_map.1 hs
  rw [nm1_size]; omega
theorem rw_at {k : Nat} {f : Int} {j : Nat} (h : j < k) : (rwL k f)[j]? = some (f + (j : Int)) := by
  simp [rwL, h]
theorem conv1 (V : World) (j : Nat) (hj : j ≤ 100) : (convert 27 9 (.slice (some ⟨V.heap.size, 0, none⟩) 1 1)).run Try.prog (V.alloc (.cells #[.int .u8 (97 + (j : Int))] 5)) = .ok (.string (nm1 j)) (V.alloc (.cells #[.int .u8 (97 + (j : Int))] 5)) :=
  Rd.conv (bs := [97 + j]) ⟨some ⟨V.heap.size, 0, none⟩, 1, rfl, by simp, by unfold Byt; simp; omega, fun i x hx => ⟨V.heap.size, 0, rfl, by
    have q := cellOf (heap_alloc_new V (.cells #[.int .u8 (97 + (j : Int))] 5))
    match i, hx with
    | 0, hx => simp at hx; subst hx; exact (q 0).trans (by simp)
    | i + 1, hx => simp at hx⟩⟩
def rPg (ua : Option Addr) (uc : Nat) (va : Option Addr) (vc k : Nat) : Pg :=
  ⟨[((⟨⟨#[80]⟩, va, k, vc, ua, k, uc⟩ : RH), (⟨⟨#[80]⟩, nmL k, tyL k⟩ : Rc))], [], [((⟨⟨#[102]⟩, ua, k, uc, 0, 0⟩ : GH), (⟨⟨#[102]⟩, tyL k, (0, 0)⟩ : Sg))], [((⟨⟨#[101]⟩, ua, k, uc, 0, 0⟩ : GH), (⟨⟨#[101]⟩, tyL k, (0, 0)⟩ : Sg))]⟩
theorem rPg_rd {w : World} {X : Nat} {ua va : Option Addr} {uc vc k : Nat} (m0 : w.heap[X]? = some (.cells #[.string ⟨#[102]⟩, .slice ua k uc, .int .i64 0, .int .i64 0] 29 (0, 0))) (m1 : w.heap[X + 1]? = some (.cells #[.string ⟨#[101]⟩, .slice ua k uc, .int .i64 0, .int .i64 0] 29 (0, 0))) (m2 : w.heap[X + 1 + 1]? = some (.cells #[.string ⟨#[80]⟩, .slice va k vc, .slice ua k uc] 32 (0, 0)))
    (ht : TRd w ua (tyL k)) (hs : SRd w va (nmL k)) (hk : k ≤ 100) (hvc : k ≤ vc) : PRd w ⟨some ⟨X + 1 + 1, 0, none⟩, 1, 1, none, 0, 0, some ⟨X, 0, none⟩, 1, 1, some ⟨X + 1, 0, none⟩, 1, 1⟩ (rPg ua uc va vc k) := by
  refine ⟨⟨rfl, by simp, crd_of [[.string ⟨#[80]⟩, .slice va k vc, .slice ua k uc]] m2 (by simp), fun p hp => ?_⟩, ⟨rfl, by simp, fun j r h => by simp [rPg] at h, fun p hp => by simp [rPg] at hp⟩, ⟨rfl, by simp, crd_of [[.string ⟨#[102]⟩, .slice ua k uc, .int .i64 0, .int .i64 0]] m0 (by simp), fun p hp => ?_⟩, ⟨rfl, by simp, crd_of [[.string ⟨#[101]⟩, .slice ua k uc, .int .i64 0, .int .i64 0]] m1 (by simp), fun p hp => ?_⟩⟩
  · simp [rPg] at hp
    subst hp
    exact ⟨rfl, of_decide_eq_true (by kernel_rfl), (nmL_len k).symm, hvc, by show k ≤ _; omega, hs, (tyL_len k).symm, by show k ≤ _; omega, ht⟩
  · simp [rPg] at hp
    subst hp
    exact ⟨rfl, of_decide_eq_true (by kernel_rfl), (tyL_len k).symm, by show k ≤ _; omega, ht, rfl⟩
  · simp [rPg] at hp
    subst hp
    exact ⟨rfl, of_decide_eq_true (by kernel_rfl), (tyL_len k).symm, by show k ≤ _; omega, ht, rfl⟩
theorem s31 : (shpAt 31).d = 2 ∧ (shpAt 31).a = 5 ∧ (shpAt 31).b = 0 ∧ (shpAt 31).k = 12 := ⟨by kernel_rfl, by kernel_rfl, by kernel_rfl, by kernel_rfl⟩
theorem s24 : (shpAt 24).d = 1 ∧ (shpAt 24).a = 5 ∧ (shpAt 24).b = 0 ∧ (shpAt 24).k = 9 := ⟨by kernel_rfl, by kernel_rfl, by kernel_rfl, by kernel_rfl⟩
theorem s34 : (shpAt 34).d = 0 ∧ (shpAt 34).a = 3 ∧ (shpAt 34).b = 5 ∧ (shpAt 34).k = 13 := ⟨by kernel_rfl, by kernel_rfl, by kernel_rfl, by kernel_rfl⟩
theorem us31 (k : Nat) (f : Int) : usL k (shpAt 31) ⟨31, -1, f, 0, 0⟩ = rwL k f := by
  obtain ⟨h1, h2, h3, h4⟩ := s31
  simp [usL, fourL, usF, fl, h1, h2, h3, h4, rwL]
theorem us24 (k : Nat) (f : Int) : usL k (shpAt 24) ⟨24, 1, f, 0, 0⟩ = rwL k f := by
  obtain ⟨h1, h2, h3, h4⟩ := s24
  simp [usL, fourL, usF, fl, h1, h2, h3, h4, rwL]
theorem us34 (k : Nat) (f : Int) : usL k (shpAt 34) ⟨34, 0, 50, f, 0⟩ = 50 :: rwL k f := by
  obtain ⟨h1, h2, h3, h4⟩ := s34
  simp [usL, fourL, usF, fl, h1, h2, h3, h4, rwL]
theorem len31 (ua : Option Addr) (uc : Nat) (va : Option Addr) (vc k : Nat) : rowLen (shpAt 31).k (rPg ua uc va vc k) 0 = ((k : Int), true) := by
  obtain ⟨h1, h2, h3, h4⟩ := s31
  simp [rowLen, parmB, blw, rPg, h4, tyL_len, nmL_len]
theorem len24 (ua : Option Addr) (uc : Nat) (va : Option Addr) (vc k : Nat) : rowLen (shpAt 24).k (rPg ua uc va vc k) 0 = ((k : Int), true) := by
  obtain ⟨h1, h2, h3, h4⟩ := s24
  simp [rowLen, parmB, blw, rPg, h4, tyL_len, nmL_len]
theorem len34 (ua : Option Addr) (uc : Nat) (va : Option Addr) (vc k : Nat) : rowLen (shpAt 34).k (rPg ua uc va vc k) 0 = ((k : Int), true) := by
  obtain ⟨h1, h2, h3, h4⟩ := s34
  simp [rowLen, parmB, blw, rPg, h4, tyL_len, nmL_len]
theorem gv31 (f : Int) : gvR (shpAt 31) ⟨31, -1, f, 0, 0⟩ = (0, false) := by simp [gvR]
theorem gv24 (f : Int) : gvR (shpAt 24) ⟨24, 7, f, 0, 0⟩ = (7, true) := by
  obtain ⟨h1, h2, h3, h4⟩ := s24
  simp [gvR, h1]
theorem smO_of {c d a b k : Int} (hd : -1000000 ≤ d ∧ d ≤ 1000000) (ha : -1000000 ≤ a ∧ a ≤ 1000000) (hb : -1000000 ≤ b ∧ b ≤ 1000000) (hk : -1000000 ≤ k ∧ k ≤ 1000000) : smO ⟨c, d, a, b, k⟩ := ⟨hd, ha, hb, hk⟩
theorem prep2 {W w2 : World} {B : Nat} {u v : Value} {lu lv : List (List Value)} (h1 : KR 24 2 w2 B u lu) (h2 : KR 9 1 w2 B v lv) (hb : Below B W w2) (hB : B ≤ W.heap.size) (j : Nat) :
    KR 24 2 ((w2.alloc (.cells #[.int .u8 (97 + (j : Int))] 5)).alloc (.cells #[.string (nm1 j)] 9)) B u lu ∧ KR 9 1 ((w2.alloc (.cells #[.int .u8 (97 + (j : Int))] 5)).alloc (.cells #[.string (nm1 j)] 9)) B v lv ∧ Below B W ((w2.alloc (.cells #[.int .u8 (97 + (j : Int))] 5)).alloc (.cells #[.string (nm1 j)] 9)) ∧ B ≤ ((w2.alloc (.cells #[.int .u8 (97 + (j : Int))] 5)).alloc (.cells #[.string (nm1 j)] 9)).heap.size ∧ CRd ((w2.alloc (.cells #[.int .u8 (97 + (j : Int))] 5)).alloc (.cells #[.string (nm1 j)] 9)) (some ⟨w2.heap.size + 1, 0, none⟩) 1 [stc (nm1 j)] := by
  have hBw : B ≤ w2.heap.size := Nat.le_trans hB hb.size
  have b1 : Below w2.heap.size w2 (w2.alloc (.cells #[.int .u8 (97 + (j : Int))] 5)) := (Below.refl _ _).alloc (Nat.le_refl _) _
  have b2 : Below w2.heap.size w2 ((w2.alloc (.cells #[.int .u8 (97 + (j : Int))] 5)).alloc (.cells #[.string (nm1 j)] 9)) := b1.alloc b1.size _
  have b3 := hb.trans (b2.mono hBw)
  refine ⟨h1.below (Nat.le_refl _) b2, h2.below (Nat.le_refl _) b2, b3, Nat.le_trans hB b3.size, ?_⟩
  have := crd_one 9 (w2.alloc (.cells #[.int .u8 (97 + (j : Int))] 5)) (stc (nm1 j)) 1 rfl
  rw [World.size_alloc] at this
  exact this
end Go.Proofs.Ytmhjnfibpngpmaa

namespace Go.Proofs.Ytmhjnfibpngpmaa
open Go.RowKit Go.Deep Go.Shelf
set_option linter.unusedVariables false
set_option linter.unusedSimpArgs false
set_option maxRecDepth 100000
set_option maxHeartbeats 4000000 in
theorem codeRows_any (SO : ShapeC) (w : World) (n f : Int) (hn0 : 0 ≤ n) (hn : n ≤ 255) (hf0 : 0 ≤ f) (hf : f ≤ 255) : Calls Try.prog 3 #[.int .u8 n, .int .u8 f] w fun e w' => e = .returned (.bool true) ∧ Below w.heap.size w w' := by
  have K0 := hid (known9_any SO w)
  have SOH := hid SO
  clear SO
  go_enter Try.func3, Try.ntmps3
  go_upto_region 4 with (go_at_call 7; (refine (Hid.out K0).mono ?_; rintro e w1 ⟨rfl, hb1⟩; have HB1 := hid hb1; clear hb1))
  obtain ⟨k, hk⟩ : ∃ k : Nat, n % 13 = (k : Int) := ⟨(n % 13).toNat, by omega⟩
  obtain ⟨ff, hff⟩ : ∃ ff : Nat, f % 40 = (ff : Int) := ⟨(f % 40).toNat, by omega⟩
  have kI : (k : Int) ≤ 12 := by omega
  have fI : (ff : Int) ≤ 39 := by omega
  have fI0 : 0 ≤ (ff : Int) := by omega
  rw [hk, hff]
  clear hk hff hn0 hn hf0 hf K0
  obtain ⟨W, hW⟩ : ∃ W, W = w1.alloc (.cells #[.int .i64 1, .int .i64 0] 24) := ⟨_, rfl⟩
  have bW : Below w1.heap.size w1 W := by rw [hW]; exact (Below.refl _ _).alloc (Nat.le_refl _) _
  have mW : W.heap[w1.heap.size]? = some (.cells #[.int .i64 1, .int .i64 0] 24 (0, 0)) := by rw [hW]; exact heap_alloc_new w1 _
  have HW0 := hid (HB1.out.trans (bW.mono HB1.out.size))
  have MT := hid mW
  have hzW : w1.heap.size < W.heap.size := lt_of_heap mW
  clear bW mW HB1
  go_wp2
  rw [← hW]
  clear hW
  go_loopg [8, 9, 10] k (fun g u v x wr => ∃ j : Nat, j + g = k ∧ x = .int .i64 (j : Int) ∧ KR 24 2 wr W.heap.size u ((tyL j).map tyc) ∧ KR 9 1 wr W.heap.size v ((nmL j).map stc) ∧ Below W.heap.size W wr)
  case atStart => exact ⟨0, by omega, rfl, KR.nil _ _ _ _, KR.nil _ _ _ _, Below.refl _ _⟩
  case round =>
    obtain ⟨j, hj, rfl, hku, hkv, hb⟩ := hrel
    cases gk with
    | succ g =>
      have hjI : (j : Int) ≤ 11 := by omega
      have hj0 : (0 : Int) ≤ (j : Int) := by omega
      have hjk : (j : Int) < (k : Int) := by omega
      have TJ := hid (tyL_succ j)
      have NJ := hid (nmL_succ j)
      have c0 := (hb.block _ hzW).trans MT.out
      have d0 := cellOf c0 0
      have d1 := cellOf c0 1
      simp only [List.getElem?_toArray, List.getElem?_cons_zero, List.getElem?_cons_succ] at d0 d1
      have hcv := fun V => conv1 V j (by omega)
      have lu : ((tyL j).map tyc).length ≤ 1000000 := by rw [List.length_map, tyL_len]; omega
      have lv : ((nmL j).map stc).length ≤ 1000000 := by rw [List.length_map, nmL_len]; omega
      have bA : Below wr.heap.size wr (wr.alloc (.cells #[.int .i64 1, .int .i64 0] 24)) := (Below.refl _ _).alloc (Nat.le_refl _) _
      have bB := hb.trans (bA.mono hb.size)
      have HA1 := hid (hku.below (Nat.le_refl _) bA)
      have HA2 := hid (hkv.below (Nat.le_refl _) bA)
      have HA3 := hid bB
      have HA4 := hid bB.size
      clear c0 hku hkv hb bA bB
      go_wp2_with (first
        | (at_builtin; refine wpList_appK Try.underlying25 infoT rfl (by decide) (by decide) (wr.alloc (.cells #[.int .i64 1, .int .i64 0] 24)) rfl _ _ rfl _ (.slice (some ⟨wr.heap.size, 0, none⟩) 1 1) (by rfl) (by rfl) W.heap.size ((tyL j).map tyc) HA1.out (some ⟨wr.heap.size, 0, none⟩) 1 1 rfl [tyc (1, 0)] rfl (crd_one 24 wr (tyc (1, 0)) 2 rfl) (rk_ty [(1, 0)]) (fun e => by cases e) lu (by omega) HA4.out ?_; intro u2 w2 h1 h2 h3; have HC := hid (prep2 h1 (HA2.out.other (by decide) HA1.out h2) (KR.grown HA3.out HA1.out h2 HA4.out) (Nat.le_refl _) j); clear h1 h2 h3 d0 d1)
        | (at_builtin; refine wpList_appK Try.underlying26 infoS rfl (by decide) (by decide) ((w2.alloc (.cells #[.int .u8 (97 + (j : Int))] 5)).alloc (.cells #[.string (nm1 j)] 9)) rfl _ _ rfl _ (.slice (some ⟨w2.heap.size + 1, 0, none⟩) 1 1) (by rfl) (by rfl) W.heap.size ((nmL j).map stc) HC.out.2.1 (some ⟨w2.heap.size + 1, 0, none⟩) 1 1 rfl [stc (nm1 j)] rfl HC.out.2.2.2.2 (rk_st (nm1 j)) (fun e => by cases e) lv (by omega) HC.out.2.2.2.1 ?_; intro v2 w3 h1 h2 h3; have H1 := hid (HC.out.1.other (by decide) HC.out.2.1 h2); have H2 := hid h1; have H3 := hid (KR.grown HC.out.2.2.1 HC.out.2.1 h2 HC.out.2.2.2.1); clear h1 h2 h3))
      go_roundg g
      case measure => omega
      exact ⟨j + 1, by omega, by go_num, by rw [TJ.out]; exact H1.out, by rw [NJ.out]; exact H2.out, H3.out⟩
    | zero =>
      have hjk : j = k := by omega
      subst hjk
      obtain ⟨ua, uc, hue, _, hur, _, _⟩ := hku.rd
      rw [List.length_map, tyL_len] at hue
      obtain ⟨va, vc, hve, hvc, hvr, _, _⟩ := hkv.rd
      rw [List.length_map, nmL_len] at hve hvc
      subst hue hve
      have ht : TRd wr ua (tyL j) := CRd.trd hur
      have hs : SRd wr va (nmL j) := hkv.srd (nmL_size j)
      obtain ⟨A0, hA0⟩ : ∃ A0, A0 = wr.alloc (.cells #[.string ⟨#[102]⟩, .slice ua j uc, .int .i64 0, .int .i64 0] 29) := ⟨_, rfl⟩
      obtain ⟨A1, hA1⟩ : ∃ A1, A1 = A0.alloc (.cells #[.string ⟨#[101]⟩, .slice ua j uc, .int .i64 0, .int .i64 0] 29) := ⟨_, rfl⟩
      obtain ⟨A2, hA2⟩ : ∃ A2, A2 = A1.alloc (.cells #[.string ⟨#[80]⟩, .slice va j vc, .slice ua j uc] 32) := ⟨_, rfl⟩
      obtain ⟨A, hA⟩ : ∃ A, A = A2.alloc (.cells #[.slice (some ⟨wr.heap.size + 1 + 1, 0, none⟩) 1 1, .slice none 0 0, .slice (some ⟨wr.heap.size, 0, none⟩) 1 1, .slice (some ⟨wr.heap.size + 1, 0, none⟩) 1 1] 36) := ⟨_, rfl⟩
      have z0 : A0.heap.size = wr.heap.size + 1 := by rw [hA0]; simp
      have z1 : A1.heap.size = wr.heap.size + 1 + 1 := by rw [hA1]; simp; omega
      have z2 : A2.heap.size = wr.heap.size + 1 + 1 + 1 := by rw [hA2]; simp; omega
      have b0 : Below wr.heap.size wr A0 := by rw [hA0]; exact (Below.refl _ _).alloc (Nat.le_refl _) _
      have b1 : Below wr.heap.size wr A1 := by rw [hA1]; exact b0.alloc (by omega) _
      have b2 : Below wr.heap.size wr A2 := by rw [hA2]; exact b1.alloc (by omega) _
      have b3 : Below wr.heap.size wr A := by rw [hA]; exact b2.alloc (by omega) _
      have m0 : A.heap[wr.heap.size]? = some (.cells #[.string ⟨#[102]⟩, .slice ua j uc, .int .i64 0, .int .i64 0] 29 (0, 0)) := by rw [hA, Below.heap_alloc _ _ _ (by omega), hA2, Below.heap_alloc _ _ _ (by omega), hA1, Below.heap_alloc _ _ _ (by omega), hA0]; exact heap_alloc_new wr _
      have m1 : A.heap[wr.heap.size + 1]? = some (.cells #[.string ⟨#[101]⟩, .slice ua j uc, .int .i64 0, .int .i64 0] 29 (0, 0)) := by rw [hA, Below.heap_alloc _ _ _ (by omega), hA2, Below.heap_alloc _ _ _ (by omega), hA1, ← z0]; exact heap_alloc_new A0 _
      have m2 : A.heap[wr.heap.size + 1 + 1]? = some (.cells #[.string ⟨#[80]⟩, .slice va j vc, .slice ua j uc] 32 (0, 0)) := by rw [hA, Below.heap_alloc _ _ _ (by omega), hA2, ← z1]; exact heap_alloc_new A1 _
      have m3 : A.heap[wr.heap.size + 1 + 1 + 1]? = some (.cells #[.slice (some ⟨wr.heap.size + 1 + 1, 0, none⟩) 1 1, .slice none 0 0, .slice (some ⟨wr.heap.size, 0, none⟩) 1 1, .slice (some ⟨wr.heap.size + 1, 0, none⟩) 1 1] 36 (0, 0)) := by rw [hA, ← z2]; exact heap_alloc_new A2 _
      have pr := rPg_rd m0 m1 m2 (ht.below (Nat.le_refl _) b3) (hs.below (Nat.le_refl _) b3) (by omega) hvc
      have bw : Below w.heap.size w A := (HW0.out.trans (hb.mono HW0.out.size)).trans (b3.mono (HW0.out.trans (hb.mono HW0.out.size)).size)
      have GT : Hid (∀ V : World, Below A.heap.size A V → (V.cell? ⟨wr.heap.size + 1 + 1 + 1, 0, none⟩ = some (.slice (some ⟨wr.heap.size + 1 + 1, 0, none⟩) 1 1) ∧ V.cell? ⟨wr.heap.size + 1 + 1 + 1, 1, none⟩ = some (.slice none 0 0) ∧ V.cell? ⟨wr.heap.size + 1 + 1 + 1, 2, none⟩ = some (.slice (some ⟨wr.heap.size, 0, none⟩) 1 1) ∧ V.cell? ⟨wr.heap.size + 1 + 1 + 1, 3, none⟩ = some (.slice (some ⟨wr.heap.size + 1, 0, none⟩) 1 1)) ∧ PRd V ⟨some ⟨wr.heap.size + 1 + 1, 0, none⟩, 1, 1, none, 0, 0, some ⟨wr.heap.size, 0, none⟩, 1, 1, some ⟨wr.heap.size + 1, 0, none⟩, 1, 1⟩ (rPg ua uc va vc j) ∧ Below w.heap.size w V) := hid (fun V hV => by
        have g := (hV.block _ (lt_of_heap m3)).trans m3
        exact ⟨⟨cellOf g 0, cellOf g 1, cellOf g 2, cellOf g 3⟩, pr.below (Nat.le_refl _) hV, bw.trans (hV.mono bw.size)⟩)
      have U31 : Hid (∀ V : World, Below A.heap.size A V → Calls Try.prog 8 #[(⟨some ⟨wr.heap.size + 1 + 1, 0, none⟩, 1, 1, none, 0, 0, some ⟨wr.heap.size, 0, none⟩, 1, 1, some ⟨wr.heap.size + 1, 0, none⟩, 1, 1⟩ : PH).v, .agg (⟨31, -1, (ff : Int), 0, 0⟩ : Opx).cs] V fun e w' => ∃ la lc, e = .returned (.tuple #[.slice la j lc, .bool true]) ∧ IRd3 w' la (rwL j ff) ∧ Below V.heap.size V w') := hid (fun V hV => (uses_any SOH.out V _ _ (GT.out V hV).2.1 ⟨31, -1, (ff : Int), 0, 0⟩ (by kernel_rfl) j (by omega) (len31 _ _ _ _ _) (smO_of (by omega) (by omega) (by omega) (by omega))).mono (fun e w' h => by
        obtain ⟨v, rfl, hk, hb⟩ := h
        rw [us31] at hk
        obtain ⟨la, lc, rfl, hi⟩ := hk.ird
        rw [rwL_len]
        exact ⟨la, lc, rfl, hi, hb⟩))
      have U24 : Hid (∀ V : World, Below A.heap.size A V → Calls Try.prog 8 #[(⟨some ⟨wr.heap.size + 1 + 1, 0, none⟩, 1, 1, none, 0, 0, some ⟨wr.heap.size, 0, none⟩, 1, 1, some ⟨wr.heap.size + 1, 0, none⟩, 1, 1⟩ : PH).v, .agg (⟨24, 1, (ff : Int), 0, 0⟩ : Opx).cs] V fun e w' => ∃ la lc, e = .returned (.tuple #[.slice la j lc, .bool true]) ∧ IRd3 w' la (rwL j ff) ∧ Below V.heap.size V w') := hid (fun V hV => (uses_any SOH.out V _ _ (GT.out V hV).2.1 ⟨24, 1, (ff : Int), 0, 0⟩ (by kernel_rfl) j (by omega) (len24 _ _ _ _ _) (smO_of (by omega) (by omega) (by omega) (by omega))).mono (fun e w' h => by
        obtain ⟨v, rfl, hk, hb⟩ := h
        rw [us24] at hk
        obtain ⟨la, lc, rfl, hi⟩ := hk.ird
        rw [rwL_len]
        exact ⟨la, lc, rfl, hi, hb⟩))
      have U34 : Hid (∀ V : World, Below A.heap.size A V → Calls Try.prog 8 #[(⟨some ⟨wr.heap.size + 1 + 1, 0, none⟩, 1, 1, none, 0, 0, some ⟨wr.heap.size, 0, none⟩, 1, 1, some ⟨wr.heap.size + 1, 0, none⟩, 1, 1⟩ : PH).v, .agg (⟨34, 0, 50, (ff : Int), 0⟩ : Opx).cs] V fun e w' => ∃ ob oo lc, e = .returned (.tuple #[.slice (some ⟨ob, oo, none⟩) (j + 1) lc, .bool true]) ∧ IRd3 w' (some ⟨ob, oo, none⟩) (50 :: rwL j ff) ∧ Below V.heap.size V w') := hid (fun V hV => (uses_any SOH.out V _ _ (GT.out V hV).2.1 ⟨34, 0, 50, (ff : Int), 0⟩ (by kernel_rfl) j (by omega) (len34 _ _ _ _ _) (smO_of (by omega) (by omega) (by omega) (by omega))).mono (fun e w' h => by
        obtain ⟨v, rfl, hk, hb⟩ := h
        rw [us34] at hk
        obtain ⟨la, lc, rfl, hi⟩ := hk.ird
        obtain ⟨ob, oo, rfl, _⟩ := hi 0 50 rfl
        rw [List.length_cons, rwL_len]
        exact ⟨ob, oo, lc, rfl, hi, hb⟩))
      have V31 : Hid (∀ V : World, Calls Try.prog 9 #[(⟨some ⟨wr.heap.size + 1 + 1, 0, none⟩, 1, 1, none, 0, 0, some ⟨wr.heap.size, 0, none⟩, 1, 1, some ⟨wr.heap.size + 1, 0, none⟩, 1, 1⟩ : PH).v, .agg (⟨31, -1, (ff : Int), 0, 0⟩ : Opx).cs] V fun e w' => e = .returned (.tuple #[.int .i64 0, .bool false]) ∧ Below V.heap.size V w') := hid (fun V => by
        have := gives_any SOH.out V ⟨some ⟨wr.heap.size + 1 + 1, 0, none⟩, 1, 1, none, 0, 0, some ⟨wr.heap.size, 0, none⟩, 1, 1, some ⟨wr.heap.size + 1, 0, none⟩, 1, 1⟩ ⟨31, -1, (ff : Int), 0, 0⟩ (by kernel_rfl)
        rw [gv31] at this
        exact this)
      have V24 : Hid (∀ V : World, Calls Try.prog 9 #[(⟨some ⟨wr.heap.size + 1 + 1, 0, none⟩, 1, 1, none, 0, 0, some ⟨wr.heap.size, 0, none⟩, 1, 1, some ⟨wr.heap.size + 1, 0, none⟩, 1, 1⟩ : PH).v, .agg (⟨24, 7, (ff : Int), 0, 0⟩ : Opx).cs] V fun e w' => e = .returned (.tuple #[.int .i64 7, .bool true]) ∧ Below V.heap.size V w') := hid (fun V => by
        have := gives_any SOH.out V ⟨some ⟨wr.heap.size + 1 + 1, 0, none⟩, 1, 1, none, 0, 0, some ⟨wr.heap.size, 0, none⟩, 1, 1, some ⟨wr.heap.size + 1, 0, none⟩, 1, 1⟩ ⟨24, 7, (ff : Int), 0, 0⟩ (by kernel_rfl)
        rw [gv24] at this
        exact this)
      simp only [PH.v, Opx.cs] at U31 U24 U34 V31 V24
      clear z0 z1 z2 b0 b1 b2 b3 m0 m1 m2 m3 pr bw ht hs hur hvr hku hkv hb hvc SOH MT hzW HW0
      have jI0 : (0 : Int) ≤ (j : Int) := by omega
      go_upto_region 13 with fail
      rw [← hA0, ← hA1, ← hA2, ← hA]
      clear hA0 hA1 hA2 hA
      obtain ⟨p0, p1, p2, p3⟩ := (GT.out A (Below.refl _ _)).1
      go_upto_region 14 with (go_at_call 8; (refine (U31.out A (Below.refl _ _)).mono ?_; rintro e w2 ⟨la, lc, rfl, hi, hb⟩; have N2 := hid hi; have HB2 := hid hb; clear hi hb))
      clear p0 p1 p2 p3 U31
      obtain ⟨p0, p1, p2, p3⟩ := (GT.out w2 HB2.out).1
      go_upto_region 15 with (go_at_call 8; (refine (U24.out w2 HB2.out).mono ?_; rintro e w3 ⟨ma, mc, rfl, hi, hb⟩; have N3 := hid hi; have N2' := hid (N2.out.below hb); have HB3 := hid (HB2.out.trans (hb.mono HB2.out.size)); clear hi hb))
      clear p0 p1 p2 p3 U24 N2 HB2
      obtain ⟨p0, p1, p2, p3⟩ := (GT.out w3 HB3.out).1
      go_upto_region 16 with (go_at_call 8; (refine (U34.out w3 HB3.out).mono ?_; rintro e w4 ⟨ob, oo, oc, rfl, hi, hb⟩; have N4 := hid hi; have N2 := hid (N2'.out.below hb); have N3' := hid (N3.out.below hb); have HB4 := hid (HB3.out.trans (hb.mono HB3.out.size)); clear hi hb))
      clear p0 p1 p2 p3 U34 N2' N3 HB3
      obtain ⟨p0, p1, p2, p3⟩ := (GT.out w4 HB4.out).1
      go_upto_region 17 with (go_at_call 9; (refine (V31.out w4).mono ?_; rintro e w5 ⟨rfl, hb⟩; have N4' := hid (N4.out.below hb); have N2' := hid (N2.out.below hb); have N3 := hid (N3'.out.below hb); have HB5 := hid (HB4.out.trans (hb.mono HB4.out.size)); clear hb))
      clear p0 p1 p2 p3 V31 N2 N3' N4 HB4
      obtain ⟨p0, p1, p2, p3⟩ := (GT.out w5 HB5.out).1
      go_upto_region 18 with (go_at_call 9; (refine (V24.out w5).mono ?_; rintro e w6 ⟨rfl, hb⟩; have N4 := hid (N4'.out.below hb); have N2 := hid (N2'.out.below hb); have N3' := hid (N3.out.below hb); have HB6 := hid (GT.out w6 (HB5.out.trans (hb.mono HB5.out.size))).2.2; clear hb))
      clear p0 p1 p2 p3 V24 N2' N3 N4' HB5 GT
      have q50 : w6.cell? ⟨ob, oo, none⟩ = some (.int .i64 50) := by
        obtain ⟨b, o, e, q⟩ := N4.out 0 50 rfl
        cases e
        exact q
      go_wp2
      go_loopg [22] j (fun g x wq => ∃ i : Nat, i + g = j ∧ x = .int .i64 (i : Int) ∧ Below w6.heap.size w6 wq)
      case atStart => exact ⟨0, by omega, rfl, Below.refl _ _⟩
      case round =>
        obtain ⟨i, hi, rfl, hb⟩ := hrel
        cases gk with
        | zero =>
          have hij : i = j := by omega
          subst hij
          have HB := hid (HB6.out.trans (hb.mono HB6.out.size))
          clear hb
          go_wp2
          go_ret
          exact ⟨rfl, HB.out⟩
        | succ g =>
          obtain ⟨b1, o1, rfl, q1⟩ := N2.out i _ (rw_at (by omega))
          obtain ⟨b2, o2, rfl, q2⟩ := N3'.out i _ (rw_at (by omega))
          obtain ⟨b3, o3, e3, q3⟩ := N4.out (i + 1) ((ff : Int) + (i : Int)) (by rw [List.getElem?_cons_succ]; exact rw_at (by omega))
          cases e3
          have r1 := bel_cell hb q1
          have r2 := bel_cell hb q2
          have r3 := bel_cell hb q3
          have iI : (i : Int) < (j : Int) := by omega
          have iI1 : (i : Int) + 1 < (j : Int) + 1 := by omega
          have i0 : (0 : Int) ≤ (i : Int) := by omega
          have HB := hid hb
          clear q1 q2 q3 hb N2 N3' N4 q50
          go_wp2
          go_roundg g
          case measure => omega
          exact ⟨i + 1, by omega, by go_num, HB.out⟩
end Go.Proofs.Ytmhjnfibpngpmaa

namespace Go.Proofs.Ytmhjnfibpngpmaa
open Go.ChangeShapes Go.WideShapes Go.ChangeAt Go.RowKit Go.Deep
set_option linter.unusedVariables false
set_option linter.unusedSimpArgs false
set_option maxRecDepth 100000 in
theorem rows_lifted (os : Os) (started : os.Started) (H : Type) (enc : TypeId × Value → H) :
    ReturnsInHanded {} Try.checked os 3 .any (Rows.codeRowsSpec.pre6 enc Try.prog Try.f3 Rows.codeRowsRow.domain false) (Rows.codeRowsSpec.post enc Try.prog Try.f3 false true false false) := by
  refine returnsInHanded_of_change (C := Try.checked) ownN started (by kernel_rfl) Try.func3
    (ChangeSpec.witness6 (enc := enc) (C := Try.checked) false ⟨#[], #[.int .u8 0, .int .u8 0], []⟩ 8 (by kernel_rfl) (by kernel_rfl) (by kernel_rfl) (by kernel_rfl)) ?_
  intro W base args ds gs before hval0 hW hcnd _
  have hval : ∀ (j : Nat) t v, Try.f3.params[j]? = some t → args[j]? = some v → Value.okWide Try.prog W .any base t v := hval0
  have hW' := hW
  obtain ⟨p, q, hA0, hV, rfl, hfz, hnd⟩ := hW
  have hA : DataW.TrodAll enc Try.prog W 0 (fun _ => true) true Try.f3.params.toList args.toList ds p := hA0
  rw [Try.params3] at hA hval
  obtain ⟨v0, vs0, d0, ds0, p0, q0, hargs, rfl, rfl, h0, r0⟩ := trodAll_cons hA
  obtain ⟨v1, vs1, d1, ds1, p1, q1, rfl, rfl, rfl, h1, r1⟩ := trodAll_cons r0
  obtain ⟨rfl, rfl, rfl⟩ := trodAll_nil r1
  obtain rfl : args = #[v0, v1] := by cases args; simp_all
  obtain ⟨rfl, rfl⟩ := trodVars_none hV
  obtain ⟨a0, rfl, rfl, rfl, w0⟩ := open_int Try.underlying5 (hval 0 5 v0 rfl rfl) h0
  obtain ⟨a1, rfl, rfl, rfl, w1⟩ := open_int Try.underlying5 (hval 1 5 v1 rfl rfl) h1
  clear hA0 hval0
  have b0 : 0 ≤ a0 ∧ a0 ≤ 255 := by simpa [Lit.wf, IntKind.min, IntKind.max, IntKind.signed, IntKind.bits] using w0
  have b1 : 0 ≤ a1 ∧ a1 ≤ 255 := by simpa [Lit.wf, IntKind.min, IntKind.max, IntKind.signed, IntKind.bits] using w1
  refine (codeRows_any shapeOf_any W a0 a1 b0.1 b0.2 b1.1 b1.2).mono fun e W' ⟨he, bel⟩ => ?_
  subst he
  exact ⟨_, rfl, _, _, _, [], _, [], hW', trodAll_mk1 (shut_bool Try.underlying4 _), (trodAll_cons_mk (shut_int Try.underlying5 w0) (trodAll_cons_mk (shut_int Try.underlying5 w1) trodAll_mk0)), rfl, bel.frame _, fun h => by cases h⟩
theorem codeRows_holds : Rows.CodeRowsSaid :=
  OpenClaim.holds_of_wide 3 Try.f3 rfl rfl rfl rfl rfl rfl rfl ⟨rfl, rfl, rfl, rfl, rfl⟩ rfl rfl rfl rfl rfl (by kernel_rfl) Try.func3 (by kernel_rfl)
    (of_decide_eq_true (by kernel_rfl)) (by unfold Func.isWrapper; first | (rw [if_pos (by decide +kernel)]; kernel_rfl) | (rw [if_neg (by decide +kernel)]; exact ⟨rfl, rfl⟩))
    (fun os started H enc _ => rows_lifted os started H enc)
end Go.Proofs.Ytmhjnfibpngpmaa

