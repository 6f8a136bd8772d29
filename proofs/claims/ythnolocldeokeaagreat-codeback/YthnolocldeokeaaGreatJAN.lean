/- Both sides' Is are one. -/
import Derived.Test.YthnolocldeokeaaGreatJAM
import Derived.BigQuiet
import Derived.Deep.QuietTactic
namespace Go.Proofs.YthnolocldeokeaaGreat
open Go.RowKit Go.Deep Go.Shelf
set_option linter.unusedVariables false
set_option linter.unusedSimpArgs false
theorem isC_cases {k : Int} (h : isC k = true) : k = 1 ∨ k = 2 ∨ k = 3 ∨ k = 4 ∨ k = 5 ∨ k = 6 ∨ k = 7 ∨ k = 8 ∨ k = 9 ∨ k = 10 ∨ k = 11 ∨ k = 12 ∨ k = 13 ∨ k = 14 ∨ k = 15 ∨ k = 16 ∨ k = 17 ∨ k = 18 ∨ k = 19 ∨ k = 20 ∨ k = 21 ∨ k = 22 ∨ k = 23 ∨ k = 24 ∨ k = 25 ∨ k = 26 ∨ k = 27 ∨ k = 28 ∨ k = 29 ∨ k = 30 ∨ k = 31 ∨ k = 32 ∨ k = 33 ∨ k = 34 ∨ k = 35 ∨ k = 36 ∨ k = 37 ∨ k = 38 ∨ k = 39 ∨ k = 40 := by
  unfold isC at h
  simp at h
  omega
theorem frm_no {k : Int} (h : isC k = false) : (frm k).ok = false := by
  unfold isC at h
  simp at h
  unfold frm
  repeat (rw [if_neg (by omega)])
def RcLn (p : Pg) : Prop := ∀ r ∈ p.recs, r.2.fields.length = r.2.types.length
theorem rcLn_of {p : Pg} (h : rightB p = true) : RcLn p := fun r hr => by
  unfold rightB recordsB at h
  simp only [Bool.and_eq_true, List.all_eq_true] at h
  have := h.1.1.1.1.1.2 r.2 (List.mem_map.2 ⟨r, hr, rfl⟩)
  unfold fieldsB at this
  simp only [Bool.and_eq_true, decide_eq_true_eq] at this
  exact this.1.1.2
theorem getD_len {p : Pg} (h : RcLn p) (k : Nat) : (((p.recs.map (·.2)).getD k rc0).types.length : Int) = (((p.recs.map (·.2)).getD k rc0).fields.length : Int) := by
  rw [List.getD_eq_getElem?_getD, List.getElem?_map]
  cases hk : p.recs[k]? with
  | none => rfl
  | some r => simp only [Option.map_some, Option.getD_some]; rw [h r (List.mem_of_getElem? hk)]
theorem parmN (ss : List Sg) (k : Int) : 0 ≤ (parmB ss k).1 := by
  unfold parmB
  split
  · simp only; omega
  · simp
theorem blw_iff (k c : Int) : (blw k c = true) = (0 ≤ k ∧ k < c) := by simp [blw]
set_option maxHeartbeats 4000000 in
theorem opEq (c : Cx) (hr : RcLn c.p) (regs : Int) (h0 : 0 ≤ regs) (n : Nat) (o : Opx) : refOp c regs n o = isOpB c regs n o := by
  obtain ⟨oc, od, oa, ob, ok⟩ := o
  cases hc : isC oc with
  | false =>
    have e := frm_no hc
    unfold refOp isOpB
    simp only [e, hc]
    simp [bad2]
  | true =>
    rcases isC_cases hc with rfl | rfl | rfl | rfl | rfl | rfl | rfl | rfl | rfl | rfl | rfl | rfl | rfl | rfl | rfl | rfl | rfl | rfl | rfl | rfl | rfl | rfl | rfl | rfl | rfl | rfl | rfl | rfl | rfl | rfl | rfl | rfl | rfl | rfl | rfl | rfl | rfl | rfl | rfl | rfl
    · have e1 : frm 1 = ⟨true, false, false, true, true⟩ := rfl
      have e2 : shpAt 1 = ⟨⟨#[105, 110, 116]⟩, 1, 0, 0, 6⟩ := rfl
      have e3 : isC 1 = true := rfl
      unfold refOp isOpB
      simp only [e1, e2, e3]
      rw [Bool.eq_iff_iff]
      simp [bad2, bad5, bad7, bad9, bad11, mostI, fin27, inB, bnd, rowR, rowLen, blw]
      try omega
    · have e1 : frm 2 = ⟨true, false, false, true, true⟩ := rfl
      have e2 : shpAt 2 = ⟨⟨#[116, 101, 120, 116]⟩, 1, 0, 0, 7⟩ := rfl
      have e3 : isC 2 = true := rfl
      unfold refOp isOpB
      simp only [e1, e2, e3]
      rw [Bool.eq_iff_iff]
      simp [bad2, bad5, bad7, bad9, bad11, mostI, fin27, inB, bnd, rowR, rowLen, blw]
      try omega
    · have e1 : frm 3 = ⟨true, false, false, true, true⟩ := rfl
      have e2 : shpAt 3 = ⟨⟨#[98, 111, 111, 108]⟩, 1, 0, 0, 8⟩ := rfl
      have e3 : isC 3 = true := rfl
      unfold refOp isOpB
      simp only [e1, e2, e3]
      rw [Bool.eq_iff_iff]
      simp [bad2, bad5, bad7, bad9, bad11, mostI, fin27, inB, bnd, rowR, rowLen, blw]
      try omega
    · have e1 : frm 4 = ⟨true, true, false, false, true⟩ := rfl
      have e2 : shpAt 4 = ⟨⟨#[109, 111, 118, 101]⟩, 1, 3, 0, 0⟩ := rfl
      have e3 : isC 4 = true := rfl
      unfold refOp isOpB
      simp only [e1, e2, e3]
      rw [Bool.eq_iff_iff]
      simp [bad2, bad5, bad7, bad9, bad11, mostI, fin27, inB, bnd, rowR, rowLen, blw]
      try omega
    · have e1 : frm 5 = ⟨true, true, true, false, true⟩ := rfl
      have e2 : shpAt 5 = ⟨⟨#[97, 100, 100]⟩, 1, 3, 3, 0⟩ := rfl
      have e3 : isC 5 = true := rfl
      unfold refOp isOpB
      simp only [e1, e2, e3]
      rw [Bool.eq_iff_iff]
      simp [bad2, bad5, bad7, bad9, bad11, mostI, fin27, inB, bnd, rowR, rowLen, blw]
      try omega
    · have e1 : frm 6 = ⟨true, true, true, false, true⟩ := rfl
      have e2 : shpAt 6 = ⟨⟨#[115, 117, 98]⟩, 1, 3, 3, 0⟩ := rfl
      have e3 : isC 6 = true := rfl
      unfold refOp isOpB
      simp only [e1, e2, e3]
      rw [Bool.eq_iff_iff]
      simp [bad2, bad5, bad7, bad9, bad11, mostI, fin27, inB, bnd, rowR, rowLen, blw]
      try omega
    · have e1 : frm 7 = ⟨true, true, true, false, true⟩ := rfl
      have e2 : shpAt 7 = ⟨⟨#[109, 117, 108]⟩, 1, 3, 3, 0⟩ := rfl
      have e3 : isC 7 = true := rfl
      unfold refOp isOpB
      simp only [e1, e2, e3]
      rw [Bool.eq_iff_iff]
      simp [bad2, bad5, bad7, bad9, bad11, mostI, fin27, inB, bnd, rowR, rowLen, blw]
      try omega
    · have e1 : frm 8 = ⟨true, true, true, false, true⟩ := rfl
      have e2 : shpAt 8 = ⟨⟨#[119, 97, 100, 100]⟩, 1, 3, 3, 0⟩ := rfl
      have e3 : isC 8 = true := rfl
      unfold refOp isOpB
      simp only [e1, e2, e3]
      rw [Bool.eq_iff_iff]
      simp [bad2, bad5, bad7, bad9, bad11, mostI, fin27, inB, bnd, rowR, rowLen, blw]
      try omega
    · have e1 : frm 9 = ⟨true, true, true, false, true⟩ := rfl
      have e2 : shpAt 9 = ⟨⟨#[119, 115, 117, 98]⟩, 1, 3, 3, 0⟩ := rfl
      have e3 : isC 9 = true := rfl
      unfold refOp isOpB
      simp only [e1, e2, e3]
      rw [Bool.eq_iff_iff]
      simp [bad2, bad5, bad7, bad9, bad11, mostI, fin27, inB, bnd, rowR, rowLen, blw]
      try omega
    · have e1 : frm 10 = ⟨true, true, true, false, true⟩ := rfl
      have e2 : shpAt 10 = ⟨⟨#[119, 109, 117, 108]⟩, 1, 3, 3, 0⟩ := rfl
      have e3 : isC 10 = true := rfl
      unfold refOp isOpB
      simp only [e1, e2, e3]
      rw [Bool.eq_iff_iff]
      simp [bad2, bad5, bad7, bad9, bad11, mostI, fin27, inB, bnd, rowR, rowLen, blw]
      try omega
    · have e1 : frm 11 = ⟨true, true, true, false, true⟩ := rfl
      have e2 : shpAt 11 = ⟨⟨#[100, 105, 118]⟩, 1, 3, 3, 0⟩ := rfl
      have e3 : isC 11 = true := rfl
      unfold refOp isOpB
      simp only [e1, e2, e3]
      rw [Bool.eq_iff_iff]
      simp [bad2, bad5, bad7, bad9, bad11, mostI, fin27, inB, bnd, rowR, rowLen, blw]
      try omega
    · have e1 : frm 12 = ⟨true, true, true, false, true⟩ := rfl
      have e2 : shpAt 12 = ⟨⟨#[109, 111, 100]⟩, 1, 3, 3, 0⟩ := rfl
      have e3 : isC 12 = true := rfl
      unfold refOp isOpB
      simp only [e1, e2, e3]
      rw [Bool.eq_iff_iff]
      simp [bad2, bad5, bad7, bad9, bad11, mostI, fin27, inB, bnd, rowR, rowLen, blw]
      try omega
    · have e1 : frm 13 = ⟨true, true, true, false, true⟩ := rfl
      have e2 : shpAt 13 = ⟨⟨#[99, 97, 116]⟩, 1, 3, 3, 0⟩ := rfl
      have e3 : isC 13 = true := rfl
      unfold refOp isOpB
      simp only [e1, e2, e3]
      rw [Bool.eq_iff_iff]
      simp [bad2, bad5, bad7, bad9, bad11, mostI, fin27, inB, bnd, rowR, rowLen, blw]
      try omega
    · have e1 : frm 14 = ⟨true, true, true, false, true⟩ := rfl
      have e2 : shpAt 14 = ⟨⟨#[101, 113]⟩, 1, 3, 3, 0⟩ := rfl
      have e3 : isC 14 = true := rfl
      unfold refOp isOpB
      simp only [e1, e2, e3]
      rw [Bool.eq_iff_iff]
      simp [bad2, bad5, bad7, bad9, bad11, mostI, fin27, inB, bnd, rowR, rowLen, blw]
      try omega
    · have e1 : frm 15 = ⟨true, true, true, false, true⟩ := rfl
      have e2 : shpAt 15 = ⟨⟨#[110, 101]⟩, 1, 3, 3, 0⟩ := rfl
      have e3 : isC 15 = true := rfl
      unfold refOp isOpB
      simp only [e1, e2, e3]
      rw [Bool.eq_iff_iff]
      simp [bad2, bad5, bad7, bad9, bad11, mostI, fin27, inB, bnd, rowR, rowLen, blw]
      try omega
    · have e1 : frm 16 = ⟨true, true, true, false, true⟩ := rfl
      have e2 : shpAt 16 = ⟨⟨#[108, 116]⟩, 1, 3, 3, 0⟩ := rfl
      have e3 : isC 16 = true := rfl
      unfold refOp isOpB
      simp only [e1, e2, e3]
      rw [Bool.eq_iff_iff]
      simp [bad2, bad5, bad7, bad9, bad11, mostI, fin27, inB, bnd, rowR, rowLen, blw]
      try omega
    · have e1 : frm 17 = ⟨true, true, true, false, true⟩ := rfl
      have e2 : shpAt 17 = ⟨⟨#[108, 101]⟩, 1, 3, 3, 0⟩ := rfl
      have e3 : isC 17 = true := rfl
      unfold refOp isOpB
      simp only [e1, e2, e3]
      rw [Bool.eq_iff_iff]
      simp [bad2, bad5, bad7, bad9, bad11, mostI, fin27, inB, bnd, rowR, rowLen, blw]
      try omega
    · have e1 : frm 18 = ⟨true, true, true, false, true⟩ := rfl
      have e2 : shpAt 18 = ⟨⟨#[103, 116]⟩, 1, 3, 3, 0⟩ := rfl
      have e3 : isC 18 = true := rfl
      unfold refOp isOpB
      simp only [e1, e2, e3]
      rw [Bool.eq_iff_iff]
      simp [bad2, bad5, bad7, bad9, bad11, mostI, fin27, inB, bnd, rowR, rowLen, blw]
      try omega
    · have e1 : frm 19 = ⟨true, true, true, false, true⟩ := rfl
      have e2 : shpAt 19 = ⟨⟨#[103, 101]⟩, 1, 3, 3, 0⟩ := rfl
      have e3 : isC 19 = true := rfl
      unfold refOp isOpB
      simp only [e1, e2, e3]
      rw [Bool.eq_iff_iff]
      simp [bad2, bad5, bad7, bad9, bad11, mostI, fin27, inB, bnd, rowR, rowLen, blw]
      try omega
    · have e1 : frm 20 = ⟨true, true, false, false, true⟩ := rfl
      have e2 : shpAt 20 = ⟨⟨#[110, 101, 103]⟩, 1, 3, 0, 0⟩ := rfl
      have e3 : isC 20 = true := rfl
      unfold refOp isOpB
      simp only [e1, e2, e3]
      rw [Bool.eq_iff_iff]
      simp [bad2, bad5, bad7, bad9, bad11, mostI, fin27, inB, bnd, rowR, rowLen, blw]
      try omega
    · have e1 : frm 21 = ⟨true, true, false, false, true⟩ := rfl
      have e2 : shpAt 21 = ⟨⟨#[110, 111, 116]⟩, 1, 3, 0, 0⟩ := rfl
      have e3 : isC 21 = true := rfl
      unfold refOp isOpB
      simp only [e1, e2, e3]
      rw [Bool.eq_iff_iff]
      simp [bad2, bad5, bad7, bad9, bad11, mostI, fin27, inB, bnd, rowR, rowLen, blw]
      try omega
    · have e1 : frm 22 = ⟨true, true, false, false, true⟩ := rfl
      have e2 : shpAt 22 = ⟨⟨#[108, 101, 110]⟩, 1, 3, 0, 0⟩ := rfl
      have e3 : isC 22 = true := rfl
      unfold refOp isOpB
      simp only [e1, e2, e3]
      rw [Bool.eq_iff_iff]
      simp [bad2, bad5, bad7, bad9, bad11, mostI, fin27, inB, bnd, rowR, rowLen, blw]
      try omega
    · have e1 : frm 23 = ⟨true, true, false, false, true⟩ := rfl
      have e2 : shpAt 23 = ⟨⟨#[115, 116, 114]⟩, 1, 3, 0, 0⟩ := rfl
      have e3 : isC 23 = true := rfl
      unfold refOp isOpB
      simp only [e1, e2, e3]
      rw [Bool.eq_iff_iff]
      simp [bad2, bad5, bad7, bad9, bad11, mostI, fin27, inB, bnd, rowR, rowLen, blw]
      try omega
    · have e1 : frm 24 = ⟨true, true, false, true, true⟩ := rfl
      have e2 : shpAt 24 = ⟨⟨#[109, 97, 107, 101]⟩, 1, 5, 0, 9⟩ := rfl
      have e3 : isC 24 = true := rfl
      unfold refOp isOpB
      simp only [e1, e2, e3]
      rw [Bool.eq_iff_iff]
      cases hb : blw ok (c.p.recs.length : Int) with
      | false =>
        have hb' : ¬ (0 ≤ ok ∧ ok < (c.p.recs.length : Int)) := by rw [← blw_iff, hb]; simp
        simp [bad2, bad5, bad7, bad9, bad11, mostI, fin27, inB, bnd, rowR, rowLen, hb]
        omega
      | true =>
        have hb' : 0 ≤ ok ∧ ok < (c.p.recs.length : Int) := by rw [← blw_iff, hb]
        have hg := getD_len hr ok.toNat
        simp only [rowR, rowLen, hb, if_true, hg]
        generalize (((c.p.recs.map (·.2)).getD ok.toNat rc0).fields.length : Int) = m at *
        have hm : True := trivial
        simp [bad2, bad5, bad7, bad9, bad11, mostI, fin27, inB, bnd]
        omega
    · have e1 : frm 25 = ⟨true, true, false, true, true⟩ := rfl
      have e2 : shpAt 25 = ⟨⟨#[102, 105, 101, 108, 100]⟩, 1, 3, 0, 10⟩ := rfl
      have e3 : isC 25 = true := rfl
      unfold refOp isOpB
      simp only [e1, e2, e3]
      rw [Bool.eq_iff_iff]
      simp [bad2, bad5, bad7, bad9, bad11, mostI, fin27, inB, bnd, rowR, rowLen, blw]
      try omega
    · have e1 : frm 26 = ⟨true, true, false, true, true⟩ := rfl
      have e2 : shpAt 26 = ⟨⟨#[103, 101, 116]⟩, 1, 3, 0, 11⟩ := rfl
      have e3 : isC 26 = true := rfl
      unfold refOp isOpB
      simp only [e1, e2, e3]
      rw [Bool.eq_iff_iff]
      simp [bad2, bad5, bad7, bad9, bad11, mostI, fin27, inB, bnd, rowR, rowLen, blw]
      try omega
    · have e1 : frm 27 = ⟨true, true, false, true, true⟩ := rfl
      have e2 : shpAt 27 = ⟨⟨#[104, 97, 115]⟩, 1, 3, 0, 11⟩ := rfl
      have e3 : isC 27 = true := rfl
      unfold refOp isOpB
      simp only [e1, e2, e3]
      rw [Bool.eq_iff_iff]
      simp [bad2, bad5, bad7, bad9, bad11, mostI, fin27, inB, bnd, rowR, rowLen, blw]
      try omega
    · have e1 : frm 28 = ⟨false, true, true, true, true⟩ := rfl
      have e2 : shpAt 28 = ⟨⟨#[112, 117, 116]⟩, 0, 3, 3, 11⟩ := rfl
      have e3 : isC 28 = true := rfl
      unfold refOp isOpB
      simp only [e1, e2, e3]
      rw [Bool.eq_iff_iff]
      simp [bad2, bad5, bad7, bad9, bad11, mostI, fin27, inB, bnd, rowR, rowLen, blw]
      try omega
    · have e1 : frm 29 = ⟨false, true, false, true, true⟩ := rfl
      have e2 : shpAt 29 = ⟨⟨#[100, 101, 108]⟩, 0, 3, 0, 11⟩ := rfl
      have e3 : isC 29 = true := rfl
      unfold refOp isOpB
      simp only [e1, e2, e3]
      rw [Bool.eq_iff_iff]
      simp [bad2, bad5, bad7, bad9, bad11, mostI, fin27, inB, bnd, rowR, rowLen, blw]
      try omega
    · have e1 : frm 30 = ⟨true, true, true, true, true⟩ := rfl
      have e2 : shpAt 30 = ⟨⟨#[110, 101, 120, 116]⟩, 1, 3, 3, 11⟩ := rfl
      have e3 : isC 30 = true := rfl
      unfold refOp isOpB
      simp only [e1, e2, e3]
      rw [Bool.eq_iff_iff]
      simp [bad2, bad5, bad7, bad9, bad11, mostI, fin27, inB, bnd, rowR, rowLen, blw]
      try omega
    · have e1 : frm 31 = ⟨true, true, false, true, true⟩ := rfl
      have e2 : shpAt 31 = ⟨⟨#[99, 97, 108, 108]⟩, 2, 5, 0, 12⟩ := rfl
      have e3 : isC 31 = true := rfl
      unfold refOp isOpB
      simp only [e1, e2, e3]
      rw [Bool.eq_iff_iff]
      cases hb : blw ok (c.p.funcs.length : Int) with
      | false =>
        have hb' : ¬ (0 ≤ ok ∧ ok < (c.p.funcs.length : Int)) := by rw [← blw_iff, hb]; simp
        simp [bad2, bad5, bad7, bad9, bad11, mostI, fin27, inB, bnd, rowR, rowLen, hb]
        omega
      | true =>
        have hb' : 0 ≤ ok ∧ ok < (c.p.funcs.length : Int) := by rw [← blw_iff, hb]
        have hm := parmN (c.p.funcs.map (·.2)) ok
        simp [rowR, rowLen, hb]
        generalize (parmB (c.p.funcs.map (·.2)) ok).1 = m at *
        simp [bad2, bad5, bad7, bad9, bad11, mostI, fin27, inB, bnd]
        omega
    · have e1 : frm 32 = ⟨true, true, false, true, true⟩ := rfl
      have e2 : shpAt 32 = ⟨⟨#[97, 115, 107]⟩, 1, 3, 0, 7⟩ := rfl
      have e3 : isC 32 = true := rfl
      unfold refOp isOpB
      simp only [e1, e2, e3]
      rw [Bool.eq_iff_iff]
      simp [bad2, bad5, bad7, bad9, bad11, mostI, fin27, inB, bnd, rowR, rowLen, blw]
      try omega
    · have e1 : frm 33 = ⟨false, true, false, false, true⟩ := rfl
      have e2 : shpAt 33 = ⟨⟨#[101, 109, 105, 116]⟩, 0, 3, 0, 0⟩ := rfl
      have e3 : isC 33 = true := rfl
      unfold refOp isOpB
      simp only [e1, e2, e3]
      rw [Bool.eq_iff_iff]
      simp [bad2, bad5, bad7, bad9, bad11, mostI, fin27, inB, bnd, rowR, rowLen, blw]
      try omega
    · have e1 : frm 34 = ⟨false, true, true, true, true⟩ := rfl
      have e2 : shpAt 34 = ⟨⟨#[97, 102, 116, 101, 114]⟩, 0, 3, 5, 13⟩ := rfl
      have e3 : isC 34 = true := rfl
      unfold refOp isOpB
      simp only [e1, e2, e3]
      rw [Bool.eq_iff_iff]
      cases hb : blw ok (c.p.events.length : Int) with
      | false =>
        have hb' : ¬ (0 ≤ ok ∧ ok < (c.p.events.length : Int)) := by rw [← blw_iff, hb]; simp
        simp [bad2, bad5, bad7, bad9, bad11, mostI, fin27, inB, bnd, rowR, rowLen, hb]
        omega
      | true =>
        have hb' : 0 ≤ ok ∧ ok < (c.p.events.length : Int) := by rw [← blw_iff, hb]
        have hm := parmN (c.p.events.map (·.2)) ok
        simp [rowR, rowLen, hb]
        generalize (parmB (c.p.events.map (·.2)) ok).1 = m at *
        simp [bad2, bad5, bad7, bad9, bad11, mostI, fin27, inB, bnd]
        omega
    · have e1 : frm 35 = ⟨false, false, false, false, true⟩ := rfl
      have e2 : shpAt 35 = ⟨⟨#[99, 104, 97, 114, 103, 101]⟩, 0, 0, 0, 0⟩ := rfl
      have e3 : isC 35 = true := rfl
      unfold refOp isOpB
      simp only [e1, e2, e3]
      rw [Bool.eq_iff_iff]
      simp [bad2, bad5, bad7, bad9, bad11, mostI, fin27, inB, bnd, rowR, rowLen, blw]
      try omega
    · have e1 : frm 36 = ⟨false, false, false, false, true⟩ := rfl
      have e2 : shpAt 36 = ⟨⟨#[101, 110, 116, 101, 114]⟩, 0, 0, 0, 0⟩ := rfl
      have e3 : isC 36 = true := rfl
      unfold refOp isOpB
      simp only [e1, e2, e3]
      rw [Bool.eq_iff_iff]
      simp [bad2, bad5, bad7, bad9, bad11, mostI, fin27, inB, bnd, rowR, rowLen, blw]
      try omega
    · have e1 : frm 37 = ⟨false, false, false, false, true⟩ := rfl
      have e2 : shpAt 37 = ⟨⟨#[108, 101, 97, 118, 101]⟩, 0, 0, 0, 0⟩ := rfl
      have e3 : isC 37 = true := rfl
      unfold refOp isOpB
      simp only [e1, e2, e3]
      rw [Bool.eq_iff_iff]
      simp [bad2, bad5, bad7, bad9, bad11, mostI, fin27, inB, bnd, rowR, rowLen, blw]
      try omega
    · have e1 : frm 38 = ⟨false, false, false, true, true⟩ := rfl
      have e2 : shpAt 38 = ⟨⟨#[106, 117, 109, 112]⟩, 0, 0, 0, 14⟩ := rfl
      have e3 : isC 38 = true := rfl
      unfold refOp isOpB
      simp only [e1, e2, e3]
      rw [Bool.eq_iff_iff]
      simp [bad2, bad5, bad7, bad9, bad11, mostI, fin27, inB, bnd, rowR, rowLen, blw]
      try omega
    · have e1 : frm 39 = ⟨false, true, false, true, true⟩ := rfl
      have e2 : shpAt 39 = ⟨⟨#[117, 110, 108, 101, 115, 115]⟩, 0, 3, 0, 14⟩ := rfl
      have e3 : isC 39 = true := rfl
      unfold refOp isOpB
      simp only [e1, e2, e3]
      rw [Bool.eq_iff_iff]
      simp [bad2, bad5, bad7, bad9, bad11, mostI, fin27, inB, bnd, rowR, rowLen, blw]
      try omega
    · have e1 : frm 40 = ⟨false, true, false, false, true⟩ := rfl
      have e2 : shpAt 40 = ⟨⟨#[114, 101, 116]⟩, 0, 4, 0, 0⟩ := rfl
      have e3 : isC 40 = true := rfl
      unfold refOp isOpB
      simp only [e1, e2, e3]
      rw [Bool.eq_iff_iff]
      simp [bad2, bad5, bad7, bad9, bad11, mostI, fin27, inB, bnd, rowR, rowLen, blw]
      try omega
theorem fnEq (c : Cx) (hr : RcLn c.p) (pn : Nat) (f : Fx) : refFnB c pn f = isFnB c pn f := by
  unfold refFnB isFnB
  by_cases h : f.regs < (pn : Int)
  · simp [h]
  · have h0 : 0 ≤ f.regs := by omega
    congr 1
    refine Bool.eq_iff_iff.2 ?_
    simp only [List.all_eq_true]
    exact ⟨fun hh o ho => by rw [← opEq c hr f.regs h0]; exact hh o ho, fun hh o ho => by rw [opEq c hr f.regs h0]; exact hh o ho⟩
theorem fnsEq (c : Cx) (hr : RcLn c.p) (gs : List (GH × Sg)) (fs : List (FH × Fx)) (hg : ∀ p ∈ gs, p.1.pn = p.2.params.length) : refFnsB c gs fs = (decide (fs.length = gs.length) && isFnsB c (gs.map (·.2)) (fs.map (·.2))) := by
  unfold refFnsB
  by_cases hl : fs.length = gs.length
  · simp only [hl, decide_true, Bool.true_and]
    rw [zip_all hg]
    refine Bool.eq_iff_iff.2 ?_
    simp only [List.all_eq_true]
    constructor
    · intro h z hz
      obtain ⟨j, hj, hz2⟩ := List.mem_iff_getElem.1 hz
      have hj2 : j < gs.length := by rw [List.length_zip] at hj; omega
      have := h j (List.mem_range.2 hj2)
      unfold okAtZ at this
      rw [List.getElem?_eq_getElem hj2, List.getElem?_eq_getElem (show j < fs.length by omega)] at this
      rw [← hz2, List.getElem_zip]
      rw [← fnEq c hr]; exact this
    · intro h j hj
      have hj2 : j < gs.length := List.mem_range.1 hj
      unfold okAtZ
      rw [List.getElem?_eq_getElem hj2, List.getElem?_eq_getElem (show j < fs.length by omega)]
      have := h (gs[j], fs[j]'(by omega)) (List.mem_iff_getElem.2 ⟨j, by rw [List.length_zip]; omega, by rw [List.getElem_zip]⟩)
      simp only at this ⊢
      rw [fnEq c hr]; exact this
  · simp [hl]
theorem isEq {w : World} {C : CH} {c : Cx} {fs es : List (FH × Fx)} (d : CdRd w C c fs es) : refIsB c fs es = isB c := by
  unfold refIsB isB
  cases hr : rightB c.p with
  | false => simp
  | true =>
    have hl := rcLn_of hr
    rw [fnsEq c hl _ _ (fun p hp => (d.p.f.el p hp).pn), fnsEq c hl _ _ (fun p hp => (d.p.e.el p hp).pn)]
    rw [← d.fe, ← d.ee, List.length_map, List.length_map]
    unfold constB shortB
    refine Bool.eq_iff_iff.2 ?_
    simp only [Bool.and_eq_true]
    constructor
    · rintro ⟨⟨⟨⟨⟨h1, h2⟩, h3⟩, h4⟩, h5, h6⟩, h7, h8⟩
      exact ⟨⟨⟨⟨⟨h1, ⟨h2, h3⟩, h4⟩, h5⟩, h7⟩, h6⟩, h8⟩
    · rintro ⟨⟨⟨⟨⟨h1, ⟨h2, h3⟩, h4⟩, h5⟩, h7⟩, h6⟩, h8⟩
      exact ⟨⟨⟨⟨⟨h1, h2⟩, h3⟩, h4⟩, h5, h6⟩, h7, h8⟩
end Go.Proofs.YthnolocldeokeaaGreat

namespace Go.Proofs.YthnolocldeokeaaGreat
open Go.RowKit Go.Deep Go.Shelf
set_option linter.unusedVariables false
set_option linter.unusedSimpArgs false
/- A unit has the cells of a code: graphs stand where functions do. -/
def zeroC : Value := .agg #[.slice none 0 0, .slice none 0 0, .slice none 0 0, .slice none 0 0, .slice none 0 0, .slice none 0 0, .slice none 0 0, .slice none 0 0]
def eight (w : World) (b : Nat) (x0 x1 x2 x3 x4 x5 x6 x7 : Value) : World := (((((((w.setCell ⟨b, 0, none⟩ x0).setCell ⟨b, 1, none⟩ x1).setCell ⟨b, 2, none⟩ x2).setCell ⟨b, 3, none⟩ x3).setCell ⟨b, 4, none⟩ x4).setCell ⟨b, 5, none⟩ x5).setCell ⟨b, 6, none⟩ x6).setCell ⟨b, 7, none⟩ x7
theorem eight_new {w : World} {b : Nat} {p0 p1 p2 p3 p4 p5 p6 p7 : Value} {t : TypeId} (h : w.heap[b]? = some (.cells #[p0, p1, p2, p3, p4, p5, p6, p7] t (0, 0))) (x0 x1 x2 x3 x4 x5 x6 x7 : Value) : (eight w b x0 x1 x2 x3 x4 x5 x6 x7).heap[b]? = some (.cells #[x0, x1, x2, x3, x4, x5, x6, x7] t (0, 0)) := by
  have h0 := heap_set_at h 0 x0
  simp only [List.setIfInBounds_toArray, List.set_cons_zero, List.set_cons_succ] at h0
  have h1 := heap_set_at h0 1 x1
  simp only [List.setIfInBounds_toArray, List.set_cons_zero, List.set_cons_succ] at h1
  have h2 := heap_set_at h1 2 x2
  simp only [List.setIfInBounds_toArray, List.set_cons_zero, List.set_cons_succ] at h2
  have h3 := heap_set_at h2 3 x3
  simp only [List.setIfInBounds_toArray, List.set_cons_zero, List.set_cons_succ] at h3
  have h4 := heap_set_at h3 4 x4
  simp only [List.setIfInBounds_toArray, List.set_cons_zero, List.set_cons_succ] at h4
  have h5 := heap_set_at h4 5 x5
  simp only [List.setIfInBounds_toArray, List.set_cons_zero, List.set_cons_succ] at h5
  have h6 := heap_set_at h5 6 x6
  simp only [List.setIfInBounds_toArray, List.set_cons_zero, List.set_cons_succ] at h6
  have h7 := heap_set_at h6 7 x7
  simp only [List.setIfInBounds_toArray, List.set_cons_zero, List.set_cons_succ] at h7
  exact h7
theorem eight_below {B : Nat} {w0 w : World} (hb : Below B w0 w) {b : Nat} (hB : B ≤ b) (x0 x1 x2 x3 x4 x5 x6 x7 : Value) : Below B w0 (eight w b x0 x1 x2 x3 x4 x5 x6 x7) := by
  unfold eight
  exact (((((((hb.setCell hB _).setCell hB _).setCell hB _).setCell hB _).setCell hB _).setCell hB _).setCell hB _).setCell hB _
theorem eight_other (w : World) (b : Nat) (x0 x1 x2 x3 x4 x5 x6 x7 : Value) {g : Nat} (hg : g ≠ b) : (eight w b x0 x1 x2 x3 x4 x5 x6 x7).heap[g]? = w.heap[g]? := by
  unfold eight
  rw [Below.heap_setCell _ ⟨b, 7, none⟩ _ _ (show g ≠ (⟨b, 7, none⟩ : Addr).block from hg)]
  rw [Below.heap_setCell _ ⟨b, 6, none⟩ _ _ (show g ≠ (⟨b, 6, none⟩ : Addr).block from hg)]
  rw [Below.heap_setCell _ ⟨b, 5, none⟩ _ _ (show g ≠ (⟨b, 5, none⟩ : Addr).block from hg)]
  rw [Below.heap_setCell _ ⟨b, 4, none⟩ _ _ (show g ≠ (⟨b, 4, none⟩ : Addr).block from hg)]
  rw [Below.heap_setCell _ ⟨b, 3, none⟩ _ _ (show g ≠ (⟨b, 3, none⟩ : Addr).block from hg)]
  rw [Below.heap_setCell _ ⟨b, 2, none⟩ _ _ (show g ≠ (⟨b, 2, none⟩ : Addr).block from hg)]
  rw [Below.heap_setCell _ ⟨b, 1, none⟩ _ _ (show g ≠ (⟨b, 1, none⟩ : Addr).block from hg)]
  rw [Below.heap_setCell _ ⟨b, 0, none⟩ _ _ (show g ≠ (⟨b, 0, none⟩ : Addr).block from hg)]
theorem FnsN.above {w w' : World} {B : Nat} {v : Value} {l : List Fx} (h : FnsN w B v l) (e : ∀ g, B ≤ g → g < w.heap.size → w'.heap[g]? = w.heap[g]?) : FnsN w' B v l := by
  obtain ⟨fs, h1, h2, h3⟩ := h
  refine ⟨fs, h1, h2.keep fun g hg => e g (h2.own hg).1 (h2.own hg).2, fun p hp => ⟨(h3 p hp).rg, (h3 p hp).op.keep fun b hb => ?_⟩⟩
  have h4 := (h3 p hp).op.2
  rcases h4 with ⟨e1, _⟩ | ⟨b', cap, cur, e1, h5, h6, _⟩
  · rw [e1] at hb; cases hb
  · rw [e1] at hb
    cases hb
    exact e b' h5 (lt_of_heap h6)
/- Either answer of fns in one form. -/
theorem cell_eight {w : World} {b : Nat} {x0 x1 x2 x3 x4 x5 x6 x7 : Value} {t : TypeId} (g : w.heap[b]? = some (.cells #[x0, x1, x2, x3, x4, x5, x6, x7] t (0, 0))) : w.cell? ⟨b, 0, none⟩ = some x0 ∧ w.cell? ⟨b, 1, none⟩ = some x1 ∧ w.cell? ⟨b, 2, none⟩ = some x2 ∧ w.cell? ⟨b, 3, none⟩ = some x3 ∧ w.cell? ⟨b, 4, none⟩ = some x4 ∧ w.cell? ⟨b, 5, none⟩ = some x5 ∧ w.cell? ⟨b, 6, none⟩ = some x6 ∧ w.cell? ⟨b, 7, none⟩ = some x7 := ⟨cellOf g 0, cellOf g 1, cellOf g 2, cellOf g 3, cellOf g 4, cellOf g 5, cellOf g 6, cellOf g 7⟩
theorem free_eight {w : World} {b : Nat} {c : Array Value} {t : TypeId} (g : w.heap[b]? = some (.cells c t (0, 0))) : w.frozen? ⟨b, 0, none⟩ = false ∧ w.frozen? ⟨b, 1, none⟩ = false ∧ w.frozen? ⟨b, 2, none⟩ = false ∧ w.frozen? ⟨b, 3, none⟩ = false ∧ w.frozen? ⟨b, 4, none⟩ = false ∧ w.frozen? ⟨b, 5, none⟩ = false ∧ w.frozen? ⟨b, 6, none⟩ = false ∧ w.frozen? ⟨b, 7, none⟩ = false := ⟨freeOf g 0, freeOf g 1, freeOf g 2, freeOf g 3, freeOf g 4, freeOf g 5, freeOf g 6, freeOf g 7⟩
end Go.Proofs.YthnolocldeokeaaGreat

namespace Go.Proofs.YthnolocldeokeaaGreat
open Go.RowKit Go.Deep Go.Shelf
set_option linter.unusedVariables false
set_option linter.unusedSimpArgs false
set_option maxRecDepth 100000
theorem peq_iff {p q : Pg} : PEq p q ↔ p.recs.map (·.2) = q.recs.map (·.2) ∧ p.maps = q.maps ∧ p.funcs.map (·.2) = q.funcs.map (·.2) ∧ p.events.map (·.2) = q.events.map (·.2) := ⟨fun h => ⟨h.r, h.m, h.f, h.e⟩, fun h => ⟨h.1, h.2.1, h.2.2.1, h.2.2.2⟩⟩
theorem ceq_iff {c d : Cx} : CEq c d ↔ PEq c.p d.p ∧ c.texts = d.texts ∧ c.funcs = d.funcs ∧ c.events = d.events := ⟨fun h => ⟨h.p, h.t, h.f, h.e⟩, fun h => ⟨h.1, h.2.1, h.2.2.1, h.2.2.2⟩⟩
set_option maxHeartbeats 2000000 in
theorem codeSameP_any (w : World) (h k : PH) (p q : Pg) (d1 : PRd w h p) (d2 : PRd w k q) : Calls Tryz.prog 49 #[h.v, k.v] w (DcP w (PEq p q)) := by
  obtain ⟨W, hW, bW, m0, m1⟩ := two_alc (w := w) (x := #[.slice h.ra h.rn h.rc, .slice h.ma h.mn h.mc, .slice h.fa h.fn h.fc, .slice h.ea h.en h.ec]) (y := #[.slice k.ra k.rn k.rc, .slice k.ma k.mn k.mc, .slice k.fa k.fn k.fc, .slice k.ea k.en k.ec]) (T := 26)
  have T := fun (V : World) (hV : Below W.heap.size W V) => bW.trans (hV.mono bW.size)
  have K1 := hid (eqRcs_any W h.ra k.ra h.rn k.rn h.rc k.rc p.recs q.recs (d1.r.below (Nat.le_refl _) bW) (d2.r.below (Nat.le_refl _) bW))
  have K2 := hid (fun (V : World) (hV : Below W.heap.size W V) => eqMaps_any V h.ma k.ma h.mn k.mn h.mc k.mc p.maps q.maps d1.m.n1 d2.m.n1 d1.m.n2 d2.m.n2 (d1.m.below (Nat.le_refl _) (T V hV)).rd (d2.m.below (Nat.le_refl _) (T V hV)).rd)
  have K3 := hid (fun (V : World) (hV : Below W.heap.size W V) => eqSgs_any V h.fa k.fa h.fn k.fn h.fc k.fc p.funcs q.funcs (d1.f.below (Nat.le_refl _) (T V hV)) (d2.f.below (Nat.le_refl _) (T V hV)))
  have K4 := hid (fun (V : World) (hV : Below W.heap.size W V) => eqSgs_any V h.ea k.ea h.en k.en h.ec k.ec p.events q.events (d1.e.below (Nat.le_refl _) (T V hV)) (d2.e.below (Nat.le_refl _) (T V hV)))
  obtain ⟨P, hP⟩ : ∃ P : Prop, P = PEq p q := ⟨_, rfl⟩
  rw [← hP]
  have HP : Hid (P ↔ p.recs.map (·.2) = q.recs.map (·.2) ∧ p.maps = q.maps ∧ p.funcs.map (·.2) = q.funcs.map (·.2) ∧ p.events.map (·.2) = q.events.map (·.2)) := hid (by rw [hP]; exact peq_iff)
  have GB := hid T
  have TR : Hid (∀ {x y : World}, Below W.heap.size W x → Below x.heap.size x y → Below W.heap.size W y) := hid (fun h1 h2 => h1.trans (h2.mono h1.size))
  clear d1 d2 hP bW T
  obtain ⟨ra1, rn1, rc1, ma1, mn1, mc1, fa1, fn1, fc1, ea1, en1, ec1⟩ := h
  obtain ⟨ra2, rn2, rc2, ma2, mn2, mc2, fa2, fn2, fc2, ea2, en2, ec2⟩ := k
  simp only [PH.v] at hW m0 m1 K1 K2 K3 K4 ⊢
  have CL : Hid (∀ V : World, Below W.heap.size W V → (V.cell? ⟨w.heap.size, 0, none⟩ = some (.slice ra1 rn1 rc1) ∧ V.cell? ⟨w.heap.size, 1, none⟩ = some (.slice ma1 mn1 mc1) ∧ V.cell? ⟨w.heap.size, 2, none⟩ = some (.slice fa1 fn1 fc1) ∧ V.cell? ⟨w.heap.size, 3, none⟩ = some (.slice ea1 en1 ec1)) ∧ V.cell? ⟨w.heap.size + 1, 0, none⟩ = some (.slice ra2 rn2 rc2) ∧ V.cell? ⟨w.heap.size + 1, 1, none⟩ = some (.slice ma2 mn2 mc2) ∧ V.cell? ⟨w.heap.size + 1, 2, none⟩ = some (.slice fa2 fn2 fc2) ∧ V.cell? ⟨w.heap.size + 1, 3, none⟩ = some (.slice ea2 en2 ec2)) := hid (fun V hV => by
    have g0 := (hV.block _ (lt_of_heap m0)).trans m0
    have g1 := (hV.block _ (lt_of_heap m1)).trans m1
    exact ⟨⟨cellOf g0 0, cellOf g0 1, cellOf g0 2, cellOf g0 3⟩, cellOf g1 0, cellOf g1 1, cellOf g1 2, cellOf g1 3⟩)
  clear m0 m1
  obtain ⟨⟨x0, x1, x2, x3⟩, y0, y1, y2, y3⟩ := CL.out W (Below.refl _ _)
  go_enter Tryz.func49, Tryz.ntmps49
  go_upto_region 1 with fail
  rw [← hW]
  clear hW
  go_wp2_with (first
    | (have hno := K1; (go_at_call 82; (refine (Hid.out K1).mono ?_; rintro e w1 ⟨hb, b1, rfl, hi⟩; have HB1 := hid hb; have HI1 := hid hi; clear x0 x1 x2 x3 y0 y1 y2 y3 hb hi K1; obtain ⟨⟨x0, x1, x2, x3⟩, y0, y1, y2, y3⟩ := CL.out w1 HB1.out; have K2w := hid (K2.out w1 HB1.out); cases b1)))
    | (have hno := K2w; (go_at_call 84; (refine (Hid.out K2w).mono ?_; rintro e w2 ⟨hb, b2, rfl, hi⟩; have HB2 := hid (TR.out HB1.out hb); have HI2 := hid hi; clear x0 x1 x2 x3 y0 y1 y2 y3 hb hi K2w; obtain ⟨⟨x0, x1, x2, x3⟩, y0, y1, y2, y3⟩ := CL.out w2 HB2.out; have K3w := hid (K3.out w2 HB2.out); cases b2)))
    | (have hno := K4w; (go_at_call 85; (refine (Hid.out K4w).mono ?_; rintro e w4 ⟨hb, b4, rfl, hi⟩; have HB4 := hid (TR.out HB3.out hb); have HI4 := hid hi; clear x0 x1 x2 x3 y0 y1 y2 y3 hb hi K4w; cases b4)))
    | (have hno := K3w; (go_at_call 85; (refine (Hid.out K3w).mono ?_; rintro e w3 ⟨hb, b3, rfl, hi⟩; have HB3 := hid (TR.out HB2.out hb); have HI3 := hid hi; clear x0 x1 x2 x3 y0 y1 y2 y3 hb hi K3w; obtain ⟨⟨x0, x1, x2, x3⟩, y0, y1, y2, y3⟩ := CL.out w3 HB3.out; have K4w := hid (K4.out w3 HB3.out); cases b3))))
  · go_ret
    exact DcP.no (GB.out _ HB1.out) (fun p => by have := HI1.out.2 (HP.out.1 p).1; cases this)
  · go_ret
    exact DcP.no (GB.out _ HB2.out) (fun p => by have := HI2.out.2 (HP.out.1 p).2.1; cases this)
  · go_ret
    exact DcP.no (GB.out _ HB3.out) (fun p => by have := HI3.out.2 (HP.out.1 p).2.2.1; cases this)
  · go_ret
    exact DcP.no (GB.out _ HB4.out) (fun p => by have := HI4.out.2 (HP.out.1 p).2.2.2; cases this)
  · go_ret
    exact DcP.yes (GB.out _ HB4.out) (HP.out.2 ⟨HI1.out.1 (by first | rfl | trivial), HI2.out.1 (by first | rfl | trivial), HI3.out.1 (by first | rfl | trivial), HI4.out.1 (by first | rfl | trivial)⟩)
set_option maxHeartbeats 2000000 in
theorem codeSame_any (w : World) (C D : CH) (c d : Cx) (fs es fs2 es2 : List (FH × Fx)) (xs ys : List Int) (d1 : CdRd w C c fs es) (d2 : CdRd w D d fs2 es2) (j1 : JRd w C.ia xs) (j2 : JRd w D.ia ys) (n1 : C.inn = xs.length) (n2 : D.inn = ys.length) : Calls Tryz.prog 12 #[C.v, D.v] w (DcP w (CEq c d ∧ xs = ys)) := by
  obtain ⟨W, hW, bW, m0, m1⟩ := two_alc (w := w) (x := C.cs) (y := D.cs) (T := 31)
  have T := fun (V : World) (hV : Below W.heap.size W V) => bW.trans (hV.mono bW.size)
  have K1 := hid (codeSameP_any W C.h D.h c.p d.p (d1.p.below (Nat.le_refl _) bW) (d2.p.below (Nat.le_refl _) bW))
  have K2 := hid (fun (V : World) (hV : Below W.heap.size W V) => eqInts_any V C.ia D.ia C.inn D.inn C.ic D.ic xs ys n1 n2 d1.i2 d2.i2 (CRd.below j1 (Nat.le_refl _) (T V hV)) (CRd.below j2 (Nat.le_refl _) (T V hV)))
  have K3 := hid (fun (V : World) (hV : Below W.heap.size W V) => eqTexts_any V C.ta D.ta C.tn D.tn C.tc D.tc c.texts d.texts d1.t1 d2.t1 d1.t2 d2.t2 (d1.tr.below (Nat.le_refl _) (T V hV)) (d2.tr.below (Nat.le_refl _) (T V hV)))
  have K4 := hid (fun (V : World) (hV : Below W.heap.size W V) => eqFns_any V C.fa D.fa C.fn D.fn C.fc D.fc fs fs2 (d1.f.below (Nat.le_refl _) (T V hV)) (d2.f.below (Nat.le_refl _) (T V hV)))
  have K5 := hid (fun (V : World) (hV : Below W.heap.size W V) => eqFns_any V C.ea D.ea C.en D.en C.ec D.ec es es2 (d1.e.below (Nat.le_refl _) (T V hV)) (d2.e.below (Nat.le_refl _) (T V hV)))
  obtain ⟨P, hP⟩ : ∃ P : Prop, P = (CEq c d ∧ xs = ys) := ⟨_, rfl⟩
  rw [← hP]
  have HP : Hid (P ↔ PEq c.p d.p ∧ xs = ys ∧ c.texts = d.texts ∧ fs.map (·.2) = fs2.map (·.2) ∧ es.map (·.2) = es2.map (·.2)) := hid (by
    rw [hP, ceq_iff, d1.fe, d2.fe, d1.ee, d2.ee]
    exact ⟨fun ⟨⟨a, b, c, d⟩, e⟩ => ⟨a, e, b, c, d⟩, fun ⟨a, e, b, c, d⟩ => ⟨⟨a, b, c, d⟩, e⟩⟩)
  have GB := hid T
  have TR : Hid (∀ {x y : World}, Below W.heap.size W x → Below x.heap.size x y → Below W.heap.size W y) := hid (fun h1 h2 => h1.trans (h2.mono h1.size))
  clear d1 d2 j1 j2 n1 n2 hP bW T
  obtain ⟨⟨ra1, rn1, rc1, ma1, mn1, mc1, fa1, fn1, fc1, ea1, en1, ec1⟩, ia1, in1, ic1, ta1, tn1, tc1, ga1, gn1, gc1, ha1, hn1, hc1⟩ := C
  obtain ⟨⟨ra2, rn2, rc2, ma2, mn2, mc2, fa2, fn2, fc2, ea2, en2, ec2⟩, ia2, in2, ic2, ta2, tn2, tc2, ga2, gn2, gc2, ha2, hn2, hc2⟩ := D
  simp only [CH.v, CH.cs, PH.v] at hW m0 m1 K1 K2 K3 K4 K5 ⊢
  have CL : Hid (∀ V : World, Below W.heap.size W V → (V.cell? ⟨w.heap.size, 0, none⟩ = some (.slice ra1 rn1 rc1) ∧ V.cell? ⟨w.heap.size, 1, none⟩ = some (.slice ma1 mn1 mc1) ∧ V.cell? ⟨w.heap.size, 2, none⟩ = some (.slice fa1 fn1 fc1) ∧ V.cell? ⟨w.heap.size, 3, none⟩ = some (.slice ea1 en1 ec1) ∧ V.cell? ⟨w.heap.size, 4, none⟩ = some (.slice ia1 in1 ic1) ∧ V.cell? ⟨w.heap.size, 5, none⟩ = some (.slice ta1 tn1 tc1) ∧ V.cell? ⟨w.heap.size, 6, none⟩ = some (.slice ga1 gn1 gc1) ∧ V.cell? ⟨w.heap.size, 7, none⟩ = some (.slice ha1 hn1 hc1)) ∧ V.cell? ⟨w.heap.size + 1, 0, none⟩ = some (.slice ra2 rn2 rc2) ∧ V.cell? ⟨w.heap.size + 1, 1, none⟩ = some (.slice ma2 mn2 mc2) ∧ V.cell? ⟨w.heap.size + 1, 2, none⟩ = some (.slice fa2 fn2 fc2) ∧ V.cell? ⟨w.heap.size + 1, 3, none⟩ = some (.slice ea2 en2 ec2) ∧ V.cell? ⟨w.heap.size + 1, 4, none⟩ = some (.slice ia2 in2 ic2) ∧ V.cell? ⟨w.heap.size + 1, 5, none⟩ = some (.slice ta2 tn2 tc2) ∧ V.cell? ⟨w.heap.size + 1, 6, none⟩ = some (.slice ga2 gn2 gc2) ∧ V.cell? ⟨w.heap.size + 1, 7, none⟩ = some (.slice ha2 hn2 hc2)) := hid (fun V hV => by
    have g0 := (hV.block _ (lt_of_heap m0)).trans m0
    have g1 := (hV.block _ (lt_of_heap m1)).trans m1
    exact ⟨cell_eight g0, cell_eight g1⟩)
  clear m0 m1
  obtain ⟨⟨x0, x1, x2, x3, x4, x5, x6, x7⟩, y0, y1, y2, y3, y4, y5, y6, y7⟩ := CL.out W (Below.refl _ _)
  go_enter Tryz.func12, Tryz.ntmps12
  go_upto_region 1 with fail
  rw [← hW]
  clear hW
  go_wp2_with (first
    | (have hno := K1; (go_at_call 49; (refine (Hid.out K1).mono ?_; rintro e w1 ⟨hb, b1, rfl, hi⟩; have HB1 := hid hb; have HI1 := hid hi; clear x0 x1 x2 x3 x4 x5 x6 x7 y0 y1 y2 y3 y4 y5 y6 y7 hb hi K1; obtain ⟨⟨x0, x1, x2, x3, x4, x5, x6, x7⟩, y0, y1, y2, y3, y4, y5, y6, y7⟩ := CL.out w1 HB1.out; have K2w := hid (K2.out w1 HB1.out); cases b1)))
    | (have hno := K2w; (go_at_call 50; (refine (Hid.out K2w).mono ?_; rintro e w2 ⟨hb, b2, rfl, hi⟩; have HB2 := hid (TR.out HB1.out hb); have HI2 := hid hi; clear x0 x1 x2 x3 x4 x5 x6 x7 y0 y1 y2 y3 y4 y5 y6 y7 hb hi K2w; obtain ⟨⟨x0, x1, x2, x3, x4, x5, x6, x7⟩, y0, y1, y2, y3, y4, y5, y6, y7⟩ := CL.out w2 HB2.out; have K3w := hid (K3.out w2 HB2.out); cases b2)))
    | (have hno := K3w; (go_at_call 51; (refine (Hid.out K3w).mono ?_; rintro e w3 ⟨hb, b3, rfl, hi⟩; have HB3 := hid (TR.out HB2.out hb); have HI3 := hid hi; clear x0 x1 x2 x3 x4 x5 x6 x7 y0 y1 y2 y3 y4 y5 y6 y7 hb hi K3w; obtain ⟨⟨x0, x1, x2, x3, x4, x5, x6, x7⟩, y0, y1, y2, y3, y4, y5, y6, y7⟩ := CL.out w3 HB3.out; have K4w := hid (K4.out w3 HB3.out); cases b3)))
    | (have hno := K5w; (go_at_call 52; (refine (Hid.out K5w).mono ?_; rintro e w5 ⟨hb, b5, rfl, hi⟩; have HB5 := hid (TR.out HB4.out hb); have HI5 := hid hi; clear x0 x1 x2 x3 x4 x5 x6 x7 y0 y1 y2 y3 y4 y5 y6 y7 hb hi K5w; cases b5)))
    | (have hno := K4w; (go_at_call 52; (refine (Hid.out K4w).mono ?_; rintro e w4 ⟨hb, b4, rfl, hi⟩; have HB4 := hid (TR.out HB3.out hb); have HI4 := hid hi; clear x0 x1 x2 x3 x4 x5 x6 x7 y0 y1 y2 y3 y4 y5 y6 y7 hb hi K4w; obtain ⟨⟨x0, x1, x2, x3, x4, x5, x6, x7⟩, y0, y1, y2, y3, y4, y5, y6, y7⟩ := CL.out w4 HB4.out; have K5w := hid (K5.out w4 HB4.out); cases b4))))
  · go_ret
    exact DcP.no (GB.out _ HB1.out) (fun p => by have := HI1.out.2 (HP.out.1 p).1; cases this)
  · go_ret
    exact DcP.no (GB.out _ HB2.out) (fun p => by have := HI2.out.2 (HP.out.1 p).2.1; cases this)
  · go_ret
    exact DcP.no (GB.out _ HB3.out) (fun p => by have := HI3.out.2 (HP.out.1 p).2.2.1; cases this)
  · go_ret
    exact DcP.no (GB.out _ HB4.out) (fun p => by have := HI4.out.2 (HP.out.1 p).2.2.2.1; cases this)
  · go_ret
    exact DcP.no (GB.out _ HB5.out) (fun p => by have := HI5.out.2 (HP.out.1 p).2.2.2.2; cases this)
  · go_ret
    exact DcP.yes (GB.out _ HB5.out) (HP.out.2 ⟨HI1.out.1 (by first | rfl | trivial), HI2.out.1 (by first | rfl | trivial), HI3.out.1 (by first | rfl | trivial), HI4.out.1 (by first | rfl | trivial), HI5.out.1 (by first | rfl | trivial)⟩)
end Go.Proofs.YthnolocldeokeaaGreat

namespace Go.Proofs.YthnolocldeokeaaGreat
open Go.RowKit Go.Deep Go.Shelf
set_option linter.unusedVariables false
set_option linter.unusedSimpArgs false
set_option maxRecDepth 100000
theorem DcP.isT {w : World} {P : Prop} {e : Ending} {w' : World} (h : DcP w P e w') (p : P) : e = .returned (.bool true) ∧ Below w.heap.size w w' := by
  obtain ⟨hb, b, rfl, hi⟩ := h
  rw [hi.2 p]; exact ⟨rfl, hb⟩
theorem DcP.isF {w : World} {P : Prop} {e : Ending} {w' : World} (h : DcP w P e w') (p : ¬ P) : e = .returned (.bool false) ∧ Below w.heap.size w w' := by
  obtain ⟨hb, b, rfl, hi⟩ := h
  cases b with
  | false => exact ⟨rfl, hb⟩
  | true => exact absurd (hi.1 rfl) p
/- .. and that only draws. -/
def DcQ (w : World) (P : Prop) (e : Ending) (w' : World) : Prop := (∃ k, w' = w.drewN k) ∧ ∃ b, e = .returned (.bool b) ∧ (b = true ↔ P)
theorem DcQ.yes {w w' : World} {P : Prop} {k : Nat} (h : w' = w.drewN k) (p : P) : DcQ w P (.returned (.bool true)) w' := ⟨⟨k, h⟩, true, rfl, fun _ => p, fun _ => rfl⟩
theorem DcQ.no {w w' : World} {P : Prop} {k : Nat} (h : w' = w.drewN k) (p : ¬ P) : DcQ w P (.returned (.bool false)) w' := ⟨⟨k, h⟩, false, rfl, (fun e => by cases e), fun q => (p q).elim⟩
theorem DcQ.isT {w : World} {P : Prop} {e : Ending} {w' : World} (h : DcQ w P e w') (p : P) : e = .returned (.bool true) ∧ ∃ m, w' = w.drewN m := by
  obtain ⟨hb, b, rfl, hi⟩ := h
  rw [hi.2 p]; exact ⟨rfl, hb⟩
theorem DcQ.isF {w : World} {P : Prop} {e : Ending} {w' : World} (h : DcQ w P e w') (p : ¬ P) : e = .returned (.bool false) ∧ ∃ m, w' = w.drewN m := by
  obtain ⟨hb, b, rfl, hi⟩ := h
  cases b with
  | false => exact ⟨rfl, hb⟩
  | true => exact absurd (hi.1 rfl) p
set_option maxHeartbeats 1000000 in
theorem sameTypes_q (w : World) (a b : Option Addr) (n m c1 c2 : Nat) (ts us : List TyP) (hn : n = ts.length) (hm : m = us.length) (hnb : n ≤ 9223372036854775807) (hmb : m ≤ 9223372036854775807) (h1 : TRd w a ts) (h2 : TRd w b us) :
    Calls Tryz.prog 81 #[.slice a n c1, .slice b m c2] w (DcQ w (ts = us)) := by
  have hnI : (n : Int) ≤ 9223372036854775807 := by omega
  have hmI : (m : Int) ≤ 9223372036854775807 := by omega
  have HN := hid hn
  have HM := hid hm
  have H1 := hid h1
  have H2 := hid h2
  obtain ⟨P, hP⟩ : ∃ P : Prop, P = (ts = us) := ⟨_, rfl⟩
  have HP := hid hP
  rw [← hP]
  clear hn hm h1 h2 hP
  go_enter Tryz.func81, Tryz.ntmps81
  by_cases hnm : n = m
  · subst hnm
    have nb : ((n : Int) != (n : Int)) = false := by simp
    go_wp2
    go_loopg [5] n (fun g x wr => ∃ j : Nat, j + g = n ∧ x = .int .i64 (j : Int) ∧ ts.take j = us.take j ∧ ∃ k, wr = w.drewN k)
    case atStart => exact ⟨0, by omega, rfl, by simp, 0, rfl⟩
    case round =>
      obtain ⟨j, hj, rfl, htk, kq, hkq⟩ := hrel
      have hb : Below w.heap.size w wr := by rw [hkq]; exact bel_dN (Below.refl _ _) _
      have HK := hid hkq
      clear hkq
      cases gk with
      | zero =>
        have hjn : j = n := by omega
        subst hjn
        have HB := hid hb
        have HT := hid (take_all htk HN.out HM.out)
        clear hb htk
        go_wp2
        go_ret
        exact DcQ.yes HK.out (by rw [HP.out]; exact HT.out)
      | succ g =>
        obtain ⟨t, ht⟩ : ∃ t, ts[j]? = some t := ⟨ts[j]'(by have := HN.out; omega), List.getElem?_eq_getElem _⟩
        obtain ⟨u, hu⟩ : ∃ u, us[j]? = some u := ⟨us[j]'(by have := HM.out; omega), List.getElem?_eq_getElem _⟩
        obtain ⟨b1, o1, rfl, x0, x1⟩ := (H1.out.below (Nat.le_refl _) hb) j t ht
        obtain ⟨b2, o2, rfl, y0, y1⟩ := (H2.out.below (Nat.le_refl _) hb) j u hu
        have hjI : (j : Int) < (n : Int) := by omega
        have hj0 : (0 : Int) ≤ (j : Int) := by omega
        have HB := hid hb
        by_cases he : t = u
        · have HT := hid (take_same htk ht hu he)
          subst he
          obtain ⟨tk, tr⟩ := t
          simp only at x0 x1 y0 y1
          clear hb ht hu htk
          go_wp2
          go_quiet (fail)
          go_wp2
          go_roundg g
          case measure => omega
          exact ⟨j + 1, by omega, by go_num, HT.out, _, by rw [HK.out, World.drewN_drewN]⟩
        · have HT := hid (get_ne ht hu he)
          obtain ⟨tk, tr⟩ := t
          obtain ⟨uk, ur⟩ := u
          have hn' := fun W : World => neqT W he
          simp only at x0 x1 y0 y1
          clear hb ht hu htk he
          go_wp2
          go_quiet (fail)
          go_wp2
          go_ret
          exact DcQ.no (k := kq + nq) (by rw [HK.out, World.drewN_drewN]) (by rw [HP.out]; exact HT.out)
  · have HNM := hid hnm
    have nb : ((n : Int) != (m : Int)) = true := by simp; omega
    clear hnm
    go_wp2
    go_ret
    exact DcQ.no (k := 0) rfl (by rw [HP.out]; exact fun e => HNM.out (by rw [HN.out, HM.out, e]))
end Go.Proofs.YthnolocldeokeaaGreat

namespace Go.Proofs.YthnolocldeokeaaGreat
open Go.RowKit Go.Deep Go.Shelf
set_option linter.unusedVariables false
set_option linter.unusedSimpArgs false
set_option maxRecDepth 100000
set_option maxHeartbeats 4000000 in
theorem sameSigs_any (w : World) (a b : Option Addr) (n m c1 c2 : Nat) (g1 g2 : List (GH × Sg)) (d1 : GRd w a n g1) (d2 : GRd w b m g2) :
    Calls Tryz.prog 80 #[.slice a n c1, .slice b m c2] w (DcP w (g1.map (·.2) = g2.map (·.2))) := by
  have hnI : (n : Int) ≤ 9223372036854775807 := by have := d1.n2; omega
  have hmI : (m : Int) ≤ 9223372036854775807 := by have := d2.n2; omega
  obtain ⟨ts, hts⟩ : ∃ ts, ts = g1.map (·.2) := ⟨_, rfl⟩
  obtain ⟨us, hus⟩ : ∃ us, us = g2.map (·.2) := ⟨_, rfl⟩
  have HN : Hid (n = ts.length) := hid (by rw [hts, List.length_map]; exact d1.n1)
  have HM : Hid (m = us.length) := hid (by rw [hus, List.length_map]; exact d2.n1)
  have D1 := hid d1
  have D2 := hid d2
  have TS := hid hts
  have US := hid hus
  rw [← hts, ← hus]
  obtain ⟨P, hP⟩ : ∃ P : Prop, P = (ts = us) := ⟨_, rfl⟩
  have HP := hid hP
  rw [← hP]
  clear d1 d2 hP hts hus
  go_enter Tryz.func80, Tryz.ntmps80
  by_cases hnm : n = m
  · subst hnm
    have nb : ((n : Int) != (n : Int)) = false := by simp
    go_wp2
    go_loopg [5] n (fun g x wr => ∃ j : Nat, j + g = n ∧ x = .int .i64 (j : Int) ∧ ts.take j = us.take j ∧ Below w.heap.size w wr)
    case atStart => exact ⟨0, by omega, rfl, by simp, Below.refl _ _⟩
    case round =>
      obtain ⟨j, hj, rfl, htk, hb⟩ := hrel
      cases gk with
      | zero =>
        have hjn : j = n := by omega
        subst hjn
        have HB := hid hb
        have HT := hid (take_all htk HN.out HM.out)
        clear hb htk
        go_wp2
        go_ret
        exact DcP.yes HB.out (by rw [HP.out]; exact HT.out)
      | succ g =>
        have dA := D1.out.below (Nat.le_refl _) hb
        have dB := D2.out.below (Nat.le_refl _) hb
        have l1 : j < g1.length := by rw [← dA.n1]; omega
        have l2 : j < g2.length := by rw [← dB.n1]; omega
        have e1 : g1[j]? = some g1[j] := List.getElem?_eq_getElem l1
        have e2 : g2[j]? = some g2[j] := List.getElem?_eq_getElem l2
        have ht : ts[j]? = some (g1[j]).2 := by rw [TS.out, List.getElem?_map, e1]; rfl
        have hu : us[j]? = some (g2[j]).2 := by rw [US.out, List.getElem?_map, e2]; rfl
        obtain ⟨b1, o1, rfl, _, hc1⟩ := dA.rd j (g1[j]).1.cs (by simp [e1])
        obtain ⟨b2, o2, rfl, _, hc2⟩ := dB.rd j (g2[j]).1.cs (by simp [e2])
        have s1 := dA.el _ (List.getElem_mem l1)
        have s2 := dB.el _ (List.getElem_mem l2)
        generalize g1[j] = p1 at ht hc1 s1 e1
        generalize g2[j] = p2 at hu hc2 s2 e2
        obtain ⟨⟨nm1, pa1, pn1, pc1, k1, r1⟩, sg1⟩ := p1
        obtain ⟨⟨nm2, pa2, pn2, pc2, k2, r2⟩, sg2⟩ := p2
        have HE : Hid (sg1 = sg2 ↔ nm1 = nm2 ∧ sg1.params = sg2.params ∧ ((k1, r1) : TyP) = (k2, r2)) := hid (by
          have a1 : nm1 = sg1.name := s1.nm
          have a2 : nm2 = sg2.name := s2.nm
          have a3 : (k1, r1) = sg1.res := s1.rs
          have a4 : (k2, r2) = sg2.res := s2.rs
          rw [a1, a2, a3, a4]; exact sg_eq)
        have x0 := hc1 0 (by omega)
        have x1 := hc1 1 (by omega)
        have x2 := hc1 2 (by omega)
        have x3 := hc1 3 (by omega)
        have y0 := hc2 0 (by omega)
        have y1 := hc2 1 (by omega)
        have y2 := hc2 2 (by omega)
        have y3 := hc2 3 (by omega)
        simp only [GH.cs, List.getElem?_cons_zero, List.getElem?_cons_succ, Nat.add_zero] at x0 x1 x2 x3 y0 y1 y2 y3
        have hjI : (j : Int) < (n : Int) := by omega
        have hj0 : (0 : Int) ≤ (j : Int) := by omega
        have K := hid (fun m : Nat => sameTypes_q (wr.drewN m) pa1 pa2 pn1 pn2 pc1 pc2 sg1.params sg2.params s1.pn s2.pn s1.p2 s2.p2 (s1.pr.below (Nat.le_refl _) (bel_dN (Below.refl _ wr) m)) (s2.pr.below (Nat.le_refl _) (bel_dN (Below.refl _ wr) m)))
        have HB := hid hb
        have HTK := hid htk
        have H1 : Hid (ts[j]? = some sg1) := hid ht
        have H2 : Hid (us[j]? = some sg2) := hid hu
        clear hb htk ht hu dA dB l1 l2 e1 e2 hc1 hc2 s1 s2
        go_upto_region 6 with fail
        by_cases hq : nm1 = nm2
        · subst hq
          have nbn : (nm1.toList == nm1.toList) = true := by simp
          by_cases hs : ((k1, r1) : TyP) = (k2, r2)
          · obtain ⟨q1, q2⟩ := Prod.mk.inj hs
            subst q1 q2
            by_cases hp : sg1.params = sg2.params
            · have K := hid (fun m : Nat => (K.out m).mono fun e w' h => h.isT hp)
              have HS := hid (HE.out.2 ⟨rfl, hp, hs⟩)
              clear hp hs HE
              go_quiet (first | (go_at_call 81; exact Calls.quiet_of (K.out _)))
              go_wp2
              go_roundg g
              case measure => omega
              exact ⟨j + 1, by omega, by go_num, take_same HTK.out H1.out H2.out HS.out, bel_dN HB.out _⟩
            · have K := hid (fun m : Nat => (K.out m).mono fun e w' h => h.isF hp)
              have HS : Hid (¬ sg1 = sg2) := hid (fun e => hp (HE.out.1 e).2.1)
              clear hp hs HE
              go_quiet (first | (go_at_call 81; exact Calls.quiet_of (K.out _)))
              go_wp2
              go_ret
              exact DcP.no (bel_dN HB.out _) (by rw [HP.out]; exact get_ne H1.out H2.out HS.out)
          · have HS : Hid (¬ sg1 = sg2) := hid (fun e => hs (HE.out.1 e).2.2)
            have hn' := fun W : World => neqT W hs
            clear hs HE
            go_quiet (fail)
            go_wp2
            go_ret
            exact DcP.no (bel_dN HB.out _) (by rw [HP.out]; exact get_ne H1.out H2.out HS.out)
        · have HS : Hid (¬ sg1 = sg2) := hid (fun e => hq (HE.out.1 e).1)
          have nbn := streq2 hq
          clear hq HE
          go_quiet (fail)
          go_wp2
          go_ret
          exact DcP.no (bel_dN HB.out _) (by rw [HP.out]; exact get_ne H1.out H2.out HS.out)
  · have HNM := hid hnm
    have nb : ((n : Int) != (m : Int)) = true := by simp; omega
    clear hnm
    go_wp2
    go_ret
    exact DcP.no (Below.refl _ _) (by rw [HP.out]; exact fun e => HNM.out (by rw [HN.out, HM.out, e]))
end Go.Proofs.YthnolocldeokeaaGreat

namespace Go.Proofs.YthnolocldeokeaaGreat
open Go.RowKit Go.Deep Go.Shelf
set_option linter.unusedVariables false
set_option linter.unusedSimpArgs false
set_option maxRecDepth 100000
set_option maxHeartbeats 4000000 in
theorem sameFns_any (w : World) (a b : Option Addr) (n m c1 c2 : Nat) (g1 g2 : List (FH × Fx)) (d1 : FRd w a n g1) (d2 : FRd w b m g2) :
    Calls Tryz.prog 48 #[.slice a n c1, .slice b m c2] w (DcP w (g1.map (·.2) = g2.map (·.2))) := by
  have hnI : (n : Int) ≤ 9223372036854775807 := by have := d1.n2; omega
  have hmI : (m : Int) ≤ 9223372036854775807 := by have := d2.n2; omega
  obtain ⟨ts, hts⟩ : ∃ ts, ts = g1.map (·.2) := ⟨_, rfl⟩
  obtain ⟨us, hus⟩ : ∃ us, us = g2.map (·.2) := ⟨_, rfl⟩
  have HN : Hid (n = ts.length) := hid (by rw [hts, List.length_map]; exact d1.n1)
  have HM : Hid (m = us.length) := hid (by rw [hus, List.length_map]; exact d2.n1)
  have D1 := hid d1
  have D2 := hid d2
  have TS := hid hts
  have US := hid hus
  rw [← hts, ← hus]
  obtain ⟨P, hP⟩ : ∃ P : Prop, P = (ts = us) := ⟨_, rfl⟩
  have HP := hid hP
  rw [← hP]
  clear d1 d2 hP hts hus
  go_enter Tryz.func48, Tryz.ntmps48
  by_cases hnm : n = m
  · subst hnm
    have nb : ((n : Int) != (n : Int)) = false := by simp
    go_wp2
    go_loopg [5] n (fun g x wr => ∃ j : Nat, j + g = n ∧ x = .int .i64 (j : Int) ∧ ts.take j = us.take j ∧ Below w.heap.size w wr)
    case atStart => exact ⟨0, by omega, rfl, by simp, Below.refl _ _⟩
    case round =>
      obtain ⟨j, hj, rfl, htk, hb⟩ := hrel
      cases gk with
      | zero =>
        have hjn : j = n := by omega
        subst hjn
        have HB := hid hb
        have HT := hid (take_all htk HN.out HM.out)
        clear hb htk
        go_wp2
        go_ret
        exact DcP.yes HB.out (by rw [HP.out]; exact HT.out)
      | succ g =>
        obtain ⟨wo, hwo⟩ : ∃ wo, wo = wr := ⟨_, rfl⟩
        subst hwo
        have dA := D1.out.below (Nat.le_refl _) hb
        have dB := D2.out.below (Nat.le_refl _) hb
        have l1 : j < g1.length := by rw [← dA.n1]; omega
        have l2 : j < g2.length := by rw [← dB.n1]; omega
        have e1 : g1[j]? = some g1[j] := List.getElem?_eq_getElem l1
        have e2 : g2[j]? = some g2[j] := List.getElem?_eq_getElem l2
        have ht : ts[j]? = some (g1[j]).2 := by rw [TS.out, List.getElem?_map, e1]; rfl
        have hu : us[j]? = some (g2[j]).2 := by rw [US.out, List.getElem?_map, e2]; rfl
        obtain ⟨b1, o1, rfl, _, hc1⟩ := dA.rd j (g1[j]).1.cs (by simp [e1])
        obtain ⟨b2, o2, rfl, _, hc2⟩ := dB.rd j (g2[j]).1.cs (by simp [e2])
        have s1 := dA.el _ (List.getElem_mem l1)
        have s2 := dB.el _ (List.getElem_mem l2)
        generalize g1[j] = p1 at ht hc1 s1 e1
        generalize g2[j] = p2 at hu hc2 s2 e2
        obtain ⟨⟨r1, oa1, on1, oc1⟩, f1⟩ := p1
        obtain ⟨⟨r2, oa2, on2, oc2⟩, f2⟩ := p2
        have HE : Hid (f1 = f2 ↔ r1 = r2 ∧ f1.ops = f2.ops) := hid (by
          have a1 : r1 = f1.regs := s1.rg
          have a2 : r2 = f2.regs := s2.rg
          rw [a1, a2]; exact fx_eq)
        have x0 := hc1 0 (by omega)
        have x1 := hc1 1 (by omega)
        have y0 := hc2 0 (by omega)
        have y1 := hc2 1 (by omega)
        simp only [FH.cs, List.getElem?_cons_zero, List.getElem?_cons_succ, Nat.add_zero] at x0 x1 y0 y1
        have hjI : (j : Int) < (n : Int) := by omega
        have hj0 : (0 : Int) ≤ (j : Int) := by omega
        have hon1 : (on1 : Int) ≤ 9223372036854775807 := by have : on1 ≤ _ := s1.o2; omega
        have hon2 : (on2 : Int) ≤ 9223372036854775807 := by have : on2 ≤ _ := s2.o2; omega
        have HO1 : Hid (on1 = f1.ops.length) := hid s1.on
        have HO2 : Hid (on2 = f2.ops.length) := hid s2.on
        have R1 : Hid (ORd wo oa1 f1.ops) := hid s1.or
        have R2 : Hid (ORd wo oa2 f2.ops) := hid s2.or
        have HB := hid hb
        have HTK := hid htk
        have H1 : Hid (ts[j]? = some f1) := hid ht
        have H2 : Hid (us[j]? = some f2) := hid hu
        have ST : Hid (∀ v : World, Below wo.heap.size wo v → v.cell? ⟨b1, o1 + j * 2, none⟩ = some (.int .i64 r1) ∧ v.cell? ⟨b1, o1 + j * 2 + 1, none⟩ = some (.slice oa1 on1 oc1) ∧ v.cell? ⟨b2, o2 + j * 2, none⟩ = some (.int .i64 r2) ∧ v.cell? ⟨b2, o2 + j * 2 + 1, none⟩ = some (.slice oa2 on2 oc2)) := hid (fun v hv => by
          have k : ∀ (p : Addr) (x : Value), wo.cell? p = some x → v.cell? p = some x := fun p x h => (hv.cell (p := p) (World.block_lt_of_cell? wo p h)).trans h
          exact ⟨k _ _ x0, k _ _ x1, k _ _ y0, k _ _ y1⟩)
        clear hb htk ht hu dA dB l1 l2 e1 e2 hc1 hc2 s1 s2
        go_upto_region 6 with fail
        by_cases hr : r1 = r2
        · subst hr
          have nb3 : (r1 != r1) = false := by simp
          by_cases ho : on1 = on2
          · subst ho
            have nb2 : ((on1 : Int) != (on1 : Int)) = false := by simp
            go_quiet (fail)
            obtain ⟨A, hA⟩ : ∃ A, A = wo.drewN nq := ⟨_, rfl⟩
            have bA : Below wo.heap.size wo A := by rw [hA]; exact bel_dN (Below.refl _ _) _
            rw [← hA]
            clear hA x0 x1 y0 y1
            obtain ⟨x0, x1, y0, y1⟩ := ST.out A bA
            have BA := hid bA
            clear bA
            go_wp2
            go_loopg [6] on1 (fun g2 x wr2 => ∃ i : Nat, i + g2 = on1 ∧ x = .int .i64 (i : Int) ∧ f1.ops.take i = f2.ops.take i ∧ Below wo.heap.size wo wr2)
            case atStart => exact ⟨0, by omega, rfl, by simp, BA.out⟩
            case round =>
              obtain ⟨i, hi, rfl, htk2, hb2⟩ := hrel
              clear x0 x1 y0 y1
              obtain ⟨x0, x1, y0, y1⟩ := ST.out wr hb2
              cases gk with
              | zero =>
                have hin : i = on1 := by omega
                subst hin
                have HS := hid (HE.out.2 ⟨by first | rfl | trivial, take_all htk2 HO1.out HO2.out⟩)
                have HB2 := hid hb2
                clear hb2 htk2
                go_wp2
                go_roundg g
                case measure => omega
                exact ⟨j + 1, by omega, by go_num, take_same HTK.out H1.out H2.out HS.out, HB.out.trans (HB2.out.mono HB.out.size)⟩
              | succ g2 =>
                obtain ⟨o, ho⟩ : ∃ o, f1.ops[i]? = some o := ⟨f1.ops[i]'(by have := HO1.out; omega), List.getElem?_eq_getElem _⟩
                obtain ⟨q, hq⟩ : ∃ q, f2.ops[i]? = some q := ⟨f2.ops[i]'(by have := HO2.out; omega), List.getElem?_eq_getElem _⟩
                obtain ⟨p1, q1, rfl, hcl1⟩ := (R1.out.below hb2) i o ho
                obtain ⟨p2, q2, rfl, hcl2⟩ := (R2.out.below hb2) i q hq
                have hiI : (i : Int) < (on1 : Int) := by omega
                have hi0 : (0 : Int) ≤ (i : Int) := by omega
                have i0 := hcl1 0 (by omega)
                have i1 := hcl1 1 (by omega)
                have i2 := hcl1 2 (by omega)
                have i3 := hcl1 3 (by omega)
                have i4 := hcl1 4 (by omega)
                have k0 := hcl2 0 (by omega)
                have k1 := hcl2 1 (by omega)
                have k2 := hcl2 2 (by omega)
                have k3 := hcl2 3 (by omega)
                have k4 := hcl2 4 (by omega)
                have HB2 := hid hb2
                by_cases he : o = q
                · have HT2 := hid (take_same htk2 ho hq he)
                  subst he
                  obtain ⟨xc, xd, xa, xb, xk⟩ := o
                  simp only [Opx.cs, List.getElem?_toArray, List.getElem?_cons_zero, List.getElem?_cons_succ, Nat.add_zero] at i0 i1 i2 i3 i4 k0 k1 k2 k3 k4
                  clear hb2 hcl1 hcl2 ho hq htk2
                  go_wp2
                  go_quiet (fail)
                  go_wp2
                  go_roundg g2
                  case measure => omega
                  exact ⟨i + 1, by omega, by go_num, HT2.out, bel_dN HB2.out _⟩
                · have HT2 : Hid (¬ f1 = f2) := hid (fun e => get_ne ho hq he (by rw [e]))
                  obtain ⟨xc, xd, xa, xb, xk⟩ := o
                  obtain ⟨yc, yd, ya, yb, yk⟩ := q
                  have hn' := fun W : World => neqO W he
                  simp only [Opx.cs, List.getElem?_toArray, List.getElem?_cons_zero, List.getElem?_cons_succ, Nat.add_zero] at i0 i1 i2 i3 i4 k0 k1 k2 k3 k4
                  clear hb2 hcl1 hcl2 ho hq htk2 he
                  go_wp2
                  go_quiet (fail)
                  go_wp2
                  go_ret
                  exact DcP.no (HB.out.trans ((bel_dN HB2.out _).mono HB.out.size)) (by rw [HP.out]; exact get_ne H1.out H2.out HT2.out)
          · have HS : Hid (¬ f1 = f2) := hid (fun e => ho (by rw [HO1.out, HO2.out, e]))
            have nb2 : ((on1 : Int) != (on2 : Int)) = true := by simp; omega
            clear ho
            go_quiet (fail)
            go_wp2
            go_ret
            exact DcP.no (bel_dN HB.out _) (by rw [HP.out]; exact get_ne H1.out H2.out HS.out)
        · have HS : Hid (¬ f1 = f2) := hid (fun e => hr (HE.out.1 e).1)
          have nb3 : (r1 != r2) = true := by simp [hr]
          clear hr HE
          go_quiet (fail)
          go_wp2
          go_ret
          exact DcP.no (bel_dN HB.out _) (by rw [HP.out]; exact get_ne H1.out H2.out HS.out)
  · have HNM := hid hnm
    have nb : ((n : Int) != (m : Int)) = true := by simp; omega
    clear hnm
    go_wp2
    go_ret
    exact DcP.no (Below.refl _ _) (by rw [HP.out]; exact fun e => HNM.out (by rw [HN.out, HM.out, e]))
end Go.Proofs.YthnolocldeokeaaGreat

