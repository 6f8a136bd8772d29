/- Both sides' Is are one. -/
import Derived.Test.YthnolocldeokeaaGreatJAR
namespace Go.Proofs.YthnolocldeokeaaGreat
open Go.RowKit Go.Deep Go.Shelf
set_option linter.unusedVariables false
set_option linter.unusedSimpArgs false
theorem isC_cases {k : Int} (h : isC k = true) : k = 1 ∨ k = 2 ∨ k = 3 ∨ k = 4 ∨ k = 5 ∨ k = 6 ∨ k = 7 ∨ k = 8 ∨ k = 9 ∨ k = 10 ∨ k = 11 ∨ k = 12 ∨ k = 13 ∨ k = 14 ∨ k = 15 ∨ k = 16 ∨ k = 17 ∨ k = 18 ∨ k = 19 ∨ k = 20 ∨ k = 21 ∨ k = 22 ∨ k = 23 ∨ k = 24 ∨ k = 25 ∨ k = 26 ∨ k = 27 ∨ k = 28 ∨ k = 29 ∨ k = 30 ∨ k = 31 ∨ k = 32 ∨ k = 33 ∨ k = 34 ∨ k = 35 ∨ k = 36 ∨ k = 37 ∨ k = 38 ∨ k = 39 ∨ k = 40 := by
  unfold isC at h
  simp at h
  omega
theorem frm_no {k : Int} (h : isC k = false) : (frm k).ok = false := by
  unfold isC at h
  simp at h
  unfold frm
  repeat (rw [if_neg (by omega)])
def RcLn (p : Pg) : Prop := ∀ r ∈ p.recs, r.2.fields.length = r.2.types.length
theorem rcLn_of {p : Pg} (h : rightB p = true) : RcLn p := fun r hr => by
  unfold rightB recordsB at h
  simp only [Bool.and_eq_true, List.all_eq_true] at h
  have := h.1.1.1.1.1.2 r.2 (List.mem_map.2 ⟨r, hr, rfl⟩)
  unfold fieldsB at this
  simp only [Bool.and_eq_true, decide_eq_true_eq] at this
  exact this.1.1.2
theorem getD_len {p : Pg} (h : RcLn p) (k : Nat) : (((p.recs.map (·.2)).getD k rc0).types.length : Int) = (((p.recs.map (·.2)).getD k rc0).fields.length : Int) := by
  rw [List.getD_eq_getElem?_getD, List.getElem?_map]
  cases hk : p.recs[k]? with
  | none => rfl
  | some r => simp only [Option.map_some, Option.getD_some]; rw [h r (List.mem_of_getElem? hk)]
theorem parmN (ss : List Sg) (k : Int) : 0 ≤ (parmB ss k).1 := by
  unfold parmB
  split
  · simp only; omega
  · simp
theorem blw_iff (k c : Int) : (blw k c = true) = (0 ≤ k ∧ k < c) := by simp [blw]
set_option maxHeartbeats 4000000 in
theorem opEq (c : Cx) (hr : RcLn c.p) (regs : Int) (h0 : 0 ≤ regs) (n : Nat) (o : Opx) : refOp c regs n o = isOpB c regs n o := by
  obtain ⟨oc, od, oa, ob, ok⟩ := o
  cases hc : isC oc with
  | false =>
    have e := frm_no hc
    unfold refOp isOpB
    simp only [e, hc]
    simp [bad2]
  | true =>
    rcases isC_cases hc with rfl | rfl | rfl | rfl | rfl | rfl | rfl | rfl | rfl | rfl | rfl | rfl | rfl | rfl | rfl | rfl | rfl | rfl | rfl | rfl | rfl | rfl | rfl | rfl | rfl | rfl | rfl | rfl | rfl | rfl | rfl | rfl | rfl | rfl | rfl | rfl | rfl | rfl | rfl | rfl
    · have e1 : frm 1 = ⟨true, false, false, true, true⟩ := rfl
      have e2 : shpAt 1 = ⟨⟨#[105, 110, 116]⟩, 1, 0, 0, 6⟩ := rfl
      have e3 : isC 1 = true := rfl
      unfold refOp isOpB
      simp only [e1, e2, e3]
      rw [Bool.eq_iff_iff]
      simp [bad2, bad5, bad7, bad9, bad11, mostI, fin27, inB, bnd, rowR, rowLen, blw]
      try omega
    · have e1 : frm 2 = ⟨true, false, false, true, true⟩ := rfl
      have e2 : shpAt 2 = ⟨⟨#[116, 101, 120, 116]⟩, 1, 0, 0, 7⟩ := rfl
      have e3 : isC 2 = true := rfl
      unfold refOp isOpB
      simp only [e1, e2, e3]
      rw [Bool.eq_iff_iff]
      simp [bad2, bad5, bad7, bad9, bad11, mostI, fin27, inB, bnd, rowR, rowLen, blw]
      try omega
    · have e1 : frm 3 = ⟨true, false, false, true, true⟩ := rfl
      have e2 : shpAt 3 = ⟨⟨#[98, 111, 111, 108]⟩, 1, 0, 0, 8⟩ := rfl
      have e3 : isC 3 = true := rfl
      unfold refOp isOpB
      simp only [e1, e2, e3]
      rw [Bool.eq_iff_iff]
      simp [bad2, bad5, bad7, bad9, bad11, mostI, fin27, inB, bnd, rowR, rowLen, blw]
      try omega
    · have e1 : frm 4 = ⟨true, true, false, false, true⟩ := rfl
      have e2 : shpAt 4 = ⟨⟨#[109, 111, 118, 101]⟩, 1, 3, 0, 0⟩ := rfl
      have e3 : isC 4 = true := rfl
      unfold refOp isOpB
      simp only [e1, e2, e3]
      rw [Bool.eq_iff_iff]
      simp [bad2, bad5, bad7, bad9, bad11, mostI, fin27, inB, bnd, rowR, rowLen, blw]
      try omega
    · have e1 : frm 5 = ⟨true, true, true, false, true⟩ := rfl
      have e2 : shpAt 5 = ⟨⟨#[97, 100, 100]⟩, 1, 3, 3, 0⟩ := rfl
      have e3 : isC 5 = true := rfl
      unfold refOp isOpB
      simp only [e1, e2, e3]
      rw [Bool.eq_iff_iff]
      simp [bad2, bad5, bad7, bad9, bad11, mostI, fin27, inB, bnd, rowR, rowLen, blw]
      try omega
    · have e1 : frm 6 = ⟨true, true, true, false, true⟩ := rfl
      have e2 : shpAt 6 = ⟨⟨#[115, 117, 98]⟩, 1, 3, 3, 0⟩ := rfl
      have e3 : isC 6 = true := rfl
      unfold refOp isOpB
      simp only [e1, e2, e3]
      rw [Bool.eq_iff_iff]
      simp [bad2, bad5, bad7, bad9, bad11, mostI, fin27, inB, bnd, rowR, rowLen, blw]
      try omega
    · have e1 : frm 7 = ⟨true, true, true, false, true⟩ := rfl
      have e2 : shpAt 7 = ⟨⟨#[109, 117, 108]⟩, 1, 3, 3, 0⟩ := rfl
      have e3 : isC 7 = true := rfl
      unfold refOp isOpB
      simp only [e1, e2, e3]
      rw [Bool.eq_iff_iff]
      simp [bad2, bad5, bad7, bad9, bad11, mostI, fin27, inB, bnd, rowR, rowLen, blw]
      try omega
    · have e1 : frm 8 = ⟨true, true, true, false, true⟩ := rfl
      have e2 : shpAt 8 = ⟨⟨#[119, 97, 100, 100]⟩, 1, 3, 3, 0⟩ := rfl
      have e3 : isC 8 = true := rfl
      unfold refOp isOpB
      simp only [e1, e2, e3]
      rw [Bool.eq_iff_iff]
      simp [bad2, bad5, bad7, bad9, bad11, mostI, fin27, inB, bnd, rowR, rowLen, blw]
      try omega
    · have e1 : frm 9 = ⟨true, true, true, false, true⟩ := rfl
      have e2 : shpAt 9 = ⟨⟨#[119, 115, 117, 98]⟩, 1, 3, 3, 0⟩ := rfl
      have e3 : isC 9 = true := rfl
      unfold refOp isOpB
      simp only [e1, e2, e3]
      rw [Bool.eq_iff_iff]
      simp [bad2, bad5, bad7, bad9, bad11, mostI, fin27, inB, bnd, rowR, rowLen, blw]
      try omega
    · have e1 : frm 10 = ⟨true, true, true, false, true⟩ := rfl
      have e2 : shpAt 10 = ⟨⟨#[119, 109, 117, 108]⟩, 1, 3, 3, 0⟩ := rfl
      have e3 : isC 10 = true := rfl
      unfold refOp isOpB
      simp only [e1, e2, e3]
      rw [Bool.eq_iff_iff]
      simp [bad2, bad5, bad7, bad9, bad11, mostI, fin27, inB, bnd, rowR, rowLen, blw]
      try omega
    · have e1 : frm 11 = ⟨true, true, true, false, true⟩ := rfl
      have e2 : shpAt 11 = ⟨⟨#[100, 105, 118]⟩, 1, 3, 3, 0⟩ := rfl
      have e3 : isC 11 = true := rfl
      unfold refOp isOpB
      simp only [e1, e2, e3]
      rw [Bool.eq_iff_iff]
      simp [bad2, bad5, bad7, bad9, bad11, mostI, fin27, inB, bnd, rowR, rowLen, blw]
      try omega
    · have e1 : frm 12 = ⟨true, true, true, false, true⟩ := rfl
      have e2 : shpAt 12 = ⟨⟨#[109, 111, 100]⟩, 1, 3, 3, 0⟩ := rfl
      have e3 : isC 12 = true := rfl
      unfold refOp isOpB
      simp only [e1, e2, e3]
      rw [Bool.eq_iff_iff]
      simp [bad2, bad5, bad7, bad9, bad11, mostI, fin27, inB, bnd, rowR, rowLen, blw]
      try omega
    · have e1 : frm 13 = ⟨true, true, true, false, true⟩ := rfl
      have e2 : shpAt 13 = ⟨⟨#[99, 97, 116]⟩, 1, 3, 3, 0⟩ := rfl
      have e3 : isC 13 = true := rfl
      unfold refOp isOpB
      simp only [e1, e2, e3]
      rw [Bool.eq_iff_iff]
      simp [bad2, bad5, bad7, bad9, bad11, mostI, fin27, inB, bnd, rowR, rowLen, blw]
      try omega
    · have e1 : frm 14 = ⟨true, true, true, false, true⟩ := rfl
      have e2 : shpAt 14 = ⟨⟨#[101, 113]⟩, 1, 3, 3, 0⟩ := rfl
      have e3 : isC 14 = true := rfl
      unfold refOp isOpB
      simp only [e1, e2, e3]
      rw [Bool.eq_iff_iff]
      simp [bad2, bad5, bad7, bad9, bad11, mostI, fin27, inB, bnd, rowR, rowLen, blw]
      try omega
    · have e1 : frm 15 = ⟨true, true, true, false, true⟩ := rfl
      have e2 : shpAt 15 = ⟨⟨#[110, 101]⟩, 1, 3, 3, 0⟩ := rfl
      have e3 : isC 15 = true := rfl
      unfold refOp isOpB
      simp only [e1, e2, e3]
      rw [Bool.eq_iff_iff]
      simp [bad2, bad5, bad7, bad9, bad11, mostI, fin27, inB, bnd, rowR, rowLen, blw]
      try omega
    · have e1 : frm 16 = ⟨true, true, true, false, true⟩ := rfl
      have e2 : shpAt 16 = ⟨⟨#[108, 116]⟩, 1, 3, 3, 0⟩ := rfl
      have e3 : isC 16 = true := rfl
      unfold refOp isOpB
      simp only [e1, e2, e3]
      rw [Bool.eq_iff_iff]
      simp [bad2, bad5, bad7, bad9, bad11, mostI, fin27, inB, bnd, rowR, rowLen, blw]
      try omega
    · have e1 : frm 17 = ⟨true, true, true, false, true⟩ := rfl
      have e2 : shpAt 17 = ⟨⟨#[108, 101]⟩, 1, 3, 3, 0⟩ := rfl
      have e3 : isC 17 = true := rfl
      unfold refOp isOpB
      simp only [e1, e2, e3]
      rw [Bool.eq_iff_iff]
      simp [bad2, bad5, bad7, bad9, bad11, mostI, fin27, inB, bnd, rowR, rowLen, blw]
      try omega
    · have e1 : frm 18 = ⟨true, true, true, false, true⟩ := rfl
      have e2 : shpAt 18 = ⟨⟨#[103, 116]⟩, 1, 3, 3, 0⟩ := rfl
      have e3 : isC 18 = true := rfl
      unfold refOp isOpB
      simp only [e1, e2, e3]
      rw [Bool.eq_iff_iff]
      simp [bad2, bad5, bad7, bad9, bad11, mostI, fin27, inB, bnd, rowR, rowLen, blw]
      try omega
    · have e1 : frm 19 = ⟨true, true, true, false, true⟩ := rfl
      have e2 : shpAt 19 = ⟨⟨#[103, 101]⟩, 1, 3, 3, 0⟩ := rfl
      have e3 : isC 19 = true := rfl
      unfold refOp isOpB
      simp only [e1, e2, e3]
      rw [Bool.eq_iff_iff]
      simp [bad2, bad5, bad7, bad9, bad11, mostI, fin27, inB, bnd, rowR, rowLen, blw]
      try omega
    · have e1 : frm 20 = ⟨true, true, false, false, true⟩ := rfl
      have e2 : shpAt 20 = ⟨⟨#[110, 101, 103]⟩, 1, 3, 0, 0⟩ := rfl
      have e3 : isC 20 = true := rfl
      unfold refOp isOpB
      simp only [e1, e2, e3]
      rw [Bool.eq_iff_iff]
      simp [bad2, bad5, bad7, bad9, bad11, mostI, fin27, inB, bnd, rowR, rowLen, blw]
      try omega
    · have e1 : frm 21 = ⟨true, true, false, false, true⟩ := rfl
      have e2 : shpAt 21 = ⟨⟨#[110, 111, 116]⟩, 1, 3, 0, 0⟩ := rfl
      have e3 : isC 21 = true := rfl
      unfold refOp isOpB
      simp only [e1, e2, e3]
      rw [Bool.eq_iff_iff]
      simp [bad2, bad5, bad7, bad9, bad11, mostI, fin27, inB, bnd, rowR, rowLen, blw]
      try omega
    · have e1 : frm 22 = ⟨true, true, false, false, true⟩ := rfl
      have e2 : shpAt 22 = ⟨⟨#[108, 101, 110]⟩, 1, 3, 0, 0⟩ := rfl
      have e3 : isC 22 = true := rfl
      unfold refOp isOpB
      simp only [e1, e2, e3]
      rw [Bool.eq_iff_iff]
      simp [bad2, bad5, bad7, bad9, bad11, mostI, fin27, inB, bnd, rowR, rowLen, blw]
      try omega
    · have e1 : frm 23 = ⟨true, true, false, false, true⟩ := rfl
      have e2 : shpAt 23 = ⟨⟨#[115, 116, 114]⟩, 1, 3, 0, 0⟩ := rfl
      have e3 : isC 23 = true := rfl
      unfold refOp isOpB
      simp only [e1, e2, e3]
      rw [Bool.eq_iff_iff]
      simp [bad2, bad5, bad7, bad9, bad11, mostI, fin27, inB, bnd, rowR, rowLen, blw]
      try omega
    · have e1 : frm 24 = ⟨true, true, false, true, true⟩ := rfl
      have e2 : shpAt 24 = ⟨⟨#[109, 97, 107, 101]⟩, 1, 5, 0, 9⟩ := rfl
      have e3 : isC 24 = true := rfl
      unfold refOp isOpB
      simp only [e1, e2, e3]
      rw [Bool.eq_iff_iff]
      cases hb : blw ok (c.p.recs.length : Int) with
      | false =>
        have hb' : ¬ (0 ≤ ok ∧ ok < (c.p.recs.length : Int)) := by rw [← blw_iff, hb]; simp
        simp [bad2, bad5, bad7, bad9, bad11, mostI, fin27, inB, bnd, rowR, rowLen, hb]
        omega
      | true =>
        have hb' : 0 ≤ ok ∧ ok < (c.p.recs.length : Int) := by rw [← blw_iff, hb]
        have hg := getD_len hr ok.toNat
        simp only [rowR, rowLen, hb, if_true, hg]
        generalize (((c.p.recs.map (·.2)).getD ok.toNat rc0).fields.length : Int) = m at *
        have hm : True := trivial
        simp [bad2, bad5, bad7, bad9, bad11, mostI, fin27, inB, bnd]
        omega
    · have e1 : frm 25 = ⟨true, true, false, true, true⟩ := rfl
      have e2 : shpAt 25 = ⟨⟨#[102, 105, 101, 108, 100]⟩, 1, 3, 0, 10⟩ := rfl
      have e3 : isC 25 = true := rfl
      unfold refOp isOpB
      simp only [e1, e2, e3]
      rw [Bool.eq_iff_iff]
      simp [bad2, bad5, bad7, bad9, bad11, mostI, fin27, inB, bnd, rowR, rowLen, blw]
      try omega
    · have e1 : frm 26 = ⟨true, true, false, true, true⟩ := rfl
      have e2 : shpAt 26 = ⟨⟨#[103, 101, 116]⟩, 1, 3, 0, 11⟩ := rfl
      have e3 : isC 26 = true := rfl
      unfold refOp isOpB
      simp only [e1, e2, e3]
      rw [Bool.eq_iff_iff]
      simp [bad2, bad5, bad7, bad9, bad11, mostI, fin27, inB, bnd, rowR, rowLen, blw]
      try omega
    · have e1 : frm 27 = ⟨true, true, false, true, true⟩ := rfl
      have e2 : shpAt 27 = ⟨⟨#[104, 97, 115]⟩, 1, 3, 0, 11⟩ := rfl
      have e3 : isC 27 = true := rfl
      unfold refOp isOpB
      simp only [e1, e2, e3]
      rw [Bool.eq_iff_iff]
      simp [bad2, bad5, bad7, bad9, bad11, mostI, fin27, inB, bnd, rowR, rowLen, blw]
      try omega
    · have e1 : frm 28 = ⟨false, true, true, true, true⟩ := rfl
      have e2 : shpAt 28 = ⟨⟨#[112, 117, 116]⟩, 0, 3, 3, 11⟩ := rfl
      have e3 : isC 28 = true := rfl
      unfold refOp isOpB
      simp only [e1, e2, e3]
      rw [Bool.eq_iff_iff]
      simp [bad2, bad5, bad7, bad9, bad11, mostI, fin27, inB, bnd, rowR, rowLen, blw]
      try omega
    · have e1 : frm 29 = ⟨false, true, false, true, true⟩ := rfl
      have e2 : shpAt 29 = ⟨⟨#[100, 101, 108]⟩, 0, 3, 0, 11⟩ := rfl
      have e3 : isC 29 = true := rfl
      unfold refOp isOpB
      simp only [e1, e2, e3]
      rw [Bool.eq_iff_iff]
      simp [bad2, bad5, bad7, bad9, bad11, mostI, fin27, inB, bnd, rowR, rowLen, blw]
      try omega
    · have e1 : frm 30 = ⟨true, true, true, true, true⟩ := rfl
      have e2 : shpAt 30 = ⟨⟨#[110, 101, 120, 116]⟩, 1, 3, 3, 11⟩ := rfl
      have e3 : isC 30 = true := rfl
      unfold refOp isOpB
      simp only [e1, e2, e3]
      rw [Bool.eq_iff_iff]
      simp [bad2, bad5, bad7, bad9, bad11, mostI, fin27, inB, bnd, rowR, rowLen, blw]
      try omega
    · have e1 : frm 31 = ⟨true, true, false, true, true⟩ := rfl
      have e2 : shpAt 31 = ⟨⟨#[99, 97, 108, 108]⟩, 2, 5, 0, 12⟩ := rfl
      have e3 : isC 31 = true := rfl
      unfold refOp isOpB
      simp only [e1, e2, e3]
      rw [Bool.eq_iff_iff]
      cases hb : blw ok (c.p.funcs.length : Int) with
      | false =>
        have hb' : ¬ (0 ≤ ok ∧ ok < (c.p.funcs.length : Int)) := by rw [← blw_iff, hb]; simp
        simp [bad2, bad5, bad7, bad9, bad11, mostI, fin27, inB, bnd, rowR, rowLen, hb]
        omega
      | true =>
        have hb' : 0 ≤ ok ∧ ok < (c.p.funcs.length : Int) := by rw [← blw_iff, hb]
        have hm := parmN (c.p.funcs.map (·.2)) ok
        simp [rowR, rowLen, hb]
        generalize (parmB (c.p.funcs.map (·.2)) ok).1 = m at *
        simp [bad2, bad5, bad7, bad9, bad11, mostI, fin27, inB, bnd]
        omega
    · have e1 : frm 32 = ⟨true, true, false, true, true⟩ := rfl
      have e2 : shpAt 32 = ⟨⟨#[97, 115, 107]⟩, 1, 3, 0, 7⟩ := rfl
      have e3 : isC 32 = true := rfl
      unfold refOp isOpB
      simp only [e1, e2, e3]
      rw [Bool.eq_iff_iff]
      simp [bad2, bad5, bad7, bad9, bad11, mostI, fin27, inB, bnd, rowR, rowLen, blw]
      try omega
    · have e1 : frm 33 = ⟨false, true, false, false, true⟩ := rfl
      have e2 : shpAt 33 = ⟨⟨#[101, 109, 105, 116]⟩, 0, 3, 0, 0⟩ := rfl
      have e3 : isC 33 = true := rfl
      unfold refOp isOpB
      simp only [e1, e2, e3]
      rw [Bool.eq_iff_iff]
      simp [bad2, bad5, bad7, bad9, bad11, mostI, fin27, inB, bnd, rowR, rowLen, blw]
      try omega
    · have e1 : frm 34 = ⟨false, true, true, true, true⟩ := rfl
      have e2 : shpAt 34 = ⟨⟨#[97, 102, 116, 101, 114]⟩, 0, 3, 5, 13⟩ := rfl
      have e3 : isC 34 = true := rfl
      unfold refOp isOpB
      simp only [e1, e2, e3]
      rw [Bool.eq_iff_iff]
      cases hb : blw ok (c.p.events.length : Int) with
      | false =>
        have hb' : ¬ (0 ≤ ok ∧ ok < (c.p.events.length : Int)) := by rw [← blw_iff, hb]; simp
        simp [bad2, bad5, bad7, bad9, bad11, mostI, fin27, inB, bnd, rowR, rowLen, hb]
        omega
      | true =>
        have hb' : 0 ≤ ok ∧ ok < (c.p.events.length : Int) := by rw [← blw_iff, hb]
        have hm := parmN (c.p.events.map (·.2)) ok
        simp [rowR, rowLen, hb]
        generalize (parmB (c.p.events.map (·.2)) ok).1 = m at *
        simp [bad2, bad5, bad7, bad9, bad11, mostI, fin27, inB, bnd]
        omega
    · have e1 : frm 35 = ⟨false, false, false, false, true⟩ := rfl
      have e2 : shpAt 35 = ⟨⟨#[99, 104, 97, 114, 103, 101]⟩, 0, 0, 0, 0⟩ := rfl
      have e3 : isC 35 = true := rfl
      unfold refOp isOpB
      simp only [e1, e2, e3]
      rw [Bool.eq_iff_iff]
      simp [bad2, bad5, bad7, bad9, bad11, mostI, fin27, inB, bnd, rowR, rowLen, blw]
      try omega
    · have e1 : frm 36 = ⟨false, false, false, false, true⟩ := rfl
      have e2 : shpAt 36 = ⟨⟨#[101, 110, 116, 101, 114]⟩, 0, 0, 0, 0⟩ := rfl
      have e3 : isC 36 = true := rfl
      unfold refOp isOpB
      simp only [e1, e2, e3]
      rw [Bool.eq_iff_iff]
      simp [bad2, bad5, bad7, bad9, bad11, mostI, fin27, inB, bnd, rowR, rowLen, blw]
      try omega
    · have e1 : frm 37 = ⟨false, false, false, false, true⟩ := rfl
      have e2 : shpAt 37 = ⟨⟨#[108, 101, 97, 118, 101]⟩, 0, 0, 0, 0⟩ := rfl
      have e3 : isC 37 = true := rfl
      unfold refOp isOpB
      simp only [e1, e2, e3]
      rw [Bool.eq_iff_iff]
      simp [bad2, bad5, bad7, bad9, bad11, mostI, fin27, inB, bnd, rowR, rowLen, blw]
      try omega
    · have e1 : frm 38 = ⟨false, false, false, true, true⟩ := rfl
      have e2 : shpAt 38 = ⟨⟨#[106, 117, 109, 112]⟩, 0, 0, 0, 14⟩ := rfl
      have e3 : isC 38 = true := rfl
      unfold refOp isOpB
      simp only [e1, e2, e3]
      rw [Bool.eq_iff_iff]
      simp [bad2, bad5, bad7, bad9, bad11, mostI, fin27, inB, bnd, rowR, rowLen, blw]
      try omega
    · have e1 : frm 39 = ⟨false, true, false, true, true⟩ := rfl
      have e2 : shpAt 39 = ⟨⟨#[117, 110, 108, 101, 115, 115]⟩, 0, 3, 0, 14⟩ := rfl
      have e3 : isC 39 = true := rfl
      unfold refOp isOpB
      simp only [e1, e2, e3]
      rw [Bool.eq_iff_iff]
      simp [bad2, bad5, bad7, bad9, bad11, mostI, fin27, inB, bnd, rowR, rowLen, blw]
      try omega
    · have e1 : frm 40 = ⟨false, true, false, false, true⟩ := rfl
      have e2 : shpAt 40 = ⟨⟨#[114, 101, 116]⟩, 0, 4, 0, 0⟩ := rfl
      have e3 : isC 40 = true := rfl
      unfold refOp isOpB
      simp only [e1, e2, e3]
      rw [Bool.eq_iff_iff]
      simp [bad2, bad5, bad7, bad9, bad11, mostI, fin27, inB, bnd, rowR, rowLen, blw]
      try omega
theorem fnEq (c : Cx) (hr : RcLn c.p) (pn : Nat) (f : Fx) : refFnB c pn f = isFnB c pn f := by
  unfold refFnB isFnB
  by_cases h : f.regs < (pn : Int)
  · simp [h]
  · have h0 : 0 ≤ f.regs := by omega
    congr 1
    refine Bool.eq_iff_iff.2 ?_
    simp only [List.all_eq_true]
    exact ⟨fun hh o ho => by rw [← opEq c hr f.regs h0]; exact hh o ho, fun hh o ho => by rw [opEq c hr f.regs h0]; exact hh o ho⟩
theorem fnsEq (c : Cx) (hr : RcLn c.p) (gs : List (GH × Sg)) (fs : List (FH × Fx)) (hg : ∀ p ∈ gs, p.1.pn = p.2.params.length) : refFnsB c gs fs = (decide (fs.length = gs.length) && isFnsB c (gs.map (·.2)) (fs.map (·.2))) := by
  unfold refFnsB
  by_cases hl : fs.length = gs.length
  · simp only [hl, decide_true, Bool.true_and]
    rw [zip_all hg]
    refine Bool.eq_iff_iff.2 ?_
    simp only [List.all_eq_true]
    constructor
    · intro h z hz
      obtain ⟨j, hj, hz2⟩ := List.mem_iff_getElem.1 hz
      have hj2 : j < gs.length := by rw [List.length_zip] at hj; omega
      have := h j (List.mem_range.2 hj2)
      unfold okAtZ at this
      rw [List.getElem?_eq_getElem hj2, List.getElem?_eq_getElem (show j < fs.length by omega)] at this
      rw [← hz2, List.getElem_zip]
      rw [← fnEq c hr]; exact this
    · intro h j hj
      have hj2 : j < gs.length := List.mem_range.1 hj
      unfold okAtZ
      rw [List.getElem?_eq_getElem hj2, List.getElem?_eq_getElem (show j < fs.length by omega)]
      have := h (gs[j], fs[j]'(by omega)) (List.mem_iff_getElem.2 ⟨j, by rw [List.length_zip]; omega, by rw [List.getElem_zip]⟩)
      simp only at this ⊢
      rw [fnEq c hr]; exact this
  · simp [hl]
theorem isEq {w : World} {C : CH} {c : Cx} {fs es : List (FH × Fx)} (d : CdRd w C c fs es) : refIsB c fs es = isB c := by
  unfold refIsB isB
  cases hr : rightB c.p with
  | false => simp
  | true =>
    have hl := rcLn_of hr
    rw [fnsEq c hl _ _ (fun p hp => (d.p.f.el p hp).pn), fnsEq c hl _ _ (fun p hp => (d.p.e.el p hp).pn)]
    rw [← d.fe, ← d.ee, List.length_map, List.length_map]
    unfold constB shortB
    refine Bool.eq_iff_iff.2 ?_
    simp only [Bool.and_eq_true]
    constructor
    · rintro ⟨⟨⟨⟨⟨h1, h2⟩, h3⟩, h4⟩, h5, h6⟩, h7, h8⟩
      exact ⟨⟨⟨⟨⟨h1, ⟨h2, h3⟩, h4⟩, h5⟩, h7⟩, h6⟩, h8⟩
    · rintro ⟨⟨⟨⟨⟨h1, ⟨h2, h3⟩, h4⟩, h5⟩, h7⟩, h6⟩, h8⟩
      exact ⟨⟨⟨⟨⟨h1, h2⟩, h3⟩, h4⟩, h5, h6⟩, h7, h8⟩
end Go.Proofs.YthnolocldeokeaaGreat

namespace Go.Proofs.YthnolocldeokeaaGreat
open Go.RowKit Go.Deep Go.Shelf
set_option linter.unusedVariables false
set_option linter.unusedSimpArgs false
/- A unit has the cells of a code: graphs stand where functions do. -/
def zeroC : Value := .agg #[.slice none 0 0, .slice none 0 0, .slice none 0 0, .slice none 0 0, .slice none 0 0, .slice none 0 0, .slice none 0 0, .slice none 0 0]
def eight (w : World) (b : Nat) (x0 x1 x2 x3 x4 x5 x6 x7 : Value) : World := (((((((w.setCell ⟨b, 0, none⟩ x0).setCell ⟨b, 1, none⟩ x1).setCell ⟨b, 2, none⟩ x2).setCell ⟨b, 3, none⟩ x3).setCell ⟨b, 4, none⟩ x4).setCell ⟨b, 5, none⟩ x5).setCell ⟨b, 6, none⟩ x6).setCell ⟨b, 7, none⟩ x7
theorem eight_new {w : World} {b : Nat} {p0 p1 p2 p3 p4 p5 p6 p7 : Value} {t : TypeId} (h : w.heap[b]? = some (.cells #[p0, p1, p2, p3, p4, p5, p6, p7] t (0, 0))) (x0 x1 x2 x3 x4 x5 x6 x7 : Value) : (eight w b x0 x1 x2 x3 x4 x5 x6 x7).heap[b]? = some (.cells #[x0, x1, x2, x3, x4, x5, x6, x7] t (0, 0)) := by
  have h0 := heap_set_at h 0 x0
  simp only [List.setIfInBounds_toArray, List.set_cons_zero, List.set_cons_succ] at h0
  have h1 := heap_set_at h0 1 x1
  simp only [List.setIfInBounds_toArray, List.set_cons_zero, List.set_cons_succ] at h1
  have h2 := heap_set_at h1 2 x2
  simp only [List.setIfInBounds_toArray, List.set_cons_zero, List.set_cons_succ] at h2
  have h3 := heap_set_at h2 3 x3
  simp only [List.setIfInBounds_toArray, List.set_cons_zero, List.set_cons_succ] at h3
  have h4 := heap_set_at h3 4 x4
  simp only [List.setIfInBounds_toArray, List.set_cons_zero, List.set_cons_succ] at h4
  have h5 := heap_set_at h4 5 x5
  simp only [List.setIfInBounds_toArray, List.set_cons_zero, List.set_cons_succ] at h5
  have h6 := heap_set_at h5 6 x6
  simp only [List.setIfInBounds_toArray, List.set_cons_zero, List.set_cons_succ] at h6
  have h7 := heap_set_at h6 7 x7
  simp only [List.setIfInBounds_toArray, List.set_cons_zero, List.set_cons_succ] at h7
  exact h7
theorem eight_below {B : Nat} {w0 w : World} (hb : Below B w0 w) {b : Nat} (hB : B ≤ b) (x0 x1 x2 x3 x4 x5 x6 x7 : Value) : Below B w0 (eight w b x0 x1 x2 x3 x4 x5 x6 x7) := by
  unfold eight
  exact (((((((hb.setCell hB _).setCell hB _).setCell hB _).setCell hB _).setCell hB _).setCell hB _).setCell hB _).setCell hB _
theorem eight_other (w : World) (b : Nat) (x0 x1 x2 x3 x4 x5 x6 x7 : Value) {g : Nat} (hg : g ≠ b) : (eight w b x0 x1 x2 x3 x4 x5 x6 x7).heap[g]? = w.heap[g]? := by
  unfold eight
  rw [Below.heap_setCell _ ⟨b, 7, none⟩ _ _ (show g ≠ (⟨b, 7, none⟩ : Addr).block from hg)]
  rw [Below.heap_setCell _ ⟨b, 6, none⟩ _ _ (show g ≠ (⟨b, 6, none⟩ : Addr).block from hg)]
  rw [Below.heap_setCell _ ⟨b, 5, none⟩ _ _ (show g ≠ (⟨b, 5, none⟩ : Addr).block from hg)]
  rw [Below.heap_setCell _ ⟨b, 4, none⟩ _ _ (show g ≠ (⟨b, 4, none⟩ : Addr).block from hg)]
  rw [Below.heap_setCell _ ⟨b, 3, none⟩ _ _ (show g ≠ (⟨b, 3, none⟩ : Addr).block from hg)]
  rw [Below.heap_setCell _ ⟨b, 2, none⟩ _ _ (show g ≠ (⟨b, 2, none⟩ : Addr).block from hg)]
  rw [Below.heap_setCell _ ⟨b, 1, none⟩ _ _ (show g ≠ (⟨b, 1, none⟩ : Addr).block from hg)]
  rw [Below.heap_setCell _ ⟨b, 0, none⟩ _ _ (show g ≠ (⟨b, 0, none⟩ : Addr).block from hg)]
theorem FnsN.above {w w' : World} {B : Nat} {v : Value} {l : List Fx} (h : FnsN w B v l) (e : ∀ g, B ≤ g → g < w.heap.size → w'.heap[g]? = w.heap[g]?) : FnsN w' B v l := by
  obtain ⟨fs, h1, h2, h3⟩ := h
  refine ⟨fs, h1, h2.keep fun g hg => e g (h2.own hg).1 (h2.own hg).2, fun p hp => ⟨(h3 p hp).rg, (h3 p hp).op.keep fun b hb => ?_⟩⟩
  have h4 := (h3 p hp).op.2
  rcases h4 with ⟨e1, _⟩ | ⟨b', cap, cur, e1, h5, h6, _⟩
  · rw [e1] at hb; cases hb
  · rw [e1] at hb
    cases hb
    exact e b' h5 (lt_of_heap h6)
/- Either answer of fns in one form. -/
theorem cell_eight {w : World} {b : Nat} {x0 x1 x2 x3 x4 x5 x6 x7 : Value} {t : TypeId} (g : w.heap[b]? = some (.cells #[x0, x1, x2, x3, x4, x5, x6, x7] t (0, 0))) : w.cell? ⟨b, 0, none⟩ = some x0 ∧ w.cell? ⟨b, 1, none⟩ = some x1 ∧ w.cell? ⟨b, 2, none⟩ = some x2 ∧ w.cell? ⟨b, 3, none⟩ = some x3 ∧ w.cell? ⟨b, 4, none⟩ = some x4 ∧ w.cell? ⟨b, 5, none⟩ = some x5 ∧ w.cell? ⟨b, 6, none⟩ = some x6 ∧ w.cell? ⟨b, 7, none⟩ = some x7 := ⟨cellOf g 0, cellOf g 1, cellOf g 2, cellOf g 3, cellOf g 4, cellOf g 5, cellOf g 6, cellOf g 7⟩
theorem free_eight {w : World} {b : Nat} {c : Array Value} {t : TypeId} (g : w.heap[b]? = some (.cells c t (0, 0))) : w.frozen? ⟨b, 0, none⟩ = false ∧ w.frozen? ⟨b, 1, none⟩ = false ∧ w.frozen? ⟨b, 2, none⟩ = false ∧ w.frozen? ⟨b, 3, none⟩ = false ∧ w.frozen? ⟨b, 4, none⟩ = false ∧ w.frozen? ⟨b, 5, none⟩ = false ∧ w.frozen? ⟨b, 6, none⟩ = false ∧ w.frozen? ⟨b, 7, none⟩ = false := ⟨freeOf g 0, freeOf g 1, freeOf g 2, freeOf g 3, freeOf g 4, freeOf g 5, freeOf g 6, freeOf g 7⟩
end Go.Proofs.YthnolocldeokeaaGreat

