/- Both sides' Is are one. -/
import Derived.Test.YthnolocldeokeaaGreatJAJ
namespace Go.Proofs.YthnolocldeokeaaGreat
open Go.RowKit Go.Deep Go.Shelf
set_option linter.unusedVariables false
set_option linter.unusedSimpArgs false
theorem isC_cases {k : Int} (h : isC k = true) : k = 1 ∨ k = 2 ∨ k = 3 ∨ k = 4 ∨ k = 5 ∨ k = 6 ∨ k = 7 ∨ k = 8 ∨ k = 9 ∨ k = 10 ∨ k = 11 ∨ k = 12 ∨ k = 13 ∨ k = 14 ∨ k = 15 ∨ k = 16 ∨ k = 17 ∨ k = 18 ∨ k = 19 ∨ k = 20 ∨ k = 21 ∨ k = 22 ∨ k = 23 ∨ k = 24 ∨ k = 25 ∨ k = 26 ∨ k = 27 ∨ k = 28 ∨ k = 29 ∨ k = 30 ∨ k = 31 ∨ k = 32 ∨ k = 33 ∨ k = 34 ∨ k = 35 ∨ k = 36 ∨ k = 37 ∨ k = 38 ∨ k = 39 ∨ k = 40 := by
  unfold isC at h
  simp at h
  omega
theorem frm_no {k : Int} (h : isC k = false) : (frm k).ok = false := by
  unfold isC at h
  simp at h
  unfold frm
  repeat (rw [if_neg (by omega)])
def RcLn (p : Pg) : Prop := ∀ r ∈ p.recs, r.2.fields.length = r.2.types.length
theorem rcLn_of {p : Pg} (h : rightB p = true) : RcLn p := fun r hr => by
  unfold rightB recordsB at h
  simp only [Bool.and_eq_true, List.all_eq_true] at h
  have := h.1.1.1.1.1.2 r.2 (List.mem_map.2 ⟨r, hr, rfl⟩)
  unfold fieldsB at this
  simp only [Bool.and_eq_true, decide_eq_true_eq] at this
  exact this.1.1.2
theorem getD_len {p : Pg} (h : RcLn p) (k : Nat) : (((p.recs.map (·.2)).getD k rc0).types.length : Int) = (((p.recs.map (·.2)).getD k rc0).fields.length : Int) := by
  rw [List.getD_eq_getElem?_getD, List.getElem?_map]
  cases hk : p.recs[k]? with
  | none => rfl
  | some r => simp only [Option.map_some, Option.getD_some]; rw [h r (List.mem_of_getElem? hk)]
theorem parmN (ss : List Sg) (k : Int) : 0 ≤ (parmB ss k).1 := by
  unfold parmB
  split
  · simp only; omega
  · simp
theorem blw_iff (k c : Int) : (blw k c = true) = (0 ≤ k ∧ k < c) := by simp [blw]
set_option maxHeartbeats 4000000 in
theorem opEq (c : Cx) (hr : RcLn c.p) (regs : Int) (h0 : 0 ≤ regs) (n : Nat) (o : Opx) : refOp c regs n o = isOpB c regs n o := by
  obtain ⟨oc, od, oa, ob, ok⟩ := o
  cases hc : isC oc with
  | false =>
    have e := frm_no hc
    unfold refOp isOpB
    simp only [e, hc]
    simp [bad2]
  | true =>
    rcases isC_cases hc with rfl | rfl | rfl | rfl | rfl | rfl | rfl | rfl | rfl | rfl | rfl | rfl | rfl | rfl | rfl | rfl | rfl | rfl | rfl | rfl | rfl | rfl | rfl | rfl | rfl | rfl | rfl | rfl | rfl | rfl | rfl | rfl | rfl | rfl | rfl | rfl | rfl | rfl | rfl | rfl
    · have e1 : frm 1 = ⟨true, false, false, true, true⟩ := rfl
      have e2 : shpAt 1 = ⟨⟨#[105, 110, 116]⟩, 1, 0, 0, 6⟩ := rfl
      have e3 : isC 1 = true := rfl
      unfold refOp isOpB
      simp only [e1, e2, e3]
      rw [Bool.eq_iff_iff]
      simp [bad2, bad5, bad7, bad9, bad11, mostI, fin27, inB, bnd, rowR, rowLen, blw]
      try omega
    · have e1 : frm 2 = ⟨true, false, false, true, true⟩ := rfl
      have e2 : shpAt 2 = ⟨⟨#[116, 101, 120, 116]⟩, 1, 0, 0, 7⟩ := rfl
      have e3 : isC 2 = true := rfl
      unfold refOp isOpB
      simp only [e1, e2, e3]
      rw [Bool.eq_iff_iff]
      simp [bad2, bad5, bad7, bad9, bad11, mostI, fin27, inB, bnd, rowR, rowLen, blw]
      try omega
    · have e1 : frm 3 = ⟨true, false, false, true, true⟩ := rfl
      have e2 : shpAt 3 = ⟨⟨#[98, 111, 111, 108]⟩, 1, 0, 0, 8⟩ := rfl
      have e3 : isC 3 = true := rfl
      unfold refOp isOpB
      simp only [e1, e2, e3]
      rw [Bool.eq_iff_iff]
      simp [bad2, bad5, bad7, bad9, bad11, mostI, fin27, inB, bnd, rowR, rowLen, blw]
      try omega
    · have e1 : frm 4 = ⟨true, true, false, false, true⟩ := rfl
      have e2 : shpAt 4 = ⟨⟨#[109, 111, 118, 101]⟩, 1, 3, 0, 0⟩ := rfl
      have e3 : isC 4 = true := rfl
      unfold refOp isOpB
      simp only [e1, e2, e3]
      rw [Bool.eq_iff_iff]
      simp [bad2, bad5, bad7, bad9, bad11, mostI, fin27, inB, bnd, rowR, rowLen, blw]
      try omega
    · have e1 : frm 5 = ⟨true, true, true, false, true⟩ := rfl
      have e2 : shpAt 5 = ⟨⟨#[97, 100, 100]⟩, 1, 3, 3, 0⟩ := rfl
      have e3 : isC 5 = true := rfl
      unfold refOp isOpB
      simp only [e1, e2, e3]
      rw [Bool.eq_iff_iff]
      simp [bad2, bad5, bad7, bad9, bad11, mostI, fin27, inB, bnd, rowR, rowLen, blw]
      try omega
    · have e1 : frm 6 = ⟨true, true, true, false, true⟩ := rfl
      have e2 : shpAt 6 = ⟨⟨#[115, 117, 98]⟩, 1, 3, 3, 0⟩ := rfl
      have e3 : isC 6 = true := rfl
      unfold refOp isOpB
      simp only [e1, e2, e3]
      rw [Bool.eq_iff_iff]
      simp [bad2, bad5, bad7, bad9, bad11, mostI, fin27, inB, bnd, rowR, rowLen, blw]
      try omega
    · have e1 : frm 7 = ⟨true, true, true, false, true⟩ := rfl
      have e2 : shpAt 7 = ⟨⟨#[109, 117, 108]⟩, 1, 3, 3, 0⟩ := rfl
      have e3 : isC 7 = true := rfl
      unfold refOp isOpB
      simp only [e1, e2, e3]
      rw [Bool.eq_iff_iff]
      simp [bad2, bad5, bad7, bad9, bad11, mostI, fin27, inB, bnd, rowR, rowLen, blw]
      try omega
    · have e1 : frm 8 = ⟨true, true, true, false, true⟩ := rfl
      have e2 : shpAt 8 = ⟨⟨#[119, 97, 100, 100]⟩, 1, 3, 3, 0⟩ := rfl
      have e3 : isC 8 = true := rfl
      unfold refOp isOpB
      simp only [e1, e2, e3]
      rw [Bool.eq_iff_iff]
      simp [bad2, bad5, bad7, bad9, bad11, mostI, fin27, inB, bnd, rowR, rowLen, blw]
      try omega
    · have e1 : frm 9 = ⟨true, true, true, false, true⟩ := rfl
      have e2 : shpAt 9 = ⟨⟨#[119, 115, 117, 98]⟩, 1, 3, 3, 0⟩ := rfl
      have e3 : isC 9 = true := rfl
      unfold refOp isOpB
      simp only [e1, e2, e3]
      rw [Bool.eq_iff_iff]
      simp [bad2, bad5, bad7, bad9, bad11, mostI, fin27, inB, bnd, rowR, rowLen, blw]
      try omega
    · have e1 : frm 10 = ⟨true, true, true, false, true⟩ := rfl
      have e2 : shpAt 10 = ⟨⟨#[119, 109, 117, 108]⟩, 1, 3, 3, 0⟩ := rfl
      have e3 : isC 10 = true := rfl
      unfold refOp isOpB
      simp only [e1, e2, e3]
      rw [Bool.eq_iff_iff]
      simp [bad2, bad5, bad7, bad9, bad11, mostI, fin27, inB, bnd, rowR, rowLen, blw]
      try omega
    · have e1 : frm 11 = ⟨true, true, true, false, true⟩ := rfl
      have e2 : shpAt 11 = ⟨⟨#[100, 105, 118]⟩, 1, 3, 3, 0⟩ := rfl
      have e3 : isC 11 = true := rfl
      unfold refOp isOpB
      simp only [e1, e2, e3]
      rw [Bool.eq_iff_iff]
      simp [bad2, bad5, bad7, bad9, bad11, mostI, fin27, inB, bnd, rowR, rowLen, blw]
      try omega
    · have e1 : frm 12 = ⟨true, true, true, false, true⟩ := rfl
      have e2 : shpAt 12 = ⟨⟨#[109, 111, 100]⟩, 1, 3, 3, 0⟩ := rfl
      have e3 : isC 12 = true := rfl
      unfold refOp isOpB
      simp only [e1, e2, e3]
      rw [Bool.eq_iff_iff]
      simp [bad2, bad5, bad7, bad9, bad11, mostI, fin27, inB, bnd, rowR, rowLen, blw]
      try omega
    · have e1 : frm 13 = ⟨true, true, true, false, true⟩ := rfl
      have e2 : shpAt 13 = ⟨⟨#[99, 97, 116]⟩, 1, 3, 3, 0⟩ := rfl
      have e3 : isC 13 = true := rfl
      unfold refOp isOpB
      simp only [e1, e2, e3]
      rw [Bool.eq_iff_iff]
      simp [bad2, bad5, bad7, bad9, bad11, mostI, fin27, inB, bnd, rowR, rowLen, blw]
      try omega
    · have e1 : frm 14 = ⟨true, true, true, false, true⟩ := rfl
      have e2 : shpAt 14 = ⟨⟨#[101, 113]⟩, 1, 3, 3, 0⟩ := rfl
      have e3 : isC 14 = true := rfl
      unfold refOp isOpB
      simp only [e1, e2, e3]
      rw [Bool.eq_iff_iff]
      simp [bad2, bad5, bad7, bad9, bad11, mostI, fin27, inB, bnd, rowR, rowLen, blw]
      try omega
    · have e1 : frm 15 = ⟨true, true, true, false, true⟩ := rfl
      have e2 : shpAt 15 = ⟨⟨#[110, 101]⟩, 1, 3, 3, 0⟩ := rfl
      have e3 : isC 15 = true := rfl
      unfold refOp isOpB
      simp only [e1, e2, e3]
      rw [Bool.eq_iff_iff]
      simp [bad2, bad5, bad7, bad9, bad11, mostI, fin27, inB, bnd, rowR, rowLen, blw]
      try omega
    · have e1 : frm 16 = ⟨true, true, true, false, true⟩ := rfl
      have e2 : shpAt 16 = ⟨⟨#[108, 116]⟩, 1, 3, 3, 0⟩ := rfl
      have e3 : isC 16 = true := rfl
      unfold refOp isOpB
      simp only [e1, e2, e3]
      rw [Bool.eq_iff_iff]
      simp [bad2, bad5, bad7, bad9, bad11, mostI, fin27, inB, bnd, rowR, rowLen, blw]
      try omega
    · have e1 : frm 17 = ⟨true, true, true, false, true⟩ := rfl
      have e2 : shpAt 17 = ⟨⟨#[108, 101]⟩, 1, 3, 3, 0⟩ := rfl
      have e3 : isC 17 = true := rfl
      unfold refOp isOpB
      simp only [e1, e2, e3]
      rw [Bool.eq_iff_iff]
      simp [bad2, bad5, bad7, bad9, bad11, mostI, fin27, inB, bnd, rowR, rowLen, blw]
      try omega
    · have e1 : frm 18 = ⟨true, true, true, false, true⟩ := rfl
      have e2 : shpAt 18 = ⟨⟨#[103, 116]⟩, 1, 3, 3, 0⟩ := rfl
      have e3 : isC 18 = true := rfl
      unfold refOp isOpB
      simp only [e1, e2, e3]
      rw [Bool.eq_iff_iff]
      simp [bad2, bad5, bad7, bad9, bad11, mostI, fin27, inB, bnd, rowR, rowLen, blw]
      try omega
    · have e1 : frm 19 = ⟨true, true, true, false, true⟩ := rfl
      have e2 : shpAt 19 = ⟨⟨#[103, 101]⟩, 1, 3, 3, 0⟩ := rfl
      have e3 : isC 19 = true := rfl
      unfold refOp isOpB
      simp only [e1, e2, e3]
      rw [Bool.eq_iff_iff]
      simp [bad2, bad5, bad7, bad9, bad11, mostI, fin27, inB, bnd, rowR, rowLen, blw]
      try omega
    · have e1 : frm 20 = ⟨true, true, false, false, true⟩ := rfl
      have e2 : shpAt 20 = ⟨⟨#[110, 101, 103]⟩, 1, 3, 0, 0⟩ := rfl
      have e3 : isC 20 = true := rfl
      unfold refOp isOpB
      simp only [e1, e2, e3]
      rw [Bool.eq_iff_iff]
      simp [bad2, bad5, bad7, bad9, bad11, mostI, fin27, inB, bnd, rowR, rowLen, blw]
      try omega
    · have e1 : frm 21 = ⟨true, true, false, false, true⟩ := rfl
      have e2 : shpAt 21 = ⟨⟨#[110, 111, 116]⟩, 1, 3, 0, 0⟩ := rfl
      have e3 : isC 21 = true := rfl
      unfold refOp isOpB
      simp only [e1, e2, e3]
      rw [Bool.eq_iff_iff]
      simp [bad2, bad5, bad7, bad9, bad11, mostI, fin27, inB, bnd, rowR, rowLen, blw]
      try omega
    · have e1 : frm 22 = ⟨true, true, false, false, true⟩ := rfl
      have e2 : shpAt 22 = ⟨⟨#[108, 101, 110]⟩, 1, 3, 0, 0⟩ := rfl
      have e3 : isC 22 = true := rfl
      unfold refOp isOpB
      simp only [e1, e2, e3]
      rw [Bool.eq_iff_iff]
      simp [bad2, bad5, bad7, bad9, bad11, mostI, fin27, inB, bnd, rowR, rowLen, blw]
      try omega
    · have e1 : frm 23 = ⟨true, true, false, false, true⟩ := rfl
      have e2 : shpAt 23 = ⟨⟨#[115, 116, 114]⟩, 1, 3, 0, 0⟩ := rfl
      have e3 : isC 23 = true := rfl
      unfold refOp isOpB
      simp only [e1, e2, e3]
      rw [Bool.eq_iff_iff]
      simp [bad2, bad5, bad7, bad9, bad11, mostI, fin27, inB, bnd, rowR, rowLen, blw]
      try omega
    · have e1 : frm 24 = ⟨true, true, false, true, true⟩ := rfl
      have e2 : shpAt 24 = ⟨⟨#[109, 97, 107, 101]⟩, 1, 5, 0, 9⟩ := rfl
      have e3 : isC 24 = true := rfl
      unfold refOp isOpB
      simp only [e1, e2, e3]
      rw [Bool.eq_iff_iff]
      cases hb : blw ok (c.p.recs.length : Int) with
      | false =>
        have hb' : ¬ (0 ≤ ok ∧ ok < (c.p.recs.length : Int)) := by rw [← blw_iff, hb]; simp
        simp [bad2, bad5, bad7, bad9, bad11, mostI, fin27, inB, bnd, rowR, rowLen, hb]
        omega
      | true =>
        have hb' : 0 ≤ ok ∧ ok < (c.p.recs.length : Int) := by rw [← blw_iff, hb]
        have hg := getD_len hr ok.toNat
        simp only [rowR, rowLen, hb, if_true, hg]
        generalize (((c.p.recs.map (·.2)).getD ok.toNat rc0).fields.length : Int) = m at *
        have hm : True := trivial
        simp [bad2, bad5, bad7, bad9, bad11, mostI, fin27, inB, bnd]
        omega
    · have e1 : frm 25 = ⟨true, true, false, true, true⟩ := rfl
      have e2 : shpAt 25 = ⟨⟨#[102, 105, 101, 108, 100]⟩, 1, 3, 0, 10⟩ := rfl
      have e3 : isC 25 = true := rfl
      unfold refOp isOpB
      simp only [e1, e2, e3]
      rw [Bool.eq_iff_iff]
      simp [bad2, bad5, bad7, bad9, bad11, mostI, fin27, inB, bnd, rowR, rowLen, blw]
      try omega
    · have e1 : frm 26 = ⟨true, true, false, true, true⟩ := rfl
      have e2 : shpAt 26 = ⟨⟨#[103, 101, 116]⟩, 1, 3, 0, 11⟩ := rfl
      have e3 : isC 26 = true := rfl
      unfold refOp isOpB
      simp only [e1, e2, e3]
      rw [Bool.eq_iff_iff]
      simp [bad2, bad5, bad7, bad9, bad11, mostI, fin27, inB, bnd, rowR, rowLen, blw]
      try omega
    · have e1 : frm 27 = ⟨true, true, false, true, true⟩ := rfl
      have e2 : shpAt 27 = ⟨⟨#[104, 97, 115]⟩, 1, 3, 0, 11⟩ := rfl
      have e3 : isC 27 = true := rfl
      unfold refOp isOpB
      simp only [e1, e2, e3]
      rw [Bool.eq_iff_iff]
      simp [bad2, bad5, bad7, bad9, bad11, mostI, fin27, inB, bnd, rowR, rowLen, blw]
      try omega
    · have e1 : frm 28 = ⟨false, true, true, true, true⟩ := rfl
      have e2 : shpAt 28 = ⟨⟨#[112, 117, 116]⟩, 0, 3, 3, 11⟩ := rfl
      have e3 : isC 28 = true := rfl
      unfold refOp isOpB
      simp only [e1, e2, e3]
      rw [Bool.eq_iff_iff]
      simp [bad2, bad5, bad7, bad9, bad11, mostI, fin27, inB, bnd, rowR, rowLen, blw]
      try omega
    · have e1 : frm 29 = ⟨false, true, false, true, true⟩ := rfl
      have e2 : shpAt 29 = ⟨⟨#[100, 101, 108]⟩, 0, 3, 0, 11⟩ := rfl
      have e3 : isC 29 = true := rfl
      unfold refOp isOpB
      simp only [e1, e2, e3]
      rw [Bool.eq_iff_iff]
      simp [bad2, bad5, bad7, bad9, bad11, mostI, fin27, inB, bnd, rowR, rowLen, blw]
      try omega
    · have e1 : frm 30 = ⟨true, true, true, true, true⟩ := rfl
      have e2 : shpAt 30 = ⟨⟨#[110, 101, 120, 116]⟩, 1, 3, 3, 11⟩ := rfl
      have e3 : isC 30 = true := rfl
      unfold refOp isOpB
      simp only [e1, e2, e3]
      rw [Bool.eq_iff_iff]
      simp [bad2, bad5, bad7, bad9, bad11, mostI, fin27, inB, bnd, rowR, rowLen, blw]
      try omega
    · have e1 : frm 31 = ⟨true, true, false, true, true⟩ := rfl
      have e2 : shpAt 31 = ⟨⟨#[99, 97, 108, 108]⟩, 2, 5, 0, 12⟩ := rfl
      have e3 : isC 31 = true := rfl
      unfold refOp isOpB
      simp only [e1, e2, e3]
      rw [Bool.eq_iff_iff]
      cases hb : blw ok (c.p.funcs.length : Int) with
      | false =>
        have hb' : ¬ (0 ≤ ok ∧ ok < (c.p.funcs.length : Int)) := by rw [← blw_iff, hb]; simp
        simp [bad2, bad5, bad7, bad9, bad11, mostI, fin27, inB, bnd, rowR, rowLen, hb]
        omega
      | true =>
        have hb' : 0 ≤ ok ∧ ok < (c.p.funcs.length : Int) := by rw [← blw_iff, hb]
        have hm := parmN (c.p.funcs.map (·.2)) ok
        simp [rowR, rowLen, hb]
        generalize (parmB (c.p.funcs.map (·.2)) ok).1 = m at *
        simp [bad2, bad5, bad7, bad9, bad11, mostI, fin27, inB, bnd]
        omega
    · have e1 : frm 32 = ⟨true, true, false, true, true⟩ := rfl
      have e2 : shpAt 32 = ⟨⟨#[97, 115, 107]⟩, 1, 3, 0, 7⟩ := rfl
      have e3 : isC 32 = true := rfl
      unfold refOp isOpB
      simp only [e1, e2, e3]
      rw [Bool.eq_iff_iff]
      simp [bad2, bad5, bad7, bad9, bad11, mostI, fin27, inB, bnd, rowR, rowLen, blw]
      try omega
    · have e1 : frm 33 = ⟨false, true, false, false, true⟩ := rfl
      have e2 : shpAt 33 = ⟨⟨#[101, 109, 105, 116]⟩, 0, 3, 0, 0⟩ := rfl
      have e3 : isC 33 = true := rfl
      unfold refOp isOpB
      simp only [e1, e2, e3]
      rw [Bool.eq_iff_iff]
      simp [bad2, bad5, bad7, bad9, bad11, mostI, fin27, inB, bnd, rowR, rowLen, blw]
      try omega
    · have e1 : frm 34 = ⟨false, true, true, true, true⟩ := rfl
      have e2 : shpAt 34 = ⟨⟨#[97, 102, 116, 101, 114]⟩, 0, 3, 5, 13⟩ := rfl
      have e3 : isC 34 = true := rfl
      unfold refOp isOpB
      simp only [e1, e2, e3]
      rw [Bool.eq_iff_iff]
      cases hb : blw ok (c.p.events.length : Int) with
      | false =>
        have hb' : ¬ (0 ≤ ok ∧ ok < (c.p.events.length : Int)) := by rw [← blw_iff, hb]; simp
        simp [bad2, bad5, bad7, bad9, bad11, mostI, fin27, inB, bnd, rowR, rowLen, hb]
        omega
      | true =>
        have hb' : 0 ≤ ok ∧ ok < (c.p.events.length : Int) := by rw [← blw_iff, hb]
        have hm := parmN (c.p.events.map (·.2)) ok
        simp [rowR, rowLen, hb]
        generalize (parmB (c.p.events.map (·.2)) ok).1 = m at *
        simp [bad2, bad5, bad7, bad9, bad11, mostI, fin27, inB, bnd]
        omega
    · have e1 : frm 35 = ⟨false, false, false, false, true⟩ := rfl
      have e2 : shpAt 35 = ⟨⟨#[99, 104, 97, 114, 103, 101]⟩, 0, 0, 0, 0⟩ := rfl
      have e3 : isC 35 = true := rfl
      unfold refOp isOpB
      simp only [e1, e2, e3]
      rw [Bool.eq_iff_iff]
      simp [bad2, bad5, bad7, bad9, bad11, mostI, fin27, inB, bnd, rowR, rowLen, blw]
      try omega
    · have e1 : frm 36 = ⟨false, false, false, false, true⟩ := rfl
      have e2 : shpAt 36 = ⟨⟨#[101, 110, 116, 101, 114]⟩, 0, 0, 0, 0⟩ := rfl
      have e3 : isC 36 = true := rfl
      unfold refOp isOpB
      simp only [e1, e2, e3]
      rw [Bool.eq_iff_iff]
      simp [bad2, bad5, bad7, bad9, bad11, mostI, fin27, inB, bnd, rowR, rowLen, blw]
      try omega
    · have e1 : frm 37 = ⟨false, false, false, false, true⟩ := rfl
      have e2 : shpAt 37 = ⟨⟨#[108, 101, 97, 118, 101]⟩, 0, 0, 0, 0⟩ := rfl
      have e3 : isC 37 = true := rfl
      unfold refOp isOpB
      simp only [e1, e2, e3]
      rw [Bool.eq_iff_iff]
      simp [bad2, bad5, bad7, bad9, bad11, mostI, fin27, inB, bnd, rowR, rowLen, blw]
      try omega
    · have e1 : frm 38 = ⟨false, false, false, true, true⟩ := rfl
      have e2 : shpAt 38 = ⟨⟨#[106, 117, 109, 112]⟩, 0, 0, 0, 14⟩ := rfl
      have e3 : isC 38 = true := rfl
      unfold refOp isOpB
      simp only [e1, e2, e3]
      rw [Bool.eq_iff_iff]
      simp [bad2, bad5, bad7, bad9, bad11, mostI, fin27, inB, bnd, rowR, rowLen, blw]
      try omega
    · have e1 : frm 39 = ⟨false, true, false, true, true⟩ := rfl
      have e2 : shpAt 39 = ⟨⟨#[117, 110, 108, 101, 115, 115]⟩, 0, 3, 0, 14⟩ := rfl
      have e3 : isC 39 = true := rfl
      unfold refOp isOpB
      simp only [e1, e2, e3]
      rw [Bool.eq_iff_iff]
      simp [bad2, bad5, bad7, bad9, bad11, mostI, fin27, inB, bnd, rowR, rowLen, blw]
      try omega
    · have e1 : frm 40 = ⟨false, true, false, false, true⟩ := rfl
      have e2 : shpAt 40 = ⟨⟨#[114, 101, 116]⟩, 0, 4, 0, 0⟩ := rfl
      have e3 : isC 40 = true := rfl
      unfold refOp isOpB
      simp only [e1, e2, e3]
      rw [Bool.eq_iff_iff]
      simp [bad2, bad5, bad7, bad9, bad11, mostI, fin27, inB, bnd, rowR, rowLen, blw]
      try omega
theorem fnEq (c : Cx) (hr : RcLn c.p) (pn : Nat) (f : Fx) : refFnB c pn f = isFnB c pn f := by
  unfold refFnB isFnB
  by_cases h : f.regs < (pn : Int)
  · simp [h]
  · have h0 : 0 ≤ f.regs := by omega
    congr 1
    refine Bool.eq_iff_iff.2 ?_
    simp only [List.all_eq_true]
    exact ⟨fun hh o ho => by rw [← opEq c hr f.regs h0]; exact hh o ho, fun hh o ho => by rw [opEq c hr f.regs h0]; exact hh o ho⟩
theorem fnsEq (c : Cx) (hr : RcLn c.p) (gs : List (GH × Sg)) (fs : List (FH × Fx)) (hg : ∀ p ∈ gs, p.1.pn = p.2.params.length) : refFnsB c gs fs = (decide (fs.length = gs.length) && isFnsB c (gs.map (·.2)) (fs.map (·.2))) := by
  unfold refFnsB
  by_cases hl : fs.length = gs.length
  · simp only [hl, decide_true, Bool.true_and]
    rw [zip_all hg]
    refine Bool.eq_iff_iff.2 ?_
    simp only [List.all_eq_true]
    constructor
    · intro h z hz
      obtain ⟨j, hj, hz2⟩ := List.mem_iff_getElem.1 hz
      have hj2 : j < gs.length := by rw [List.length_zip] at hj; omega
      have := h j (List.mem_range.2 hj2)
      unfold okAtZ at this
      rw [List.getElem?_eq_getElem hj2, List.getElem?_eq_getElem (show j < fs.length by omega)] at this
      rw [← hz2, List.getElem_zip]
      rw [← fnEq c hr]; exact this
    · intro h j hj
      have hj2 : j < gs.length := List.mem_range.1 hj
      unfold okAtZ
      rw [List.getElem?_eq_getElem hj2, List.getElem?_eq_getElem (show j < fs.length by omega)]
      have := h (gs[j], fs[j]'(by omega)) (List.mem_iff_getElem.2 ⟨j, by rw [List.length_zip]; omega, by rw [List.getElem_zip]⟩)
      simp only at this ⊢
      rw [fnEq c hr]; exact this
  · simp [hl]
theorem isEq {w : World} {C : CH} {c : Cx} {fs es : List (FH × Fx)} (d : CdRd w C c fs es) : refIsB c fs es = isB c := by
  unfold refIsB isB
  cases hr : rightB c.p with
  | false => simp
  | true =>
    have hl := rcLn_of hr
    rw [fnsEq c hl _ _ (fun p hp => (d.p.f.el p hp).pn), fnsEq c hl _ _ (fun p hp => (d.p.e.el p hp).pn)]
    rw [← d.fe, ← d.ee, List.length_map, List.length_map]
    unfold constB shortB
    refine Bool.eq_iff_iff.2 ?_
    simp only [Bool.and_eq_true]
    constructor
    · rintro ⟨⟨⟨⟨⟨h1, h2⟩, h3⟩, h4⟩, h5, h6⟩, h7, h8⟩
      exact ⟨⟨⟨⟨⟨h1, ⟨h2, h3⟩, h4⟩, h5⟩, h7⟩, h6⟩, h8⟩
    · rintro ⟨⟨⟨⟨⟨h1, ⟨h2, h3⟩, h4⟩, h5⟩, h7⟩, h6⟩, h8⟩
      exact ⟨⟨⟨⟨⟨h1, h2⟩, h3⟩, h4⟩, h5, h6⟩, h7, h8⟩
end Go.Proofs.YthnolocldeokeaaGreat

namespace Go.Proofs.YthnolocldeokeaaGreat
open Go.RowKit Go.Deep Go.Shelf
set_option linter.unusedVariables false
set_option linter.unusedSimpArgs false
/- A unit has the cells of a code: graphs stand where functions do. -/
def zeroC : Value := .agg #[.slice none 0 0, .slice none 0 0, .slice none 0 0, .slice none 0 0, .slice none 0 0, .slice none 0 0, .slice none 0 0, .slice none 0 0]
def eight (w : World) (b : Nat) (x0 x1 x2 x3 x4 x5 x6 x7 : Value) : World := (((((((w.setCell ⟨b, 0, none⟩ x0).setCell ⟨b, 1, none⟩ x1).setCell ⟨b, 2, none⟩ x2).setCell ⟨b, 3, none⟩ x3).setCell ⟨b, 4, none⟩ x4).setCell ⟨b, 5, none⟩ x5).setCell ⟨b, 6, none⟩ x6).setCell ⟨b, 7, none⟩ x7
theorem eight_new {w : World} {b : Nat} {p0 p1 p2 p3 p4 p5 p6 p7 : Value} {t : TypeId} (h : w.heap[b]? = some (.cells #[p0, p1, p2, p3, p4, p5, p6, p7] t (0, 0))) (x0 x1 x2 x3 x4 x5 x6 x7 : Value) : (eight w b x0 x1 x2 x3 x4 x5 x6 x7).heap[b]? = some (.cells #[x0, x1, x2, x3, x4, x5, x6, x7] t (0, 0)) := by
  have h0 := heap_set_at h 0 x0
  simp only [List.setIfInBounds_toArray, List.set_cons_zero, List.set_cons_succ] at h0
  have h1 := heap_set_at h0 1 x1
  simp only [List.setIfInBounds_toArray, List.set_cons_zero, List.set_cons_succ] at h1
  have h2 := heap_set_at h1 2 x2
  simp only [List.setIfInBounds_toArray, List.set_cons_zero, List.set_cons_succ] at h2
  have h3 := heap_set_at h2 3 x3
  simp only [List.setIfInBounds_toArray, List.set_cons_zero, List.set_cons_succ] at h3
  have h4 := heap_set_at h3 4 x4
  simp only [List.setIfInBounds_toArray, List.set_cons_zero, List.set_cons_succ] at h4
  have h5 := heap_set_at h4 5 x5
  simp only [List.setIfInBounds_toArray, List.set_cons_zero, List.set_cons_succ] at h5
  have h6 := heap_set_at h5 6 x6
  simp only [List.setIfInBounds_toArray, List.set_cons_zero, List.set_cons_succ] at h6
  have h7 := heap_set_at h6 7 x7
  simp only [List.setIfInBounds_toArray, List.set_cons_zero, List.set_cons_succ] at h7
  exact h7
theorem eight_below {B : Nat} {w0 w : World} (hb : Below B w0 w) {b : Nat} (hB : B ≤ b) (x0 x1 x2 x3 x4 x5 x6 x7 : Value) : Below B w0 (eight w b x0 x1 x2 x3 x4 x5 x6 x7) := by
  unfold eight
  exact (((((((hb.setCell hB _).setCell hB _).setCell hB _).setCell hB _).setCell hB _).setCell hB _).setCell hB _).setCell hB _
theorem eight_other (w : World) (b : Nat) (x0 x1 x2 x3 x4 x5 x6 x7 : Value) {g : Nat} (hg : g ≠ b) : (eight w b x0 x1 x2 x3 x4 x5 x6 x7).heap[g]? = w.heap[g]? := by
  unfold eight
  rw [Below.heap_setCell _ ⟨b, 7, none⟩ _ _ (show g ≠ (⟨b, 7, none⟩ : Addr).block from hg)]
  rw [Below.heap_setCell _ ⟨b, 6, none⟩ _ _ (show g ≠ (⟨b, 6, none⟩ : Addr).block from hg)]
  rw [Below.heap_setCell _ ⟨b, 5, none⟩ _ _ (show g ≠ (⟨b, 5, none⟩ : Addr).block from hg)]
  rw [Below.heap_setCell _ ⟨b, 4, none⟩ _ _ (show g ≠ (⟨b, 4, none⟩ : Addr).block from hg)]
  rw [Below.heap_setCell _ ⟨b, 3, none⟩ _ _ (show g ≠ (⟨b, 3, none⟩ : Addr).block from hg)]
  rw [Below.heap_setCell _ ⟨b, 2, none⟩ _ _ (show g ≠ (⟨b, 2, none⟩ : Addr).block from hg)]
  rw [Below.heap_setCell _ ⟨b, 1, none⟩ _ _ (show g ≠ (⟨b, 1, none⟩ : Addr).block from hg)]
  rw [Below.heap_setCell _ ⟨b, 0, none⟩ _ _ (show g ≠ (⟨b, 0, none⟩ : Addr).block from hg)]
theorem FnsN.above {w w' : World} {B : Nat} {v : Value} {l : List Fx} (h : FnsN w B v l) (e : ∀ g, B ≤ g → g < w.heap.size → w'.heap[g]? = w.heap[g]?) : FnsN w' B v l := by
  obtain ⟨fs, h1, h2, h3⟩ := h
  refine ⟨fs, h1, h2.keep fun g hg => e g (h2.own hg).1 (h2.own hg).2, fun p hp => ⟨(h3 p hp).rg, (h3 p hp).op.keep fun b hb => ?_⟩⟩
  have h4 := (h3 p hp).op.2
  rcases h4 with ⟨e1, _⟩ | ⟨b', cap, cur, e1, h5, h6, _⟩
  · rw [e1] at hb; cases hb
  · rw [e1] at hb
    cases hb
    exact e b' h5 (lt_of_heap h6)
/- Either answer of fns in one form. -/
theorem cell_eight {w : World} {b : Nat} {x0 x1 x2 x3 x4 x5 x6 x7 : Value} {t : TypeId} (g : w.heap[b]? = some (.cells #[x0, x1, x2, x3, x4, x5, x6, x7] t (0, 0))) : w.cell? ⟨b, 0, none⟩ = some x0 ∧ w.cell? ⟨b, 1, none⟩ = some x1 ∧ w.cell? ⟨b, 2, none⟩ = some x2 ∧ w.cell? ⟨b, 3, none⟩ = some x3 ∧ w.cell? ⟨b, 4, none⟩ = some x4 ∧ w.cell? ⟨b, 5, none⟩ = some x5 ∧ w.cell? ⟨b, 6, none⟩ = some x6 ∧ w.cell? ⟨b, 7, none⟩ = some x7 := ⟨cellOf g 0, cellOf g 1, cellOf g 2, cellOf g 3, cellOf g 4, cellOf g 5, cellOf g 6, cellOf g 7⟩
theorem free_eight {w : World} {b : Nat} {c : Array Value} {t : TypeId} (g : w.heap[b]? = some (.cells c t (0, 0))) : w.frozen? ⟨b, 0, none⟩ = false ∧ w.frozen? ⟨b, 1, none⟩ = false ∧ w.frozen? ⟨b, 2, none⟩ = false ∧ w.frozen? ⟨b, 3, none⟩ = false ∧ w.frozen? ⟨b, 4, none⟩ = false ∧ w.frozen? ⟨b, 5, none⟩ = false ∧ w.frozen? ⟨b, 6, none⟩ = false ∧ w.frozen? ⟨b, 7, none⟩ = false := ⟨freeOf g 0, freeOf g 1, freeOf g 2, freeOf g 3, freeOf g 4, freeOf g 5, freeOf g 6, freeOf g 7⟩
end Go.Proofs.YthnolocldeokeaaGreat

namespace Go.Proofs.YthnolocldeokeaaGreat
set_option maxRecDepth 100000
open Go.RowKit Go.Deep Go.Shelf
set_option linter.unusedVariables false
set_option linter.unusedSimpArgs false

def Some (w : World) (e : Ending) (w' : World) : Prop := ∃ b : Bool, e = .returned (.bool b) ∧ Below w.heap.size w w'
set_option maxRecDepth 100000 in
set_option maxHeartbeats 2000000 in
theorem plainP_any (w : World) (h : PH) (p : Pg) (d : PRd w h p) : Calls Tryz.prog 18 #[h.v] w (Some w) := by
  have D := hid d
  have r2 := d.r.n2
  have m2 := d.m.n2
  have f2 := d.f.n2
  have e2 := d.e.n2
  have Hr := hid d.r.n1
  have Hf := hid d.f.n1
  have He := hid d.e.n1
  clear d
  obtain ⟨ra, rn, rc, ma, mn, mc, fa, fn, fc, ea, en, ec⟩ := h
  simp only [PH.v] at r2 m2 f2 e2 ⊢
  obtain ⟨W0, hW0⟩ : ∃ W0, W0 = w.alloc (.cells #[.slice ra rn rc, .slice ma mn mc, .slice fa fn fc, .slice ea en ec] 26) := ⟨_, rfl⟩
  have hb0 : Below w.heap.size w W0 := by rw [hW0]; exact (Below.refl _ _).alloc (Nat.le_refl _) _
  have bx0 : W0.heap[w.heap.size]? = some (.cells #[.slice ra rn rc, .slice ma mn mc, .slice fa fn fc, .slice ea en ec] 26 (0, 0)) := by rw [hW0]; exact heap_alloc_new w _
  have z0 : W0.cell? ⟨w.heap.size, 0, none⟩ = some (.slice ra rn rc) := cellOf bx0 0
  have z1 : W0.cell? ⟨w.heap.size, 1, none⟩ = some (.slice ma mn mc) := cellOf bx0 1
  have z2 : W0.cell? ⟨w.heap.size, 2, none⟩ = some (.slice fa fn fc) := cellOf bx0 2
  have z3 : W0.cell? ⟨w.heap.size, 3, none⟩ = some (.slice ea en ec) := cellOf bx0 3
  have HB := hid hb0
  have DW := hid (D.out.below (Nat.le_refl _) hb0)
  clear hb0 bx0 D
  go_enter Tryz.func18, Tryz.ntmps18
  go_wp2
  rw [← hW0]
  clear hW0
  go_loopg [3] rn (fun g ii wr => ∃ i : Nat, i + g = rn ∧ ii = .int .i64 (i : Int) ∧ wr = W0)
  case atStart => exact ⟨0, by omega, rfl, rfl⟩
  case round =>
    obtain ⟨i, hi', rfl, rfl⟩ := hrel
    have Hi := hid hi'
    cases gk with
    | zero =>
      have hin : i = rn := by omega
      clear hi'
      subst hin
      go_wp2
      go_loopg [4] fn (fun g ii wr2 => ∃ j : Nat, j + g = fn ∧ ii = .int .i64 (j : Int) ∧ wr2 = wr)
      case atStart => exact ⟨0, by omega, rfl, rfl⟩
      case round =>
        obtain ⟨j, hj', rfl, rfl⟩ := hrel
        have Hj := hid hj'
        cases gk with
        | zero =>
          have hjn : j = fn := by omega
          clear hj'
          subst hjn
          go_wp2
          go_loopg [5] en (fun g ii wr2 => ∃ l : Nat, l + g = en ∧ ii = .int .i64 (l : Int) ∧ wr2 = wr)
          case atStart => exact ⟨0, by omega, rfl, rfl⟩
          case round =>
            obtain ⟨l, hl', rfl, rfl⟩ := hrel
            have Hl := hid hl'
            cases gk with
            | zero =>
              have hln : l = en := by omega
              clear hl'
              subst hln
              rcases Nat.lt_or_ge 30 i with q1 | q1
              · have q1' : ¬ ((i : Int) ≤ 30) := by omega
                go_wp2
                go_ret
                exact ⟨_, rfl, HB.out⟩
              · rcases Nat.lt_or_ge 30 mn with q2 | q2
                · have q2' : ¬ ((mn : Int) ≤ 30) := by omega
                  go_wp2
                  go_ret
                  exact ⟨_, rfl, HB.out⟩
                · rcases Nat.lt_or_ge 30 j with q3 | q3
                  · have q3' : ¬ ((j : Int) ≤ 30) := by omega
                    go_wp2
                    go_ret
                    exact ⟨_, rfl, HB.out⟩
                  · go_wp2
                    go_ret
                    exact ⟨_, rfl, HB.out⟩
            | succ g =>
              have hlt : l < en := by omega
              clear hl'
              obtain ⟨p', hp⟩ : ∃ p', p.events[l]? = some p' := ⟨p.events[l]'(by rw [← show en = p.events.length from He.out]; exact hlt), by rw [List.getElem?_eq_getElem]⟩
              have el := DW.out.e.el p' (List.mem_of_getElem? hp)
              obtain ⟨b1, o1, ea', hb1, e1⟩ := DW.out.e.rd l p'.1.cs (by simp [hp])
              subst ea'
              have x1 := e1 1 (by omega)
              have hp2 := el.p2
              clear e1 el hp hb1
              obtain ⟨h, s⟩ := p'
              obtain ⟨nm, pa, pn, pc, k, r⟩ := h
              simp only [GH.cs, List.getElem?_cons_zero, List.getElem?_cons_succ] at x1 hp2
              rcases Nat.lt_or_ge 30 pn with q1 | q1
              · go_wp2
                go_ret
                exact ⟨_, rfl, HB.out⟩
              · go_wp2
                go_roundg g
                case measure => omega
                case rel => exact ⟨l + 1, by have := Hl.out; omega, by go_num, rfl⟩
        | succ g =>
          have hlt : j < fn := by omega
          clear hj'
          obtain ⟨p', hp⟩ : ∃ p', p.funcs[j]? = some p' := ⟨p.funcs[j]'(by rw [← show fn = p.funcs.length from Hf.out]; exact hlt), by rw [List.getElem?_eq_getElem]⟩
          have el := DW.out.f.el p' (List.mem_of_getElem? hp)
          obtain ⟨b1, o1, ea', hb1, e1⟩ := DW.out.f.rd j p'.1.cs (by simp [hp])
          subst ea'
          have x1 := e1 1 (by omega)
          have hp2 := el.p2
          clear e1 el hp hb1
          obtain ⟨h, s⟩ := p'
          obtain ⟨nm, pa, pn, pc, k, r⟩ := h
          simp only [GH.cs, List.getElem?_cons_zero, List.getElem?_cons_succ] at x1 hp2
          rcases Nat.lt_or_ge 30 pn with q1 | q1
          · go_wp2
            go_ret
            exact ⟨_, rfl, HB.out⟩
          · go_wp2
            go_roundg g
            case measure => omega
            case rel => exact ⟨j + 1, by have := Hj.out; omega, by go_num, rfl⟩
    | succ g =>
      have hlt : i < rn := by omega
      clear hi'
      obtain ⟨p', hp⟩ : ∃ p', p.recs[i]? = some p' := ⟨p.recs[i]'(by rw [← show rn = p.recs.length from Hr.out]; exact hlt), by rw [List.getElem?_eq_getElem]⟩
      have el := DW.out.r.el p' (List.mem_of_getElem? hp)
      obtain ⟨b1, o1, ea', hb1, e1⟩ := DW.out.r.rd i p'.1.cs (by simp [hp])
      subst ea'
      have x1 := e1 1 (by omega)
      have x2 := e1 2 (by omega)
      have hp2 := el.f2
      have hp3 := el.t2
      clear e1 el hp hb1
      obtain ⟨h, s⟩ := p'
      obtain ⟨nm, fa', fn', fc', ta, tn, tc⟩ := h
      simp only [RH.cs, List.getElem?_cons_zero, List.getElem?_cons_succ] at x1 x2 hp2 hp3
      rcases Nat.lt_or_ge 30 fn' with q1 | q1
      · go_wp2
        go_ret
        exact ⟨_, rfl, HB.out⟩
      · rcases Nat.lt_or_ge 30 tn with q2 | q2
        · go_wp2
          go_ret
          exact ⟨_, rfl, HB.out⟩
        · go_wp2
          go_roundg g
          case measure => omega
          case rel => exact ⟨i + 1, by have := Hi.out; omega, by go_num, rfl⟩
end Go.Proofs.YthnolocldeokeaaGreat

namespace Go.Proofs.YthnolocldeokeaaGreat
open Go.RowKit Go.Deep Go.Shelf
set_option linter.unusedVariables false
set_option linter.unusedSimpArgs false
/- An answer that, where it is true, says R. -/
def Says (w : World) (R : Prop) (e : Ending) (w' : World) : Prop := Below w.heap.size w w' ∧ ∃ b, e = .returned (.bool b) ∧ (b = true → R)
theorem Says.no {w w' : World} {R : Prop} (h : Below w.heap.size w w') : Says w R (.returned (.bool false)) w' := ⟨h, false, rfl, fun h => by cases h⟩
theorem Says.yes {w w' : World} {R : Prop} (h : Below w.heap.size w w') (r : R) : Says w R (.returned (.bool true)) w' := ⟨h, true, rfl, fun _ => r⟩
set_option maxRecDepth 100000 in
set_option maxHeartbeats 1000000 in
theorem short_any (w : World) (a : Option Addr) (n cap : Nat) (ss : List ByteArray) (hn : n = ss.length) (hn2 : n ≤ 9223372036854775807) (hr : SRd w a ss) (mm bb : Nat) :
    Calls Tryz.prog 19 #[.slice a n cap, .int .i64 (mm : Int), .int .i64 (bb : Int)] w (Says w (n ≤ mm ∧ ∀ s ∈ ss, s.size ≤ bb)) := by
  have HN := hid hn
  have HR := hid hr
  clear hn hr
  go_enter Tryz.func19, Tryz.ntmps19
  go_wp2
  go_loopg [7] n (fun g x wr => ∃ j : Nat, j + g = n ∧ x = .int .i64 (j : Int) ∧ (∀ s ∈ ss.take j, s.size ≤ bb) ∧ wr = w)
  case atStart => exact ⟨0, by omega, rfl, by simp, rfl⟩
  case round =>
    obtain ⟨j, hj, rfl, hp, rfl⟩ := hrel
    cases gk with
    | zero =>
      have hjn : j = n := by omega
      subst hjn
      have HP : Hid (∀ s ∈ ss, s.size ≤ bb) := hid (by rw [HN.out, List.take_of_length_le (Nat.le_refl _)] at hp; exact hp)
      clear hp
      by_cases hm : (j : Int) ≤ (mm : Int)
      · go_wp2
        go_ret
        exact Says.yes (Below.refl _ _) ⟨by omega, HP.out⟩
      · go_wp2
        go_ret
        exact Says.no (Below.refl _ _)
    | succ g =>
      obtain ⟨s, hs⟩ : ∃ s, ss[j]? = some s := ⟨ss[j]'(by have := HN.out; omega), List.getElem?_eq_getElem _⟩
      obtain ⟨hsz, b, off, rfl, hc⟩ := HR.out j s hs
      have hjI : (j : Int) < (n : Int) := by omega
      have hj0 : (0 : Int) ≤ (j : Int) := by omega
      have hszI : (s.size : Int) ≤ 9223372036854775807 := by omega
      have ht : Hid (ss.take (j + 1) = ss.take j ++ [s]) := hid (by rw [List.take_add_one, hs]; rfl)
      have HP := hid hp
      clear hp hs
      by_cases hl : (bb : Int) < (s.size : Int)
      · go_wp2
        go_ret
        exact Says.no (Below.refl _ _)
      · have HL := hid hl
        go_wp2
        go_roundg g
        case measure => omega
        exact ⟨j + 1, by omega, by go_num, fun x hx => by
          rw [ht.out] at hx
          rcases List.mem_append.1 hx with hx | hx
          · exact HP.out x hx
          · simp at hx; subst hx; have := HL.out; omega, rfl⟩
/- A unit's graphs as they came in. -/
/- What a unit that is few is. -/
end Go.Proofs.YthnolocldeokeaaGreat

namespace Go.Proofs.YthnolocldeokeaaGreat
open Go.RowKit Go.Deep Go.Shelf
set_option linter.unusedVariables false
set_option linter.unusedSimpArgs false
set_option maxRecDepth 100000 in
set_option maxHeartbeats 1000000 in
theorem sameTypes_yes (w : World) (a b : Option Addr) (n c1 c2 : Nat) (ts : List TyP) (hn : n = ts.length) (hnb : n ≤ 9223372036854775807) (h1 : TRd w a ts) (h2 : TRd w b ts) :
    Calls Tryz.prog 81 #[.slice a n c1, .slice b n c2] w fun e w' => e = .returned (.bool true) ∧ Below w.heap.size w w' := by
  have hnI : (n : Int) ≤ 9223372036854775807 := by omega
  have HN := hid hn
  have H1 := hid h1
  have H2 := hid h2
  have nb : ((n : Int) != (n : Int)) = false := by simp
  clear hn h1 h2
  go_enter Tryz.func81, Tryz.ntmps81
  go_wp2
  go_loopg [5] n (fun g x wr => ∃ j : Nat, j + g = n ∧ x = .int .i64 (j : Int) ∧ Below w.heap.size w wr)
  case atStart => exact ⟨0, by omega, rfl, Below.refl _ _⟩
  case round =>
    obtain ⟨j, hj, rfl, hb⟩ := hrel
    cases gk with
    | zero =>
      have hjn : j = n := by omega
      subst hjn
      have HB := hid hb
      clear hb
      go_wp2
      go_ret
      exact ⟨rfl, HB.out⟩
    | succ g =>
      obtain ⟨t, ht⟩ : ∃ t, ts[j]? = some t := ⟨ts[j]'(by have := HN.out; omega), List.getElem?_eq_getElem _⟩
      obtain ⟨b1, o1, rfl, x0, x1⟩ := (H1.out.below (Nat.le_refl _) hb) j t ht
      obtain ⟨b2, o2, rfl, y0, y1⟩ := (H2.out.below (Nat.le_refl _) hb) j t ht
      obtain ⟨tk, tr⟩ := t
      simp only at x0 x1 y0 y1
      have hjI : (j : Int) < (n : Int) := by omega
      have hj0 : (0 : Int) ≤ (j : Int) := by omega
      have HB := hid hb
      clear hb ht
      go_wp2
      go_quiet (fail)
      go_wp2
      go_roundg g
      case measure => omega
      exact ⟨j + 1, by omega, by go_num, bel_dN HB.out _⟩
set_option maxRecDepth 100000 in
set_option maxHeartbeats 4000000 in
theorem sameSigs_yes (w : World) (a b : Option Addr) (n c1 c2 : Nat) (g1 g2 : List (GH × Sg)) (d1 : GRd w a n g1) (d2 : GRd w b n g2) (he : g1.map (·.2) = g2.map (·.2)) :
    Calls Tryz.prog 80 #[.slice a n c1, .slice b n c2] w fun e w' => e = .returned (.bool true) ∧ Below w.heap.size w w' := by
  have hnI : (n : Int) ≤ 9223372036854775807 := by have := d1.n2; omega
  have D1 := hid d1
  have D2 := hid d2
  have HE := hid he
  have nb : ((n : Int) != (n : Int)) = false := by simp
  clear d1 d2 he
  go_enter Tryz.func80, Tryz.ntmps80
  go_wp2
  go_loopg [5] n (fun g x wr => ∃ j : Nat, j + g = n ∧ x = .int .i64 (j : Int) ∧ Below w.heap.size w wr)
  case atStart => exact ⟨0, by omega, rfl, Below.refl _ _⟩
  case round =>
    obtain ⟨j, hj, rfl, hb⟩ := hrel
    cases gk with
    | zero =>
      have hjn : j = n := by omega
      subst hjn
      have HB := hid hb
      clear hb
      go_wp2
      go_ret
      exact ⟨rfl, HB.out⟩
    | succ g =>
      have dA := D1.out.below (Nat.le_refl _) hb
      have dB := D2.out.below (Nat.le_refl _) hb
      have l1 : j < g1.length := by rw [← dA.n1]; omega
      have l2 : j < g2.length := by rw [← dB.n1]; omega
      have e1 : g1[j]? = some g1[j] := List.getElem?_eq_getElem l1
      have e2 : g2[j]? = some g2[j] := List.getElem?_eq_getElem l2
      have hss : (g1[j]).2 = (g2[j]).2 := by
        have h1 : (g1.map (·.2))[j]? = some (g1[j]).2 := by rw [List.getElem?_map, e1]; rfl
        have h2 : (g2.map (·.2))[j]? = some (g2[j]).2 := by rw [List.getElem?_map, e2]; rfl
        rw [HE.out, h2] at h1
        exact (Option.some.inj h1).symm
      obtain ⟨b1, o1, rfl, _, hc1⟩ := dA.rd j (g1[j]).1.cs (by simp [e1])
      obtain ⟨b2, o2, rfl, _, hc2⟩ := dB.rd j (g2[j]).1.cs (by simp [e2])
      have s1 := dA.el _ (List.getElem_mem l1)
      have s2 := dB.el _ (List.getElem_mem l2)
      generalize g1[j] = p1 at hss hc1 s1
      generalize g2[j] = p2 at hss hc2 s2
      obtain ⟨⟨nm1, pa1, pn1, pc1, k1, r1⟩, sg1⟩ := p1
      obtain ⟨⟨nm2, pa2, pn2, pc2, k2, r2⟩, sg2⟩ := p2
      simp only at hss
      subst hss
      obtain rfl : nm1 = nm2 := (show nm1 = _ from s1.nm).trans (show nm2 = _ from s2.nm).symm
      obtain rfl : pn1 = pn2 := (show pn1 = _ from s1.pn).trans (show pn2 = _ from s2.pn).symm
      have hres := (show (k1, r1) = _ from s1.rs).trans (show (k2, r2) = _ from s2.rs).symm
      obtain rfl : k1 = k2 := congrArg Prod.fst hres
      obtain rfl : r1 = r2 := congrArg Prod.snd hres
      have x0 := hc1 0 (by omega)
      have x1 := hc1 1 (by omega)
      have x2 := hc1 2 (by omega)
      have x3 := hc1 3 (by omega)
      have y0 := hc2 0 (by omega)
      have y1 := hc2 1 (by omega)
      have y2 := hc2 2 (by omega)
      have y3 := hc2 3 (by omega)
      simp only [GH.cs, List.getElem?_cons_zero, List.getElem?_cons_succ, Nat.add_zero] at x0 x1 x2 x3 y0 y1 y2 y3
      have hjI : (j : Int) < (n : Int) := by omega
      have hj0 : (0 : Int) ≤ (j : Int) := by omega
      have K := hid (sameTypes_yes wr.drew pa1 pa2 pn1 pc1 pc2 sg1.params s1.pn s1.p2 (s1.pr.below (Nat.le_refl _) (Below.refl _ wr).drew) (s2.pr.below (Nat.le_refl _) (Below.refl _ wr).drew))
      have HB := hid hb
      have ST : Hid (∀ v : World, Below wr.heap.size wr v → v.cell? ⟨b1, o1 + j * 4, none⟩ = some (.string nm1) ∧ v.cell? ⟨b1, o1 + j * 4 + 1, none⟩ = some (.slice pa1 pn1 pc1) ∧ v.cell? ⟨b1, o1 + j * 4 + 2, none⟩ = some (.int .i64 k1) ∧ v.cell? ⟨b1, o1 + j * 4 + 3, none⟩ = some (.int .i64 r1) ∧ v.cell? ⟨b2, o2 + j * 4, none⟩ = some (.string nm1) ∧ v.cell? ⟨b2, o2 + j * 4 + 1, none⟩ = some (.slice pa2 pn1 pc2) ∧ v.cell? ⟨b2, o2 + j * 4 + 2, none⟩ = some (.int .i64 k1) ∧ v.cell? ⟨b2, o2 + j * 4 + 3, none⟩ = some (.int .i64 r1)) := hid (fun v hv => by
        have k : ∀ (p : Addr) (x : Value), wr.cell? p = some x → v.cell? p = some x := fun p x h => (hv.cell (p := p) (World.block_lt_of_cell? wr p h)).trans h
        exact ⟨k _ _ x0, k _ _ x1, k _ _ x2, k _ _ x3, k _ _ y0, k _ _ y1, k _ _ y2, k _ _ y3⟩)
      clear hb dA dB l1 l2 e1 e2 hc1 hc2 s1 s2 hres
      go_upto_region 6 with fail
      go_region_held3 (fun v => v.cell? ⟨b1, o1 + j * 4, none⟩ = some (.string nm1) ∧ v.cell? ⟨b1, o1 + j * 4 + 1, none⟩ = some (.slice pa1 pn1 pc1) ∧ v.cell? ⟨b1, o1 + j * 4 + 2, none⟩ = some (.int .i64 k1) ∧ v.cell? ⟨b1, o1 + j * 4 + 3, none⟩ = some (.int .i64 r1) ∧ v.cell? ⟨b2, o2 + j * 4, none⟩ = some (.string nm1) ∧ v.cell? ⟨b2, o2 + j * 4 + 1, none⟩ = some (.slice pa2 pn1 pc2) ∧ v.cell? ⟨b2, o2 + j * 4 + 2, none⟩ = some (.int .i64 k1) ∧ v.cell? ⟨b2, o2 + j * 4 + 3, none⟩ = some (.int .i64 r1)) (first | exact s8 | go_keep) (first
        | (go_at_call 81; (refine (Hid.out K).mono ?_; rintro e w8 ⟨rfl, hb8⟩; have h8 : Below wr.heap.size wr w8 := (Below.refl _ wr).drew.trans hb8; have s8 := ST.out w8 h8)))
      go_wp2
      go_roundg g
      case measure => omega
      exact ⟨j + 1, by omega, by go_num, HB.out.trans (h8.mono HB.out.size)⟩
end Go.Proofs.YthnolocldeokeaaGreat

namespace Go.Proofs.YthnolocldeokeaaGreat
open Go.RowKit Go.Deep Go.Shelf
set_option linter.unusedVariables false
set_option linter.unusedSimpArgs false
set_option maxRecDepth 100000 in
set_option maxHeartbeats 4000000 in
theorem sameFns_yes (w : World) (a b : Option Addr) (n c1 c2 : Nat) (g1 g2 : List (FH × Fx)) (d1 : FRd w a n g1) (d2 : FRd w b n g2) (he : g1.map (·.2) = g2.map (·.2)) :
    Calls Tryz.prog 48 #[.slice a n c1, .slice b n c2] w fun e w' => e = .returned (.bool true) ∧ Below w.heap.size w w' := by
  have hnI : (n : Int) ≤ 9223372036854775807 := by have := d1.n2; omega
  have D1 := hid d1
  have D2 := hid d2
  have HE := hid he
  have nb : ((n : Int) != (n : Int)) = false := by simp
  clear d1 d2 he
  go_enter Tryz.func48, Tryz.ntmps48
  go_wp2
  go_loopg [5] n (fun g x wr => ∃ j : Nat, j + g = n ∧ x = .int .i64 (j : Int) ∧ Below w.heap.size w wr)
  case atStart => exact ⟨0, by omega, rfl, Below.refl _ _⟩
  case round =>
    obtain ⟨j, hj, rfl, hb⟩ := hrel
    cases gk with
    | zero =>
      have hjn : j = n := by omega
      subst hjn
      have HB := hid hb
      clear hb
      go_wp2
      go_ret
      exact ⟨rfl, HB.out⟩
    | succ g =>
      obtain ⟨wo, hwo⟩ : ∃ wo, wo = wr := ⟨_, rfl⟩
      subst hwo
      have dA := D1.out.below (Nat.le_refl _) hb
      have dB := D2.out.below (Nat.le_refl _) hb
      have l1 : j < g1.length := by rw [← dA.n1]; omega
      have l2 : j < g2.length := by rw [← dB.n1]; omega
      have e1 : g1[j]? = some g1[j] := List.getElem?_eq_getElem l1
      have e2 : g2[j]? = some g2[j] := List.getElem?_eq_getElem l2
      have hss : (g1[j]).2 = (g2[j]).2 := by
        have h1 : (g1.map (·.2))[j]? = some (g1[j]).2 := by rw [List.getElem?_map, e1]; rfl
        have h2 : (g2.map (·.2))[j]? = some (g2[j]).2 := by rw [List.getElem?_map, e2]; rfl
        rw [HE.out, h2] at h1
        exact (Option.some.inj h1).symm
      obtain ⟨b1, o1, rfl, _, hc1⟩ := dA.rd j (g1[j]).1.cs (by simp [e1])
      obtain ⟨b2, o2, rfl, _, hc2⟩ := dB.rd j (g2[j]).1.cs (by simp [e2])
      have s1 := dA.el _ (List.getElem_mem l1)
      have s2 := dB.el _ (List.getElem_mem l2)
      generalize g1[j] = p1 at hss hc1 s1
      generalize g2[j] = p2 at hss hc2 s2
      obtain ⟨⟨r1, oa1, on1, oc1⟩, f1⟩ := p1
      obtain ⟨⟨r2, oa2, on2, oc2⟩, f2⟩ := p2
      simp only at hss
      subst hss
      obtain rfl : r1 = r2 := (show r1 = _ from s1.rg).trans (show r2 = _ from s2.rg).symm
      obtain rfl : on1 = on2 := (show on1 = _ from s1.on).trans (show on2 = _ from s2.on).symm
      have x0 := hc1 0 (by omega)
      have x1 := hc1 1 (by omega)
      have y0 := hc2 0 (by omega)
      have y1 := hc2 1 (by omega)
      simp only [FH.cs, List.getElem?_cons_zero, List.getElem?_cons_succ, Nat.add_zero] at x0 x1 y0 y1
      have hjI : (j : Int) < (n : Int) := by omega
      have hj0 : (0 : Int) ≤ (j : Int) := by omega
      have hon2 : (on1 : Int) ≤ 9223372036854775807 := by have : on1 ≤ _ := s1.o2; omega
      have HON : Hid (on1 = f1.ops.length) := hid s1.on
      have R1 : Hid (ORd wo oa1 f1.ops) := hid s1.or
      have R2 : Hid (ORd wo oa2 f1.ops) := hid s2.or
      have nb2 : ((on1 : Int) != (on1 : Int)) = false := by simp
      have nb3 : (r1 != r1) = false := by simp
      have HB := hid hb
      have ST : Hid (∀ v : World, Below wo.heap.size wo v → v.cell? ⟨b1, o1 + j * 2, none⟩ = some (.int .i64 r1) ∧ v.cell? ⟨b1, o1 + j * 2 + 1, none⟩ = some (.slice oa1 on1 oc1) ∧ v.cell? ⟨b2, o2 + j * 2, none⟩ = some (.int .i64 r1) ∧ v.cell? ⟨b2, o2 + j * 2 + 1, none⟩ = some (.slice oa2 on1 oc2)) := hid (fun v hv => by
        have k : ∀ (p : Addr) (x : Value), wo.cell? p = some x → v.cell? p = some x := fun p x h => (hv.cell (p := p) (World.block_lt_of_cell? wo p h)).trans h
        exact ⟨k _ _ x0, k _ _ x1, k _ _ y0, k _ _ y1⟩)
      clear hb dA dB l1 l2 e1 e2 hc1 hc2 s1 s2
      go_upto_region 6 with fail
      go_quiet (fail)
      obtain ⟨A, hA⟩ : ∃ A, A = wo.drewN nq := ⟨_, rfl⟩
      have bA : Below wo.heap.size wo A := by rw [hA]; exact bel_dN (Below.refl _ _) _
      rw [← hA]
      clear hA x0 x1 y0 y1
      obtain ⟨x0, x1, y0, y1⟩ := ST.out A bA
      have BA := hid bA
      clear bA
      go_wp2
      go_loopg [6] on1 (fun g2 x wr2 => ∃ i : Nat, i + g2 = on1 ∧ x = .int .i64 (i : Int) ∧ Below wo.heap.size wo wr2)
      case atStart => exact ⟨0, by omega, rfl, BA.out⟩
      case round =>
        obtain ⟨i, hi, rfl, hb2⟩ := hrel
        clear x0 x1 y0 y1
        obtain ⟨x0, x1, y0, y1⟩ := ST.out wr hb2
        cases gk with
        | zero =>
          have hin : i = on1 := by omega
          subst hin
          have HB2 := hid hb2
          clear hb2
          go_wp2
          go_roundg g
          case measure => omega
          exact ⟨j + 1, by omega, by go_num, HB.out.trans (HB2.out.mono HB.out.size)⟩
        | succ g2 =>
          obtain ⟨o, ho⟩ : ∃ o, f1.ops[i]? = some o := ⟨f1.ops[i]'(by have := HON.out; omega), List.getElem?_eq_getElem _⟩
          obtain ⟨p1, q1, rfl, hcl1⟩ := (R1.out.below hb2) i o ho
          obtain ⟨p2, q2, rfl, hcl2⟩ := (R2.out.below hb2) i o ho
          have hiI : (i : Int) < (on1 : Int) := by omega
          have hi0 : (0 : Int) ≤ (i : Int) := by omega
          obtain ⟨xc, xd, xa, xb, xk⟩ := o
          have i0 := hcl1 0 (by omega)
          have i1 := hcl1 1 (by omega)
          have i2 := hcl1 2 (by omega)
          have i3 := hcl1 3 (by omega)
          have i4 := hcl1 4 (by omega)
          have k0 := hcl2 0 (by omega)
          have k1 := hcl2 1 (by omega)
          have k2 := hcl2 2 (by omega)
          have k3 := hcl2 3 (by omega)
          have k4 := hcl2 4 (by omega)
          simp only [Opx.cs, List.getElem?_toArray, List.getElem?_cons_zero, List.getElem?_cons_succ, Nat.add_zero] at i0 i1 i2 i3 i4 k0 k1 k2 k3 k4
          have HB2 := hid hb2
          clear hb2 hcl1 hcl2 ho
          go_wp2
          go_quiet (fail)
          go_wp2
          go_roundg g2
          case measure => omega
          exact ⟨i + 1, by omega, by go_num, bel_dN HB2.out _⟩
end Go.Proofs.YthnolocldeokeaaGreat

