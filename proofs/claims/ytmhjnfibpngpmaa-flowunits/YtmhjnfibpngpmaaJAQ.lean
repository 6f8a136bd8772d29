/- Both sides' Is are one. -/
import Derived.Test.YtmhjnfibpngpmaaJAP
namespace Go.Proofs.Ytmhjnfibpngpmaa
open Go.RowKit Go.Deep Go.Shelf
set_option linter.unusedVariables false
set_option linter.unusedSimpArgs false
theorem isC_cases {k : Int} (h : isC k = true) : k = 1 ∨ k = 2 ∨ k = 3 ∨ k = 4 ∨ k = 5 ∨ k = 6 ∨ k = 7 ∨ k = 8 ∨ k = 9 ∨ k = 10 ∨ k = 11 ∨ k = 12 ∨ k = 13 ∨ k = 14 ∨ k = 15 ∨ k = 16 ∨ k = 17 ∨ k = 18 ∨ k = 19 ∨ k = 20 ∨ k = 21 ∨ k = 22 ∨ k = 23 ∨ k = 24 ∨ k = 25 ∨ k = 26 ∨ k = 27 ∨ k = 28 ∨ k = 29 ∨ k = 30 ∨ k = 31 ∨ k = 32 ∨ k = 33 ∨ k = 34 ∨ k = 35 ∨ k = 36 ∨ k = 37 ∨ k = 38 ∨ k = 39 ∨ k = 40 := by
  unfold isC at h
  simp at h
  omega
theorem frm_no {k : Int} (h : isC k = false) : (frm k).ok = false := by
  unfold isC at h
  simp at h
  unfold frm
  repeat (rw [if_neg (by omega)])
def RcLn (p : Pg) : Prop := ∀ r ∈ p.recs, r.2.fields.length = r.2.types.length
theorem rcLn_of {p : Pg} (h : rightB p = true) : RcLn p := fun r hr => by
  unfold rightB recordsB at h
  simp only [Bool.and_eq_true, List.all_eq_true] at h
  have := h.1.1.1.1.1.2 r.2 (List.mem_map.2 ⟨r, hr, rfl⟩)
  unfold fieldsB at this
  simp only [Bool.and_eq_true, decide_eq_true_eq] at this
  exact this.1.1.2
theorem getD_len {p : Pg} (h : RcLn p) (k : Nat) : (((p.recs.map (·.2)).getD k rc0).types.length : Int) = (((p.recs.map (·.2)).getD k rc0).fields.length : Int) := by
  rw [List.getD_eq_getElem?_getD, List.getElem?_map]
  cases hk : p.recs[k]? with
  | none => rfl
  | some r => simp only [Option.map_some, Option.getD_some]; rw [h r (List.mem_of_getElem? hk)]
theorem parmN (ss : List Sg) (k : Int) : 0 ≤ (parmB ss k).1 := by
  unfold parmB
  split
  · simp only; omega
  · simp
theorem blw_iff (k c : Int) : (blw k c = true) = (0 ≤ k ∧ k < c) := by simp [blw]
set_option maxHeartbeats 4000000 in
theorem opEq (c : Cx) (hr : RcLn c.p) (regs : Int) (h0 : 0 ≤ regs) (n : Nat) (o : Opx) : refOp c regs n o = isOpB c regs n o := by
  obtain ⟨oc, od, oa, ob, ok⟩ := o
  cases hc : isC oc with
  | false =>
    have e := frm_no hc
    unfold refOp isOpB
    simp only [e, hc]
    simp [bad2]
  | true =>
    rcases isC_cases hc with rfl | rfl | rfl | rfl | rfl | rfl | rfl | rfl | rfl | rfl | rfl | rfl | rfl | rfl | rfl | rfl | rfl | rfl | rfl | rfl | rfl | rfl | rfl | rfl | rfl | rfl | rfl | rfl | rfl | rfl | rfl | rfl | rfl | rfl | rfl | rfl | rfl | rfl | rfl | rfl
    · have e1 : frm 1 = ⟨true, false, false, true, true⟩ := rfl
      have e2 : shpAt 1 = ⟨⟨#[105, 110, 116]⟩, 1, 0, 0, 6⟩ := rfl
      have e3 : isC 1 = true := rfl
      unfold refOp isOpB
      simp only [e1, e2, e3]
      rw [Bool.eq_iff_iff]
      simp [bad2, bad5, bad7, bad9, bad11, mostI, fin27, inB, bnd, rowR, rowLen, blw]
      try omega
    · have e1 : frm 2 = ⟨true, false, false, true, true⟩ := rfl
      have e2 : shpAt 2 = ⟨⟨#[116, 101, 120, 116]⟩, 1, 0, 0, 7⟩ := rfl
      have e3 : isC 2 = true := rfl
      unfold refOp isOpB
      simp only [e1, e2, e3]
      rw [Bool.eq_iff_iff]
      simp [bad2, bad5, bad7, bad9, bad11, mostI, fin27, inB, bnd, rowR, rowLen, blw]
      try omega
    · have e1 : frm 3 = ⟨true, false, false, true, true⟩ := rfl
      have e2 : shpAt 3 = ⟨⟨#[98, 111, 111, 108]⟩, 1, 0, 0, 8⟩ := rfl
      have e3 : isC 3 = true := rfl
      unfold refOp isOpB
      simp only [e1, e2, e3]
      rw [Bool.eq_iff_iff]
      simp [bad2, bad5, bad7, bad9, bad11, mostI, fin27, inB, bnd, rowR, rowLen, blw]
      try omega
    · have e1 : frm 4 = ⟨true, true, false, false, true⟩ := rfl
      have e2 : shpAt 4 = ⟨⟨#[109, 111, 118, 101]⟩, 1, 3, 0, 0⟩ := rfl
      have e3 : isC 4 = true := rfl
      unfold refOp isOpB
      simp only [e1, e2, e3]
      rw [Bool.eq_iff_iff]
      simp [bad2, bad5, bad7, bad9, bad11, mostI, fin27, inB, bnd, rowR, rowLen, blw]
      try omega
    · have e1 : frm 5 = ⟨true, true, true, false, true⟩ := rfl
      have e2 : shpAt 5 = ⟨⟨#[97, 100, 100]⟩, 1, 3, 3, 0⟩ := rfl
      have e3 : isC 5 = true := rfl
      unfold refOp isOpB
      simp only [e1, e2, e3]
      rw [Bool.eq_iff_iff]
      simp [bad2, bad5, bad7, bad9, bad11, mostI, fin27, inB, bnd, rowR, rowLen, blw]
      try omega
    · have e1 : frm 6 = ⟨true, true, true, false, true⟩ := rfl
      have e2 : shpAt 6 = ⟨⟨#[115, 117, 98]⟩, 1, 3, 3, 0⟩ := rfl
      have e3 : isC 6 = true := rfl
      unfold refOp isOpB
      simp only [e1, e2, e3]
      rw [Bool.eq_iff_iff]
      simp [bad2, bad5, bad7, bad9, bad11, mostI, fin27, inB, bnd, rowR, rowLen, blw]
      try omega
    · have e1 : frm 7 = ⟨true, true, true, false, true⟩ := rfl
      have e2 : shpAt 7 = ⟨⟨#[109, 117, 108]⟩, 1, 3, 3, 0⟩ := rfl
      have e3 : isC 7 = true := rfl
      unfold refOp isOpB
      simp only [e1, e2, e3]
      rw [Bool.eq_iff_iff]
      simp [bad2, bad5, bad7, bad9, bad11, mostI, fin27, inB, bnd, rowR, rowLen, blw]
      try omega
    · have e1 : frm 8 = ⟨true, true, true, false, true⟩ := rfl
      have e2 : shpAt 8 = ⟨⟨#[119, 97, 100, 100]⟩, 1, 3, 3, 0⟩ := rfl
      have e3 : isC 8 = true := rfl
      unfold refOp isOpB
      simp only [e1, e2, e3]
      rw [Bool.eq_iff_iff]
      simp [bad2, bad5, bad7, bad9, bad11, mostI, fin27, inB, bnd, rowR, rowLen, blw]
      try omega
    · have e1 : frm 9 = ⟨true, true, true, false, true⟩ := rfl
      have e2 : shpAt 9 = ⟨⟨#[119, 115, 117, 98]⟩, 1, 3, 3, 0⟩ := rfl
      have e3 : isC 9 = true := rfl
      unfold refOp isOpB
      simp only [e1, e2, e3]
      rw [Bool.eq_iff_iff]
      simp [bad2, bad5, bad7, bad9, bad11, mostI, fin27, inB, bnd, rowR, rowLen, blw]
      try omega
    · have e1 : frm 10 = ⟨true, true, true, false, true⟩ := rfl
      have e2 : shpAt 10 = ⟨⟨#[119, 109, 117, 108]⟩, 1, 3, 3, 0⟩ := rfl
      have e3 : isC 10 = true := rfl
      unfold refOp isOpB
      simp only [e1, e2, e3]
      rw [Bool.eq_iff_iff]
      simp [bad2, bad5, bad7, bad9, bad11, mostI, fin27, inB, bnd, rowR, rowLen, blw]
      try omega
    · have e1 : frm 11 = ⟨true, true, true, false, true⟩ := rfl
      have e2 : shpAt 11 = ⟨⟨#[100, 105, 118]⟩, 1, 3, 3, 0⟩ := rfl
      have e3 : isC 11 = true := rfl
      unfold refOp isOpB
      simp only [e1, e2, e3]
      rw [Bool.eq_iff_iff]
      simp [bad2, bad5, bad7, bad9, bad11, mostI, fin27, inB, bnd, rowR, rowLen, blw]
      try omega
    · have e1 : frm 12 = ⟨true, true, true, false, true⟩ := rfl
      have e2 : shpAt 12 = ⟨⟨#[109, 111, 100]⟩, 1, 3, 3, 0⟩ := rfl
      have e3 : isC 12 = true := rfl
      unfold refOp isOpB
      simp only [e1, e2, e3]
      rw [Bool.eq_iff_iff]
      simp [bad2, bad5, bad7, bad9, bad11, mostI, fin27, inB, bnd, rowR, rowLen, blw]
      try omega
    · have e1 : frm 13 = ⟨true, true, true, false, true⟩ := rfl
      have e2 : shpAt 13 = ⟨⟨#[99, 97, 116]⟩, 1, 3, 3, 0⟩ := rfl
      have e3 : isC 13 = true := rfl
      unfold refOp isOpB
      simp only [e1, e2, e3]
      rw [Bool.eq_iff_iff]
      simp [bad2, bad5, bad7, bad9, bad11, mostI, fin27, inB, bnd, rowR, rowLen, blw]
      try omega
    · have e1 : frm 14 = ⟨true, true, true, false, true⟩ := rfl
      have e2 : shpAt 14 = ⟨⟨#[101, 113]⟩, 1, 3, 3, 0⟩ := rfl
      have e3 : isC 14 = true := rfl
      unfold refOp isOpB
      simp only [e1, e2, e3]
      rw [Bool.eq_iff_iff]
      simp [bad2, bad5, bad7, bad9, bad11, mostI, fin27, inB, bnd, rowR, rowLen, blw]
      try omega
    · have e1 : frm 15 = ⟨true, true, true, false, true⟩ := rfl
      have e2 : shpAt 15 = ⟨⟨#[110, 101]⟩, 1, 3, 3, 0⟩ := rfl
      have e3 : isC 15 = true := rfl
      unfold refOp isOpB
      simp only [e1, e2, e3]
      rw [Bool.eq_iff_iff]
      simp [bad2, bad5, bad7, bad9, bad11, mostI, fin27, inB, bnd, rowR, rowLen, blw]
      try omega
    · have e1 : frm 16 = ⟨true, true, true, false, true⟩ := rfl
      have e2 : shpAt 16 = ⟨⟨#[108, 116]⟩, 1, 3, 3, 0⟩ := rfl
      have e3 : isC 16 = true := rfl
      unfold refOp isOpB
      simp only [e1, e2, e3]
      rw [Bool.eq_iff_iff]
      simp [bad2, bad5, bad7, bad9, bad11, mostI, fin27, inB, bnd, rowR, rowLen, blw]
      try omega
    · have e1 : frm 17 = ⟨true, true, true, false, true⟩ := rfl
      have e2 : shpAt 17 = ⟨⟨#[108, 101]⟩, 1, 3, 3, 0⟩ := rfl
      have e3 : isC 17 = true := rfl
      unfold refOp isOpB
      simp only [e1, e2, e3]
      rw [Bool.eq_iff_iff]
      simp [bad2, bad5, bad7, bad9, bad11, mostI, fin27, inB, bnd, rowR, rowLen, blw]
      try omega
    · have e1 : frm 18 = ⟨true, true, true, false, true⟩ := rfl
      have e2 : shpAt 18 = ⟨⟨#[103, 116]⟩, 1, 3, 3, 0⟩ := rfl
      have e3 : isC 18 = true := rfl
      unfold refOp isOpB
      simp only [e1, e2, e3]
      rw [Bool.eq_iff_iff]
      simp [bad2, bad5, bad7, bad9, bad11, mostI, fin27, inB, bnd, rowR, rowLen, blw]
      try omega
    · have e1 : frm 19 = ⟨true, true, true, false, true⟩ := rfl
      have e2 : shpAt 19 = ⟨⟨#[103, 101]⟩, 1, 3, 3, 0⟩ := rfl
      have e3 : isC 19 = true := rfl
      unfold refOp isOpB
      simp only [e1, e2, e3]
      rw [Bool.eq_iff_iff]
      simp [bad2, bad5, bad7, bad9, bad11, mostI, fin27, inB, bnd, rowR, rowLen, blw]
      try omega
    · have e1 : frm 20 = ⟨true, true, false, false, true⟩ := rfl
      have e2 : shpAt 20 = ⟨⟨#[110, 101, 103]⟩, 1, 3, 0, 0⟩ := rfl
      have e3 : isC 20 = true := rfl
      unfold refOp isOpB
      simp only [e1, e2, e3]
      rw [Bool.eq_iff_iff]
      simp [bad2, bad5, bad7, bad9, bad11, mostI, fin27, inB, bnd, rowR, rowLen, blw]
      try omega
    · have e1 : frm 21 = ⟨true, true, false, false, true⟩ := rfl
      have e2 : shpAt 21 = ⟨⟨#[110, 111, 116]⟩, 1, 3, 0, 0⟩ := rfl
      have e3 : isC 21 = true := rfl
      unfold refOp isOpB
      simp only [e1, e2, e3]
      rw [Bool.eq_iff_iff]
      simp [bad2, bad5, bad7, bad9, bad11, mostI, fin27, inB, bnd, rowR, rowLen, blw]
      try omega
    · have e1 : frm 22 = ⟨true, true, false, false, true⟩ := rfl
      have e2 : shpAt 22 = ⟨⟨#[108, 101, 110]⟩, 1, 3, 0, 0⟩ := rfl
      have e3 : isC 22 = true := rfl
      unfold refOp isOpB
      simp only [e1, e2, e3]
      rw [Bool.eq_iff_iff]
      simp [bad2, bad5, bad7, bad9, bad11, mostI, fin27, inB, bnd, rowR, rowLen, blw]
      try omega
    · have e1 : frm 23 = ⟨true, true, false, false, true⟩ := rfl
      have e2 : shpAt 23 = ⟨⟨#[115, 116, 114]⟩, 1, 3, 0, 0⟩ := rfl
      have e3 : isC 23 = true := rfl
      unfold refOp isOpB
      simp only [e1, e2, e3]
      rw [Bool.eq_iff_iff]
      simp [bad2, bad5, bad7, bad9, bad11, mostI, fin27, inB, bnd, rowR, rowLen, blw]
      try omega
    · have e1 : frm 24 = ⟨true, true, false, true, true⟩ := rfl
      have e2 : shpAt 24 = ⟨⟨#[109, 97, 107, 101]⟩, 1, 5, 0, 9⟩ := rfl
      have e3 : isC 24 = true := rfl
      unfold refOp isOpB
      simp only [e1, e2, e3]
      rw [Bool.eq_iff_iff]
      cases hb : blw ok (c.p.recs.length : Int) with
      | false =>
        have hb' : ¬ (0 ≤ ok ∧ ok < (c.p.recs.length : Int)) := by rw [← blw_iff, hb]; simp
        simp [bad2, bad5, bad7, bad9, bad11, mostI, fin27, inB, bnd, rowR, rowLen, hb]
        omega
      | true =>
        have hb' : 0 ≤ ok ∧ ok < (c.p.recs.length : Int) := by rw [← blw_iff, hb]
        have hg := getD_len hr ok.toNat
        simp only [rowR, rowLen, hb, if_true, hg]
        generalize (((c.p.recs.map (·.2)).getD ok.toNat rc0).fields.length : Int) = m at *
        have hm : True := trivial
        simp [bad2, bad5, bad7, bad9, bad11, mostI, fin27, inB, bnd]
        omega
    · have e1 : frm 25 = ⟨true, true, false, true, true⟩ := rfl
      have e2 : shpAt 25 = ⟨⟨#[102, 105, 101, 108, 100]⟩, 1, 3, 0, 10⟩ := rfl
      have e3 : isC 25 = true := rfl
      unfold refOp isOpB
      simp only [e1, e2, e3]
      rw [Bool.eq_iff_iff]
      simp [bad2, bad5, bad7, bad9, bad11, mostI, fin27, inB, bnd, rowR, rowLen, blw]
      try omega
    · have e1 : frm 26 = ⟨true, true, false, true, true⟩ := rfl
      have e2 : shpAt 26 = ⟨⟨#[103, 101, 116]⟩, 1, 3, 0, 11⟩ := rfl
      have e3 : isC 26 = true := rfl
      unfold refOp isOpB
      simp only [e1, e2, e3]
      rw [Bool.eq_iff_iff]
      simp [bad2, bad5, bad7, bad9, bad11, mostI, fin27, inB, bnd, rowR, rowLen, blw]
      try omega
    · have e1 : frm 27 = ⟨true, true, false, true, true⟩ := rfl
      have e2 : shpAt 27 = ⟨⟨#[104, 97, 115]⟩, 1, 3, 0, 11⟩ := rfl
      have e3 : isC 27 = true := rfl
      unfold refOp isOpB
      simp only [e1, e2, e3]
      rw [Bool.eq_iff_iff]
      simp [bad2, bad5, bad7, bad9, bad11, mostI, fin27, inB, bnd, rowR, rowLen, blw]
      try omega
    · have e1 : frm 28 = ⟨false, true, true, true, true⟩ := rfl
      have e2 : shpAt 28 = ⟨⟨#[112, 117, 116]⟩, 0, 3, 3, 11⟩ := rfl
      have e3 : isC 28 = true := rfl
      unfold refOp isOpB
      simp only [e1, e2, e3]
      rw [Bool.eq_iff_iff]
      simp [bad2, bad5, bad7, bad9, bad11, mostI, fin27, inB, bnd, rowR, rowLen, blw]
      try omega
    · have e1 : frm 29 = ⟨false, true, false, true, true⟩ := rfl
      have e2 : shpAt 29 = ⟨⟨#[100, 101, 108]⟩, 0, 3, 0, 11⟩ := rfl
      have e3 : isC 29 = true := rfl
      unfold refOp isOpB
      simp only [e1, e2, e3]
      rw [Bool.eq_iff_iff]
      simp [bad2, bad5, bad7, bad9, bad11, mostI, fin27, inB, bnd, rowR, rowLen, blw]
      try omega
    · have e1 : frm 30 = ⟨true, true, true, true, true⟩ := rfl
      have e2 : shpAt 30 = ⟨⟨#[110, 101, 120, 116]⟩, 1, 3, 3, 11⟩ := rfl
      have e3 : isC 30 = true := rfl
      unfold refOp isOpB
      simp only [e1, e2, e3]
      rw [Bool.eq_iff_iff]
      simp [bad2, bad5, bad7, bad9, bad11, mostI, fin27, inB, bnd, rowR, rowLen, blw]
      try omega
    · have e1 : frm 31 = ⟨true, true, false, true, true⟩ := rfl
      have e2 : shpAt 31 = ⟨⟨#[99, 97, 108, 108]⟩, 2, 5, 0, 12⟩ := rfl
      have e3 : isC 31 = true := rfl
      unfold refOp isOpB
      simp only [e1, e2, e3]
      rw [Bool.eq_iff_iff]
      cases hb : blw ok (c.p.funcs.length : Int) with
      | false =>
        have hb' : ¬ (0 ≤ ok ∧ ok < (c.p.funcs.length : Int)) := by rw [← blw_iff, hb]; simp
        simp [bad2, bad5, bad7, bad9, bad11, mostI, fin27, inB, bnd, rowR, rowLen, hb]
        omega
      | true =>
        have hb' : 0 ≤ ok ∧ ok < (c.p.funcs.length : Int) := by rw [← blw_iff, hb]
        have hm := parmN (c.p.funcs.map (·.2)) ok
        simp [rowR, rowLen, hb]
        generalize (parmB (c.p.funcs.map (·.2)) ok).1 = m at *
        simp [bad2, bad5, bad7, bad9, bad11, mostI, fin27, inB, bnd]
        omega
    · have e1 : frm 32 = ⟨true, true, false, true, true⟩ := rfl
      have e2 : shpAt 32 = ⟨⟨#[97, 115, 107]⟩, 1, 3, 0, 7⟩ := rfl
      have e3 : isC 32 = true := rfl
      unfold refOp isOpB
      simp only [e1, e2, e3]
      rw [Bool.eq_iff_iff]
      simp [bad2, bad5, bad7, bad9, bad11, mostI, fin27, inB, bnd, rowR, rowLen, blw]
      try omega
    · have e1 : frm 33 = ⟨false, true, false, false, true⟩ := rfl
      have e2 : shpAt 33 = ⟨⟨#[101, 109, 105, 116]⟩, 0, 3, 0, 0⟩ := rfl
      have e3 : isC 33 = true := rfl
      unfold refOp isOpB
      simp only [e1, e2, e3]
      rw [Bool.eq_iff_iff]
      simp [bad2, bad5, bad7, bad9, bad11, mostI, fin27, inB, bnd, rowR, rowLen, blw]
      try omega
    · have e1 : frm 34 = ⟨false, true, true, true, true⟩ := rfl
      have e2 : shpAt 34 = ⟨⟨#[97, 102, 116, 101, 114]⟩, 0, 3, 5, 13⟩ := rfl
      have e3 : isC 34 = true := rfl
      unfold refOp isOpB
      simp only [e1, e2, e3]
      rw [Bool.eq_iff_iff]
      cases hb : blw ok (c.p.events.length : Int) with
      | false =>
        have hb' : ¬ (0 ≤ ok ∧ ok < (c.p.events.length : Int)) := by rw [← blw_iff, hb]; simp
        simp [bad2, bad5, bad7, bad9, bad11, mostI, fin27, inB, bnd, rowR, rowLen, hb]
        omega
      | true =>
        have hb' : 0 ≤ ok ∧ ok < (c.p.events.length : Int) := by rw [← blw_iff, hb]
        have hm := parmN (c.p.events.map (·.2)) ok
        simp [rowR, rowLen, hb]
        generalize (parmB (c.p.events.map (·.2)) ok).1 = m at *
        simp [bad2, bad5, bad7, bad9, bad11, mostI, fin27, inB, bnd]
        omega
    · have e1 : frm 35 = ⟨false, false, false, false, true⟩ := rfl
      have e2 : shpAt 35 = ⟨⟨#[99, 104, 97, 114, 103, 101]⟩, 0, 0, 0, 0⟩ := rfl
      have e3 : isC 35 = true := rfl
      unfold refOp isOpB
      simp only [e1, e2, e3]
      rw [Bool.eq_iff_iff]
      simp [bad2, bad5, bad7, bad9, bad11, mostI, fin27, inB, bnd, rowR, rowLen, blw]
      try omega
    · have e1 : frm 36 = ⟨false, false, false, false, true⟩ := rfl
      have e2 : shpAt 36 = ⟨⟨#[101, 110, 116, 101, 114]⟩, 0, 0, 0, 0⟩ := rfl
      have e3 : isC 36 = true := rfl
      unfold refOp isOpB
      simp only [e1, e2, e3]
      rw [Bool.eq_iff_iff]
      simp [bad2, bad5, bad7, bad9, bad11, mostI, fin27, inB, bnd, rowR, rowLen, blw]
      try omega
    · have e1 : frm 37 = ⟨false, false, false, false, true⟩ := rfl
      have e2 : shpAt 37 = ⟨⟨#[108, 101, 97, 118, 101]⟩, 0, 0, 0, 0⟩ := rfl
      have e3 : isC 37 = true := rfl
      unfold refOp isOpB
      simp only [e1, e2, e3]
      rw [Bool.eq_iff_iff]
      simp [bad2, bad5, bad7, bad9, bad11, mostI, fin27, inB, bnd, rowR, rowLen, blw]
      try omega
    · have e1 : frm 38 = ⟨false, false, false, true, true⟩ := rfl
      have e2 : shpAt 38 = ⟨⟨#[106, 117, 109, 112]⟩, 0, 0, 0, 14⟩ := rfl
      have e3 : isC 38 = true := rfl
      unfold refOp isOpB
      simp only [e1, e2, e3]
      rw [Bool.eq_iff_iff]
      simp [bad2, bad5, bad7, bad9, bad11, mostI, fin27, inB, bnd, rowR, rowLen, blw]
      try omega
    · have e1 : frm 39 = ⟨false, true, false, true, true⟩ := rfl
      have e2 : shpAt 39 = ⟨⟨#[117, 110, 108, 101, 115, 115]⟩, 0, 3, 0, 14⟩ := rfl
      have e3 : isC 39 = true := rfl
      unfold refOp isOpB
      simp only [e1, e2, e3]
      rw [Bool.eq_iff_iff]
      simp [bad2, bad5, bad7, bad9, bad11, mostI, fin27, inB, bnd, rowR, rowLen, blw]
      try omega
    · have e1 : frm 40 = ⟨false, true, false, false, true⟩ := rfl
      have e2 : shpAt 40 = ⟨⟨#[114, 101, 116]⟩, 0, 4, 0, 0⟩ := rfl
      have e3 : isC 40 = true := rfl
      unfold refOp isOpB
      simp only [e1, e2, e3]
      rw [Bool.eq_iff_iff]
      simp [bad2, bad5, bad7, bad9, bad11, mostI, fin27, inB, bnd, rowR, rowLen, blw]
      try omega
theorem fnEq (c : Cx) (hr : RcLn c.p) (pn : Nat) (f : Fx) : refFnB c pn f = isFnB c pn f := by
  unfold refFnB isFnB
  by_cases h : f.regs < (pn : Int)
  · simp [h]
  · have h0 : 0 ≤ f.regs := by omega
    congr 1
    refine Bool.eq_iff_iff.2 ?_
    simp only [List.all_eq_true]
    exact ⟨fun hh o ho => by rw [← opEq c hr f.regs h0]; exact hh o ho, fun hh o ho => by rw [opEq c hr f.regs h0]; exact hh o ho⟩
theorem fnsEq (c : Cx) (hr : RcLn c.p) (gs : List (GH × Sg)) (fs : List (FH × Fx)) (hg : ∀ p ∈ gs, p.1.pn = p.2.params.length) : refFnsB c gs fs = (decide (fs.length = gs.length) && isFnsB c (gs.map (·.2)) (fs.map (·.2))) := by
  unfold refFnsB
  by_cases hl : fs.length = gs.length
  · simp only [hl, decide_true, Bool.true_and]
    rw [zip_all hg]
    refine Bool.eq_iff_iff.2 ?_
    simp only [List.all_eq_true]
    constructor
    · intro h z hz
      obtain ⟨j, hj, hz2⟩ := List.mem_iff_getElem.1 hz
      have hj2 : j < gs.length := by rw [List.length_zip] at hj; omega
      have := h j (List.mem_range.2 hj2)
      unfold okAtZ at this
      rw [List.getElem?_eq_getElem hj2, List.getElem?_eq_getElem (show j < fs.length by omega)] at this
      rw [← hz2, List.getElem_zip]
      rw [← fnEq c hr]; exact this
    · intro h j hj
      have hj2 : j < gs.length := List.mem_range.1 hj
      unfold okAtZ
      rw [List.getElem?_eq_getElem hj2, List.getElem?_eq_getElem (show j < fs.length by omega)]
      have := h (gs[j], fs[j]'(by omega)) (List.mem_iff_getElem.2 ⟨j, by rw [List.length_zip]; omega, by rw [List.getElem_zip]⟩)
      simp only at this ⊢
      rw [fnEq c hr]; exact this
  · simp [hl]
theorem isEq {w : World} {C : CH} {c : Cx} {fs es : List (FH × Fx)} (d : CdRd w C c fs es) : refIsB c fs es = isB c := by
  unfold refIsB isB
  cases hr : rightB c.p with
  | false => simp
  | true =>
    have hl := rcLn_of hr
    rw [fnsEq c hl _ _ (fun p hp => (d.p.f.el p hp).pn), fnsEq c hl _ _ (fun p hp => (d.p.e.el p hp).pn)]
    rw [← d.fe, ← d.ee, List.length_map, List.length_map]
    unfold constB shortB
    refine Bool.eq_iff_iff.2 ?_
    simp only [Bool.and_eq_true]
    constructor
    · rintro ⟨⟨⟨⟨⟨h1, h2⟩, h3⟩, h4⟩, h5, h6⟩, h7, h8⟩
      exact ⟨⟨⟨⟨⟨h1, ⟨h2, h3⟩, h4⟩, h5⟩, h7⟩, h6⟩, h8⟩
    · rintro ⟨⟨⟨⟨⟨h1, ⟨h2, h3⟩, h4⟩, h5⟩, h7⟩, h6⟩, h8⟩
      exact ⟨⟨⟨⟨⟨h1, h2⟩, h3⟩, h4⟩, h5, h6⟩, h7, h8⟩
end Go.Proofs.Ytmhjnfibpngpmaa

namespace Go.Proofs.Ytmhjnfibpngpmaa
open Go.RowKit Go.Deep Go.Shelf
set_option linter.unusedVariables false
set_option linter.unusedSimpArgs false
/- A unit has the cells of a code: graphs stand where functions do. -/
structure UdRd (w : World) (U : CH) (p : Pg) (xs : List Int) (ts : List ByteArray) (gl el : List Gr) : Prop where
  p : PRd w U.h p
  i1 : U.inn = xs.length
  i2 : U.inn ≤ 1000000
  ir : JRd w U.ia xs
  il : U.ia = none → U.ic = 0
  t1 : U.tn = ts.length
  t2 : U.tn ≤ 1000000
  tr : SRd w U.ta ts
  tl : ∀ s ∈ ts, s.size ≤ 1000000
  f : GrsRd w U.fa U.fn gl
  fb : U.fn ≤ 1000000
  e : GrsRd w U.ea U.en el
  eb : U.en ≤ 1000000
def cxU (p : Pg) (xs : List Int) (ts : List ByteArray) (gl el : List Gr) : Cx := ⟨p, xs.length, ts, gl.map Gr.fx, el.map Gr.fx⟩
theorem FnsN.rd {w : World} {B : Nat} {v : Value} {gl : List Gr} (h : FnsN w B v (gl.map Gr.fx)) (hg : ∀ g ∈ gl, (layA 0 g.bs).length ≤ 100000) (hl : gl.length ≤ 1000000) : ∃ a n cap fs, v = .slice a n cap ∧ FRd w a n fs ∧ fs.map (·.2) = gl.map Gr.fx := by
  obtain ⟨fs, h1, h2, h3⟩ := h
  obtain ⟨a, cap, e, _, hr, _, _⟩ := h2.rd
  rw [List.length_map] at e
  have hlen : fs.length ≤ 1000000 := by
    have := congrArg List.length h1
    rw [List.length_map, List.length_map] at this
    omega
  refine ⟨a, fs.length, cap, fs, e, ⟨rfl, by omega, hr, fun p hp => (h3 p hp).rd ?_⟩, h1⟩
  have hm : p.2 ∈ gl.map Gr.fx := by rw [← h1]; exact List.mem_map.2 ⟨p, hp, rfl⟩
  obtain ⟨g, hg1, hg2⟩ := List.mem_map.1 hm
  rw [← hg2]
  have := hg g hg1
  show (layB g.bs).length ≤ _
  unfold layB
  rw [List.length_map]
  omega
def okU (p : Pg) (xs : List Int) (ts : List ByteArray) (gl el : List Gr) : Bool := allG gl && allG el && isB (cxU p xs ts gl el)
def zeroC : Value := .agg #[.slice none 0 0, .slice none 0 0, .slice none 0 0, .slice none 0 0, .slice none 0 0, .slice none 0 0, .slice none 0 0, .slice none 0 0]
def eight (w : World) (b : Nat) (x0 x1 x2 x3 x4 x5 x6 x7 : Value) : World := (((((((w.setCell ⟨b, 0, none⟩ x0).setCell ⟨b, 1, none⟩ x1).setCell ⟨b, 2, none⟩ x2).setCell ⟨b, 3, none⟩ x3).setCell ⟨b, 4, none⟩ x4).setCell ⟨b, 5, none⟩ x5).setCell ⟨b, 6, none⟩ x6).setCell ⟨b, 7, none⟩ x7
theorem eight_new {w : World} {b : Nat} {p0 p1 p2 p3 p4 p5 p6 p7 : Value} {t : TypeId} (h : w.heap[b]? = some (.cells #[p0, p1, p2, p3, p4, p5, p6, p7] t (0, 0))) (x0 x1 x2 x3 x4 x5 x6 x7 : Value) : (eight w b x0 x1 x2 x3 x4 x5 x6 x7).heap[b]? = some (.cells #[x0, x1, x2, x3, x4, x5, x6, x7] t (0, 0)) := by
  have h0 := heap_set_at h 0 x0
  simp only [List.setIfInBounds_toArray, List.set_cons_zero, List.set_cons_succ] at h0
  have h1 := heap_set_at h0 1 x1
  simp only [List.setIfInBounds_toArray, List.set_cons_zero, List.set_cons_succ] at h1
  have h2 := heap_set_at h1 2 x2
  simp only [List.setIfInBounds_toArray, List.set_cons_zero, List.set_cons_succ] at h2
  have h3 := heap_set_at h2 3 x3
  simp only [List.setIfInBounds_toArray, List.set_cons_zero, List.set_cons_succ] at h3
  have h4 := heap_set_at h3 4 x4
  simp only [List.setIfInBounds_toArray, List.set_cons_zero, List.set_cons_succ] at h4
  have h5 := heap_set_at h4 5 x5
  simp only [List.setIfInBounds_toArray, List.set_cons_zero, List.set_cons_succ] at h5
  have h6 := heap_set_at h5 6 x6
  simp only [List.setIfInBounds_toArray, List.set_cons_zero, List.set_cons_succ] at h6
  have h7 := heap_set_at h6 7 x7
  simp only [List.setIfInBounds_toArray, List.set_cons_zero, List.set_cons_succ] at h7
  exact h7
theorem eight_below {B : Nat} {w0 w : World} (hb : Below B w0 w) {b : Nat} (hB : B ≤ b) (x0 x1 x2 x3 x4 x5 x6 x7 : Value) : Below B w0 (eight w b x0 x1 x2 x3 x4 x5 x6 x7) := by
  unfold eight
  exact (((((((hb.setCell hB _).setCell hB _).setCell hB _).setCell hB _).setCell hB _).setCell hB _).setCell hB _).setCell hB _
theorem eight_other (w : World) (b : Nat) (x0 x1 x2 x3 x4 x5 x6 x7 : Value) {g : Nat} (hg : g ≠ b) : (eight w b x0 x1 x2 x3 x4 x5 x6 x7).heap[g]? = w.heap[g]? := by
  unfold eight
  rw [Below.heap_setCell _ ⟨b, 7, none⟩ _ _ (show g ≠ (⟨b, 7, none⟩ : Addr).block from hg)]
  rw [Below.heap_setCell _ ⟨b, 6, none⟩ _ _ (show g ≠ (⟨b, 6, none⟩ : Addr).block from hg)]
  rw [Below.heap_setCell _ ⟨b, 5, none⟩ _ _ (show g ≠ (⟨b, 5, none⟩ : Addr).block from hg)]
  rw [Below.heap_setCell _ ⟨b, 4, none⟩ _ _ (show g ≠ (⟨b, 4, none⟩ : Addr).block from hg)]
  rw [Below.heap_setCell _ ⟨b, 3, none⟩ _ _ (show g ≠ (⟨b, 3, none⟩ : Addr).block from hg)]
  rw [Below.heap_setCell _ ⟨b, 2, none⟩ _ _ (show g ≠ (⟨b, 2, none⟩ : Addr).block from hg)]
  rw [Below.heap_setCell _ ⟨b, 1, none⟩ _ _ (show g ≠ (⟨b, 1, none⟩ : Addr).block from hg)]
  rw [Below.heap_setCell _ ⟨b, 0, none⟩ _ _ (show g ≠ (⟨b, 0, none⟩ : Addr).block from hg)]
theorem FnsN.above {w w' : World} {B : Nat} {v : Value} {l : List Fx} (h : FnsN w B v l) (e : ∀ g, B ≤ g → g < w.heap.size → w'.heap[g]? = w.heap[g]?) : FnsN w' B v l := by
  obtain ⟨fs, h1, h2, h3⟩ := h
  refine ⟨fs, h1, h2.keep fun g hg => e g (h2.own hg).1 (h2.own hg).2, fun p hp => ⟨(h3 p hp).rg, (h3 p hp).op.keep fun b hb => ?_⟩⟩
  have h4 := (h3 p hp).op.2
  rcases h4 with ⟨e1, _⟩ | ⟨b', cap, cur, e1, h5, h6, _⟩
  · rw [e1] at hb; cases hb
  · rw [e1] at hb
    cases hb
    exact e b' h5 (lt_of_heap h6)
/- Either answer of fns in one form. -/
def FlQ (w : World) (gl : List Gr) (e : Ending) (w' : World) : Prop := Below w.heap.size w w' ∧ ∃ a n c b, e = .returned (.tuple #[.slice a n c, .bool b]) ∧ b = allG gl ∧ (b = true → FnsN w' w.heap.size (.slice a n c) (gl.map Gr.fx))
theorem FlP.plain {w : World} {gl : List Gr} {e : Ending} {w' : World} (h : FlP w gl e w') (hg : ∀ g ∈ gl, (layA 0 g.bs).length ≤ 100000) (hl : gl.length ≤ 1000000) : FlQ w gl e w' := by
  obtain ⟨hb, h | h⟩ := h
  · obtain ⟨h1, v, rfl, h2⟩ := h
    obtain ⟨a, n, cap, fs, rfl, h3, h4⟩ := h2.rd hg hl
    exact ⟨hb, a, n, cap, true, rfl, h1.symm, fun _ => h2⟩
  · obtain ⟨h1, rfl⟩ := h
    exact ⟨hb, none, 0, 0, false, rfl, h1.symm, fun h => by cases h⟩
theorem cell_eight {w : World} {b : Nat} {x0 x1 x2 x3 x4 x5 x6 x7 : Value} {t : TypeId} (g : w.heap[b]? = some (.cells #[x0, x1, x2, x3, x4, x5, x6, x7] t (0, 0))) : w.cell? ⟨b, 0, none⟩ = some x0 ∧ w.cell? ⟨b, 1, none⟩ = some x1 ∧ w.cell? ⟨b, 2, none⟩ = some x2 ∧ w.cell? ⟨b, 3, none⟩ = some x3 ∧ w.cell? ⟨b, 4, none⟩ = some x4 ∧ w.cell? ⟨b, 5, none⟩ = some x5 ∧ w.cell? ⟨b, 6, none⟩ = some x6 ∧ w.cell? ⟨b, 7, none⟩ = some x7 := ⟨cellOf g 0, cellOf g 1, cellOf g 2, cellOf g 3, cellOf g 4, cellOf g 5, cellOf g 6, cellOf g 7⟩
theorem free_eight {w : World} {b : Nat} {c : Array Value} {t : TypeId} (g : w.heap[b]? = some (.cells c t (0, 0))) : w.frozen? ⟨b, 0, none⟩ = false ∧ w.frozen? ⟨b, 1, none⟩ = false ∧ w.frozen? ⟨b, 2, none⟩ = false ∧ w.frozen? ⟨b, 3, none⟩ = false ∧ w.frozen? ⟨b, 4, none⟩ = false ∧ w.frozen? ⟨b, 5, none⟩ = false ∧ w.frozen? ⟨b, 6, none⟩ = false ∧ w.frozen? ⟨b, 7, none⟩ = false := ⟨freeOf g 0, freeOf g 1, freeOf g 2, freeOf g 3, freeOf g 4, freeOf g 5, freeOf g 6, freeOf g 7⟩
set_option maxRecDepth 100000 in
set_option maxHeartbeats 8000000 in
theorem refFlatten_any (w : World) (U : CH) (p : Pg) (xs : List Int) (ts : List ByteArray) (gl el : List Gr) (d : UdRd w U p xs ts gl el) :
    Calls Try.prog 13 #[U.v] w fun e w' => Below w.heap.size w w' ∧ ((okU p xs ts gl el = true ∧ ∃ (C : CH) (fs es : List (FH × Fx)), e = .returned (.tuple #[C.v, .int .i64 0]) ∧ CdRd w' C (cxU p xs ts gl el) fs es ∧ JRd w' C.ia xs ∧ C.inn = xs.length) ∨ (okU p xs ts gl el = false ∧ e = .returned (.tuple #[zeroC, .int .i64 100]))) := by
  obtain ⟨A1, hA1⟩ : ∃ A1, A1 = w.alloc (.cells U.cs 48) := ⟨_, rfl⟩
  obtain ⟨W0, hW0⟩ : ∃ W0, W0 = A1.alloc (.cells #[.slice none 0 0, .slice none 0 0, .slice none 0 0, .slice none 0 0, .slice none 0 0, .slice none 0 0, .slice none 0 0, .slice none 0 0] 52) := ⟨_, rfl⟩
  have b1 : Below w.heap.size w A1 := by rw [hA1]; exact (Below.refl _ _).alloc (Nat.le_refl _) _
  have z1 : A1.heap.size = w.heap.size + 1 := by rw [hA1]; simp
  have bw : Below w.heap.size w W0 := by rw [hW0]; exact b1.alloc (by omega) _
  have q0 : W0.heap[w.heap.size]? = some (.cells U.cs 48 (0, 0)) := by rw [hW0, Below.heap_alloc _ _ _ (by omega), hA1]; exact heap_alloc_new w _
  have q1 : W0.heap[w.heap.size + 1]? = some (.cells #[.slice none 0 0, .slice none 0 0, .slice none 0 0, .slice none 0 0, .slice none 0 0, .slice none 0 0, .slice none 0 0, .slice none 0 0] 52 (0, 0)) := by rw [hW0, ← z1]; exact heap_alloc_new A1 _
  have GT : Hid (∀ V : World, Below W0.heap.size W0 V → V.heap[w.heap.size]? = some (.cells U.cs 48 (0, 0)) ∧ V.heap[w.heap.size + 1]? = some (.cells #[.slice none 0 0, .slice none 0 0, .slice none 0 0, .slice none 0 0, .slice none 0 0, .slice none 0 0, .slice none 0 0, .slice none 0 0] 52 (0, 0)) ∧ Below w.heap.size w V) := hid (fun V hV => ⟨(hV.block _ (lt_of_heap q0)).trans q0, (hV.block _ (lt_of_heap q1)).trans q1, bw.trans (hV.mono bw.size)⟩)
  have KF : Hid (Calls Try.prog 36 #[.slice U.fa U.fn U.fc] W0 (FlQ W0 gl)) := hid ((refFns_any W0 U.fa U.fn U.fc gl (d.f.below bw) d.fb).mono fun e w' h => h.plain (fun g hg => (d.f.el g hg).ly) (by rw [← d.f.n1]; exact d.fb))
  have KE : Hid (∀ V : World, Below w.heap.size w V → Calls Try.prog 36 #[.slice U.ea U.en U.ec] V (FlQ V el)) := hid (fun V hV => (refFns_any V U.ea U.en U.ec el (d.e.below hV) d.eb).mono fun e w' h => h.plain (fun g hg => (d.e.el g hg).ly) (by rw [← d.e.n1]; exact d.eb))
  have I1 := hid d.i1
  have DD := hid (fun (V : World) (hV : Below w.heap.size w V) => (⟨d.p.below (Nat.le_refl _) hV, d.tr.below (Nat.le_refl _) hV, CRd.below d.ir (Nat.le_refl _) hV⟩ : PRd V U.h p ∧ SRd V U.ta ts ∧ JRd V U.ia xs))
  have li : U.inn ≤ 9223372036854775807 := by have := d.i2; omega
  have lt : U.tn ≤ 9223372036854775807 := by have := d.t2; omega
  have T1 := hid d.t1
  have RF := hid (fun (V : World) (B : Nat) (v : Value) (h : FnsN V B v (gl.map Gr.fx)) => h.rd (fun g hg => (d.f.el g hg).ly) (by rw [← d.f.n1]; exact d.fb))
  have RE := hid (fun (V : World) (B : Nat) (v : Value) (h : FnsN V B v (el.map Gr.fx)) => h.rd (fun g hg => (d.e.el g hg).ly) (by rw [← d.e.n1]; exact d.eb))
  obtain ⟨okv, hok⟩ : ∃ okv, okv = okU p xs ts gl el := ⟨_, rfl⟩
  rw [← hok]
  have HOK : Hid (okv = (allG gl && allG el && isB (cxU p xs ts gl el))) := hid hok
  have CFG : Hid (∀ (V : World) (fa : Option Addr) (fn fc : Nat) (fs : List (FH × Fx)) (ea : Option Addr) (en ec : Nat) (es : List (FH × Fx)), Below w.heap.size w V → FRd V fa fn fs → fs.map (·.2) = gl.map Gr.fx → FRd V ea en es → es.map (·.2) = el.map Gr.fx → CdRd V ⟨U.h, U.ia, U.inn, U.ic, U.ta, U.tn, U.tc, fa, fn, fc, ea, en, ec⟩ (cxU p xs ts gl el) fs es) := hid (fun V fa fn fc fs ea en ec es hV h1 h2 h3 h4 => ⟨(DD.out V hV).1, I1.out, li, T1.out, lt, (DD.out V hV).2.1, h1, h2, h3, h4⟩)
  have DJ := hid (fun (V : World) (hV : Below w.heap.size w V) => (DD.out V hV).2.2)
  have z0 : w.heap.size + 1 < W0.heap.size := lt_of_heap q1
  have BW := hid bw
  clear hok d b1 q0 q1 z1 DD T1 bw
  obtain ⟨⟨ra, rn, rc, ma, mn, mc, pfa, pfn, pfc, pea, pen, pec⟩, ia, inn, ic, ta, tn, tc, ga, gn, gc, ha, hn, hc⟩ := U
  simp only [CH.v, CH.cs] at hA1 hW0 GT KF KE CFG DJ I1 li lt ⊢
  have CL : Hid (∀ V : World, Below W0.heap.size W0 V → ((V.cell? ⟨w.heap.size, 0, none⟩ = some (.slice ra rn rc) ∧ V.cell? ⟨w.heap.size, 1, none⟩ = some (.slice ma mn mc) ∧ V.cell? ⟨w.heap.size, 2, none⟩ = some (.slice pfa pfn pfc) ∧ V.cell? ⟨w.heap.size, 3, none⟩ = some (.slice pea pen pec)) ∧ V.cell? ⟨w.heap.size, 4, none⟩ = some (.slice ia inn ic) ∧ V.cell? ⟨w.heap.size, 5, none⟩ = some (.slice ta tn tc) ∧ V.cell? ⟨w.heap.size, 6, none⟩ = some (.slice ga gn gc) ∧ V.cell? ⟨w.heap.size, 7, none⟩ = some (.slice ha hn hc)) ∧ Below w.heap.size w V) := hid (fun V hV => by
    obtain ⟨g, _, gb⟩ := GT.out V hV
    exact ⟨⟨⟨cellOf g 0, cellOf g 1, cellOf g 2, cellOf g 3⟩, cellOf g 4, cellOf g 5, cellOf g 6, cellOf g 7⟩, gb⟩)
  have TR : Hid (∀ {x y : World}, Below W0.heap.size W0 x → Below x.heap.size x y → Below W0.heap.size W0 y) := hid (fun h1 h2 => h1.trans (h2.mono h1.size))
  obtain ⟨⟨⟨c0, c1, c2, c3⟩, c4, c5, c6, c7⟩, _⟩ := CL.out W0 (Below.refl _ _)
  go_enter Try.func13, Try.ntmps13
  go_upto_region 1 with fail
  rw [← hA1, ← hW0]
  clear hA1 hW0
  go_upto_region 2 with (go_at_call 36; (refine (Hid.out KF).mono ?_; rintro e w1 ⟨hb1, fa, fn, fc, bf, rfl, hbf, hff⟩; clear c0 c1 c2 c3 c4 c5 c6 c7; obtain ⟨⟨⟨c0, c1, c2, c3⟩, c4, c5, c6, c7⟩, hw1⟩ := CL.out w1 hb1; have KE1 := hid (KE.out w1 hw1); have HB1 := hid hb1; have HBF := hid hbf; have HFF := hid hff; clear hb1 hbf hff hw1))
  go_upto_region 3 with (go_at_call 36; (refine (Hid.out KE1).mono ?_; rintro e w2 ⟨hb2, ea, en, ec, be, rfl, hbe, hee⟩; clear c0 c1 c2 c3 c4 c5 c6 c7; have HB2 := hid (TR.out HB1.out hb2); obtain ⟨⟨⟨c0, c1, c2, c3⟩, c4, c5, c6, c7⟩, hw2⟩ := CL.out w2 HB2.out; have HB12 := hid hb2; have HBE := hid hbe; have HEE := hid hee; clear hb2 hbe hee hw2))
  clear KF KE KE1
  obtain ⟨C3, hC3⟩ : ∃ C3 : CH, C3 = ⟨⟨ra, rn, rc, ma, mn, mc, pfa, pfn, pfc, pea, pen, pec⟩, ia, inn, ic, ta, tn, tc, fa, fn, fc, ea, en, ec⟩ := ⟨_, rfl⟩
  obtain ⟨W3, hW3⟩ : ∃ W3, W3 = w2.alloc (.cells #[.slice ra rn rc, .slice ma mn mc, .slice pfa pfn pfc, .slice pea pen pec, .slice ia inn ic, .slice ta tn tc, .slice fa fn fc, .slice ea en ec] 52) := ⟨_, rfl⟩
  go_upto_region 4 with fail
  rw [← hW3]
  have b3 : Below w2.heap.size w2 W3 := by rw [hW3]; exact (Below.refl _ _).alloc (Nat.le_refl _) _
  have m3 : W3.heap[w2.heap.size]? = some (.cells #[.slice ra rn rc, .slice ma mn mc, .slice pfa pfn pfc, .slice pea pen pec, .slice ia inn ic, .slice ta tn tc, .slice fa fn fc, .slice ea en ec] 52 (0, 0)) := by rw [hW3]; exact heap_alloc_new w2 _
  have B3 : Hid (Below W0.heap.size W0 W3) := hid (TR.out HB2.out b3)
  have b13 : Below w1.heap.size w1 W3 := HB12.out.trans (b3.mono HB12.out.size)
  have hsz : W0.heap.size ≤ w2.heap.size := HB2.out.size
  clear hW3 c0 c1 c2 c3 c4 c5 c6 c7
  obtain ⟨L, hL⟩ : ∃ L, L = w2.heap.size := ⟨_, rfl⟩
  rw [← hL] at m3 hsz ⊢
  clear hL
  have CLB : Hid (∀ V : World, Below W3.heap.size W3 V → (V.cell? ⟨L, 0, none⟩ = some (.slice ra rn rc) ∧ V.cell? ⟨L, 1, none⟩ = some (.slice ma mn mc) ∧ V.cell? ⟨L, 2, none⟩ = some (.slice pfa pfn pfc) ∧ V.cell? ⟨L, 3, none⟩ = some (.slice pea pen pec)) ∧ V.cell? ⟨L, 4, none⟩ = some (.slice ia inn ic) ∧ V.cell? ⟨L, 5, none⟩ = some (.slice ta tn tc) ∧ V.cell? ⟨L, 6, none⟩ = some (.slice fa fn fc) ∧ V.cell? ⟨L, 7, none⟩ = some (.slice ea en ec)) := hid (fun V hV => by
    have g := (hV.block _ (lt_of_heap m3)).trans m3
    exact ⟨⟨cellOf g 0, cellOf g 1, cellOf g 2, cellOf g 3⟩, cellOf g 4, cellOf g 5, cellOf g 6, cellOf g 7⟩)
  have RB : Hid (∀ V : World, Below W3.heap.size W3 V → V.heap[w.heap.size + 1]? = some (.cells #[.slice none 0 0, .slice none 0 0, .slice none 0 0, .slice none 0 0, .slice none 0 0, .slice none 0 0, .slice none 0 0, .slice none 0 0] 52 (0, 0)) ∧ Below w.heap.size w V) := hid (fun V hV => (GT.out V (TR.out B3.out hV)).2)
  by_cases hbb : bf = true ∧ be = true
  · obtain ⟨rfl, rfl⟩ := hbb
    have f1 := HFF.out rfl
    have f2 := HEE.out rfl
    have s1 : W0.heap.size ≤ w1.heap.size := HB1.out.size
    have CD : Hid (∀ V : World, Below w.heap.size w V → (∀ g, W0.heap.size ≤ g → g < W3.heap.size → V.heap[g]? = W3.heap[g]?) → ∃ fs es, CdRd V ⟨⟨ra, rn, rc, ma, mn, mc, pfa, pfn, pfc, pea, pen, pec⟩, ia, inn, ic, ta, tn, tc, fa, fn, fc, ea, en, ec⟩ (cxU p xs ts gl el) fs es) := hid (fun V hV hk => by
      have g1 := (f1.below (Nat.le_refl _) b13).above (w' := V) hk
      have g2 := (f2.below (Nat.le_refl _) b3).above (w' := V) (fun g hg hl => hk g (by omega) hl)
      obtain ⟨a1, n1, c1, fs, e1, h1, h2⟩ := RF.out _ _ _ g1
      obtain ⟨a2, n2, c2, es, e2, h3, h4⟩ := RE.out _ _ _ g2
      cases e1
      cases e2
      exact ⟨fs, es, CFG.out V fa fn fc fs ea en ec es hV h1 h2 h3 h4⟩)
    obtain ⟨fs, es, cd3⟩ := CD.out W3 (RB.out W3 (Below.refl _ _)).2 (fun _ _ _ => rfl)
    have KI := refIs_any W3 _ _ _ _ cd3
    rw [isEq cd3] at KI
    simp only [CH.v] at KI
    have HK : Hid (okv = isB (cxU p xs ts gl el)) := hid (by rw [HOK.out, ← HBF.out, ← HBE.out]; rfl)
    rw [← HK.out] at KI
    have KI := hid KI
    obtain ⟨⟨c0, c1, c2, c3⟩, c4, c5, c6, c7⟩ := CLB.out W3 (Below.refl _ _)
    clear f1 f2 b3 b13 m3 HBF HBE HFF HEE CFG HOK cd3
    cases okv with
    | true =>
      go_upto_region 6 with (go_at_call 37; (refine (Hid.out KI).mono ?_; rintro e w4 ⟨rfl, hb4⟩; clear c0 c1 c2 c3 c4 c5 c6 c7; obtain ⟨⟨c0, c1, c2, c3⟩, c4, c5, c6, c7⟩ := CLB.out w4 hb4; have HB4 := hid hb4; clear hb4))
      have g4 := (RB.out w4 HB4.out).1
      obtain ⟨d0, d1, d2, d3, d4, d5, d6, d7⟩ := cell_eight g4
      obtain ⟨y0, y1, y2, y3, y4, y5, y6, y7⟩ := free_eight g4
      go_wp2
      obtain ⟨q0, q1, q2, q3, q4, q5, q6, q7⟩ := cell_eight (eight_new g4 (.slice ra rn rc) (.slice ma mn mc) (.slice pfa pfn pfc) (.slice pea pen pec) (.slice ia inn ic) (.slice ta tn tc) (.slice fa fn fc) (.slice ea en ec))
      have HB6 := eight_below (RB.out w4 HB4.out).2 (show w.heap.size ≤ w.heap.size + 1 by omega) (.slice ra rn rc) (.slice ma mn mc) (.slice pfa pfn pfc) (.slice pea pen pec) (.slice ia inn ic) (.slice ta tn tc) (.slice fa fn fc) (.slice ea en ec)
      obtain ⟨fs6, es6, cd6⟩ := CD.out _ HB6 (fun g hg hl => by
        rw [eight_other _ _ _ _ _ _ _ _ _ _ (show g ≠ w.heap.size + 1 by omega)]
        exact HB4.out.block g hl)
      refine bodyPost_ret (w := eight w4 (w.heap.size + 1) (.slice ra rn rc) (.slice ma mn mc) (.slice pfa pfn pfc) (.slice pea pen pec) (.slice ia inn ic) (.slice ta tn tc) (.slice fa fn fc) (.slice ea en ec)) (v := .tuple #[.agg #[.slice ra rn rc, .slice ma mn mc, .slice pfa pfn pfc, .slice pea pen pec, .slice ia inn ic, .slice ta tn tc, .slice fa fn fc, .slice ea en ec], .int .i64 0]) (by simp [results, Try.results13, go_sem, q0, q1, q2, q3, q4, q5, q6, q7]) rfl ?_
      exact ⟨HB6, ⟨⟨ra, rn, rc, ma, mn, mc, pfa, pfn, pfc, pea, pen, pec⟩, ia, inn, ic, ta, tn, tc, fa, fn, fc, ea, en, ec⟩, rfl, ⟨fs6, es6, cd6⟩, DJ.out _ HB6, I1.out⟩
    | false =>
      go_upto_region 5 with (go_at_call 37; (refine (Hid.out KI).mono ?_; rintro e w4 ⟨rfl, hb4⟩; clear c0 c1 c2 c3 c4 c5 c6 c7; obtain ⟨⟨c0, c1, c2, c3⟩, c4, c5, c6, c7⟩ := CLB.out w4 hb4; have HB4 := hid hb4; clear hb4))
      have g4 := (RB.out w4 HB4.out).1
      obtain ⟨d0, d1, d2, d3, d4, d5, d6, d7⟩ := cell_eight g4
      obtain ⟨y0, y1, y2, y3, y4, y5, y6, y7⟩ := free_eight g4
      go_wp2
      obtain ⟨q0, q1, q2, q3, q4, q5, q6, q7⟩ := cell_eight (eight_new g4 (.slice none 0 0) (.slice none 0 0) (.slice none 0 0) (.slice none 0 0) (.slice none 0 0) (.slice none 0 0) (.slice none 0 0) (.slice none 0 0))
      have HB6 := eight_below (RB.out w4 HB4.out).2 (show w.heap.size ≤ w.heap.size + 1 by omega) (.slice none 0 0) (.slice none 0 0) (.slice none 0 0) (.slice none 0 0) (.slice none 0 0) (.slice none 0 0) (.slice none 0 0) (.slice none 0 0)
      refine bodyPost_ret (w := eight w4 (w.heap.size + 1) (.slice none 0 0) (.slice none 0 0) (.slice none 0 0) (.slice none 0 0) (.slice none 0 0) (.slice none 0 0) (.slice none 0 0) (.slice none 0 0)) (v := .tuple #[zeroC, .int .i64 100]) (by simp [zeroC, results, Try.results13, go_sem, q0, q1, q2, q3, q4, q5, q6, q7]) rfl ?_
      exact ⟨HB6, rfl⟩
  · have HK : Hid (okv = false) := hid (by
      rw [HOK.out, ← HBF.out, ← HBE.out]
      cases bf <;> cases be <;> simp at hbb ⊢)
    have HK := HK.out
    subst HK
    clear CFG HOK HBF HBE HFF HEE b3 b13 m3
    have g4 := (RB.out W3 (Below.refl _ _)).1
    obtain ⟨d0, d1, d2, d3, d4, d5, d6, d7⟩ := cell_eight g4
    obtain ⟨y0, y1, y2, y3, y4, y5, y6, y7⟩ := free_eight g4
    have qq := hid (cell_eight (eight_new g4 (.slice none 0 0) (.slice none 0 0) (.slice none 0 0) (.slice none 0 0) (.slice none 0 0) (.slice none 0 0) (.slice none 0 0) (.slice none 0 0)))
    have HB6 := hid (eight_below (RB.out W3 (Below.refl _ _)).2 (show w.heap.size ≤ w.heap.size + 1 by omega) (.slice none 0 0) (.slice none 0 0) (.slice none 0 0) (.slice none 0 0) (.slice none 0 0) (.slice none 0 0) (.slice none 0 0) (.slice none 0 0))
    clear g4
    cases bf with
    | false =>
      go_wp2
      obtain ⟨q0, q1, q2, q3, q4, q5, q6, q7⟩ := qq.out
      refine bodyPost_ret (w := eight W3 (w.heap.size + 1) (.slice none 0 0) (.slice none 0 0) (.slice none 0 0) (.slice none 0 0) (.slice none 0 0) (.slice none 0 0) (.slice none 0 0) (.slice none 0 0)) (v := .tuple #[zeroC, .int .i64 100]) (by simp [zeroC, results, Try.results13, go_sem, q0, q1, q2, q3, q4, q5, q6, q7]) rfl ?_
      exact ⟨HB6.out, rfl⟩
    | true =>
      cases be with
      | true => exact absurd ⟨rfl, rfl⟩ hbb
      | false =>
        clear hbb
        go_wp2
        obtain ⟨q0, q1, q2, q3, q4, q5, q6, q7⟩ := qq.out
        refine bodyPost_ret (w := eight W3 (w.heap.size + 1) (.slice none 0 0) (.slice none 0 0) (.slice none 0 0) (.slice none 0 0) (.slice none 0 0) (.slice none 0 0) (.slice none 0 0) (.slice none 0 0)) (v := .tuple #[zeroC, .int .i64 100]) (by simp [zeroC, results, Try.results13, go_sem, q0, q1, q2, q3, q4, q5, q6, q7]) rfl ?_
        exact ⟨HB6.out, rfl⟩
end Go.Proofs.Ytmhjnfibpngpmaa

namespace Go.Proofs.Ytmhjnfibpngpmaa
set_option maxRecDepth 100000
open Go.RowKit Go.Deep Go.Shelf
set_option linter.unusedVariables false
set_option linter.unusedSimpArgs false

def Some (w : World) (e : Ending) (w' : World) : Prop := ∃ b : Bool, e = .returned (.bool b) ∧ Below w.heap.size w w'
set_option maxRecDepth 100000 in
set_option maxHeartbeats 2000000 in
theorem plainP_any (w : World) (h : PH) (p : Pg) (d : PRd w h p) : Calls Try.prog 30 #[h.v] w (Some w) := by
  have D := hid d
  have r2 := d.r.n2
  have m2 := d.m.n2
  have f2 := d.f.n2
  have e2 := d.e.n2
  have Hr := hid d.r.n1
  have Hf := hid d.f.n1
  have He := hid d.e.n1
  clear d
  obtain ⟨ra, rn, rc, ma, mn, mc, fa, fn, fc, ea, en, ec⟩ := h
  simp only [PH.v] at r2 m2 f2 e2 ⊢
  obtain ⟨W0, hW0⟩ : ∃ W0, W0 = w.alloc (.cells #[.slice ra rn rc, .slice ma mn mc, .slice fa fn fc, .slice ea en ec] 36) := ⟨_, rfl⟩
  have hb0 : Below w.heap.size w W0 := by rw [hW0]; exact (Below.refl _ _).alloc (Nat.le_refl _) _
  have bx0 : W0.heap[w.heap.size]? = some (.cells #[.slice ra rn rc, .slice ma mn mc, .slice fa fn fc, .slice ea en ec] 36 (0, 0)) := by rw [hW0]; exact heap_alloc_new w _
  have z0 : W0.cell? ⟨w.heap.size, 0, none⟩ = some (.slice ra rn rc) := cellOf bx0 0
  have z1 : W0.cell? ⟨w.heap.size, 1, none⟩ = some (.slice ma mn mc) := cellOf bx0 1
  have z2 : W0.cell? ⟨w.heap.size, 2, none⟩ = some (.slice fa fn fc) := cellOf bx0 2
  have z3 : W0.cell? ⟨w.heap.size, 3, none⟩ = some (.slice ea en ec) := cellOf bx0 3
  have HB := hid hb0
  have DW := hid (D.out.below (Nat.le_refl _) hb0)
  clear hb0 bx0 D
  go_enter Try.func30, Try.ntmps30
  go_wp2
  rw [← hW0]
  clear hW0
  go_loopg [3] rn (fun g ii wr => ∃ i : Nat, i + g = rn ∧ ii = .int .i64 (i : Int) ∧ wr = W0)
  case atStart => exact ⟨0, by omega, rfl, rfl⟩
  case round =>
    obtain ⟨i, hi', rfl, rfl⟩ := hrel
    have Hi := hid hi'
    cases gk with
    | zero =>
      have hin : i = rn := by omega
      clear hi'
      subst hin
      go_wp2
      go_loopg [4] fn (fun g ii wr2 => ∃ j : Nat, j + g = fn ∧ ii = .int .i64 (j : Int) ∧ wr2 = wr)
      case atStart => exact ⟨0, by omega, rfl, rfl⟩
      case round =>
        obtain ⟨j, hj', rfl, rfl⟩ := hrel
        have Hj := hid hj'
        cases gk with
        | zero =>
          have hjn : j = fn := by omega
          clear hj'
          subst hjn
          go_wp2
          go_loopg [5] en (fun g ii wr2 => ∃ l : Nat, l + g = en ∧ ii = .int .i64 (l : Int) ∧ wr2 = wr)
          case atStart => exact ⟨0, by omega, rfl, rfl⟩
          case round =>
            obtain ⟨l, hl', rfl, rfl⟩ := hrel
            have Hl := hid hl'
            cases gk with
            | zero =>
              have hln : l = en := by omega
              clear hl'
              subst hln
              rcases Nat.lt_or_ge 30 i with q1 | q1
              · have q1' : ¬ ((i : Int) ≤ 30) := by omega
                go_wp2
                go_ret
                exact ⟨_, rfl, HB.out⟩
              · rcases Nat.lt_or_ge 30 mn with q2 | q2
                · have q2' : ¬ ((mn : Int) ≤ 30) := by omega
                  go_wp2
                  go_ret
                  exact ⟨_, rfl, HB.out⟩
                · rcases Nat.lt_or_ge 30 j with q3 | q3
                  · have q3' : ¬ ((j : Int) ≤ 30) := by omega
                    go_wp2
                    go_ret
                    exact ⟨_, rfl, HB.out⟩
                  · go_wp2
                    go_ret
                    exact ⟨_, rfl, HB.out⟩
            | succ g =>
              have hlt : l < en := by omega
              clear hl'
              obtain ⟨p', hp⟩ : ∃ p', p.events[l]? = some p' := ⟨p.events[l]'(by rw [← show en = p.events.length from He.out]; exact hlt), by rw [List.getElem?_eq_getElem]⟩
              have el := DW.out.e.el p' (List.mem_of_getElem? hp)
              obtain ⟨b1, o1, ea', hb1, e1⟩ := DW.out.e.rd l p'.1.cs (by simp [hp])
              subst ea'
              have x1 := e1 1 (by omega)
              have hp2 := el.p2
              clear e1 el hp hb1
              obtain ⟨h, s⟩ := p'
              obtain ⟨nm, pa, pn, pc, k, r⟩ := h
              simp only [GH.cs, List.getElem?_cons_zero, List.getElem?_cons_succ] at x1 hp2
              rcases Nat.lt_or_ge 30 pn with q1 | q1
              · go_wp2
                go_ret
                exact ⟨_, rfl, HB.out⟩
              · go_wp2
                go_roundg g
                case measure => omega
                case rel => exact ⟨l + 1, by have := Hl.out; omega, by go_num, rfl⟩
        | succ g =>
          have hlt : j < fn := by omega
          clear hj'
          obtain ⟨p', hp⟩ : ∃ p', p.funcs[j]? = some p' := ⟨p.funcs[j]'(by rw [← show fn = p.funcs.length from Hf.out]; exact hlt), by rw [List.getElem?_eq_getElem]⟩
          have el := DW.out.f.el p' (List.mem_of_getElem? hp)
          obtain ⟨b1, o1, ea', hb1, e1⟩ := DW.out.f.rd j p'.1.cs (by simp [hp])
          subst ea'
          have x1 := e1 1 (by omega)
          have hp2 := el.p2
          clear e1 el hp hb1
          obtain ⟨h, s⟩ := p'
          obtain ⟨nm, pa, pn, pc, k, r⟩ := h
          simp only [GH.cs, List.getElem?_cons_zero, List.getElem?_cons_succ] at x1 hp2
          rcases Nat.lt_or_ge 30 pn with q1 | q1
          · go_wp2
            go_ret
            exact ⟨_, rfl, HB.out⟩
          · go_wp2
            go_roundg g
            case measure => omega
            case rel => exact ⟨j + 1, by have := Hj.out; omega, by go_num, rfl⟩
    | succ g =>
      have hlt : i < rn := by omega
      clear hi'
      obtain ⟨p', hp⟩ : ∃ p', p.recs[i]? = some p' := ⟨p.recs[i]'(by rw [← show rn = p.recs.length from Hr.out]; exact hlt), by rw [List.getElem?_eq_getElem]⟩
      have el := DW.out.r.el p' (List.mem_of_getElem? hp)
      obtain ⟨b1, o1, ea', hb1, e1⟩ := DW.out.r.rd i p'.1.cs (by simp [hp])
      subst ea'
      have x1 := e1 1 (by omega)
      have x2 := e1 2 (by omega)
      have hp2 := el.f2
      have hp3 := el.t2
      clear e1 el hp hb1
      obtain ⟨h, s⟩ := p'
      obtain ⟨nm, fa', fn', fc', ta, tn, tc⟩ := h
      simp only [RH.cs, List.getElem?_cons_zero, List.getElem?_cons_succ] at x1 x2 hp2 hp3
      rcases Nat.lt_or_ge 30 fn' with q1 | q1
      · go_wp2
        go_ret
        exact ⟨_, rfl, HB.out⟩
      · rcases Nat.lt_or_ge 30 tn with q2 | q2
        · go_wp2
          go_ret
          exact ⟨_, rfl, HB.out⟩
        · go_wp2
          go_roundg g
          case measure => omega
          case rel => exact ⟨i + 1, by have := Hi.out; omega, by go_num, rfl⟩
end Go.Proofs.Ytmhjnfibpngpmaa

