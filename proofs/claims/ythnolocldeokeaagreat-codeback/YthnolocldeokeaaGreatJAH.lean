/- The document's instructions: Of. -/
import Derived.Test.YthnolocldeokeaaGreatJAG
namespace Go.Proofs.YthnolocldeokeaaGreat
open Go.RowKit Go.Deep Go.Shelf
set_option linter.unusedVariables false
set_option linter.unusedSimpArgs false
structure Frm where
  d : Bool
  a : Bool
  b : Bool
  k : Bool
  ok : Bool
def Frm.cs (f : Frm) : List Value := [.bool f.d, .bool f.a, .bool f.b, .bool f.k]
def frm (k : Int) : Frm :=
  if k = 1 ∨ k = 2 ∨ k = 3 then ⟨true, false, false, true, true⟩
  else if k = 4 ∨ k = 20 ∨ k = 21 ∨ k = 22 ∨ k = 23 then ⟨true, true, false, false, true⟩
  else if k = 24 ∨ k = 25 ∨ k = 26 ∨ k = 27 ∨ k = 31 ∨ k = 32 then ⟨true, true, false, true, true⟩
  else if k = 28 ∨ k = 34 then ⟨false, true, true, true, true⟩
  else if k = 29 ∨ k = 39 then ⟨false, true, false, true, true⟩
  else if k = 30 then ⟨true, true, true, true, true⟩
  else if k = 33 ∨ k = 40 then ⟨false, true, false, false, true⟩
  else if k = 35 ∨ k = 36 ∨ k = 37 then ⟨false, false, false, false, true⟩
  else if k = 38 then ⟨false, false, false, true, true⟩
  else if 5 ≤ k ∧ k ≤ 19 then ⟨true, true, true, false, true⟩
  else ⟨false, false, false, false, false⟩
def frmR (k : Int) : Ending := .returned (.tuple #[.agg (frm k).cs.toArray, .bool (frm k).ok])
theorem frmR_of {k : Int} {f : Frm} (h : frm k = f) : Ending.returned (.tuple #[.agg #[.bool f.d, .bool f.a, .bool f.b, .bool f.k], .bool f.ok]) = frmR k := by unfold frmR; rw [h]; rfl
def four (w : World) (b : Nat) (x0 x1 x2 x3 : Value) : World := (((w.setCell ⟨b, 0, none⟩ x0).setCell ⟨b, 1, none⟩ x1).setCell ⟨b, 2, none⟩ x2).setCell ⟨b, 3, none⟩ x3
theorem four_new {w : World} {b : Nat} {p0 p1 p2 p3 : Value} {t : TypeId} (h : w.heap[b]? = some (.cells #[p0, p1, p2, p3] t (0, 0))) (x0 x1 x2 x3 : Value) : (four w b x0 x1 x2 x3).heap[b]? = some (.cells #[x0, x1, x2, x3] t (0, 0)) := heap_set_at (heap_set_at (heap_set_at (heap_set_at h 0 x0) 1 x1) 2 x2) 3 x3
theorem four_below {B : Nat} {w0 w : World} (hb : Below B w0 w) {b : Nat} (hB : B ≤ b) (x0 x1 x2 x3 : Value) : Below B w0 (four w b x0 x1 x2 x3) := by
  unfold four
  exact (((hb.setCell hB _).setCell hB _).setCell hB _).setCell hB _
set_option maxRecDepth 100000 in
set_option maxHeartbeats 4000000 in
theorem of_any (w : World) (k : Int) : Calls Tryz.prog 101 #[.int .i64 k] w fun e w' => e = frmR k ∧ Below w.heap.size w w' := by
  obtain ⟨W0, hW0⟩ : ∃ W0, W0 = w.alloc (.cells #[.bool false, .bool false, .bool false, .bool false] 155) := ⟨_, rfl⟩
  have bw : Below w.heap.size w W0 := by rw [hW0]; exact (Below.refl _ _).alloc (Nat.le_refl _) _
  have m0 : W0.heap[w.heap.size]? = some (.cells #[.bool false, .bool false, .bool false, .bool false] 155 (0, 0)) := by rw [hW0]; exact heap_alloc_new w _
  have y0 := cellOf m0 0
  have y1 := cellOf m0 1
  have y2 := cellOf m0 2
  have y3 := cellOf m0 3
  have f0 := freeOf m0 0
  have f1 := freeOf m0 1
  have f2 := freeOf m0 2
  have f3 := freeOf m0 3
  simp only [List.getElem?_toArray, List.getElem?_cons_zero, List.getElem?_cons_succ] at y0 y1 y2 y3
  have FIN := hid (fun (x0 x1 x2 x3 : Value) => (⟨four_new m0 x0 x1 x2 x3, four_below bw (b := w.heap.size) (Nat.le_refl _) x0 x1 x2 x3⟩ : (four W0 w.heap.size x0 x1 x2 x3).heap[w.heap.size]? = some (.cells #[x0, x1, x2, x3] 155 (0, 0)) ∧ Below w.heap.size w (four W0 w.heap.size x0 x1 x2 x3)))
  clear bw m0
  by_cases h1 : k = 1
  · have HF : Hid (frm k = ⟨true, false, false, true, true⟩) := hid (by rw [h1]; rfl)
    have FN := hid (FIN.out (.bool true) (.bool false) (.bool false) (.bool true))
    clear FIN
    subst h1
    go_enter Tryz.func101, Tryz.ntmps101
    go_upto_region 1 with fail
    rw [← hW0]
    clear hW0
    go_wp2
    obtain ⟨hf, hb⟩ := FN.out
    have q0 := cellOf hf 0
    have q1 := cellOf hf 1
    have q2 := cellOf hf 2
    have q3 := cellOf hf 3
    simp only [four, List.getElem?_toArray, List.getElem?_cons_zero, List.getElem?_cons_succ] at q0 q1 q2 q3 hb
    refine bodyPost_ret (v := .tuple #[.agg #[.bool true, .bool false, .bool false, .bool true], .bool true]) (by simp [results, Tryz.results101, go_sem, q0, q1, q2, q3]) rfl ⟨frmR_of HF.out, hb⟩
  have b1 : (k == 1) = false := by simp [h1]
  by_cases h2 : k = 2
  · have HF : Hid (frm k = ⟨true, false, false, true, true⟩) := hid (by rw [h2]; rfl)
    have FN := hid (FIN.out (.bool true) (.bool false) (.bool false) (.bool true))
    clear FIN
    subst h2
    go_enter Tryz.func101, Tryz.ntmps101
    go_upto_region 1 with fail
    rw [← hW0]
    clear hW0
    go_wp2
    obtain ⟨hf, hb⟩ := FN.out
    have q0 := cellOf hf 0
    have q1 := cellOf hf 1
    have q2 := cellOf hf 2
    have q3 := cellOf hf 3
    simp only [four, List.getElem?_toArray, List.getElem?_cons_zero, List.getElem?_cons_succ] at q0 q1 q2 q3 hb
    refine bodyPost_ret (v := .tuple #[.agg #[.bool true, .bool false, .bool false, .bool true], .bool true]) (by simp [results, Tryz.results101, go_sem, q0, q1, q2, q3]) rfl ⟨frmR_of HF.out, hb⟩
  have b2 : (k == 2) = false := by simp [h2]
  by_cases h3 : k = 3
  · have HF : Hid (frm k = ⟨true, false, false, true, true⟩) := hid (by rw [h3]; rfl)
    have FN := hid (FIN.out (.bool true) (.bool false) (.bool false) (.bool true))
    clear FIN
    subst h3
    go_enter Tryz.func101, Tryz.ntmps101
    go_upto_region 1 with fail
    rw [← hW0]
    clear hW0
    go_wp2
    obtain ⟨hf, hb⟩ := FN.out
    have q0 := cellOf hf 0
    have q1 := cellOf hf 1
    have q2 := cellOf hf 2
    have q3 := cellOf hf 3
    simp only [four, List.getElem?_toArray, List.getElem?_cons_zero, List.getElem?_cons_succ] at q0 q1 q2 q3 hb
    refine bodyPost_ret (v := .tuple #[.agg #[.bool true, .bool false, .bool false, .bool true], .bool true]) (by simp [results, Tryz.results101, go_sem, q0, q1, q2, q3]) rfl ⟨frmR_of HF.out, hb⟩
  have b3 : (k == 3) = false := by simp [h3]
  by_cases h4 : k = 4
  · have HF : Hid (frm k = ⟨true, true, false, false, true⟩) := hid (by rw [h4]; rfl)
    have FN := hid (FIN.out (.bool true) (.bool true) (.bool false) (.bool false))
    clear FIN
    subst h4
    go_enter Tryz.func101, Tryz.ntmps101
    go_upto_region 1 with fail
    rw [← hW0]
    clear hW0
    go_wp2
    obtain ⟨hf, hb⟩ := FN.out
    have q0 := cellOf hf 0
    have q1 := cellOf hf 1
    have q2 := cellOf hf 2
    have q3 := cellOf hf 3
    simp only [four, List.getElem?_toArray, List.getElem?_cons_zero, List.getElem?_cons_succ] at q0 q1 q2 q3 hb
    refine bodyPost_ret (v := .tuple #[.agg #[.bool true, .bool true, .bool false, .bool false], .bool true]) (by simp [results, Tryz.results101, go_sem, q0, q1, q2, q3]) rfl ⟨frmR_of HF.out, hb⟩
  have b4 : (k == 4) = false := by simp [h4]
  by_cases h20 : k = 20
  · have HF : Hid (frm k = ⟨true, true, false, false, true⟩) := hid (by rw [h20]; rfl)
    have FN := hid (FIN.out (.bool true) (.bool true) (.bool false) (.bool false))
    clear FIN
    subst h20
    go_enter Tryz.func101, Tryz.ntmps101
    go_upto_region 1 with fail
    rw [← hW0]
    clear hW0
    go_wp2
    obtain ⟨hf, hb⟩ := FN.out
    have q0 := cellOf hf 0
    have q1 := cellOf hf 1
    have q2 := cellOf hf 2
    have q3 := cellOf hf 3
    simp only [four, List.getElem?_toArray, List.getElem?_cons_zero, List.getElem?_cons_succ] at q0 q1 q2 q3 hb
    refine bodyPost_ret (v := .tuple #[.agg #[.bool true, .bool true, .bool false, .bool false], .bool true]) (by simp [results, Tryz.results101, go_sem, q0, q1, q2, q3]) rfl ⟨frmR_of HF.out, hb⟩
  have b20 : (k == 20) = false := by simp [h20]
  by_cases h21 : k = 21
  · have HF : Hid (frm k = ⟨true, true, false, false, true⟩) := hid (by rw [h21]; rfl)
    have FN := hid (FIN.out (.bool true) (.bool true) (.bool false) (.bool false))
    clear FIN
    subst h21
    go_enter Tryz.func101, Tryz.ntmps101
    go_upto_region 1 with fail
    rw [← hW0]
    clear hW0
    go_wp2
    obtain ⟨hf, hb⟩ := FN.out
    have q0 := cellOf hf 0
    have q1 := cellOf hf 1
    have q2 := cellOf hf 2
    have q3 := cellOf hf 3
    simp only [four, List.getElem?_toArray, List.getElem?_cons_zero, List.getElem?_cons_succ] at q0 q1 q2 q3 hb
    refine bodyPost_ret (v := .tuple #[.agg #[.bool true, .bool true, .bool false, .bool false], .bool true]) (by simp [results, Tryz.results101, go_sem, q0, q1, q2, q3]) rfl ⟨frmR_of HF.out, hb⟩
  have b21 : (k == 21) = false := by simp [h21]
  by_cases h22 : k = 22
  · have HF : Hid (frm k = ⟨true, true, false, false, true⟩) := hid (by rw [h22]; rfl)
    have FN := hid (FIN.out (.bool true) (.bool true) (.bool false) (.bool false))
    clear FIN
    subst h22
    go_enter Tryz.func101, Tryz.ntmps101
    go_upto_region 1 with fail
    rw [← hW0]
    clear hW0
    go_wp2
    obtain ⟨hf, hb⟩ := FN.out
    have q0 := cellOf hf 0
    have q1 := cellOf hf 1
    have q2 := cellOf hf 2
    have q3 := cellOf hf 3
    simp only [four, List.getElem?_toArray, List.getElem?_cons_zero, List.getElem?_cons_succ] at q0 q1 q2 q3 hb
    refine bodyPost_ret (v := .tuple #[.agg #[.bool true, .bool true, .bool false, .bool false], .bool true]) (by simp [results, Tryz.results101, go_sem, q0, q1, q2, q3]) rfl ⟨frmR_of HF.out, hb⟩
  have b22 : (k == 22) = false := by simp [h22]
  by_cases h23 : k = 23
  · have HF : Hid (frm k = ⟨true, true, false, false, true⟩) := hid (by rw [h23]; rfl)
    have FN := hid (FIN.out (.bool true) (.bool true) (.bool false) (.bool false))
    clear FIN
    subst h23
    go_enter Tryz.func101, Tryz.ntmps101
    go_upto_region 1 with fail
    rw [← hW0]
    clear hW0
    go_wp2
    obtain ⟨hf, hb⟩ := FN.out
    have q0 := cellOf hf 0
    have q1 := cellOf hf 1
    have q2 := cellOf hf 2
    have q3 := cellOf hf 3
    simp only [four, List.getElem?_toArray, List.getElem?_cons_zero, List.getElem?_cons_succ] at q0 q1 q2 q3 hb
    refine bodyPost_ret (v := .tuple #[.agg #[.bool true, .bool true, .bool false, .bool false], .bool true]) (by simp [results, Tryz.results101, go_sem, q0, q1, q2, q3]) rfl ⟨frmR_of HF.out, hb⟩
  have b23 : (k == 23) = false := by simp [h23]
  by_cases h24 : k = 24
  · have HF : Hid (frm k = ⟨true, true, false, true, true⟩) := hid (by rw [h24]; rfl)
    have FN := hid (FIN.out (.bool true) (.bool true) (.bool false) (.bool true))
    clear FIN
    subst h24
    go_enter Tryz.func101, Tryz.ntmps101
    go_upto_region 1 with fail
    rw [← hW0]
    clear hW0
    go_wp2
    obtain ⟨hf, hb⟩ := FN.out
    have q0 := cellOf hf 0
    have q1 := cellOf hf 1
    have q2 := cellOf hf 2
    have q3 := cellOf hf 3
    simp only [four, List.getElem?_toArray, List.getElem?_cons_zero, List.getElem?_cons_succ] at q0 q1 q2 q3 hb
    refine bodyPost_ret (v := .tuple #[.agg #[.bool true, .bool true, .bool false, .bool true], .bool true]) (by simp [results, Tryz.results101, go_sem, q0, q1, q2, q3]) rfl ⟨frmR_of HF.out, hb⟩
  have b24 : (k == 24) = false := by simp [h24]
  by_cases h25 : k = 25
  · have HF : Hid (frm k = ⟨true, true, false, true, true⟩) := hid (by rw [h25]; rfl)
    have FN := hid (FIN.out (.bool true) (.bool true) (.bool false) (.bool true))
    clear FIN
    subst h25
    go_enter Tryz.func101, Tryz.ntmps101
    go_upto_region 1 with fail
    rw [← hW0]
    clear hW0
    go_wp2
    obtain ⟨hf, hb⟩ := FN.out
    have q0 := cellOf hf 0
    have q1 := cellOf hf 1
    have q2 := cellOf hf 2
    have q3 := cellOf hf 3
    simp only [four, List.getElem?_toArray, List.getElem?_cons_zero, List.getElem?_cons_succ] at q0 q1 q2 q3 hb
    refine bodyPost_ret (v := .tuple #[.agg #[.bool true, .bool true, .bool false, .bool true], .bool true]) (by simp [results, Tryz.results101, go_sem, q0, q1, q2, q3]) rfl ⟨frmR_of HF.out, hb⟩
  have b25 : (k == 25) = false := by simp [h25]
  by_cases h26 : k = 26
  · have HF : Hid (frm k = ⟨true, true, false, true, true⟩) := hid (by rw [h26]; rfl)
    have FN := hid (FIN.out (.bool true) (.bool true) (.bool false) (.bool true))
    clear FIN
    subst h26
    go_enter Tryz.func101, Tryz.ntmps101
    go_upto_region 1 with fail
    rw [← hW0]
    clear hW0
    go_wp2
    obtain ⟨hf, hb⟩ := FN.out
    have q0 := cellOf hf 0
    have q1 := cellOf hf 1
    have q2 := cellOf hf 2
    have q3 := cellOf hf 3
    simp only [four, List.getElem?_toArray, List.getElem?_cons_zero, List.getElem?_cons_succ] at q0 q1 q2 q3 hb
    refine bodyPost_ret (v := .tuple #[.agg #[.bool true, .bool true, .bool false, .bool true], .bool true]) (by simp [results, Tryz.results101, go_sem, q0, q1, q2, q3]) rfl ⟨frmR_of HF.out, hb⟩
  have b26 : (k == 26) = false := by simp [h26]
  by_cases h27 : k = 27
  · have HF : Hid (frm k = ⟨true, true, false, true, true⟩) := hid (by rw [h27]; rfl)
    have FN := hid (FIN.out (.bool true) (.bool true) (.bool false) (.bool true))
    clear FIN
    subst h27
    go_enter Tryz.func101, Tryz.ntmps101
    go_upto_region 1 with fail
    rw [← hW0]
    clear hW0
    go_wp2
    obtain ⟨hf, hb⟩ := FN.out
    have q0 := cellOf hf 0
    have q1 := cellOf hf 1
    have q2 := cellOf hf 2
    have q3 := cellOf hf 3
    simp only [four, List.getElem?_toArray, List.getElem?_cons_zero, List.getElem?_cons_succ] at q0 q1 q2 q3 hb
    refine bodyPost_ret (v := .tuple #[.agg #[.bool true, .bool true, .bool false, .bool true], .bool true]) (by simp [results, Tryz.results101, go_sem, q0, q1, q2, q3]) rfl ⟨frmR_of HF.out, hb⟩
  have b27 : (k == 27) = false := by simp [h27]
  by_cases h31 : k = 31
  · have HF : Hid (frm k = ⟨true, true, false, true, true⟩) := hid (by rw [h31]; rfl)
    have FN := hid (FIN.out (.bool true) (.bool true) (.bool false) (.bool true))
    clear FIN
    subst h31
    go_enter Tryz.func101, Tryz.ntmps101
    go_upto_region 1 with fail
    rw [← hW0]
    clear hW0
    go_wp2
    obtain ⟨hf, hb⟩ := FN.out
    have q0 := cellOf hf 0
    have q1 := cellOf hf 1
    have q2 := cellOf hf 2
    have q3 := cellOf hf 3
    simp only [four, List.getElem?_toArray, List.getElem?_cons_zero, List.getElem?_cons_succ] at q0 q1 q2 q3 hb
    refine bodyPost_ret (v := .tuple #[.agg #[.bool true, .bool true, .bool false, .bool true], .bool true]) (by simp [results, Tryz.results101, go_sem, q0, q1, q2, q3]) rfl ⟨frmR_of HF.out, hb⟩
  have b31 : (k == 31) = false := by simp [h31]
  by_cases h32 : k = 32
  · have HF : Hid (frm k = ⟨true, true, false, true, true⟩) := hid (by rw [h32]; rfl)
    have FN := hid (FIN.out (.bool true) (.bool true) (.bool false) (.bool true))
    clear FIN
    subst h32
    go_enter Tryz.func101, Tryz.ntmps101
    go_upto_region 1 with fail
    rw [← hW0]
    clear hW0
    go_wp2
    obtain ⟨hf, hb⟩ := FN.out
    have q0 := cellOf hf 0
    have q1 := cellOf hf 1
    have q2 := cellOf hf 2
    have q3 := cellOf hf 3
    simp only [four, List.getElem?_toArray, List.getElem?_cons_zero, List.getElem?_cons_succ] at q0 q1 q2 q3 hb
    refine bodyPost_ret (v := .tuple #[.agg #[.bool true, .bool true, .bool false, .bool true], .bool true]) (by simp [results, Tryz.results101, go_sem, q0, q1, q2, q3]) rfl ⟨frmR_of HF.out, hb⟩
  have b32 : (k == 32) = false := by simp [h32]
  by_cases h28 : k = 28
  · have HF : Hid (frm k = ⟨false, true, true, true, true⟩) := hid (by rw [h28]; rfl)
    have FN := hid (FIN.out (.bool false) (.bool true) (.bool true) (.bool true))
    clear FIN
    subst h28
    go_enter Tryz.func101, Tryz.ntmps101
    go_upto_region 1 with fail
    rw [← hW0]
    clear hW0
    go_wp2
    obtain ⟨hf, hb⟩ := FN.out
    have q0 := cellOf hf 0
    have q1 := cellOf hf 1
    have q2 := cellOf hf 2
    have q3 := cellOf hf 3
    simp only [four, List.getElem?_toArray, List.getElem?_cons_zero, List.getElem?_cons_succ] at q0 q1 q2 q3 hb
    refine bodyPost_ret (v := .tuple #[.agg #[.bool false, .bool true, .bool true, .bool true], .bool true]) (by simp [results, Tryz.results101, go_sem, q0, q1, q2, q3]) rfl ⟨frmR_of HF.out, hb⟩
  have b28 : (k == 28) = false := by simp [h28]
  by_cases h34 : k = 34
  · have HF : Hid (frm k = ⟨false, true, true, true, true⟩) := hid (by rw [h34]; rfl)
    have FN := hid (FIN.out (.bool false) (.bool true) (.bool true) (.bool true))
    clear FIN
    subst h34
    go_enter Tryz.func101, Tryz.ntmps101
    go_upto_region 1 with fail
    rw [← hW0]
    clear hW0
    go_wp2
    obtain ⟨hf, hb⟩ := FN.out
    have q0 := cellOf hf 0
    have q1 := cellOf hf 1
    have q2 := cellOf hf 2
    have q3 := cellOf hf 3
    simp only [four, List.getElem?_toArray, List.getElem?_cons_zero, List.getElem?_cons_succ] at q0 q1 q2 q3 hb
    refine bodyPost_ret (v := .tuple #[.agg #[.bool false, .bool true, .bool true, .bool true], .bool true]) (by simp [results, Tryz.results101, go_sem, q0, q1, q2, q3]) rfl ⟨frmR_of HF.out, hb⟩
  have b34 : (k == 34) = false := by simp [h34]
  by_cases h29 : k = 29
  · have HF : Hid (frm k = ⟨false, true, false, true, true⟩) := hid (by rw [h29]; rfl)
    have FN := hid (FIN.out (.bool false) (.bool true) (.bool false) (.bool true))
    clear FIN
    subst h29
    go_enter Tryz.func101, Tryz.ntmps101
    go_upto_region 1 with fail
    rw [← hW0]
    clear hW0
    go_wp2
    obtain ⟨hf, hb⟩ := FN.out
    have q0 := cellOf hf 0
    have q1 := cellOf hf 1
    have q2 := cellOf hf 2
    have q3 := cellOf hf 3
    simp only [four, List.getElem?_toArray, List.getElem?_cons_zero, List.getElem?_cons_succ] at q0 q1 q2 q3 hb
    refine bodyPost_ret (v := .tuple #[.agg #[.bool false, .bool true, .bool false, .bool true], .bool true]) (by simp [results, Tryz.results101, go_sem, q0, q1, q2, q3]) rfl ⟨frmR_of HF.out, hb⟩
  have b29 : (k == 29) = false := by simp [h29]
  by_cases h39 : k = 39
  · have HF : Hid (frm k = ⟨false, true, false, true, true⟩) := hid (by rw [h39]; rfl)
    have FN := hid (FIN.out (.bool false) (.bool true) (.bool false) (.bool true))
    clear FIN
    subst h39
    go_enter Tryz.func101, Tryz.ntmps101
    go_upto_region 1 with fail
    rw [← hW0]
    clear hW0
    go_wp2
    obtain ⟨hf, hb⟩ := FN.out
    have q0 := cellOf hf 0
    have q1 := cellOf hf 1
    have q2 := cellOf hf 2
    have q3 := cellOf hf 3
    simp only [four, List.getElem?_toArray, List.getElem?_cons_zero, List.getElem?_cons_succ] at q0 q1 q2 q3 hb
    refine bodyPost_ret (v := .tuple #[.agg #[.bool false, .bool true, .bool false, .bool true], .bool true]) (by simp [results, Tryz.results101, go_sem, q0, q1, q2, q3]) rfl ⟨frmR_of HF.out, hb⟩
  have b39 : (k == 39) = false := by simp [h39]
  by_cases h30 : k = 30
  · have HF : Hid (frm k = ⟨true, true, true, true, true⟩) := hid (by rw [h30]; rfl)
    have FN := hid (FIN.out (.bool true) (.bool true) (.bool true) (.bool true))
    clear FIN
    subst h30
    go_enter Tryz.func101, Tryz.ntmps101
    go_upto_region 1 with fail
    rw [← hW0]
    clear hW0
    go_wp2
    obtain ⟨hf, hb⟩ := FN.out
    have q0 := cellOf hf 0
    have q1 := cellOf hf 1
    have q2 := cellOf hf 2
    have q3 := cellOf hf 3
    simp only [four, List.getElem?_toArray, List.getElem?_cons_zero, List.getElem?_cons_succ] at q0 q1 q2 q3 hb
    refine bodyPost_ret (v := .tuple #[.agg #[.bool true, .bool true, .bool true, .bool true], .bool true]) (by simp [results, Tryz.results101, go_sem, q0, q1, q2, q3]) rfl ⟨frmR_of HF.out, hb⟩
  have b30 : (k == 30) = false := by simp [h30]
  by_cases h33 : k = 33
  · have HF : Hid (frm k = ⟨false, true, false, false, true⟩) := hid (by rw [h33]; rfl)
    have FN := hid (FIN.out (.bool false) (.bool true) (.bool false) (.bool false))
    clear FIN
    subst h33
    go_enter Tryz.func101, Tryz.ntmps101
    go_upto_region 1 with fail
    rw [← hW0]
    clear hW0
    go_wp2
    obtain ⟨hf, hb⟩ := FN.out
    have q0 := cellOf hf 0
    have q1 := cellOf hf 1
    have q2 := cellOf hf 2
    have q3 := cellOf hf 3
    simp only [four, List.getElem?_toArray, List.getElem?_cons_zero, List.getElem?_cons_succ] at q0 q1 q2 q3 hb
    refine bodyPost_ret (v := .tuple #[.agg #[.bool false, .bool true, .bool false, .bool false], .bool true]) (by simp [results, Tryz.results101, go_sem, q0, q1, q2, q3]) rfl ⟨frmR_of HF.out, hb⟩
  have b33 : (k == 33) = false := by simp [h33]
  by_cases h40 : k = 40
  · have HF : Hid (frm k = ⟨false, true, false, false, true⟩) := hid (by rw [h40]; rfl)
    have FN := hid (FIN.out (.bool false) (.bool true) (.bool false) (.bool false))
    clear FIN
    subst h40
    go_enter Tryz.func101, Tryz.ntmps101
    go_upto_region 1 with fail
    rw [← hW0]
    clear hW0
    go_wp2
    obtain ⟨hf, hb⟩ := FN.out
    have q0 := cellOf hf 0
    have q1 := cellOf hf 1
    have q2 := cellOf hf 2
    have q3 := cellOf hf 3
    simp only [four, List.getElem?_toArray, List.getElem?_cons_zero, List.getElem?_cons_succ] at q0 q1 q2 q3 hb
    refine bodyPost_ret (v := .tuple #[.agg #[.bool false, .bool true, .bool false, .bool false], .bool true]) (by simp [results, Tryz.results101, go_sem, q0, q1, q2, q3]) rfl ⟨frmR_of HF.out, hb⟩
  have b40 : (k == 40) = false := by simp [h40]
  by_cases h35 : k = 35
  · have HF : Hid (frm k = ⟨false, false, false, false, true⟩) := hid (by rw [h35]; rfl)
    have FN := hid (FIN.out (.bool false) (.bool false) (.bool false) (.bool false))
    clear FIN
    subst h35
    go_enter Tryz.func101, Tryz.ntmps101
    go_upto_region 1 with fail
    rw [← hW0]
    clear hW0
    go_wp2
    obtain ⟨hf, hb⟩ := FN.out
    have q0 := cellOf hf 0
    have q1 := cellOf hf 1
    have q2 := cellOf hf 2
    have q3 := cellOf hf 3
    simp only [four, List.getElem?_toArray, List.getElem?_cons_zero, List.getElem?_cons_succ] at q0 q1 q2 q3 hb
    refine bodyPost_ret (v := .tuple #[.agg #[.bool false, .bool false, .bool false, .bool false], .bool true]) (by simp [results, Tryz.results101, go_sem, q0, q1, q2, q3]) rfl ⟨frmR_of HF.out, hb⟩
  have b35 : (k == 35) = false := by simp [h35]
  by_cases h36 : k = 36
  · have HF : Hid (frm k = ⟨false, false, false, false, true⟩) := hid (by rw [h36]; rfl)
    have FN := hid (FIN.out (.bool false) (.bool false) (.bool false) (.bool false))
    clear FIN
    subst h36
    go_enter Tryz.func101, Tryz.ntmps101
    go_upto_region 1 with fail
    rw [← hW0]
    clear hW0
    go_wp2
    obtain ⟨hf, hb⟩ := FN.out
    have q0 := cellOf hf 0
    have q1 := cellOf hf 1
    have q2 := cellOf hf 2
    have q3 := cellOf hf 3
    simp only [four, List.getElem?_toArray, List.getElem?_cons_zero, List.getElem?_cons_succ] at q0 q1 q2 q3 hb
    refine bodyPost_ret (v := .tuple #[.agg #[.bool false, .bool false, .bool false, .bool false], .bool true]) (by simp [results, Tryz.results101, go_sem, q0, q1, q2, q3]) rfl ⟨frmR_of HF.out, hb⟩
  have b36 : (k == 36) = false := by simp [h36]
  by_cases h37 : k = 37
  · have HF : Hid (frm k = ⟨false, false, false, false, true⟩) := hid (by rw [h37]; rfl)
    have FN := hid (FIN.out (.bool false) (.bool false) (.bool false) (.bool false))
    clear FIN
    subst h37
    go_enter Tryz.func101, Tryz.ntmps101
    go_upto_region 1 with fail
    rw [← hW0]
    clear hW0
    go_wp2
    obtain ⟨hf, hb⟩ := FN.out
    have q0 := cellOf hf 0
    have q1 := cellOf hf 1
    have q2 := cellOf hf 2
    have q3 := cellOf hf 3
    simp only [four, List.getElem?_toArray, List.getElem?_cons_zero, List.getElem?_cons_succ] at q0 q1 q2 q3 hb
    refine bodyPost_ret (v := .tuple #[.agg #[.bool false, .bool false, .bool false, .bool false], .bool true]) (by simp [results, Tryz.results101, go_sem, q0, q1, q2, q3]) rfl ⟨frmR_of HF.out, hb⟩
  have b37 : (k == 37) = false := by simp [h37]
  by_cases h38 : k = 38
  · have HF : Hid (frm k = ⟨false, false, false, true, true⟩) := hid (by rw [h38]; rfl)
    have FN := hid (FIN.out (.bool false) (.bool false) (.bool false) (.bool true))
    clear FIN
    subst h38
    go_enter Tryz.func101, Tryz.ntmps101
    go_upto_region 1 with fail
    rw [← hW0]
    clear hW0
    go_wp2
    obtain ⟨hf, hb⟩ := FN.out
    have q0 := cellOf hf 0
    have q1 := cellOf hf 1
    have q2 := cellOf hf 2
    have q3 := cellOf hf 3
    simp only [four, List.getElem?_toArray, List.getElem?_cons_zero, List.getElem?_cons_succ] at q0 q1 q2 q3 hb
    refine bodyPost_ret (v := .tuple #[.agg #[.bool false, .bool false, .bool false, .bool true], .bool true]) (by simp [results, Tryz.results101, go_sem, q0, q1, q2, q3]) rfl ⟨frmR_of HF.out, hb⟩
  have b38 : (k == 38) = false := by simp [h38]
  by_cases h5 : 5 ≤ k ∧ k ≤ 19
  · obtain ⟨h5a, h5b⟩ := h5
    have HF : Hid (frm k = ⟨true, true, true, false, true⟩) := hid (by unfold frm; simp [h1, h2, h3, h4, h20, h21, h22, h23, h24, h25, h26, h27, h31, h32, h28, h34, h29, h39, h30, h33, h40, h35, h36, h37, h38, h5a, h5b])
    have FN := hid (FIN.out (.bool true) (.bool true) (.bool true) (.bool false))
    clear FIN
    have d1 : decide (5 ≤ k) = true := decide_eq_true h5a
    have d2 : decide (k ≤ 19) = true := decide_eq_true h5b
    go_enter Tryz.func101, Tryz.ntmps101
    go_upto_region 1 with fail
    rw [← hW0]
    clear hW0
    go_wp2
    obtain ⟨hf, hb⟩ := FN.out
    have q0 := cellOf hf 0
    have q1 := cellOf hf 1
    have q2 := cellOf hf 2
    have q3 := cellOf hf 3
    simp only [four, List.getElem?_toArray, List.getElem?_cons_zero, List.getElem?_cons_succ] at q0 q1 q2 q3 hb
    refine bodyPost_ret (v := .tuple #[.agg #[.bool true, .bool true, .bool true, .bool false], .bool true]) (by simp [results, Tryz.results101, go_sem, q0, q1, q2, q3]) rfl ⟨frmR_of HF.out, hb⟩
  have HZ : Hid (frm k = ⟨false, false, false, false, false⟩) := hid (by unfold frm; simp [h1, h2, h3, h4, h20, h21, h22, h23, h24, h25, h26, h27, h31, h32, h28, h34, h29, h39, h30, h33, h40, h35, h36, h37, h38, h5])
  by_cases h6 : 5 ≤ k
  · have h7 : ¬ k ≤ 19 := fun h => h5 ⟨h6, h⟩
    have HF : Hid (frm k = ⟨false, false, false, false, false⟩) := hid (by exact HZ.out)
    have FN := hid (FIN.out (.bool false) (.bool false) (.bool false) (.bool false))
    clear FIN
    have d1 : decide (5 ≤ k) = true := decide_eq_true h6
    have d2 : decide (k ≤ 19) = false := decide_eq_false h7
    go_enter Tryz.func101, Tryz.ntmps101
    go_upto_region 1 with fail
    rw [← hW0]
    clear hW0
    go_wp2
    obtain ⟨hf, hb⟩ := FN.out
    have q0 := cellOf hf 0
    have q1 := cellOf hf 1
    have q2 := cellOf hf 2
    have q3 := cellOf hf 3
    simp only [four, List.getElem?_toArray, List.getElem?_cons_zero, List.getElem?_cons_succ] at q0 q1 q2 q3 hb
    refine bodyPost_ret (v := .tuple #[.agg #[.bool false, .bool false, .bool false, .bool false], .bool false]) (by simp [results, Tryz.results101, go_sem, q0, q1, q2, q3]) rfl ⟨frmR_of HF.out, hb⟩
  · have HF : Hid (frm k = ⟨false, false, false, false, false⟩) := hid (by exact HZ.out)
    have FN := hid (FIN.out (.bool false) (.bool false) (.bool false) (.bool false))
    clear FIN
    have d1 : decide (5 ≤ k) = false := decide_eq_false h6
    go_enter Tryz.func101, Tryz.ntmps101
    go_upto_region 1 with fail
    rw [← hW0]
    clear hW0
    go_wp2
    obtain ⟨hf, hb⟩ := FN.out
    have q0 := cellOf hf 0
    have q1 := cellOf hf 1
    have q2 := cellOf hf 2
    have q3 := cellOf hf 3
    simp only [four, List.getElem?_toArray, List.getElem?_cons_zero, List.getElem?_cons_succ] at q0 q1 q2 q3 hb
    refine bodyPost_ret (v := .tuple #[.agg #[.bool false, .bool false, .bool false, .bool false], .bool false]) (by simp [results, Tryz.results101, go_sem, q0, q1, q2, q3]) rfl ⟨frmR_of HF.out, hb⟩
end Go.Proofs.YthnolocldeokeaaGreat

namespace Go.Proofs.YthnolocldeokeaaGreat
open Go.RowKit Go.Deep Go.Shelf
set_option linter.unusedVariables false
set_option linter.unusedSimpArgs false
def rowR (p : Pg) (o : Opx) : Int × Int × Bool :=
  if o.c = 24 then (if blw o.k (p.recs.length : Int) = true then (o.a, (((p.recs.map (·.2)).getD o.k.toNat rc0).types.length : Int), true) else (0, 0, false))
  else if o.c = 31 then (if blw o.k (p.funcs.length : Int) = true then (o.a, (parmB (p.funcs.map (·.2)) o.k).1, true) else (0, 0, false))
  else if o.c = 34 then (if blw o.k (p.events.length : Int) = true then (o.b, (parmB (p.events.map (·.2)) o.k).1, true) else (0, 0, false))
  else if o.c = 26 ∨ o.c = 27 ∨ o.c = 28 ∨ o.c = 29 ∨ o.c = 30 then (0, 0, blw o.k (p.maps.length : Int))
  else (0, 0, true)
def rowE (p : Pg) (o : Opx) : Ending := .returned (.tuple #[.int .i64 (rowR p o).1, .int .i64 (rowR p o).2.1, .bool (rowR p o).2.2])
theorem rowE_of {p : Pg} {o : Opx} {f m : Int} {b : Bool} (h : rowR p o = (f, m, b)) : Ending.returned (.tuple #[.int .i64 f, .int .i64 m, .bool b]) = rowE p o := by unfold rowE; rw [h]
theorem RRd.recT {w : World} {a : Option Addr} {n : Nat} {rs : List (RH × Rc)} (d : RRd w a n rs) {kk : Nat} (hk : kk < n) : ∃ g : RH × Rc, rs[kk]? = some g ∧ RcRd w g.1 g.2 ∧ ∃ b off, a = some ⟨b, off, none⟩ ∧ w.cell? ⟨b, off + kk * 3 + 2, none⟩ = some (.slice g.1.ta g.1.tn g.1.tc) := by
  have hl : kk < rs.length := by rw [← d.n1]; exact hk
  have hg : rs[kk]? = some rs[kk] := List.getElem?_eq_getElem hl
  obtain ⟨b, off, e, _, hc⟩ := d.rd kk rs[kk].1.cs (by simp [hg])
  exact ⟨_, hg, d.el _ (List.getElem_mem hl), b, off, e, hc 2 (by omega)⟩
theorem blw_no {k : Int} {n : Nat} (h : blw k (n : Int) = false) : k < 0 ∨ (¬ k < 0 ∧ (n : Int) ≤ k) := by
  unfold blw at h
  simp at h
  omega
set_option maxRecDepth 100000 in
set_option maxHeartbeats 4000000 in
theorem row_any (w : World) (h : PH) (p : Pg) (d : PRd w h p) (o : Opx) : Calls Tryz.prog 102 #[h.v, .agg o.cs] w fun e w' => e = rowE p o ∧ Below w.heap.size w w' := by
  obtain ⟨ra, rn, rc, ma, mn, mc, fa, fn, fc, ea, en, ec⟩ := h
  obtain ⟨oc, od, oa, ob, ok⟩ := o
  have dm := d.m
  have df := d.f
  have de := d.e
  have dr := d.r
  simp only at dm df de dr
  simp only [PH.v, Opx.cs]
  obtain ⟨W0, hW0⟩ : ∃ W0, W0 = (w.alloc (.cells #[.slice ra rn rc, .slice ma mn mc, .slice fa fn fc, .slice ea en ec] 26)).alloc (.cells #[.int .i64 oc, .int .i64 od, .int .i64 oa, .int .i64 ob, .int .i64 ok] 54) := ⟨_, rfl⟩
  have bw : Below w.heap.size w W0 := by rw [hW0]; exact ((Below.refl _ _).alloc (Nat.le_refl _) _).alloc (by simp) _
  have m0 : W0.heap[w.heap.size]? = some (.cells #[.slice ra rn rc, .slice ma mn mc, .slice fa fn fc, .slice ea en ec] 26 (0, 0)) := by rw [hW0]; exact (Below.heap_alloc _ _ _ (by simp)).trans (heap_alloc_new w _)
  have m1 : W0.heap[w.heap.size + 1]? = some (.cells #[.int .i64 oc, .int .i64 od, .int .i64 oa, .int .i64 ob, .int .i64 ok] 54 (0, 0)) := by
    have := heap_alloc_new (w.alloc (.cells #[.slice ra rn rc, .slice ma mn mc, .slice fa fn fc, .slice ea en ec] 26)) (.cells #[.int .i64 oc, .int .i64 od, .int .i64 oa, .int .i64 ob, .int .i64 ok] 54)
    rw [World.size_alloc] at this
    rw [hW0]; exact this
  have y0 := cellOf m0 0
  have y1 := cellOf m0 1
  have y2 := cellOf m0 2
  have y3 := cellOf m0 3
  have x0 := cellOf m1 0
  have x2 := cellOf m1 2
  have x3 := cellOf m1 3
  have x4 := cellOf m1 4
  simp only [List.getElem?_toArray, List.getElem?_cons_zero, List.getElem?_cons_succ] at x0 x2 x3 x4 y0 y1 y2 y3
  have dr0 := dr.below (Nat.le_refl _) bw
  have df0 := df.below (Nat.le_refl _) bw
  have de0 := de.below (Nat.le_refl _) bw
  have BW := hid bw
  have nr : rn ≤ 9223372036854775807 := dr.n2
  have nm' : mn ≤ 9223372036854775807 := dm.n2
  have nf : fn ≤ 9223372036854775807 := df.n2
  have ne : en ≤ 9223372036854775807 := de.n2
  have er : Hid (rn = p.recs.length) := hid dr.n1
  have em : Hid (mn = p.maps.length) := hid dm.n1
  have ef : Hid (fn = p.funcs.length) := hid df.n1
  have ee : Hid (en = p.events.length) := hid de.n1
  clear d dm df de dr m0 m1 bw
  by_cases h24 : oc = 24
  · subst h24
    cases hb : blw ok (rn : Int) with
    | false =>
      have HP : Hid (rowR p ⟨24, od, oa, ob, ok⟩ = (0, 0, false)) := hid (by unfold rowR; rw [if_pos rfl]; simp only [← er.out, hb]; rfl)
      rcases blw_no hb with hk | ⟨hk, hk2⟩
      · clear hb dr0 df0 de0
        have d1 : decide (ok < 0) = true := decide_eq_true hk
        go_enter Tryz.func102, Tryz.ntmps102
        go_upto_region 1 with fail
        rw [← hW0]
        clear hW0
        go_wp2
        refine bodyPost_ret (v := .tuple #[.int .i64 0, .int .i64 0, .bool false]) (by simp [results, Tryz.results102, go_sem]) rfl ⟨rowE_of HP.out, BW.out⟩
      · clear hb dr0 df0 de0
        have d1 : decide (ok < 0) = false := decide_eq_false hk
        have d2 : decide ((rn : Int) ≤ ok) = true := decide_eq_true hk2
        go_enter Tryz.func102, Tryz.ntmps102
        go_upto_region 1 with fail
        rw [← hW0]
        clear hW0
        go_wp2
        refine bodyPost_ret (v := .tuple #[.int .i64 0, .int .i64 0, .bool false]) (by simp [results, Tryz.results102, go_sem]) rfl ⟨rowE_of HP.out, BW.out⟩
    | true =>
      obtain ⟨kk, rfl, hk⟩ := blw_nat hb
      obtain ⟨g, hg, sg, b, off, rfl, c1⟩ := dr0.recT hk
      have HP : Hid (rowR p ⟨24, od, oa, ob, (kk : Int)⟩ = (oa, (g.1.tn : Int), true)) := hid (by
        unfold rowR
        rw [if_pos rfl]
        simp only [← er.out, hb, if_true, Int.toNat_natCast, List.getD_eq_getElem?_getD, List.getElem?_map, hg, Option.map_some, Option.getD_some, sg.tn])
      have hf2 := sg.t2
      have hkI : (kk : Int) < (rn : Int) := by omega
      have hk0 : (0 : Int) ≤ (kk : Int) := by omega
      have d1 : decide ((kk : Int) < 0) = false := decide_eq_false (by omega)
      have d2 : decide ((rn : Int) ≤ (kk : Int)) = false := decide_eq_false (by omega)
      have hnk : ¬ (rn : Int) ≤ (kk : Int) := by omega
      clear hb dr0 df0 de0 hg sg
      obtain ⟨⟨gnm, gfa, gfn, gfc, gta, gtn, gtc⟩, gr⟩ := g
      simp only at c1 HP hf2
      go_enter Tryz.func102, Tryz.ntmps102
      go_upto_region 1 with fail
      rw [← hW0]
      clear hW0
      go_wp2
      go_quiet (fail)
      go_wp2
      refine bodyPost_ret (v := .tuple #[.int .i64 oa, .int .i64 (gtn : Int), .bool true]) (by simp [results, Tryz.results102, go_sem]) rfl ⟨rowE_of HP.out, bel_dN BW.out _⟩
  have b24 : (oc == 24) = false := by simp [h24]
  by_cases h31 : oc = 31
  · subst h31
    cases hb : blw ok (fn : Int) with
    | false =>
      have HP : Hid (rowR p ⟨31, od, oa, ob, ok⟩ = (0, 0, false)) := hid (by unfold rowR; rw [if_neg (by simp), if_pos rfl]; simp only [← ef.out, hb]; rfl)
      rcases blw_no hb with hk | ⟨hk, hk2⟩
      · clear hb dr0 df0 de0
        have d1 : decide (ok < 0) = true := decide_eq_true hk
        go_enter Tryz.func102, Tryz.ntmps102
        go_upto_region 1 with fail
        rw [← hW0]
        clear hW0
        go_wp2
        refine bodyPost_ret (v := .tuple #[.int .i64 0, .int .i64 0, .bool false]) (by simp [results, Tryz.results102, go_sem]) rfl ⟨rowE_of HP.out, BW.out⟩
      · clear hb dr0 df0 de0
        have d1 : decide (ok < 0) = false := decide_eq_false hk
        have d2 : decide ((fn : Int) ≤ ok) = true := decide_eq_true hk2
        go_enter Tryz.func102, Tryz.ntmps102
        go_upto_region 1 with fail
        rw [← hW0]
        clear hW0
        go_wp2
        refine bodyPost_ret (v := .tuple #[.int .i64 0, .int .i64 0, .bool false]) (by simp [results, Tryz.results102, go_sem]) rfl ⟨rowE_of HP.out, BW.out⟩
    | true =>
      obtain ⟨kk, rfl, hk⟩ := blw_nat hb
      obtain ⟨g, hg, sg, b, off, rfl, c1⟩ := df0.sig hk
      have HP : Hid (rowR p ⟨31, od, oa, ob, (kk : Int)⟩ = (oa, (g.1.pn : Int), true)) := hid (by
        unfold rowR
        rw [if_neg (by simp), if_pos rfl]
        have := parm_at hg (by rw [← ef.out]; exact hb)
        simp only [← ef.out, hb, if_true, this, sg.pn])
      have hf2 := sg.p2
      have hkI : (kk : Int) < (fn : Int) := by omega
      have hk0 : (0 : Int) ≤ (kk : Int) := by omega
      have d1 : decide ((kk : Int) < 0) = false := decide_eq_false (by omega)
      have d2 : decide ((fn : Int) ≤ (kk : Int)) = false := decide_eq_false (by omega)
      have hnk : ¬ (fn : Int) ≤ (kk : Int) := by omega
      clear hb dr0 df0 de0 hg sg
      obtain ⟨⟨nm, pa, pn, pc, kd, rr⟩, sgg⟩ := g
      simp only at c1 HP hf2
      go_enter Tryz.func102, Tryz.ntmps102
      go_upto_region 1 with fail
      rw [← hW0]
      clear hW0
      go_wp2
      go_quiet (fail)
      go_wp2
      refine bodyPost_ret (v := .tuple #[.int .i64 oa, .int .i64 (pn : Int), .bool true]) (by simp [results, Tryz.results102, go_sem]) rfl ⟨rowE_of HP.out, bel_dN BW.out _⟩
  have b31 : (oc == 31) = false := by simp [h31]
  by_cases h34 : oc = 34
  · subst h34
    cases hb : blw ok (en : Int) with
    | false =>
      have HP : Hid (rowR p ⟨34, od, oa, ob, ok⟩ = (0, 0, false)) := hid (by unfold rowR; rw [if_neg (by simp), if_neg (by simp), if_pos rfl]; simp only [← ee.out, hb]; rfl)
      rcases blw_no hb with hk | ⟨hk, hk2⟩
      · clear hb dr0 df0 de0
        have d1 : decide (ok < 0) = true := decide_eq_true hk
        go_enter Tryz.func102, Tryz.ntmps102
        go_upto_region 1 with fail
        rw [← hW0]
        clear hW0
        go_wp2
        refine bodyPost_ret (v := .tuple #[.int .i64 0, .int .i64 0, .bool false]) (by simp [results, Tryz.results102, go_sem]) rfl ⟨rowE_of HP.out, BW.out⟩
      · clear hb dr0 df0 de0
        have d1 : decide (ok < 0) = false := decide_eq_false hk
        have d2 : decide ((en : Int) ≤ ok) = true := decide_eq_true hk2
        go_enter Tryz.func102, Tryz.ntmps102
        go_upto_region 1 with fail
        rw [← hW0]
        clear hW0
        go_wp2
        refine bodyPost_ret (v := .tuple #[.int .i64 0, .int .i64 0, .bool false]) (by simp [results, Tryz.results102, go_sem]) rfl ⟨rowE_of HP.out, BW.out⟩
    | true =>
      obtain ⟨kk, rfl, hk⟩ := blw_nat hb
      obtain ⟨g, hg, sg, b, off, rfl, c1⟩ := de0.sig hk
      have HP : Hid (rowR p ⟨34, od, oa, ob, (kk : Int)⟩ = (ob, (g.1.pn : Int), true)) := hid (by
        unfold rowR
        rw [if_neg (by simp), if_neg (by simp), if_pos rfl]
        have := parm_at hg (by rw [← ee.out]; exact hb)
        simp only [← ee.out, hb, if_true, this, sg.pn])
      have hf2 := sg.p2
      have hkI : (kk : Int) < (en : Int) := by omega
      have hk0 : (0 : Int) ≤ (kk : Int) := by omega
      have d1 : decide ((kk : Int) < 0) = false := decide_eq_false (by omega)
      have d2 : decide ((en : Int) ≤ (kk : Int)) = false := decide_eq_false (by omega)
      have hnk : ¬ (en : Int) ≤ (kk : Int) := by omega
      clear hb dr0 df0 de0 hg sg
      obtain ⟨⟨nm, pa, pn, pc, kd, rr⟩, sgg⟩ := g
      simp only at c1 HP hf2
      go_enter Tryz.func102, Tryz.ntmps102
      go_upto_region 1 with fail
      rw [← hW0]
      clear hW0
      go_wp2
      go_quiet (fail)
      go_wp2
      refine bodyPost_ret (v := .tuple #[.int .i64 ob, .int .i64 (pn : Int), .bool true]) (by simp [results, Tryz.results102, go_sem]) rfl ⟨rowE_of HP.out, bel_dN BW.out _⟩
  have b34 : (oc == 34) = false := by simp [h34]
  by_cases h26 : oc = 26
  · subst h26
    have HP : Hid (rowR p ⟨26, od, oa, ob, ok⟩ = (0, 0, blw ok (mn : Int))) := hid (by unfold rowR; rw [if_neg (by simp), if_neg (by simp), if_neg (by simp), if_pos (by simp), ← em.out])
    clear dr0 df0 de0
    by_cases hk : 0 ≤ ok
    · have d1 : decide (0 ≤ ok) = true := decide_eq_true hk
      by_cases hk2 : ok < (mn : Int)
      · have d2 : decide (ok < (mn : Int)) = true := decide_eq_true hk2
        have hbl : blw ok (mn : Int) = true := by simp [blw, hk, hk2]
        rw [hbl] at HP
        clear hbl
        go_enter Tryz.func102, Tryz.ntmps102
        go_upto_region 1 with fail
        rw [← hW0]
        clear hW0
        go_wp2
        go_quiet (fail)
        go_wp2
        refine bodyPost_ret (v := .tuple #[.int .i64 0, .int .i64 0, .bool true]) (by simp [results, Tryz.results102, go_sem]) rfl ⟨rowE_of HP.out, bel_dN BW.out _⟩
      · have d2 : decide (ok < (mn : Int)) = false := decide_eq_false hk2
        have hbl : blw ok (mn : Int) = false := by simp [blw, hk2]
        rw [hbl] at HP
        clear hbl
        go_enter Tryz.func102, Tryz.ntmps102
        go_upto_region 1 with fail
        rw [← hW0]
        clear hW0
        go_wp2
        go_quiet (fail)
        go_wp2
        refine bodyPost_ret (v := .tuple #[.int .i64 0, .int .i64 0, .bool false]) (by simp [results, Tryz.results102, go_sem]) rfl ⟨rowE_of HP.out, bel_dN BW.out _⟩
    · have d1 : decide (0 ≤ ok) = false := decide_eq_false hk
      have hbl : blw ok (mn : Int) = false := by simp [blw, hk]
      rw [hbl] at HP
      clear hbl
      go_enter Tryz.func102, Tryz.ntmps102
      go_upto_region 1 with fail
      rw [← hW0]
      clear hW0
      go_wp2
      go_quiet (fail)
      go_wp2
      refine bodyPost_ret (v := .tuple #[.int .i64 0, .int .i64 0, .bool false]) (by simp [results, Tryz.results102, go_sem]) rfl ⟨rowE_of HP.out, bel_dN BW.out _⟩
  have b26 : (oc == 26) = false := by simp [h26]
  by_cases h27 : oc = 27
  · subst h27
    have HP : Hid (rowR p ⟨27, od, oa, ob, ok⟩ = (0, 0, blw ok (mn : Int))) := hid (by unfold rowR; rw [if_neg (by simp), if_neg (by simp), if_neg (by simp), if_pos (by simp), ← em.out])
    clear dr0 df0 de0
    by_cases hk : 0 ≤ ok
    · have d1 : decide (0 ≤ ok) = true := decide_eq_true hk
      by_cases hk2 : ok < (mn : Int)
      · have d2 : decide (ok < (mn : Int)) = true := decide_eq_true hk2
        have hbl : blw ok (mn : Int) = true := by simp [blw, hk, hk2]
        rw [hbl] at HP
        clear hbl
        go_enter Tryz.func102, Tryz.ntmps102
        go_upto_region 1 with fail
        rw [← hW0]
        clear hW0
        go_wp2
        go_quiet (fail)
        go_wp2
        refine bodyPost_ret (v := .tuple #[.int .i64 0, .int .i64 0, .bool true]) (by simp [results, Tryz.results102, go_sem]) rfl ⟨rowE_of HP.out, bel_dN BW.out _⟩
      · have d2 : decide (ok < (mn : Int)) = false := decide_eq_false hk2
        have hbl : blw ok (mn : Int) = false := by simp [blw, hk2]
        rw [hbl] at HP
        clear hbl
        go_enter Tryz.func102, Tryz.ntmps102
        go_upto_region 1 with fail
        rw [← hW0]
        clear hW0
        go_wp2
        go_quiet (fail)
        go_wp2
        refine bodyPost_ret (v := .tuple #[.int .i64 0, .int .i64 0, .bool false]) (by simp [results, Tryz.results102, go_sem]) rfl ⟨rowE_of HP.out, bel_dN BW.out _⟩
    · have d1 : decide (0 ≤ ok) = false := decide_eq_false hk
      have hbl : blw ok (mn : Int) = false := by simp [blw, hk]
      rw [hbl] at HP
      clear hbl
      go_enter Tryz.func102, Tryz.ntmps102
      go_upto_region 1 with fail
      rw [← hW0]
      clear hW0
      go_wp2
      go_quiet (fail)
      go_wp2
      refine bodyPost_ret (v := .tuple #[.int .i64 0, .int .i64 0, .bool false]) (by simp [results, Tryz.results102, go_sem]) rfl ⟨rowE_of HP.out, bel_dN BW.out _⟩
  have b27 : (oc == 27) = false := by simp [h27]
  by_cases h28 : oc = 28
  · subst h28
    have HP : Hid (rowR p ⟨28, od, oa, ob, ok⟩ = (0, 0, blw ok (mn : Int))) := hid (by unfold rowR; rw [if_neg (by simp), if_neg (by simp), if_neg (by simp), if_pos (by simp), ← em.out])
    clear dr0 df0 de0
    by_cases hk : 0 ≤ ok
    · have d1 : decide (0 ≤ ok) = true := decide_eq_true hk
      by_cases hk2 : ok < (mn : Int)
      · have d2 : decide (ok < (mn : Int)) = true := decide_eq_true hk2
        have hbl : blw ok (mn : Int) = true := by simp [blw, hk, hk2]
        rw [hbl] at HP
        clear hbl
        go_enter Tryz.func102, Tryz.ntmps102
        go_upto_region 1 with fail
        rw [← hW0]
        clear hW0
        go_wp2
        go_quiet (fail)
        go_wp2
        refine bodyPost_ret (v := .tuple #[.int .i64 0, .int .i64 0, .bool true]) (by simp [results, Tryz.results102, go_sem]) rfl ⟨rowE_of HP.out, bel_dN BW.out _⟩
      · have d2 : decide (ok < (mn : Int)) = false := decide_eq_false hk2
        have hbl : blw ok (mn : Int) = false := by simp [blw, hk2]
        rw [hbl] at HP
        clear hbl
        go_enter Tryz.func102, Tryz.ntmps102
        go_upto_region 1 with fail
        rw [← hW0]
        clear hW0
        go_wp2
        go_quiet (fail)
        go_wp2
        refine bodyPost_ret (v := .tuple #[.int .i64 0, .int .i64 0, .bool false]) (by simp [results, Tryz.results102, go_sem]) rfl ⟨rowE_of HP.out, bel_dN BW.out _⟩
    · have d1 : decide (0 ≤ ok) = false := decide_eq_false hk
      have hbl : blw ok (mn : Int) = false := by simp [blw, hk]
      rw [hbl] at HP
      clear hbl
      go_enter Tryz.func102, Tryz.ntmps102
      go_upto_region 1 with fail
      rw [← hW0]
      clear hW0
      go_wp2
      go_quiet (fail)
      go_wp2
      refine bodyPost_ret (v := .tuple #[.int .i64 0, .int .i64 0, .bool false]) (by simp [results, Tryz.results102, go_sem]) rfl ⟨rowE_of HP.out, bel_dN BW.out _⟩
  have b28 : (oc == 28) = false := by simp [h28]
  by_cases h29 : oc = 29
  · subst h29
    have HP : Hid (rowR p ⟨29, od, oa, ob, ok⟩ = (0, 0, blw ok (mn : Int))) := hid (by unfold rowR; rw [if_neg (by simp), if_neg (by simp), if_neg (by simp), if_pos (by simp), ← em.out])
    clear dr0 df0 de0
    by_cases hk : 0 ≤ ok
    · have d1 : decide (0 ≤ ok) = true := decide_eq_true hk
      by_cases hk2 : ok < (mn : Int)
      · have d2 : decide (ok < (mn : Int)) = true := decide_eq_true hk2
        have hbl : blw ok (mn : Int) = true := by simp [blw, hk, hk2]
        rw [hbl] at HP
        clear hbl
        go_enter Tryz.func102, Tryz.ntmps102
        go_upto_region 1 with fail
        rw [← hW0]
        clear hW0
        go_wp2
        go_quiet (fail)
        go_wp2
        refine bodyPost_ret (v := .tuple #[.int .i64 0, .int .i64 0, .bool true]) (by simp [results, Tryz.results102, go_sem]) rfl ⟨rowE_of HP.out, bel_dN BW.out _⟩
      · have d2 : decide (ok < (mn : Int)) = false := decide_eq_false hk2
        have hbl : blw ok (mn : Int) = false := by simp [blw, hk2]
        rw [hbl] at HP
        clear hbl
        go_enter Tryz.func102, Tryz.ntmps102
        go_upto_region 1 with fail
        rw [← hW0]
        clear hW0
        go_wp2
        go_quiet (fail)
        go_wp2
        refine bodyPost_ret (v := .tuple #[.int .i64 0, .int .i64 0, .bool false]) (by simp [results, Tryz.results102, go_sem]) rfl ⟨rowE_of HP.out, bel_dN BW.out _⟩
    · have d1 : decide (0 ≤ ok) = false := decide_eq_false hk
      have hbl : blw ok (mn : Int) = false := by simp [blw, hk]
      rw [hbl] at HP
      clear hbl
      go_enter Tryz.func102, Tryz.ntmps102
      go_upto_region 1 with fail
      rw [← hW0]
      clear hW0
      go_wp2
      go_quiet (fail)
      go_wp2
      refine bodyPost_ret (v := .tuple #[.int .i64 0, .int .i64 0, .bool false]) (by simp [results, Tryz.results102, go_sem]) rfl ⟨rowE_of HP.out, bel_dN BW.out _⟩
  have b29 : (oc == 29) = false := by simp [h29]
  by_cases h30 : oc = 30
  · subst h30
    have HP : Hid (rowR p ⟨30, od, oa, ob, ok⟩ = (0, 0, blw ok (mn : Int))) := hid (by unfold rowR; rw [if_neg (by simp), if_neg (by simp), if_neg (by simp), if_pos (by simp), ← em.out])
    clear dr0 df0 de0
    by_cases hk : 0 ≤ ok
    · have d1 : decide (0 ≤ ok) = true := decide_eq_true hk
      by_cases hk2 : ok < (mn : Int)
      · have d2 : decide (ok < (mn : Int)) = true := decide_eq_true hk2
        have hbl : blw ok (mn : Int) = true := by simp [blw, hk, hk2]
        rw [hbl] at HP
        clear hbl
        go_enter Tryz.func102, Tryz.ntmps102
        go_upto_region 1 with fail
        rw [← hW0]
        clear hW0
        go_wp2
        go_quiet (fail)
        go_wp2
        refine bodyPost_ret (v := .tuple #[.int .i64 0, .int .i64 0, .bool true]) (by simp [results, Tryz.results102, go_sem]) rfl ⟨rowE_of HP.out, bel_dN BW.out _⟩
      · have d2 : decide (ok < (mn : Int)) = false := decide_eq_false hk2
        have hbl : blw ok (mn : Int) = false := by simp [blw, hk2]
        rw [hbl] at HP
        clear hbl
        go_enter Tryz.func102, Tryz.ntmps102
        go_upto_region 1 with fail
        rw [← hW0]
        clear hW0
        go_wp2
        go_quiet (fail)
        go_wp2
        refine bodyPost_ret (v := .tuple #[.int .i64 0, .int .i64 0, .bool false]) (by simp [results, Tryz.results102, go_sem]) rfl ⟨rowE_of HP.out, bel_dN BW.out _⟩
    · have d1 : decide (0 ≤ ok) = false := decide_eq_false hk
      have hbl : blw ok (mn : Int) = false := by simp [blw, hk]
      rw [hbl] at HP
      clear hbl
      go_enter Tryz.func102, Tryz.ntmps102
      go_upto_region 1 with fail
      rw [← hW0]
      clear hW0
      go_wp2
      go_quiet (fail)
      go_wp2
      refine bodyPost_ret (v := .tuple #[.int .i64 0, .int .i64 0, .bool false]) (by simp [results, Tryz.results102, go_sem]) rfl ⟨rowE_of HP.out, bel_dN BW.out _⟩
  have b30 : (oc == 30) = false := by simp [h30]
  have HP : Hid (rowR p ⟨oc, od, oa, ob, ok⟩ = (0, 0, true)) := hid (by unfold rowR; simp [h24, h31, h34, h26, h27, h28, h29, h30])
  clear dr0 df0 de0
  go_enter Tryz.func102, Tryz.ntmps102
  go_upto_region 1 with fail
  rw [← hW0]
  clear hW0
  go_wp2
  refine bodyPost_ret (v := .tuple #[.int .i64 0, .int .i64 0, .bool true]) (by simp [results, Tryz.results102, go_sem]) rfl ⟨rowE_of HP.out, BW.out⟩
end Go.Proofs.YthnolocldeokeaaGreat

