/- Plain values. -/
import Derived.Test.YtnmbifoinponeaaGreatDoorA
import Derived.Deep.LoopGhost
namespace Go.Proofs.YtnmbifoinponeaaGreatDoor
open Go.RowKit Go.Deep
set_option linter.unusedVariables false
set_option linter.unusedSimpArgs false

def simpleB (h : Hd) : Bool := decide (h.rc = 0) && decide (h.n = 0) &&
  (decide (h.kind = 1) && decide (h.text = ByteArray.empty) || decide (h.kind = 2) && decide (h.int = 0) && decide (h.text.size ≤ 64) || decide (h.kind = 3) && decide (h.text = ByteArray.empty) && (decide (h.int = 0) || decide (h.int = 1)))

def plainB (h : Hd) (fs : List Hd) : Bool := if h.kind = 4 then decide (h.int = 0) && decide (h.text = ByteArray.empty) && decide (0 ≤ h.rc) && decide (h.rc ≤ 15) && decide (h.n ≤ 12) && fs.all simpleB else simpleB h
theorem plainB_rec {h : Hd} {fs : List Hd} (hk : h.kind = 4) : plainB h fs = (decide (h.int = 0) && decide (h.text = ByteArray.empty) && decide (0 ≤ h.rc) && decide (h.rc ≤ 15) && decide (h.n ≤ 12) && fs.all simpleB) := by unfold plainB; rw [if_pos hk]

theorem res_cells {w w2 : World} {c : Array Value} (h : Below (w.heap.size + 1) (w.alloc (.cells c 31)) w2) : w2.heap[w.heap.size]? = some (.cells c 31 (0, 0)) := by
  rw [h.block _ (by omega)]; exact heap_alloc_new w _
theorem all_drop {fs : List Hd} {i : Nat} {f : Hd} (h : fs[i]? = some f) : (fs.drop i).all simpleB = (simpleB f && (fs.drop (i + 1)).all simpleB) := by
  have hlt : i < fs.length := (List.getElem?_eq_some_iff.1 h).1
  rw [List.drop_eq_getElem_cons hlt]
  have : fs[i] = f := by simpa [hlt] using h
  rw [this]; rfl

theorem simpleB_cases {h : Hd} (hs : simpleB h = true) : h.rc = 0 ∧ h.n = 0 ∧ ((h.kind = 1 ∧ h.text = ByteArray.empty) ∨ (h.kind = 2 ∧ h.int = 0 ∧ h.text.size ≤ 64) ∨ (h.kind = 3 ∧ h.text = ByteArray.empty ∧ (h.int = 0 ∨ h.int = 1))) := by
  simp only [simpleB, Bool.and_eq_true, Bool.or_eq_true, decide_eq_true_eq] at hs
  obtain ⟨⟨h1, h2⟩, (⟨h3, h4⟩ | ⟨⟨h3, h4⟩, h5⟩) | ⟨⟨h3, h4⟩, h5⟩⟩ := hs
  · exact ⟨h1, h2, .inl ⟨h3, h4⟩⟩
  · exact ⟨h1, h2, .inr (.inl ⟨h3, h4, h5⟩)⟩
  · exact ⟨h1, h2, .inr (.inr ⟨h3, h4, h5⟩)⟩
end Go.Proofs.YtnmbifoinponeaaGreatDoor
