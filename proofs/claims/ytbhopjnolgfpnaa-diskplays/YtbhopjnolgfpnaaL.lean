/- DiskPlays: its head, its short ways. -/
import Derived.Test.YtbhopjnolgfpnaaK
import Derived.Deep.Cut
import Derived.Deep.CutRange
import Derived.Deep.CutBlock
import Derived.Deep.DeepCutAuto
import Derived.Deep.LoopGhost
namespace Go.Proofs.Ytbhopjnolgfpnaa
open Go.RowKit Go.Deep
set_option linter.unusedVariables false
set_option linter.unusedSimpArgs false

set_option maxRecDepth 100000 in
set_option maxHeartbeats 1000000 in
theorem plays_long (w : World) (blocks : Int) (a0 : Option Addr) (len cap : Nat) (h : 50 < len) :
    Calls Try.prog 3 #[.int .i64 blocks, .slice a0 len cap] w fun e w' => e = .returned (.bool true) ∧ Below w.heap.size w w' := by
  have h' : (50 : Int) < (len : Int) := by omega
  go_enter Try.func3, Try.ntmps3
  go_wp2_with (go_at_call 4; refine (known_any _).mono ?_; rintro e w1 ⟨rfl, hB1⟩)
  go_ret
  exact ⟨rfl, hB1⟩

set_option maxRecDepth 100000 in
set_option maxHeartbeats 1000000 in
theorem plays_many (w : World) (blocks : Int) (a0 : Option Addr) (len cap : Nat) (h : len ≤ 50) (hb : 20 < blocks) (hb' : blocks ≤ 16384) :
    Calls Try.prog 3 #[.int .i64 blocks, .slice a0 len cap] w fun e w' => e = .returned (.bool true) ∧ Below w.heap.size w w' := by
  have h' : ¬ (50 : Int) < (len : Int) := by omega
  go_enter Try.func3, Try.ntmps3
  go_wp2_with (go_at_call 4; refine (known_any _).mono ?_; rintro e w1 ⟨rfl, hB1⟩)
  go_ret
  exact ⟨rfl, hB1⟩

set_option maxRecDepth 100000 in
set_option maxHeartbeats 1000000 in
theorem plays_none (w : World) (blocks : Int) (a0 : Option Addr) (len cap : Nat) (h : len ≤ 50) (hb : blocks < 1 ∨ 16384 < blocks) :
    Calls Try.prog 3 #[.int .i64 blocks, .slice a0 len cap] w fun e w' => e = .returned (.bool true) ∧ Below w.heap.size w w' := by
  have h' : ¬ (50 : Int) < (len : Int) := by omega
  rcases hb with hb | hb
  · go_enter Try.func3, Try.ntmps3
    go_wp2_with (first | (go_at_call 4; refine (known_any _).mono ?_; rintro e w1 ⟨rfl, hB1⟩) | (go_at_call 5; refine (new_no _ _ (.inl hb)).mono ?_; rintro e w2 ⟨rfl, rfl⟩))
    go_ret
    exact ⟨rfl, hB1⟩
  · have hb2 : ¬ blocks < 1 := by omega
    have hb3 : ¬ blocks ≤ 16384 := by omega
    go_enter Try.func3, Try.ntmps3
    go_wp2_with (first | (go_at_call 4; refine (known_any _).mono ?_; rintro e w1 ⟨rfl, hB1⟩) | (go_at_call 5; refine (new_no _ _ (.inr hb)).mono ?_; rintro e w2 ⟨rfl, rfl⟩))
    go_ret
    exact ⟨rfl, hB1⟩

theorem mk_rows (n : Nat) (h : n ≤ 20) (w : World) : (Instr.makeSlice 29 (.int .i64 (n : Int)) (.int .i64 (n : Int))).run Try.prog w =
    .ok (.slice (some ⟨w.heap.size, 0, none⟩) n n) (w.alloc (.cells (List.replicate n (.slice none 0 0)).toArray 30)) := by
  have e : (List.replicate n (Value.slice none 0 0)).toArray = madeCells #[.slice none 0 0] n := by
    apply Array.ext
    · simp [madeCells]
    · intro i h1 h2
      simp [madeCells, Nat.mod_one]
  rw [e]
  exact run_make_row' 29 30 (.slice none 0 0) 24 Try.underlying29 (by kernel_rfl) rfl .i64 .i64 n (by omega) (by omega) w

theorem info30 : (Try.prog.info? 30).map (fun i => (i.zero, i.size, i.bytes)) = some (some (.slice none 0 0), 1, 24) := by kernel_rfl
theorem info29 : (Try.prog.info? 29).map (fun i => (i.zero, i.size, i.bytes)) = some (some (.slice none 0 0), 1, 24) := by kernel_rfl

/- now, filled up to k. -/
def Now1 (W : World) (bw n k : Nat) : Prop := ∃ vals : List Value, W.heap[bw]? = some (.cells vals.toArray 30 (0, 0)) ∧ vals.length = n ∧ ∀ i, i < k → ∃ b, vals[i]? = some (.slice (some ⟨b, 0, none⟩) 256 256) ∧ By W b 256 zeros

theorem Now1.cell {W : World} {bw n k : Nat} (h : Now1 W bw n k) (hk : k < n) : (∃ u, W.cell? ⟨bw, k, none⟩ = some u) ∧ W.frozen? ⟨bw, k, none⟩ = false ∧ bw < W.heap.size := by
  obtain ⟨vals, h1, h2, _⟩ := h
  refine ⟨⟨vals[k]'(by omega), ?_⟩, freeOf h1 k, (Array.getElem?_eq_some_iff.1 h1).1⟩
  rw [cellOf h1]
  simp [h2, hk]

theorem Now1.next {W : World} {bw n k : Nat} (h : Now1 W bw n k) (hk : k < n) : Now1 ((W.alloc (.cells (fillTo 0 256 0) 5)).setCell ⟨bw, k, none⟩ (.slice (some ⟨W.heap.size, 0, none⟩) 256 256)) bw n (k + 1) := by
  obtain ⟨vals, h1, h2, h3⟩ := h
  have hl := (Array.getElem?_eq_some_iff.1 h1).1
  have e : ∀ j, j < W.heap.size → j ≠ bw → ((W.alloc (.cells (fillTo 0 256 0) 5)).setCell ⟨bw, k, none⟩ (.slice (some ⟨W.heap.size, 0, none⟩) 256 256)).heap[j]? = W.heap[j]? := fun j hj hne => by
    rw [Below.heap_setCell _ _ _ _ hne, Below.heap_alloc _ _ _ hj]
  refine ⟨vals.set k (.slice (some ⟨W.heap.size, 0, none⟩) 256 256), ?_, by simpa using h2, fun i hi => ?_⟩
  · rw [heap_setCell_at (c := vals.toArray) (e := 30) (f := (0, 0)) (by rw [Below.heap_alloc _ _ _ hl]; exact h1)]
    simp
  · by_cases ei : k = i
    · subst ei
      refine ⟨W.heap.size, List.getElem?_set_self (by omega), (by_zero W 256).kept ?_⟩
      exact Below.heap_setCell _ _ _ _ (by show W.heap.size ≠ bw; omega)
    · obtain ⟨b, h4, h5⟩ := h3 i (by omega)
      refine ⟨b, by rw [List.getElem?_set_ne ei]; exact h4, h5.kept (e b h5.lt ?_)⟩
      rintro rfl
      obtain ⟨_, c, f, hb, _⟩ := h5
      rw [h1] at hb; cases hb

theorem Now1.next' {W : World} {bw n k : Nat} (h : Now1 W bw n k) (hk : k < n) : Now1 ((W.setCell ⟨bw, k, none⟩ (.slice (some ⟨W.heap.size, 0, none⟩) 256 256)).alloc (.cells (fillTo 0 256 0) 5)) bw n (k + 1) := by
  have hl := (h.cell hk).2.2
  have e : ((W.setCell ⟨bw, k, none⟩ (.slice (some ⟨W.heap.size, 0, none⟩) 256 256)).alloc (.cells (fillTo 0 256 0) 5)).heap = ((W.alloc (.cells (fillTo 0 256 0) 5)).setCell ⟨bw, k, none⟩ (.slice (some ⟨W.heap.size, 0, none⟩) 256 256)).heap := by
    apply Array.ext_getElem?
    intro j
    by_cases hj : j < W.heap.size
    · rw [Below.heap_alloc _ _ _ (by simpa [World.setCell] using hj)]
      by_cases hb : j = bw
      · subst hb
        obtain ⟨vals, h1, _⟩ := h
        rw [heap_setCell_at h1, heap_setCell_at (by rw [Below.heap_alloc _ _ _ hj]; exact h1)]
      · rw [Below.heap_setCell _ _ _ _ hb, Below.heap_setCell _ _ _ _ hb, Below.heap_alloc _ _ _ hj]
    · rw [Below.heap_setCell _ _ _ _ (by show j ≠ bw; omega)]
      show ((W.setCell _ _).heap.push _)[j]? = (W.heap.push _)[j]?
      rw [Array.getElem?_push, Array.getElem?_push]
      have hz : (W.setCell ⟨bw, k, none⟩ (.slice (some ⟨W.heap.size, 0, none⟩) 256 256)).heap.size = W.heap.size := by simp [World.setCell]
      rw [hz]
      by_cases e2 : j = W.heap.size
      · simp [e2]
      · simp only [e2, if_false]
        rw [Below.heap_setCell _ _ _ _ (by show j ≠ bw; omega)]
  obtain ⟨vals, h1, h2, h3⟩ := h.next hk
  refine ⟨vals, by rw [e]; exact h1, h2, fun i hi => ?_⟩
  obtain ⟨b, h4, h5⟩ := h3 i hi
  exact ⟨b, h4, h5.kept (by rw [e])⟩

theorem Now1.all {W : World} {bw n : Nat} (h : Now1 W bw n n) : NowIs W bw (replay (List.replicate n zeroS) []) := by
  obtain ⟨vals, h1, h2, h3⟩ := h
  refine ⟨vals, h1, by simp [replay, h2], fun i s hs => ?_⟩
  have hi : i < n := by have := (List.getElem?_eq_some_iff.1 hs).1; simpa [replay] using this
  obtain ⟨b, h4, h5⟩ := h3 i hi
  refine ⟨b, zeros, h4, h5, ?_⟩
  simp [replay, hi] at hs
  exact hs

theorem RowsOf.one {W : World} {vals : List Value} {S : List ByteArray} (h : RowsOf W vals S) : ∀ u ∈ vals, u.oneCell' = true := by
  intro u hu
  obtain ⟨i, hi⟩ := List.getElem?_of_mem hu
  have hl : i < S.length := by rw [← h.1]; exact (List.getElem?_eq_some_iff.1 hi).1
  obtain ⟨b, ns, h1, _⟩ := h.2 i S[i] (List.getElem?_eq_getElem hl)
  rw [hi] at h1; cases h1; rfl

/- What 'append(nil, now...)' lays is a moment. -/
theorem moment_of {W W1 : World} {bw g cap : Nat} {S : List ByteArray} {vals : List Value} (h1 : W.heap[bw]? = some (.cells vals.toArray 30 (0, 0))) (h2 : RowsOf W vals S) {N0 : Nat} (ho : W1.ownsRow N0 30 1 (.slice (some ⟨g, 0, none⟩) S.length cap) S.length vals)
    (hg : W.grownBy W1 none) (hgb : g ≠ bw) : MomIs W1 bw (.slice (some ⟨g, 0, none⟩) S.length cap) S :=
  ⟨g, cap, vals, rfl, hgb, ownsRow_base ho (Nat.zero_le _), h2.kept (fun j c f hj => hg.block j (Array.getElem?_eq_some_iff.1 hj).1 (by simp))⟩
end Go.Proofs.Ytbhopjnolgfpnaa
