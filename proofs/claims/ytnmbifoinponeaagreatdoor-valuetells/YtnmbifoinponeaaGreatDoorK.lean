/- Types of a program: isKey, isSimple, isType, Name. -/
import Derived.Test.YtnmbifoinponeaaGreatDoorA
namespace Go.Proofs.YtnmbifoinponeaaGreatDoor
open Go.RowKit Go.Deep
set_option linter.unusedVariables false
set_option linter.unusedSimpArgs false

/- A type's two cells; a program's four slices. -/
def ty (k r : Int) : Value := .agg #[.int .i64 k, .int .i64 r]

set_option maxHeartbeats 400000 in
theorem isType_rec (w : World) (v0 v1 v2 : Value) (a : Option Addr) (n cap : Nat) (r : Nat) (hr : r < n) (hn : n ≤ 1000000)
    (h0 : v0.oneCell' = true) (h1 : v1.oneCell' = true) (h2 : v2.oneCell' = true) :
    Calls Tryz.prog 39 #[.agg #[.slice a n cap, v0, v1, v2], ty 4 (r : Int)] w fun e w' => e = .returned (.bool true) ∧ Below w.heap.size w w' := by
  unfold ty
  have hi0 : (0 : Int) ≤ (r : Int) := by omega
  have hi1 : (r : Int) < (n : Int) := by omega
  go_enter Tryz.func39, Tryz.ntmps39
  go_wp2
  go_ret
  exact ⟨by simp [hr], ((Below.refl _ _).alloc (Nat.le_refl _) _).alloc (by simp) _⟩

set_option maxHeartbeats 400000 in
theorem name_rec (w : World) (v0 v1 v2 : Value) (b off n cap : Nat) (r : Nat) (s : ByteArray) (hr : r < n) (hn : n ≤ 1000000)
    (h0 : v0.oneCell' = true) (h1 : v1.oneCell' = true) (h2 : v2.oneCell' = true) (hc : w.cell? ⟨b, off + r * 3, none⟩ = some (.string s)) :
    Calls Tryz.prog 19 #[.agg #[.slice (some ⟨b, off, none⟩) n cap, v0, v1, v2], ty 4 (r : Int)] w fun e w' => e = .returned (.string s) ∧ Below w.heap.size w w' := by
  have K := hid (fun w' => isType_rec w' v0 v1 v2 (some ⟨b, off, none⟩) n cap r hr hn h0 h1 h2)
  unfold ty at K ⊢
  have hi0 : (0 : Int) ≤ (r : Int) := by omega
  have hi1 : (r : Int) < (n : Int) := by omega
  have hB : Below w.heap.size w ((w.alloc (.cells #[.slice (some ⟨b, off, none⟩) n cap, v0, v1, v2] 26)).alloc (.cells #[.int .i64 4, .int .i64 (r : Int)] 28)) := ((Below.refl _ _).alloc (Nat.le_refl _) _).alloc (by simp) _
  have hlt := World.block_lt_of_cell? w _ hc
  go_enter Tryz.func19, Tryz.ntmps19
  go_wp2_with (go_at_call 39; (refine (Hid.out K _).mono ?_; rintro e w1 ⟨rfl, hb1⟩; have hb2 : w1.heap[w.heap.size]? = some (.cells #[.slice (some ⟨b, off, none⟩) n cap, v0, v1, v2] 26 (0, 0)) := (hb1.block _ (by simp; omega)).trans ((Below.heap_alloc _ _ _ (by simp)).trans (heap_alloc_new w _)); have hb3 : w1.heap[w.heap.size + 1]? = some (.cells #[.int .i64 4, .int .i64 (r : Int)] 28 (0, 0)) := (hb1.block _ (by simp)).trans (by have := heap_alloc_new (w.alloc (.cells #[.slice (some ⟨b, off, none⟩) n cap, v0, v1, v2] 26)) (.cells #[.int .i64 4, .int .i64 (r : Int)] 28); rw [World.size_alloc] at this; exact this); have g0 := cellOf hb2 0; have g1 := cellOf hb3 0; have g2 := cellOf hb3 1; simp only [List.getElem?_toArray, List.getElem?_cons_zero, List.getElem?_cons_succ] at g0 g1 g2; have hB1 := hB.trans (hb1.mono (by simp; omega)); have hc1 := (hB1.cell (p := ⟨b, off + r * 3, none⟩) hlt).trans hc; clear hb2 hb3))
  go_ret
  exact ⟨rfl, hB1⟩

set_option maxHeartbeats 400000 in
theorem isKey_any (w : World) (k r : Int) : Calls Tryz.prog 48 #[ty k r] w fun e w' => e = .returned (.bool (decide (r = 0) && (decide (k = 1) || decide (k = 2)))) ∧ Below w.heap.size w w' := by
  unfold ty
  have hb : Below w.heap.size w (w.alloc (.cells #[.int .i64 k, .int .i64 r] 28)) := (Below.refl _ _).alloc (Nat.le_refl _) _
  by_cases h0 : r = 0
  · subst h0
    by_cases h1 : k = 1
    · subst h1
      go_enter Tryz.func48, Tryz.ntmps48
      go_wp2
      go_ret
      exact ⟨by simp, hb⟩
    · have h1' : (k == 1) = false := by simpa using h1
      by_cases h2 : k = 2
      · subst h2
        go_enter Tryz.func48, Tryz.ntmps48
        go_wp2
        go_ret
        exact ⟨by simp, hb⟩
      · have h2' : (k == 2) = false := by simpa using h2
        go_enter Tryz.func48, Tryz.ntmps48
        go_wp2
        go_ret
        exact ⟨by simp [h1, h2], hb⟩
  · have h0' : (r == 0) = false := by simpa using h0
    go_enter Tryz.func48, Tryz.ntmps48
    go_wp2
    go_ret
    exact ⟨by simp [h0], hb⟩

set_option maxHeartbeats 400000 in
theorem isSimple_any (w : World) (k r : Int) : Calls Tryz.prog 61 #[ty k r] w fun e w' => e = .returned (.bool (decide (r = 0) && (decide (k = 1) || decide (k = 2) || decide (k = 3)))) ∧ Below w.heap.size w w' := by
  have K := hid (fun w' => isKey_any w' k r)
  unfold ty at K ⊢
  have hb : Below w.heap.size w (w.alloc (.cells #[.int .i64 k, .int .i64 r] 28)) := (Below.refl _ _).alloc (Nat.le_refl _) _
  cases hk : (decide (r = 0) && (decide (k = 1) || decide (k = 2))) with
  | true =>
    rw [hk] at K
    have e : (decide (r = 0) && (decide (k = 1) || decide (k = 2) || decide (k = 3))) = true := by
      simp only [Bool.and_eq_true, Bool.or_eq_true, decide_eq_true_eq] at hk ⊢
      exact ⟨hk.1, .inl hk.2⟩
    rw [e]
    clear e hk
    go_enter Tryz.func61, Tryz.ntmps61
    go_wp2_with (go_at_call 48; (refine (Hid.out K _).mono ?_; rintro e w1 ⟨rfl, hb1⟩))
    go_ret
    exact ⟨rfl, hb.trans (hb1.mono (by simp))⟩
  | false =>
    rw [hk] at K
    have e : (decide (r = 0) && (decide (k = 1) || decide (k = 2) || decide (k = 3))) = (decide (k = 3) && decide (r = 0)) := by
      by_cases h0 : r = 0
      · simp [h0] at hk ⊢; simp [hk]
      · simp [h0]
    rw [e]
    clear e hk
    go_enter Tryz.func61, Tryz.ntmps61
    go_wp2_with (go_at_call 48; (refine (Hid.out K _).mono ?_; rintro e w1 ⟨rfl, hb1⟩; have g := (hb1.block w.heap.size (by simp)).trans (heap_alloc_new w _); have g0 := cellOf g 0; have g1 := cellOf g 1; simp only [List.getElem?_toArray, List.getElem?_cons_zero, List.getElem?_cons_succ] at g0 g1; clear g))
    all_goals
      go_ret
      exact ⟨by simp_all, hb.trans (hb1.mono (by simp))⟩
end Go.Proofs.YtnmbifoinponeaaGreatDoor
