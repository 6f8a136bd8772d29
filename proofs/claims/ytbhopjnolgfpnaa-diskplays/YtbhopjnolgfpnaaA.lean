/- Small contracts over the disk's functions. -/
import Derived.Test.YtbhopjnolgfpnaaRows
import Derived.WalkKit
import Derived.WalkSpells
import Derived.WalkLawsBesides
namespace Go.Proofs.Ytbhopjnolgfpnaa
open Go.RowKit
set_option linter.unusedVariables false
set_option linter.unusedSimpArgs false

theorem cellOf {w : World} {b : Nat} {c : Array Value} {e : TypeId} {f : Nat × Nat} (h : w.heap[b]? = some (.cells c e f)) (i : Nat) : w.cell? ⟨b, i, none⟩ = c[i]? := by
  simp [World.cell?, h]
theorem freeOf {w : World} {b : Nat} {c : Array Value} {e : TypeId} (h : w.heap[b]? = some (.cells c e (0, 0))) (i : Nat) : w.frozen? ⟨b, i, none⟩ = false := by
  simp [World.frozen?, h]

def Dk (w : World) (bd : Nat) (vf vn vr : Value) (left : Int) : Prop := w.heap[bd]? = some (.cells #[vf, vn, vr, .int .i64 left] 50 (0, 0))

theorem Dk.c0 {w bd vf vn vr left} (h : Dk w bd vf vn vr left) : w.cell? ⟨bd, 0, none⟩ = some vf := by rw [cellOf h]; rfl
theorem Dk.c1 {w bd vf vn vr left} (h : Dk w bd vf vn vr left) : w.cell? ⟨bd, 1, none⟩ = some vn := by rw [cellOf h]; rfl
theorem Dk.c2 {w bd vf vn vr left} (h : Dk w bd vf vn vr left) : w.cell? ⟨bd, 2, none⟩ = some vr := by rw [cellOf h]; rfl
theorem Dk.c3 {w bd vf vn vr left} (h : Dk w bd vf vn vr left) : w.cell? ⟨bd, 3, none⟩ = some (.int .i64 left) := by rw [cellOf h]; rfl
theorem Dk.f {w bd vf vn vr left} (h : Dk w bd vf vn vr left) (i : Nat) : w.frozen? ⟨bd, i, none⟩ = false := freeOf h i

set_option maxHeartbeats 400000 in
theorem restart_any (w : World) (bd : Nat) (vf vn vr : Value) (left : Int) (h : Dk w bd vf vn vr left) :
    Calls Try.prog 10 #[.pointer (some ⟨bd, 0, none⟩)] w fun e w' => e = .returned (.tuple #[]) ∧ w' = w.setCell ⟨bd, 3, none⟩ (.int .i64 (-1)) := by
  have h3 := h.c3
  have f3 := h.f 3
  clear h
  go_enter Try.func10, Try.ntmps10
  go_wp2
  go_end0
  exact ⟨rfl, rfl⟩

set_option maxHeartbeats 400000 in
theorem halt_cut (w : World) (bd : Nat) (vf vn vr : Value) (n : Int) (h : Dk w bd vf vn vr 0) :
    Calls Try.prog 9 #[.pointer (some ⟨bd, 0, none⟩), .int .i64 n] w fun e w' => e = .returned (.tuple #[]) ∧ w' = w := by
  have h3 := h.c3
  have f3 := h.f 3
  clear h
  go_enter Try.func9, Try.ntmps9
  go_wp2
  exact bodyPost_ret (results_none rfl _ _ _) rfl ⟨rfl, rfl⟩

set_option maxHeartbeats 400000 in
theorem halt_go (w : World) (bd : Nat) (vf vn vr : Value) (left n : Int) (hl : (left == 0) = false) (h : Dk w bd vf vn vr left) :
    Calls Try.prog 9 #[.pointer (some ⟨bd, 0, none⟩), .int .i64 n] w fun e w' => e = .returned (.tuple #[]) ∧ w' = w.setCell ⟨bd, 3, none⟩ (.int .i64 n) := by
  have h3 := h.c3
  have f3 := h.f 3
  clear h
  go_enter Try.func9, Try.ntmps9
  go_wp2
  go_end0
  exact ⟨rfl, rfl⟩

set_option maxHeartbeats 400000 in
theorem writes_any (w : World) (bd : Nat) (vf vn : Value) (ar : Option Addr) (n c : Nat) (left : Int) (h : Dk w bd vf vn (.slice ar n c) left) :
    Calls Try.prog 13 #[.pointer (some ⟨bd, 0, none⟩)] w fun e w' => e = .returned (.int .i64 n) ∧ w' = w := by
  have h2 := h.c2
  clear h
  go_enter Try.func13, Try.ntmps13
  go_wp2
  go_ret
  exact ⟨rfl, rfl⟩

set_option maxHeartbeats 400000 in
theorem blocks_any (w : World) (bd : Nat) (vf vr : Value) (ar : Option Addr) (n c : Nat) (left : Int) (h : Dk w bd vf (.slice ar n c) vr left) :
    Calls Try.prog 14 #[.pointer (some ⟨bd, 0, none⟩)] w fun e w' => e = .returned (.int .i64 n) ∧ w' = w := by
  have h1 := h.c1
  clear h
  go_enter Try.func14, Try.ntmps14
  go_wp2
  go_ret
  exact ⟨rfl, rfl⟩

def reachB (left i : Int) (n : Nat) : Int := if left = 0 then 12 else if i < 0 ∨ (n : Int) ≤ i then 11 else 0

set_option maxHeartbeats 400000 in
theorem reach_any (w : World) (bd : Nat) (vf vr : Value) (ar : Option Addr) (n c : Nat) (left i : Int) (h : Dk w bd vf (.slice ar n c) vr left) :
    Calls Try.prog 18 #[.pointer (some ⟨bd, 0, none⟩), .int .i64 i] w fun e w' => e = .returned (.int .i64 (reachB left i n)) ∧ w' = w := by
  have h1 := h.c1
  have h3 := h.c3
  clear h
  by_cases hl : left = 0
  · subst hl
    go_enter Try.func18, Try.ntmps18
    go_wp2
    go_ret
    exact ⟨rfl, rfl⟩
  · have hl' : (left == 0) = false := by simpa using hl
    by_cases hi : i < 0
    · have e : reachB left i n = 11 := by simp [reachB, hl, hi]
      rw [e]; clear e hl
      go_enter Try.func18, Try.ntmps18
      go_wp2
      go_ret
      exact ⟨rfl, rfl⟩
    · by_cases hn : (n : Int) ≤ i
      · have e : reachB left i n = 11 := by simp [reachB, hl, hn]
        rw [e]; clear e hl
        go_enter Try.func18, Try.ntmps18
        go_wp2
        go_ret
        exact ⟨rfl, rfl⟩
      · have e : reachB left i n = 0 := by simp [reachB, hl, hn, hi]
        rw [e]; clear e hl
        go_enter Try.func18, Try.ntmps18
        go_wp2
        go_ret
        exact ⟨rfl, rfl⟩
end Go.Proofs.Ytbhopjnolgfpnaa
