/- The row, told by ranging over a function: written and its closure. -/
import Derived.RangeFuncNested
import Derived.RangeFuncBound
import Derived.RangeFuncCalls
import Derived.RangeFuncLeaves
import Derived.Shelf.Abstract
import Derived.Shelf.RegionOpen
import Derived.WalkKit
import Derived.OwnWalkIn
import Derived.TacticsInMore
import Derived.LoopNIn
import Derived.LoopIn
import Derived.Test.YtbhopjnolgfpnaaG
namespace Go.Proofs.Ytbhopjnolgfpnaa
open Go.RowKit Go.Deep Go.Shelf
set_option linter.unusedVariables false
set_option linter.unusedSimpArgs false
attribute [local go_sem] Oper.semAt_some

def upto {α : Type} (f : Nat → α) (k : Nat) : List α := (List.range k).map f
theorem upto_succ {α : Type} (f : Nat → α) (k : Nat) : upto f (k + 1) = upto f k ++ [f k] := by simp [upto, List.range_succ]
theorem upto_length {α : Type} (f : Nat → α) (k : Nat) : (upto f k).length = k := by simp [upto]

abbrev Wr (L : Nat) := { x : Nat × (Nat × ByteArray) // x.2.1 < L }
def encW {L : Nat} (x : Wr L) : Array Value := #[.int .i64 (x.1.1 : Int), .agg #[.int .i64 (x.1.2.1 : Int), .string x.1.2.2]]
def rowAt (R : List (Nat × ByteArray)) (j : Nat) : Nat × ByteArray := R.getD j (0, ByteArray.empty)
theorem rowAt_lt {R : List (Nat × ByteArray)} {L : Nat} (h : ∀ p, p ∈ R → p.1 < L) (hL : 0 < L) (j : Nat) : (rowAt R j).1 < L := by
  unfold rowAt
  rw [List.getD_eq_getElem?_getD]
  cases e : R[j]? with
  | none => exact hL
  | some p => exact h p (List.mem_of_getElem? e)
def elemAt {R : List (Nat × ByteArray)} {L : Nat} (h : ∀ p, p ∈ R → p.1 < L) (hL : 0 < L) (j : Nat) : Wr L := ⟨(j, rowAt R j), rowAt_lt h hL j⟩

theorem rowVals_get (R : List (Nat × ByteArray)) (j : Nat) (hj : j < R.length) : (rowVals R)[j * 2]? = some (.int .i64 ((rowAt R j).1 : Int)) ∧ (rowVals R)[j * 2 + 1]? = some (.string (rowAt R j).2) := by
  induction R generalizing j with
  | nil => simp at hj
  | cons p R ih =>
    cases j with
    | zero => simp [rowVals, rowAt]
    | succ j =>
      have := ih j (by simpa using hj)
      simp only [rowVals, List.flatMap_cons] at this ⊢
      rw [show (j + 1) * 2 = j * 2 + 2 from by omega, show j * 2 + 2 + 1 = (j * 2 + 1) + 2 from by omega]
      simpa [rowAt] using this

set_option maxRecDepth 100000 in
set_option maxHeartbeats 1000000 in
theorem written1_in (F : Fence) (n : Nat) (h25 : F.fn 25) (hro : F.round = none) (hn : 1 ≤ n) (l Bb n₀ bd br cr : Nat) (R : List (Nat × ByteArray)) (L : Nat) (hR : ∀ p, p ∈ R → p.1 < L) (hL : 0 < L) (hlen : R.length ≤ 1000)
    (hbr : br < n₀) (J Jx : List (Wr L) → World → Prop)
    (hY : ∀ pre x W, J pre W → pre.length < R.length → YieldAt F (n - 1) Try.prog l (encW x) W fun e W' =>
      (e = .returned (.bool true) ∧ J (pre ++ [x]) W' ∧ Below n₀ W W') ∨ (e = .returned (.bool false) ∧ Jx (pre ++ [x]) W'))
    (W : World) (hn0 : n₀ ≤ W.heap.size) (hJa : AbidesFrom W.heap.size J) (hBb : W.cell? ⟨Bb, 0, none⟩ = some (.pointer (some ⟨bd, 0, none⟩))) (hc2 : W.cell? ⟨bd, 2, none⟩ = some (.slice (some ⟨br, 0, none⟩) R.length cr))
    (hc : ∀ j, j < R.length → W.cell? ⟨br, j * 2, none⟩ = some (.int .i64 ((rowAt R j).1 : Int)) ∧ W.cell? ⟨br, j * 2 + 1, none⟩ = some (.string (rowAt R j).2)) (h0 : J [] W) :
    CallsIn F n Try.prog 25 #[.func (.yield l) #[] #[], .pointer (some ⟨Bb, 0, none⟩)] W fun e W' => (∃ v, e = .returned v) ∧
      ((∃ ys, ys = upto (elemAt hR hL) R.length ∧ J ys W') ∨ (∃ pre, (∃ k, k ≤ R.length ∧ pre = upto (elemAt hR hL) k) ∧ Jx pre W')) := by
  refine callsIn_of_wp Try.func25 rfl h25 ?_ hro
  simp only [Try.ntmps25, List.size_toArray, List.length_cons, List.length_nil, Nat.reduceAdd, Nat.reduceSub, Array.replicate_succ, Array.replicate_zero, List.push_toArray, List.append_toArray, List.nil_append, List.cons_append]
  gi_wp2
  gi_loopw [10] (fun i wr => ∃ k : Nat, k ≤ R.length ∧ i = .int .i64 k ∧ J (upto (elemAt hR hL) k) wr ∧ Below n₀ W wr)
    (fun i _ => R.length - (intOf i).toNat)
  case atStart => exact ⟨0, Nat.zero_le _, rfl, h0, Below.refl _ _⟩
  case round =>
    obtain ⟨k, hk, rfl, hJs, hnx⟩ := hrel
    by_cases hlt : k < R.length
    · obtain ⟨fn, tmps, assign, body, hy, hRd⟩ := hY _ (elemAt hR hL k) (wr.alloc (.cells #[.int .i64 ((rowAt R k).1 : Int), .string (rowAt R k).2] 47)) (hJa _ _ _ none hJs (World.grownBy_alloc _ _ _) (by simp)) (by rw [upto_length]; exact hlt)
      simp only [encW, elemAt] at hy
      have hc0 : wr.cell? ⟨br, k * 2, none⟩ = _ := (hnx.cell (p := ⟨br, k * 2, none⟩) hbr).trans (hc k hlt).1
      have hc1 : wr.cell? ⟨br, k * 2 + 1, none⟩ = _ := (hnx.cell (p := ⟨br, k * 2 + 1, none⟩) hbr).trans (hc k hlt).2
      gi_wp2
      refine hRd.mono ?_
      rintro e W3 (⟨rfl, hJ3, hk3⟩ | ⟨rfl, hJx3⟩)
      · gi_wp2
        go_roundw
        case rel => exact ⟨k + 1, by omega, by go_num, by rw [upto_succ]; exact hJ3, (hnx.alloc (Nat.le_trans hn0 hnx.size) _).trans hk3⟩
        case measure => simp [intOf]; omega
      · gi_wp2
        refine bodyPost_ret (results_none rfl _ _ _) rfl ?_
        exact ⟨⟨_, rfl⟩, .inr ⟨_, ⟨k + 1, by omega, (upto_succ _ _).symm⟩, hJx3⟩⟩
    · obtain rfl : k = R.length := by omega
      gi_wp2
      go_end0
      exact ⟨⟨_, rfl⟩, .inl ⟨_, rfl, hJs⟩⟩

set_option maxRecDepth 100000 in
set_option maxHeartbeats 1000000 in
theorem written1_nil_in {α : Type} (F : Fence) (n : Nat) (h25 : F.fn 25) (hro : F.round = none) (l Bb bd : Nat) (J : List α → World → Prop)
    (W : World) (hBb : W.cell? ⟨Bb, 0, none⟩ = some (.pointer (some ⟨bd, 0, none⟩))) (hc2 : W.cell? ⟨bd, 2, none⟩ = some (.slice none 0 0)) (h0 : J [] W) :
    CallsIn F n Try.prog 25 #[.func (.yield l) #[] #[], .pointer (some ⟨Bb, 0, none⟩)] W fun e W' => (∃ v, e = .returned v) ∧ J [] W' := by
  refine callsIn_of_wp Try.func25 rfl h25 ?_ hro
  simp only [Try.ntmps25, List.size_toArray, List.length_cons, List.length_nil, Nat.reduceAdd, Nat.reduceSub, Array.replicate_succ, Array.replicate_zero, List.push_toArray, List.append_toArray, List.nil_append, List.cons_append]
  gi_wp2
  gi_loopw [10] (fun i wr => i = .int .i64 0 ∧ J [] wr) (fun _ _ => 0)
  case atStart => exact ⟨rfl, h0⟩
  case round =>
    obtain ⟨rfl, hJs⟩ := hrel
    gi_wp2
    go_end0
    exact ⟨⟨_, rfl⟩, hJs⟩

set_option maxHeartbeats 400000 in
theorem written_in (F : Fence) (n : Nat) (h22 : F.fn 22) (hro : F.round = none) (bd : Nat) (w : World) :
    CallsIn F n Try.prog 22 #[.pointer (some ⟨bd, 0, none⟩)] w fun e w' => e = .returned (.func (.func 25) #[] #[.pointer (some ⟨w.heap.size, 0, none⟩)]) ∧ w' = w.alloc (.cells #[.pointer (some ⟨bd, 0, none⟩)] 24) := by
  refine callsIn_of_wp Try.func22 rfl h22 ?_ hro
  simp only [Try.ntmps22, List.size_toArray, List.length_cons, List.length_nil, Nat.reduceAdd, Nat.reduceSub, Array.replicate_succ, Array.replicate_zero, List.push_toArray, List.append_toArray, List.nil_append, List.cons_append]
  gi_wp2
  go_ret
  exact ⟨rfl, rfl⟩

theorem written_stops (F : Fence) (n : Nat) (h25 : F.fn 25) (hro : F.round = none) (hn : 1 ≤ n) (Bb n₀ bd : Nat) (vr : Value) (R : List (Nat × ByteArray)) (L : Nat) (hR : ∀ p, p ∈ R → p.1 < L) (hL : 0 < L) (hlen : R.length ≤ 1000) (w : World)
    (hBb : Bb < w.heap.size) (hn₀ : n₀ ≤ w.heap.size) (hcb : w.cell? ⟨Bb, 0, none⟩ = some (.pointer (some ⟨bd, 0, none⟩))) (hbd : bd < w.heap.size) (hc2 : w.cell? ⟨bd, 2, none⟩ = some vr) (hr : w.ownsRow 0 47 2 vr R.length (rowVals R)) (hrl : ∀ g, vr.ownBlock = some g → g < n₀) :
    SeqStopsK F n Try.prog 25 #[.pointer (some ⟨Bb, 0, none⟩)] (encW (L := L)) (Below n₀) (fun ys => ys = upto (elemAt hR hL) R.length) (fun pre => ∃ k, k ≤ R.length ∧ pre = upto (elemAt hR hL) k) R.length w := fun l J Jx W hW hJa _ hY h0 => by
  have hcb' := (hW.cell (p := ⟨Bb, 0, none⟩) hBb).trans hcb
  have hc2' := (hW.cell (p := ⟨bd, 2, none⟩) hbd).trans hc2
  rcases hr.2 with ⟨rfl, h0'⟩ | ⟨g, cap, cur, rfl, _, hg, hr3⟩
  · have hR0 : R = [] := List.eq_nil_of_length_eq_zero h0'
    subst hR0
    exact (written1_nil_in F n h25 hro l Bb bd J W hcb' hc2' h0).mono fun e W' ⟨he, hj⟩ => ⟨he, .inl ⟨_, rfl, hj⟩⟩
  · have hgl : g < n₀ := hrl g rfl
    refine (written1_in F n h25 hro hn l Bb n₀ bd g cap R L hR hL hlen hgl J Jx hY W (Nat.le_trans hn₀ hW.size) hJa hcb' hc2' ?_ h0)
    intro j hj
    have hcs := hr.cells (g := g) rfl
    have e1 := hcs (j * 2) _ (rowVals_get R j hj).1
    have e2 := hcs (j * 2 + 1) _ (rowVals_get R j hj).2
    rw [Addr.add_lit, Nat.zero_add] at e1 e2
    exact ⟨(hW.cell (p := ⟨g, j * 2, none⟩) (by show g < _; omega)).trans e1, (hW.cell (p := ⟨g, j * 2 + 1, none⟩) (by show g < _; omega)).trans e2⟩
end Go.Proofs.Ytbhopjnolgfpnaa
