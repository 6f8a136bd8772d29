/- Fields, told by ranging over a function of the library's. -/
import Derived.Test.YtnmbifoinponeaaGreatDoorM
namespace Go.Proofs.YtnmbifoinponeaaGreatDoor
open Go.RowKit Go.Deep Go.Shelf
set_option linter.unusedVariables false
set_option linter.unusedSimpArgs false
attribute [local go_sem] Oper.semAt_some

def encI {α : Type} (idx : α → Nat) (f : α → Hd) (x : α) : Array Value := #[.int .i64 (idx x : Int), (f x).v]

set_option maxRecDepth 100000 in
set_option maxHeartbeats 1000000 in
theorem all1_in {α : Type} (idx : α → Nat) (f : α → Hd) (Z : List α) (F : Fence) (n : Nat) (h62 : F.fn 71) (hro : F.round = none) (hn : 1 ≤ n) (l B1 n₀ : Nat) (a1 : Option Addr) (n1 c1 : Nat) (hz : Z.length = n1) (hi : ∀ (k : Nat) (x : α), Z[k]? = some x → idx x = k) (l1 : n1 ≤ 1000)
    (J Jx : List α → World → Prop)
    (hY : ∀ pre x W, J pre W → pre.length < Z.length → YieldAt F (n - 1) Tryz.prog l (encI idx f x) W fun e W' =>
      (e = .returned (.bool true) ∧ J (pre ++ [x]) W' ∧ Below n₀ W W') ∨ (e = .returned (.bool false) ∧ Jx (pre ++ [x]) W'))
    (W : World) (hn0 : n₀ ≤ W.heap.size) (hB1 : W.cell? ⟨B1, 0, none⟩ = some (.slice a1 n1 c1))
    (hJa : AbidesFrom W.heap.size J) (hr1 : VRd W a1 (Z.map f)) (hl1 : Z ≠ [] → ∀ b off, a1 = some ⟨b, off, none⟩ → b < n₀) (h0 : J [] W) :
    CallsIn F n Tryz.prog 71 #[.func (.yield l) #[] #[], .pointer (some ⟨B1, 0, none⟩)] W fun e W' => (∃ v, e = .returned v) ∧
      ((∃ ys, ys = Z ∧ J ys W') ∨ (∃ pre, (∃ k, k ≤ Z.length ∧ pre = Z.take k) ∧ Jx pre W')) := by
  refine callsIn_of_wp Tryz.func71 rfl h62 ?_ hro
  simp only [Tryz.ntmps71, List.size_toArray, List.length_cons, List.length_nil, Nat.reduceAdd, Nat.reduceSub, Array.replicate_succ, Array.replicate_zero, List.push_toArray, List.append_toArray, List.nil_append, List.cons_append]
  have Hm := hid hz
  clear hz
  gi_wp2
  gi_loopw [7] (fun i wr => ∃ k : Nat, k ≤ n1 ∧ i = .int .i64 k ∧ J (Z.take k) wr ∧ Below n₀ W wr)
    (fun i _ => n1 - (intOf i).toNat)
  case atStart => exact ⟨0, Nat.zero_le _, rfl, h0, Below.refl _ _⟩
  case round =>
    obtain ⟨k, hk, rfl, hJs, hnx⟩ := hrel
    by_cases hlt : k < n1
    · obtain ⟨x, hx⟩ : ∃ x, Z[k]? = some x := ⟨Z[k]'(by rw [Hm.out]; exact hlt), by rw [List.getElem?_eq_getElem]⟩
      have hne : Z ≠ [] := by rintro rfl; simp at hx
      have hix := hi k x hx
      obtain ⟨b1, o1, rfl, e1⟩ := hr1 k (f x) (by simp [hx])
      have q1 : b1 < n₀ := hl1 hne _ _ rfl
      have x0 := (hnx.cell (p := ⟨b1, o1 + k * 5 + 0, none⟩) q1).trans (e1 0 (by omega))
      have x1 := (hnx.cell (p := ⟨b1, o1 + k * 5 + 1, none⟩) q1).trans (e1 1 (by omega))
      have x2 := (hnx.cell (p := ⟨b1, o1 + k * 5 + 2, none⟩) q1).trans (e1 2 (by omega))
      have x3 := (hnx.cell (p := ⟨b1, o1 + k * 5 + 3, none⟩) q1).trans (e1 3 (by omega))
      have x4 := (hnx.cell (p := ⟨b1, o1 + k * 5 + 4, none⟩) q1).trans (e1 4 (by omega))
      have hsz : W.heap.size ≤ wr.heap.size := hnx.size
      obtain ⟨fn, tmps, assign, body, hy, hRd⟩ := hY _ x (wr.alloc (.cells (f x).v.cells 31)) (hJa _ _ _ none hJs (World.grownBy_alloc _ _ _) (by simp)) (by rw [List.length_take, Hm.out]; omega)
      have Htk : Hid (Z.take (k + 1) = Z.take k ++ [x]) := by refine hid ?_; rw [List.take_add_one, hx]; rfl
      have hRd' : RoundIn F (n - 1) Tryz.prog l fn tmps assign body (wr.alloc (.cells (f x).v.cells 31)) (fun e W' => ∃ b : Bool, e = .returned (.bool b) ∧ ((b = true → J (Z.take k ++ [x]) W' ∧ Below n₀ (wr.alloc (.cells (f x).v.cells 31)) W') ∧ (b = false → Jx (Z.take k ++ [x]) W'))) := by
        refine hRd.mono ?_
        rintro e W' (⟨rfl, h1, h2⟩ | ⟨rfl, h1⟩)
        · exact ⟨true, rfl, ⟨fun _ => ⟨h1, h2⟩, fun h => (by cases h)⟩⟩
        · exact ⟨false, rfl, ⟨fun h => (by cases h), fun _ => h1⟩⟩
      clear hRd
      simp only [encI, Hd.v, hix, Value.cells] at hy hRd'
      generalize f x = fx at *
      simp only [Hd.cs, List.getElem?_cons_zero, List.getElem?_cons_succ, Nat.add_zero] at x0 x1 x2 x3 x4
      have HRd := hid hRd'
      have Hnx := hid hnx
      clear e1 hr1 hl1 hY hRd' hnx hJs hJa h0 hx hne hB1 q1 hi hix
      gi_wp2
      refine (Hid.out HRd).mono ?_
      rintro e W3 ⟨bb, rfl, hor⟩
      cases bb with
      | true =>
        have hor' := hor.1 rfl
        gi_wp2
        go_roundw
        case rel => exact ⟨k + 1, by omega, by go_num, by rw [Htk.out]; exact hor'.1, (Hnx.out.alloc (by omega) _).trans hor'.2⟩
        case measure => simp [intOf]; omega
      | false =>
        have hor' := hor.2 rfl
        gi_wp2
        refine bodyPost_ret (results_none rfl _ _ _) rfl ?_
        exact ⟨⟨_, rfl⟩, .inr ⟨_, ⟨k + 1, by rw [Hm.out]; omega, Htk.out.symm⟩, hor'⟩⟩
    · obtain rfl : k = n1 := by omega
      gi_wp2
      go_end0
      exact ⟨⟨_, rfl⟩, .inl ⟨_, rfl, by rw [← Hm.out, List.take_length] at hJs; exact hJs⟩⟩
theorem all_stops {α : Type} (idx : α → Nat) (f : α → Hd) (Z : List α) (n : Nat) (hn : 1 ≤ n) (B1 n₀ : Nat) (a1 : Option Addr) (n1 c1 : Nat) (hz : Z.length = n1) (hi : ∀ (k : Nat) (x : α), Z[k]? = some x → idx x = k) (l1 : n1 ≤ 1000) (w : World)
    (hn0 : n₀ ≤ w.heap.size) (hB1 : w.cell? ⟨B1, 0, none⟩ = some (.slice a1 n1 c1)) (hr1 : VRd w a1 (Z.map f)) (hl1 : Z ≠ [] → ∀ b off, a1 = some ⟨b, off, none⟩ → b < n₀) :
    SeqStopsK Fence.wide n Tryz.prog 71 #[.pointer (some ⟨B1, 0, none⟩)] (encI idx f) (Below n₀) (fun ys => ys = Z) (fun pre => ∃ k, k ≤ Z.length ∧ pre = Z.take k) Z.length w := fun l J Jx W hW hJa _ hY h0 =>
  all1_in idx f Z Fence.wide n trivial rfl hn l B1 n₀ a1 n1 c1 hz hi l1 J Jx hY W (Nat.le_trans hn0 hW.size) ((hW.cell (p := ⟨B1, 0, none⟩) (World.block_lt_of_cell? w _ hB1)).trans hB1) hJa (hr1.below (Nat.le_refl _) hW) hl1 h0

set_option maxHeartbeats 400000 in
theorem all_in (F : Fence) (n : Nat) (h52 : F.fn 60) (hro : F.round = none) (a1 : Option Addr) (n1 c1 : Nat) (w : World) :
    CallsIn F n Tryz.prog 60 #[.slice a1 n1 c1] w fun e w' => e = .returned (.func (.func 71) #[] #[.pointer (some ⟨w.heap.size, 0, none⟩)]) ∧ w' = w.alloc (.cells #[.slice a1 n1 c1] 29) := by
  refine callsIn_of_wp Tryz.func60 rfl h52 ?_ hro
  simp only [Tryz.ntmps60, List.size_toArray, List.length_cons, List.length_nil, Nat.reduceAdd, Nat.reduceSub, Array.replicate_succ, Array.replicate_zero, List.push_toArray, List.append_toArray, List.nil_append, List.cons_append]
  gi_wp2
  go_ret
  exact ⟨rfl, rfl⟩
end Go.Proofs.YtnmbifoinponeaaGreatDoor
