/- What the document's Fn makes, round by round. -/
import Derived.Test.YtmhjnfibpngpmaaJAF
namespace Go.Proofs.Ytmhjnfibpngpmaa
set_option maxRecDepth 100000
open Go.RowKit Go.Deep Go.Shelf
set_option linter.unusedVariables false
set_option linter.unusedSimpArgs false
def bgs (bs : List Blk) (j : Nat) : List Int := (List.range j).map fun i => (bg bs i : Int)
theorem bgs_succ (bs : List Blk) (j : Nat) : bgs bs (j + 1) = bgs bs j ++ [(bg bs j : Int)] := by
  unfold bgs; rw [List.range_succ, List.map_append]; rfl
theorem bgs_get {bs : List Blk} {j k : Nat} (h : k < j) : (bgs bs j)[k]? = some (bg bs k : Int) := by
  unfold bgs; simp [h]
theorem bg_succ {bs : List Blk} {j n : Nat} {b : Blk} (h : bs[j]? = some b) (hok : okBk n b = true) : bg bs (j + 1) = bg bs j + (b.ops.length + szE b.en b.tt b.el j) := by
  unfold bg
  rw [lay_take h, List.length_append, List.length_append, szE_eq (i := j) hok]; omega
theorem bg_le (bs : List Blk) (j : Nat) : bg bs j ≤ (layA 0 bs).length := lay_pre bs j
theorem szE_le (en tt el : Int) (i : Nat) : szE en tt el i ≤ 2 := by
  unfold szE; repeat' split
  all_goals omega
theorem fix_str (bs : List Blk) {ops : List Opx} (h : strB ops = true) : ops.map (fixO bs) = ops := by
  have : ∀ o ∈ ops, fixO bs o = o := by
    intro o ho
    have := List.all_eq_true.1 h o ho
    unfold strO at this
    unfold fixO
    cases hj : jmpB o with
    | false => rw [if_neg (by simp)]
    | true => rw [hj] at this; simp at this
  rw [List.map_congr_left this, List.map_id']
def layF (bs : List Blk) (j : Nat) : List Opx := (layA 0 (bs.take j)).map (fixO bs)
theorem layF_len (bs : List Blk) (j : Nat) : (layF bs j).length ≤ (layA 0 bs).length := by
  unfold layF; rw [List.length_map]; exact lay_pre bs j
theorem layF_end {bs : List Blk} {n : Nat} (h : n = bs.length) : layF bs n = layB bs := by
  unfold layF layB; rw [h, List.take_of_length_le (Nat.le_refl _)]
theorem layF_succ {bs : List Blk} {j n : Nat} {b : Blk} (h : bs[j]? = some b) (hok : okBk n b = true) : layF bs (j + 1) = layF bs j ++ b.ops ++ (enB b j).map (fixO bs) := by
  have hs : strB b.ops = true := by
    unfold okBk at hok
    simp only [Bool.and_eq_true] at hok
    exact hok.2
  unfold layF
  rw [lay_take h, List.map_append, List.map_append, fix_str bs hs]
def jpO (k : Int) : Opx := ⟨38, 0, 0, 0, k⟩
def unO (a k : Int) : Opx := ⟨39, 0, a, 0, k⟩
def rtO (a : Int) : Opx := ⟨40, 0, a, 0, 0⟩
theorem fix_lp (bs : List Blk) (kt : Nat) (nx : Int) : (lpO (kt : Int) nx).map (fixO bs) = if (kt : Int) = nx then [] else [jpO (bg bs kt)] := by
  unfold lpO
  split
  · rfl
  · simp [fixO, jmpB, jpO]
theorem fix_38 (bs : List Blk) {b : Blk} {j kt : Nat} (h : b.en = 38) (ht : b.tt = (kt : Int)) : (enB b j).map (fixO bs) = if (kt : Int) = (j : Int) + 1 then [] else [jpO (bg bs kt)] := by
  have e1 : enB b j = lpO b.tt ((j : Int) + 1) := by unfold enB enO; rw [if_neg (by omega), if_neg (by omega)]
  rw [e1, ht, fix_lp]
theorem fix_39 (bs : List Blk) {b : Blk} {j kt ke : Nat} (h : b.en = 39) (ht : b.tt = (kt : Int)) (he : b.el = (ke : Int)) : (enB b j).map (fixO bs) = unO b.a (bg bs kt) :: if (ke : Int) = (j : Int) + 1 then [] else [jpO (bg bs ke)] := by
  have e1 : enB b j = ⟨39, 0, b.a, 0, b.tt⟩ :: lpO b.el ((j : Int) + 1) := by unfold enB enO; rw [if_pos h]
  rw [e1, List.map_cons, he, fix_lp, ht]
  simp [fixO, jmpB, unO]
theorem fix_40 (bs : List Blk) {b : Blk} {j : Nat} (h : b.en = 40) : (enB b j).map (fixO bs) = [rtO b.a] := by
  have e1 : enB b j = [⟨40, 0, b.a, 0, 0⟩] := by unfold enB enO; rw [if_neg (by omega), if_pos h]
  rw [e1]; simp [fixO, jmpB, rtO]
/- Between two rounds. -/
structure f_FX (W9 : World) (FB : Nat) (regs : Int) (a : Option Addr) (m c : Nat) (L : List Opx) (wr : World) : Prop where
  b : Below FB W9 wr
  f : wr.heap[FB]? = some (.cells #[.int .i64 regs, .slice a m c] 73 (0, 0))
  o : OpR wr (FB + 1) (.slice a m c) L
theorem f_FX.box {W9 : World} {FB : Nat} {regs : Int} {a : Option Addr} {m c : Nat} {L : List Opx} {wr : World} (h : f_FX W9 FB regs a m c L wr) (xc : Array Value) : RX W9 FB wr.heap.size regs xc a m c L (wr.alloc (.cells xc 89)) := by
  have hf := lt_of_heap h.f
  have k : Below wr.heap.size wr (wr.alloc (.cells xc 89)) := (Below.refl _ _).alloc (Nat.le_refl _) _
  exact ⟨h.b.trans (k.mono (by omega)), (k.block _ hf).trans h.f, h.o.below (Nat.le_refl _) k, heap_alloc_new _ _, fun e => by have := (h.o.own e).2; omega, hf⟩
theorem RX.fx' {W9 : World} {FB X : Nat} {regs : Int} {xc : Array Value} {a : Option Addr} {m c : Nat} {L : List Opx} {wr : World} (h : RX W9 FB X regs xc a m c L wr) : f_FX W9 FB regs a m c L wr := ⟨h.b, h.f, h.o⟩
theorem RX.drew {W9 : World} {FB X : Nat} {regs : Int} {xc : Array Value} {a : Option Addr} {m c : Nat} {L : List Opx} {wr : World} (h : RX W9 FB X regs xc a m c L wr) : RX W9 FB X regs xc a m c L wr.drew :=
  ⟨h.b.drew, h.f, h.o.keep (fun _ _ => rfl), h.x, h.xn, h.fx⟩
/- A row of one is laid, then put at the end. -/
theorem RX.one {W9 : World} {FB X : Nat} {regs : Int} {xc : Array Value} {a : Option Addr} {m c : Nat} {L : List Opx} {wr : World} (h : RX W9 FB X regs xc a m c L wr) (o : Opx) : RX W9 FB X regs xc a m c L (wr.alloc (.cells o.cs 41)) ∧ ORd (wr.alloc (.cells o.cs 41)) (some ⟨wr.heap.size, 0, none⟩) [o] := by
  have hf := lt_of_heap h.f
  have hx := lt_of_heap h.x
  have k : Below wr.heap.size wr (wr.alloc (.cells o.cs 41)) := (Below.refl _ _).alloc (Nat.le_refl _) _
  exact ⟨⟨h.b.trans (k.mono (by omega)), (k.block _ hf).trans h.f, h.o.below (Nat.le_refl _) k, (k.block _ hx).trans h.x, h.xn, h.fx⟩, (OpR.one wr o).ord⟩
theorem RX.add {W9 : World} {FB X : Nat} {regs : Int} {xc : Array Value} {a : Option Addr} {m c : Nat} {L L2 : List Opx} {wr w2 : World} (h : RX W9 FB X regs xc a m c L wr) {a2 : Option Addr} {m2 c2 : Nat} (ho : OpR w2 (FB + 1) (.slice a2 m2 c2) L2) (hg : wr.grownBy w2 (Value.ownBlock (.slice a m c))) (hn : Value.ownBlock (.slice a2 m2 c2) = Value.ownBlock (.slice a m c) ∨ Value.ownBlock (.slice a2 m2 c2) = some wr.heap.size) : RX W9 FB X regs xc a2 m2 c2 L2 (w2.setCell ⟨FB, 1, none⟩ (.slice a2 m2 c2)) ∧ w2.heap[FB]? = some (.cells #[.int .i64 regs, .slice a m c] 73 (0, 0)) ∧ w2.heap[X]? = some (.cells xc 89 (0, 0)) ∧ Below FB W9 w2 := by
  have hf := lt_of_heap h.f
  have hx := lt_of_heap h.x
  obtain ⟨h1, h2⟩ := h.app (Below.refl _ _) ho hg hn
  exact ⟨h1, h2, (hg.block X hx (fun e => h.xn e.symm)).trans h.x, h.b.trans ((grown_below h.o hg (by omega)).mono (by omega))⟩
end Go.Proofs.Ytmhjnfibpngpmaa

