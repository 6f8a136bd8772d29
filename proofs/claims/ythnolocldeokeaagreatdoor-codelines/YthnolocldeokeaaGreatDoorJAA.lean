/- strconv.Itoa at this program. -/
import Derived.Shelf.Strconv.Itoa0
import Derived.Shelf.Strconv.Itoa1
import Derived.Shelf.LaysM
import Derived.Shelf.Strconv.Itoa2
import Derived.Shelf.Strconv.Itoa3
import Derived.Shelf.Strconv.Itoa4
import Derived.Test.YthnolocldeokeaaGreatDoorProg
import Derived.Test.YthnolocldeokeaaGreatDoorRows
import Derived.WalkKit
import Derived.WalkSpells
import Derived.WalkLawsBesides
import Derived.Deep.OwnRows
import Derived.Maps.AppendAt
import Derived.Deep.AppendLies
import Derived.Lib.AppendStr
import Derived.Deep.LoopGhost
import Derived.Below
import Derived.RangeFuncNested
import Derived.RangeFuncBound
import Derived.RangeFuncCalls
import Derived.RangeFuncLeaves
import Derived.Shelf.Abstract
import Derived.Shelf.RegionOpen
import Derived.OwnWalkIn
import Derived.TacticsInMore
import Derived.LoopNIn
import Derived.LoopIn
import Derived.Deep.RegionHeld3
import Derived.Shelf.Slices.Turned
import Derived.Lib.AtoiErrMem
namespace Go.Proofs
open Go.Shelf
def Tryz.laysM171_ren : Go.Shelf.Ren := ⟨fun | 171 => 14 | 243 => 48 | 246 => 76 | 283 => 93 | 284 => 94 | 285 => 95 | 286 => 96 | 129 => 102 | 317 => 101 | 318 => 103 | 319 => 104 | 320 => 105 | 337 => 108 | 338 => 109 | n => n, fun | 3 => 3 | 9 => 9 | 2 => 2 | 4 => 4 | 171 => 157 | 0 => 0 | 53 => 97 | 37 => 52 | 5 => 5 | 173 => 160 | 212 => 168 | 51 => 169 | 20 => 20 | 213 => 170 | 46 => 146 | 232 => 176 | 233 => 177 | n => n, fun | 17 => 0 | 18 => 1 | 19 => 2 | n => n⟩
theorem Tryz.laysM171 : Go.Proofs.LaysM.n171 Tryz.prog Tryz.laysM171_ren := {
  mixed := by kernel_rfl
  f129 := Tryz.func102.trans (congrArg some (by kernel_rfl))
  f171 := Tryz.func14.trans (congrArg some (by kernel_rfl))
  f243 := Tryz.func48.trans (congrArg some (by kernel_rfl))
  f246 := Tryz.func76.trans (congrArg some (by kernel_rfl))
  f283 := Tryz.func93.trans (congrArg some (by kernel_rfl))
  f284 := Tryz.func94.trans (congrArg some (by kernel_rfl))
  f285 := Tryz.func95.trans (congrArg some (by kernel_rfl))
  f286 := Tryz.func96.trans (congrArg some (by kernel_rfl))
  f317 := Tryz.func101.trans (congrArg some (by kernel_rfl))
  f318 := Tryz.func103.trans (congrArg some (by kernel_rfl))
  f319 := Tryz.func104.trans (congrArg some (by kernel_rfl))
  f320 := Tryz.func105.trans (congrArg some (by kernel_rfl))
  f337 := Tryz.func108.trans (congrArg some (by kernel_rfl))
  f338 := Tryz.func109.trans (congrArg some (by kernel_rfl))
  t0 := Tryz.underlying0
  a0 := Tryz.isAgg0
  z0 := Tryz.sizeOf0
  v0 := Tryz.zeroValue0
  t2 := Tryz.underlying2
  a2 := Tryz.isAgg2
  z2 := Tryz.sizeOf2
  v2 := Tryz.zeroValue2
  t3 := Tryz.underlying3
  a3 := Tryz.isAgg3
  z3 := Tryz.sizeOf3
  v3 := Tryz.zeroValue3
  t4 := Tryz.underlying4
  a4 := Tryz.isAgg4
  z4 := Tryz.sizeOf4
  v4 := Tryz.zeroValue4
  t5 := Tryz.underlying5
  a5 := Tryz.isAgg5
  z5 := Tryz.sizeOf5
  v5 := Tryz.zeroValue5
  t9 := Tryz.underlying9
  a9 := Tryz.isAgg9
  z9 := Tryz.sizeOf9
  v9 := Tryz.zeroValue9
  t20 := Tryz.underlying20
  a20 := Tryz.isAgg20
  z20 := Tryz.sizeOf20
  v20 := Tryz.zeroValue20
  t37 := Tryz.underlying52
  a37 := Tryz.isAgg52
  z37 := Tryz.sizeOf52
  v37 := Tryz.zeroValue52
  t46 := Tryz.underlying146
  a46 := Tryz.isAgg146
  z46 := Tryz.sizeOf146
  v46 := Tryz.zeroValue146
  t51 := Tryz.underlying169
  a51 := Tryz.isAgg169
  z51 := Tryz.sizeOf169
  v51 := Tryz.zeroValue169
  t53 := Tryz.underlying97
  a53 := Tryz.isAgg97
  z53 := Tryz.sizeOf97
  v53 := Tryz.zeroValue97
  t171 := Tryz.underlying157
  a171 := Tryz.isAgg157
  z171 := Tryz.sizeOf157
  v171 := Tryz.zeroValue157
  t173 := Tryz.underlying160
  a173 := Tryz.isAgg160
  z173 := Tryz.sizeOf160
  v173 := Tryz.zeroValue160
  t212 := Tryz.underlying168
  a212 := Tryz.isAgg168
  z212 := Tryz.sizeOf168
  v212 := Tryz.zeroValue168
  t213 := Tryz.underlying170
  a213 := Tryz.isAgg170
  z213 := Tryz.sizeOf170
  t232 := Tryz.underlying176
  a232 := Tryz.isAgg176
  z232 := Tryz.sizeOf176
  v232 := Tryz.zeroValue176
  t233 := Tryz.underlying177
  a233 := Tryz.isAgg177
  z233 := Tryz.sizeOf177
  v233 := Tryz.zeroValue177
  g17 := by kernel_rfl
  g18 := by kernel_rfl
  g19 := by kernel_rfl
  i0 := by kernel_rfl
  i2 := by kernel_rfl
  i3 := by kernel_rfl
  i4 := by kernel_rfl
  i5 := by kernel_rfl
  i9 := by kernel_rfl
  i20 := by kernel_rfl
  i37 := by kernel_rfl
  i46 := by kernel_rfl
  i51 := by kernel_rfl
  i53 := by kernel_rfl
  i171 := by kernel_rfl
  i173 := by kernel_rfl
  i212 := by kernel_rfl
  i232 := by kernel_rfl
  i233 := by kernel_rfl
  m17 := by kernel_rfl
  m18 := by kernel_rfl
  m19 := by kernel_rfl }
open Go.RowKit Go.Sort Go.Lib in
theorem Tryz.strconv_Itoa (n : Int) (h0 : -9223372036854775808 ≤ n) (h1 : n ≤ 9223372036854775807) (w : World) (htab : Lib.TabIs Tryz.prog w "internal/strconv.uint64pow10" .u64 Lib.pow10Tab) :
    Calls Tryz.prog 14 #[.int .i64 n] w fun e w' => e = .returned (.string ⟨(Lib.itoa n).toArray⟩) ∧ ∃ k os, w' = grow (w.drewN k) os := Any.strconv_Itoa Tryz.laysM171 n h0 h1 w htab
end Go.Proofs

namespace Go.Proofs.YthnolocldeokeaaGreatDoor
set_option maxRecDepth 100000
open Go.RowKit Go.Deep
set_option linter.unusedVariables false
set_option linter.unusedSimpArgs false

theorem hid {p : Prop} (h : p) : Hid p := h
theorem cellOf {w : World} {b : Nat} {c : Array Value} {e : TypeId} {f : Nat × Nat} (h : w.heap[b]? = some (.cells c e f)) (i : Nat) : w.cell? ⟨b, i, none⟩ = c[i]? := by
  simp [World.cell?, h]
theorem freeOf {w : World} {b : Nat} {c : Array Value} {e : TypeId} (h : w.heap[b]? = some (.cells c e (0, 0))) (i : Nat) : w.frozen? ⟨b, i, none⟩ = false := by
  simp [World.frozen?, h]

/- Between w and w' nothing old has turned but v's own row; and the row is v's still, or new. -/
def Grw (w : World) (v : Value) (w' : World) (v' : Value) : Prop := w.grownBy w' v.ownBlock ∧ (v'.ownBlock = v.ownBlock ∨ ∃ g, v'.ownBlock = some g ∧ w.heap.size ≤ g)
theorem Grw.refl (w : World) (v : Value) : Grw w v w v := ⟨⟨rfl, rfl, rfl, Nat.le_refl _, fun _ _ _ => rfl⟩, .inl rfl⟩
theorem Grw.trans {w w1 w2 : World} {v v1 v2 : Value} (h : Grw w v w1 v1) (k : Grw w1 v1 w2 v2) : Grw w v w2 v2 := by
  obtain ⟨h1, h2⟩ := h
  obtain ⟨k1, k2⟩ := k
  refine ⟨⟨k1.os.trans h1.os, k1.tape.trans h1.tape, k1.output.trans h1.output, Nat.le_trans h1.size k1.size, fun j hj hne => ?_⟩, ?_⟩
  · refine (k1.block j (Nat.lt_of_lt_of_le hj h1.size) ?_).trans (h1.block j hj hne)
    rcases h2 with h2 | ⟨g, h2, hg⟩
    · rw [h2]; exact hne
    · rw [h2]; intro e; cases e; omega
  · rcases k2 with k2 | ⟨g, k2, hg⟩
    · rcases h2 with h2 | h2
      · exact .inl (k2.trans h2)
      · obtain ⟨g, h2, hg⟩ := h2; exact .inr ⟨g, k2.trans h2, hg⟩
    · exact .inr ⟨g, k2, Nat.le_trans h1.size hg⟩
theorem Grw.size {w w' : World} {v v' : Value} (h : Grw w v w' v') : w.heap.size ≤ w'.heap.size := h.1.size

/- A value's five cells: its fields as a slice. -/
/- A row of values that is the call's own. -/
/- Values that a slice reads: each its five cells. -/
/- Three levels of fields. -/
/- A value that isn't great: nothing stands within its fields' fields. -/
end Go.Proofs.YthnolocldeokeaaGreatDoor

namespace Go.Proofs.YthnolocldeokeaaGreatDoor
set_option maxRecDepth 100000
open Go.RowKit Go.Deep Go.Shelf
set_option linter.unusedVariables false
set_option linter.unusedSimpArgs false
attribute [local go_sem] Oper.semAt_some

/- What the iterator does. -/
/- Between two rounds: the boxes, and all that lay there ahead of the call. -/
theorem keep_cells {W W' : World} {row : Option Nat} {B b : Nat} {c : Array Value} {t : TypeId} (hs : W.heap[b]? = some (.cells c t (0, 0))) (hg : W.grownBy W' row) (hr : ∀ r, row = some r → B ≤ r ∧ ∃ o : Obj, W.heap[r]? = some o ∧ o.isCells = false) : W'.heap[b]? = some (.cells c t (0, 0)) := by
  rw [hg.block b (Array.getElem?_eq_some_iff.1 hs).1 (fun e => by
    obtain ⟨_, o, ho, hc⟩ := hr b e.symm
    rw [hs] at ho; cases ho; cases hc)]
  exact hs
theorem keepsFrom_below {B : Nat} {W W' : World} (k : Below W.heap.size W W') : KeepsFrom B W W' := ⟨k.size, fun j o _ hj _ => (k.block j (Array.getElem?_eq_some_iff.1 hj).1).trans hj⟩
theorem heap_setCell_at {w : World} {b : Nat} {c : Array Value} {e : TypeId} {f : Nat × Nat} (h : w.heap[b]? = some (.cells c e f)) (i : Nat) (u : Value) :
    (w.setCell ⟨b, i, none⟩ u).heap[b]? = some (.cells (c.setIfInBounds i u) e f) := by
  simp [World.setCell, Array.getElem?_modify, h]
theorem set_cells {W : World} {b : Nat} {v0 : Value} {t : TypeId} (h : W.heap[b]? = some (.cells #[v0] t (0, 0))) (v : Value) : (W.setCell ⟨b, 0, none⟩ v).heap[b]? = some (.cells #[v] t (0, 0)) := by
  have := heap_setCell_at h 0 v
  simpa using this

end Go.Proofs.YthnolocldeokeaaGreatDoor

namespace Go.Proofs.YthnolocldeokeaaGreatDoor
set_option maxRecDepth 100000
open Go.RowKit Go.Deep
set_option linter.unusedVariables false
set_option linter.unusedSimpArgs false

/- A type's two cells; a program's four slices. -/
def ty (k r : Int) : Value := .agg #[.int .i64 k, .int .i64 r]

set_option maxHeartbeats 400000 in
theorem isKey_any (w : World) (k r : Int) : Calls Tryz.prog 87 #[ty k r] w fun e w' => e = .returned (.bool (decide (r = 0) && (decide (k = 1) || decide (k = 2)))) ∧ Below w.heap.size w w' := by
  unfold ty
  have hb : Below w.heap.size w (w.alloc (.cells #[.int .i64 k, .int .i64 r] 32)) := (Below.refl _ _).alloc (Nat.le_refl _) _
  by_cases h0 : r = 0
  · subst h0
    by_cases h1 : k = 1
    · subst h1
      go_enter Tryz.func87, Tryz.ntmps87
      go_wp2
      go_ret
      exact ⟨by simp, hb⟩
    · have h1' : (k == 1) = false := by simpa using h1
      by_cases h2 : k = 2
      · subst h2
        go_enter Tryz.func87, Tryz.ntmps87
        go_wp2
        go_ret
        exact ⟨by simp, hb⟩
      · have h2' : (k == 2) = false := by simpa using h2
        go_enter Tryz.func87, Tryz.ntmps87
        go_wp2
        go_ret
        exact ⟨by simp [h1, h2], hb⟩
  · have h0' : (r == 0) = false := by simpa using h0
    go_enter Tryz.func87, Tryz.ntmps87
    go_wp2
    go_ret
    exact ⟨by simp [h0], hb⟩

set_option maxHeartbeats 400000 in
theorem isSimple_any (w : World) (k r : Int) : Calls Tryz.prog 98 #[ty k r] w fun e w' => e = .returned (.bool (decide (r = 0) && (decide (k = 1) || decide (k = 2) || decide (k = 3)))) ∧ Below w.heap.size w w' := by
  have K := hid (fun w' => isKey_any w' k r)
  unfold ty at K ⊢
  have hb : Below w.heap.size w (w.alloc (.cells #[.int .i64 k, .int .i64 r] 32)) := (Below.refl _ _).alloc (Nat.le_refl _) _
  cases hk : (decide (r = 0) && (decide (k = 1) || decide (k = 2))) with
  | true =>
    rw [hk] at K
    have e : (decide (r = 0) && (decide (k = 1) || decide (k = 2) || decide (k = 3))) = true := by
      simp only [Bool.and_eq_true, Bool.or_eq_true, decide_eq_true_eq] at hk ⊢
      exact ⟨hk.1, .inl hk.2⟩
    rw [e]
    clear e hk
    go_enter Tryz.func98, Tryz.ntmps98
    go_wp2_with (go_at_call 87; (refine (Hid.out K _).mono ?_; rintro e w1 ⟨rfl, hb1⟩))
    go_ret
    exact ⟨rfl, hb.trans (hb1.mono (by simp))⟩
  | false =>
    rw [hk] at K
    have e : (decide (r = 0) && (decide (k = 1) || decide (k = 2) || decide (k = 3))) = (decide (k = 3) && decide (r = 0)) := by
      by_cases h0 : r = 0
      · simp [h0] at hk ⊢; simp [hk]
      · simp [h0]
    rw [e]
    clear e hk
    go_enter Tryz.func98, Tryz.ntmps98
    go_wp2_with (go_at_call 87; (refine (Hid.out K _).mono ?_; rintro e w1 ⟨rfl, hb1⟩; have g := (hb1.block w.heap.size (by simp)).trans (heap_alloc_new w _); have g0 := cellOf g 0; have g1 := cellOf g 1; simp only [List.getElem?_toArray, List.getElem?_cons_zero, List.getElem?_cons_succ] at g0 g1; clear g))
    all_goals
      go_ret
      exact ⟨by simp_all, hb.trans (hb1.mono (by simp))⟩
end Go.Proofs.YthnolocldeokeaaGreatDoor

namespace Go.Proofs.YthnolocldeokeaaGreatDoor
set_option maxRecDepth 100000
open Go.RowKit Go.Deep Go.Shelf
set_option linter.unusedVariables false
set_option linter.unusedSimpArgs false
attribute [local go_sem] Oper.semAt_some

/- Types that a slice reads. -/
abbrev TyP := Int × Int
def TRd (w : World) (a : Option Addr) (ts : List TyP) : Prop := ∀ (j : Nat) (t : TyP), ts[j]? = some t → ∃ b off, a = some ⟨b, off, none⟩ ∧ w.cell? ⟨b, off + j * 2, none⟩ = some (.int .i64 t.1) ∧ w.cell? ⟨b, off + j * 2 + 1, none⟩ = some (.int .i64 t.2)
theorem TRd.below {w w' : World} {a : Option Addr} {ts : List TyP} {B : Nat} (h : TRd w a ts) (hB : w.heap.size ≤ B) (k : Below B w w') : TRd w' a ts := by
  intro j t e
  obtain ⟨b, off, rfl, h1, h2⟩ := h j t e
  exact ⟨b, off, rfl, (k.cell (p := ⟨b, off + j * 2, none⟩) (Nat.lt_of_lt_of_le (World.block_lt_of_cell? w _ h1) hB)).trans h1, (k.cell (p := ⟨b, off + j * 2 + 1, none⟩) (Nat.lt_of_lt_of_le (World.block_lt_of_cell? w _ h2) hB)).trans h2⟩
/- What a round keeps: all below, and the box of the record. -/
def KB (n₀ Bx : Nat) (W W' : World) : Prop := Below n₀ W W' ∧ W'.heap[Bx]? = W.heap[Bx]?
theorem KB_t {n₀ Bx : Nat} {A B C : World} (h : KB n₀ Bx A B) (k : KB n₀ Bx B C) : KB n₀ Bx A C := ⟨h.1.trans k.1, k.2.trans h.2⟩
theorem KB_b {n₀ Bx : Nat} {w : World} (hn : n₀ ≤ w.heap.size) (hB : Bx < w.heap.size) (W : World) (l : Nat) (o o' : Obj) (hl : w.heap.size ≤ l) (h : W.heap[l]? = some o) (hc : o.isCells = false) (hw : o.isWalk = false) : KB n₀ Bx W (W.putObj l o') :=
  ⟨belowK_b hn W l o o' hl h hc hw, (grownBy_putObj' W l o').block Bx (by have := (Array.getElem?_eq_some_iff.1 h).1; omega) (fun e => by cases e; omega)⟩
theorem KB_of {n₀ Bx : Nat} {W W' : World} (h : Below W.heap.size W W') (hn : n₀ ≤ W.heap.size) (hB : Bx < W.heap.size) : KB n₀ Bx W W' := ⟨h.mono hn, h.block Bx hB⟩
theorem KB.alloc {n₀ Bx : Nat} {W W' : World} (h : KB n₀ Bx W W') (hn : n₀ ≤ W'.heap.size) (hB : Bx < W'.heap.size) (o : Obj) : KB n₀ Bx W (W'.alloc o) := KB_t h ⟨(Below.refl _ _).alloc hn _, Below.heap_alloc _ _ _ hB⟩

def encT {α : Type} (idx : α → Nat) (f : α → TyP) (x : α) : Array Value := #[.int .i64 (idx x : Int), ty (f x).1 (f x).2]

set_option maxRecDepth 100000 in
set_option maxHeartbeats 1000000 in
theorem types1_in {α : Type} (idx : α → Nat) (f : α → TyP) (ts : List TyP) (Z : List α) (F : Fence) (n : Nat) (h46 : F.fn 106) (hro : F.round = none) (hn : 1 ≤ n) (l Bx n₀ : Nat) (nm : ByteArray) (fa ta : Option Addr) (fn fc tn tc : Nat) (hz : Z.length = fn) (hi : ∀ (k : Nat) (x : α), Z[k]? = some x → idx x = k ∧ f x = ts.getD k (0, 0)) (hts : tn = ts.length) (l1 : fn ≤ 1000000) (l2 : tn ≤ 9223372036854775807)
    (J Jx : List α → World → Prop)
    (hY : ∀ pre x W, J pre W → pre.length < Z.length → YieldAt F (n - 1) Tryz.prog l (encT idx f x) W fun e W' =>
      (e = .returned (.bool true) ∧ J (pre ++ [x]) W' ∧ KB n₀ Bx W W') ∨ (e = .returned (.bool false) ∧ Jx (pre ++ [x]) W'))
    (W : World) (hn0 : n₀ ≤ W.heap.size) (hBx : W.heap[Bx]? = some (.cells #[.string nm, .slice fa fn fc, .slice ta tn tc] 75 (0, 0)))
    (hJa : AbidesFrom W.heap.size J) (hr1 : TRd W ta ts) (hl1 : ts ≠ [] → ∀ b off, ta = some ⟨b, off, none⟩ → b < n₀) (h0 : J [] W) :
    CallsIn F n Tryz.prog 106 #[.func (.yield l) #[] #[], .pointer (some ⟨Bx, 0, none⟩)] W fun e W' => (∃ v, e = .returned v) ∧
      ((∃ ys, ys = Z ∧ J ys W') ∨ (∃ pre, (∃ k, k ≤ Z.length ∧ pre = Z.take k) ∧ Jx pre W')) := by
  refine callsIn_of_wp Tryz.func106 rfl h46 ?_ hro
  simp only [Tryz.ntmps106, List.size_toArray, List.length_cons, List.length_nil, Nat.reduceAdd, Nat.reduceSub, Array.replicate_succ, Array.replicate_zero, List.push_toArray, List.append_toArray, List.nil_append, List.cons_append]
  have Hm := hid hz
  have Hts := hid hts
  have HBx := hid hBx
  have hlx : Bx < W.heap.size := (Array.getElem?_eq_some_iff.1 hBx).1
  have c1 : W.cell? ⟨Bx, 1, none⟩ = some (.slice fa fn fc) := cellOf hBx 1
  clear hz hts hBx
  gi_wp2
  gi_loopw [8] (fun i wr => ∃ k : Nat, k ≤ fn ∧ i = .int .i64 k ∧ J (Z.take k) wr ∧ KB n₀ Bx W wr)
    (fun i _ => fn - (intOf i).toNat)
  case atStart => exact ⟨0, Nat.zero_le _, rfl, h0, Below.refl _ _, rfl⟩
  case round =>
    obtain ⟨k, hk, rfl, hJs, hnx⟩ := hrel
    by_cases hlt : k < fn
    · obtain ⟨x, hx⟩ : ∃ x, Z[k]? = some x := ⟨Z[k]'(by rw [Hm.out]; exact hlt), by rw [List.getElem?_eq_getElem]⟩
      obtain ⟨hix, hfx⟩ := hi k x hx
      have d2 : wr.cell? ⟨Bx, 2, none⟩ = some (.slice ta tn tc) := cellOf (hnx.2.trans HBx.out) 2
      have hsz : W.heap.size ≤ wr.heap.size := hnx.1.size
      have al : ∀ (o : Obj) (p : Addr) (v : Value), wr.cell? p = some v → (wr.alloc o).cell? p = some v := fun o p v h => (World.cell?_of_block (Below.heap_alloc _ _ _ (World.block_lt_of_cell? wr p h))).trans h
      have d2' := fun o => al o _ _ d2
      obtain ⟨fn', tmps, assign, body, hy, hRd⟩ := hY _ x (wr.alloc (.cells #[.int .i64 (f x).1, .int .i64 (f x).2] 32)) (hJa _ _ _ none hJs (World.grownBy_alloc _ _ _) (by simp)) (by rw [List.length_take, Hm.out]; omega)
      have Htk : Hid (Z.take (k + 1) = Z.take k ++ [x]) := by refine hid ?_; rw [List.take_add_one, hx]; rfl
      have hRd' : RoundIn F (n - 1) Tryz.prog l fn' tmps assign body (wr.alloc (.cells #[.int .i64 (f x).1, .int .i64 (f x).2] 32)) (fun e W' => ∃ b : Bool, e = .returned (.bool b) ∧ ((b = true → J (Z.take k ++ [x]) W' ∧ KB n₀ Bx (wr.alloc (.cells #[.int .i64 (f x).1, .int .i64 (f x).2] 32)) W') ∧ (b = false → Jx (Z.take k ++ [x]) W'))) := by
        refine hRd.mono ?_
        rintro e W' (⟨rfl, h1, h2⟩ | ⟨rfl, h1⟩)
        · exact ⟨true, rfl, ⟨fun _ => ⟨h1, h2⟩, fun h => (by cases h)⟩⟩
        · exact ⟨false, rfl, ⟨fun h => (by cases h), fun _ => h1⟩⟩
      clear hRd
      simp only [encT, ty, hix] at hy hRd'
      have Hnx := hid (hnx.alloc (by omega) (by omega) (.cells #[.int .i64 (f x).1, .int .i64 (f x).2] 32))
      rcases Nat.lt_or_ge k tn with hkt | hkt
      · obtain ⟨t, ht⟩ : ∃ t, ts[k]? = some t := ⟨ts[k]'(by rw [← Hts.out]; exact hkt), by rw [List.getElem?_eq_getElem]⟩
        have hft : f x = t := by rw [hfx, List.getD_eq_getElem?_getD, ht]; rfl
        obtain ⟨b1, o1, rfl, y0, y1⟩ := hr1 k t ht
        have q1 : b1 < n₀ := hl1 (by rintro rfl; simp at ht) _ _ rfl
        have x0 := (hnx.1.cell (p := ⟨b1, o1 + k * 2, none⟩) q1).trans y0
        have x1 := (hnx.1.cell (p := ⟨b1, o1 + k * 2 + 1, none⟩) q1).trans y1
        obtain ⟨tk, tr⟩ := t
        simp only [hft] at hy hRd' Hnx
        simp only at x0 x1
        have x0' := fun o => al o _ _ x0
        have x1' := fun o => al o _ _ x1
        have HRd := hid hRd'
        clear al
        clear hr1 hl1 hY hRd' hnx hJs hJa h0 hx q1 hi hix hfx y0 y1 c1 ht hft
        gi_wp2
        refine (Hid.out HRd).mono ?_
        rintro e W3 ⟨bb, rfl, hor⟩
        cases bb with
        | true =>
          have hor' := hor.1 rfl
          gi_wp2
          go_roundw
          case rel => exact ⟨k + 1, by omega, by go_num, by rw [Htk.out]; exact hor'.1, KB_t Hnx.out hor'.2⟩
          case measure => simp [intOf]; omega
        | false =>
          have hor' := hor.2 rfl
          gi_wp2
          refine bodyPost_ret (results_none rfl _ _ _) rfl ?_
          exact ⟨⟨_, rfl⟩, .inr ⟨_, ⟨k + 1, by rw [Hm.out]; omega, Htk.out.symm⟩, hor'⟩⟩
      · have hft : f x = (0, 0) := by rw [hfx, List.getD_eq_getElem?_getD, List.getElem?_eq_none (by rw [← Hts.out]; exact hkt)]; rfl
        simp only [hft] at hy hRd' Hnx
        have HRd := hid hRd'
        have hkt' : ¬ ((k : Int) < (tn : Int)) := by omega
        clear al
        clear hr1 hl1 hY hRd' hnx hJs hJa h0 hx hi hix hfx c1 hft
        gi_wp2
        refine (Hid.out HRd).mono ?_
        rintro e W3 ⟨bb, rfl, hor⟩
        cases bb with
        | true =>
          have hor' := hor.1 rfl
          gi_wp2
          go_roundw
          case rel => exact ⟨k + 1, by omega, by go_num, by rw [Htk.out]; exact hor'.1, KB_t Hnx.out hor'.2⟩
          case measure => simp [intOf]; omega
        | false =>
          have hor' := hor.2 rfl
          gi_wp2
          refine bodyPost_ret (results_none rfl _ _ _) rfl ?_
          exact ⟨⟨_, rfl⟩, .inr ⟨_, ⟨k + 1, by rw [Hm.out]; omega, Htk.out.symm⟩, hor'⟩⟩
    · obtain rfl : k = fn := by omega
      gi_wp2
      go_end0
      exact ⟨⟨_, rfl⟩, .inl ⟨_, rfl, by rw [← Hm.out, List.take_length] at hJs; exact hJs⟩⟩

theorem types_stops {α : Type} (idx : α → Nat) (f : α → TyP) (ts : List TyP) (Z : List α) (n : Nat) (hn : 1 ≤ n) (Bx n₀ : Nat) (nm : ByteArray) (fa ta : Option Addr) (fn fc tn tc : Nat) (hz : Z.length = fn) (hi : ∀ (k : Nat) (x : α), Z[k]? = some x → idx x = k ∧ f x = ts.getD k (0, 0)) (hts : tn = ts.length) (l1 : fn ≤ 1000000) (l2 : tn ≤ 9223372036854775807) (w : World)
    (hn0 : n₀ ≤ w.heap.size) (hBx : w.heap[Bx]? = some (.cells #[.string nm, .slice fa fn fc, .slice ta tn tc] 75 (0, 0))) (hr1 : TRd w ta ts) (hl1 : ts ≠ [] → ∀ b off, ta = some ⟨b, off, none⟩ → b < n₀) :
    SeqStopsK Fence.wide n Tryz.prog 106 #[.pointer (some ⟨Bx, 0, none⟩)] (encT idx f) (KB n₀ Bx) (fun ys => ys = Z) (fun pre => ∃ k, k ≤ Z.length ∧ pre = Z.take k) Z.length w := fun l J Jx W hW hJa _ hY h0 =>
  types1_in idx f ts Z Fence.wide n trivial rfl hn l Bx n₀ nm fa ta fn fc tn tc hz hi hts l1 l2 J Jx hY W (Nat.le_trans hn0 hW.size) ((hW.block Bx (Array.getElem?_eq_some_iff.1 hBx).1).trans hBx) hJa (hr1.below (Nat.le_refl _) hW) hl1 h0

set_option maxHeartbeats 400000 in
theorem types_in (F : Fence) (n : Nat) (h30 : F.fn 97) (hro : F.round = none) (nm : ByteArray) (v1 v2 : Value) (h1 : v1.oneCell' = true) (h2 : v2.oneCell' = true) (w : World) :
    CallsIn F n Tryz.prog 97 #[.agg #[.string nm, v1, v2]] w fun e w' => e = .returned (.func (.func 106) #[] #[.pointer (some ⟨w.heap.size, 0, none⟩)]) ∧ w' = w.alloc (.cells #[.string nm, v1, v2] 75) := by
  refine callsIn_of_wp Tryz.func97 rfl h30 ?_ hro
  simp only [Tryz.ntmps97, List.size_toArray, List.length_cons, List.length_nil, Nat.reduceAdd, Nat.reduceSub, Array.replicate_succ, Array.replicate_zero, List.push_toArray, List.append_toArray, List.nil_append, List.cons_append]
  gi_wp2
  go_ret
  exact ⟨rfl, rfl⟩
end Go.Proofs.YthnolocldeokeaaGreatDoor

namespace Go.Proofs
set_option maxRecDepth 100000
open Go.Shelf
def Tryz.lays110_ren : Go.Shelf.Ren := ⟨fun | 110 => 100 | 109 => 107 | n => n, fun | 31 => 49 | 9 => 9 | 4 => 4 | 3 => 3 | 0 => 0 | n => n, fun | n => n⟩
theorem Tryz.lays110 : Go.Proofs.Lays.n110 Tryz.prog Tryz.lays110_ren := {
  mixed := by kernel_rfl
  f109 := Tryz.func107.trans (congrArg some (by kernel_rfl))
  f110 := Tryz.func100.trans (congrArg some (by kernel_rfl))
  t0 := Tryz.underlying0
  a0 := Tryz.isAgg0
  z0 := Tryz.sizeOf0
  v0 := Tryz.zeroValue0
  t3 := Tryz.underlying3
  a3 := Tryz.isAgg3
  z3 := Tryz.sizeOf3
  v3 := Tryz.zeroValue3
  t4 := Tryz.underlying4
  a4 := Tryz.isAgg4
  z4 := Tryz.sizeOf4
  v4 := Tryz.zeroValue4
  t9 := Tryz.underlying9
  a9 := Tryz.isAgg9
  z9 := Tryz.sizeOf9
  v9 := Tryz.zeroValue9
  t31 := Tryz.underlying49
  a31 := Tryz.isAgg49
  z31 := Tryz.sizeOf49
  v31 := Tryz.zeroValue49 }
open Go.Lib in
theorem Tryz.slices_Contains_string (b off n c : Nat) (zs : List ByteArray) (x : ByteArray) (w : World) (hz : n ≤ zs.length) (hbig : n ≤ 9223372036854775807) (hc : ∀ j, j < zs.length → w.cell? ⟨b, off + j, none⟩ = some (.string (zs.getD j ByteArray.empty))) :
    Calls Tryz.prog 100 #[.slice (some ⟨b, off, none⟩) n c, .string x] w fun e w' => e = .returned (.bool (Lib.containsS (zs.take n) x)) ∧ w' = w := Any.slices_Contains_string Tryz.lays110 b off n c zs x w hz hbig hc
end Go.Proofs

namespace Go.Proofs.YthnolocldeokeaaGreatDoor
set_option maxRecDepth 100000
open Go.RowKit Go.Deep Go.Shelf
set_option linter.unusedVariables false
set_option linter.unusedSimpArgs false

def smB (c : Int) : Bool := (decide (97 ≤ c) && decide (c ≤ 122)) || decide (c = 95)
def grB (c : Int) : Bool := decide (65 ≤ c) && decide (c ≤ 90)
def nmB (c : Int) : Bool := smB c || grB c || (decide (48 ≤ c) && decide (c ≤ 57))
def nameB (s : ByteArray) : Bool := decide (1 ≤ s.size) && decide (s.size ≤ 20) && s.data.toList.all fun c => nmB c.toNat

set_option maxHeartbeats 400000 in
theorem isSmall_any (w : World) (c : Int) : Calls Tryz.prog 89 #[.int .u8 c] w fun e w' => e = .returned (.bool (smB c)) ∧ w' = w := by
  rcases Int.lt_or_le c 97 with h1 | h1
  · have h1' : ¬ (97 ≤ c) := by omega
    by_cases h3 : c = 95
    · subst h3
      go_enter Tryz.func89, Tryz.ntmps89
      go_wp2
      go_ret
      exact ⟨by simp [smB], rfl⟩
    · have h3' : (c == 95) = false := by simpa using h3
      go_enter Tryz.func89, Tryz.ntmps89
      go_wp2
      go_ret
      exact ⟨by simp [smB, h3]; omega, rfl⟩
  · rcases Int.lt_or_le 122 c with h2 | h2
    · have h2' : ¬ (c ≤ 122) := by omega
      have h3 : ¬ c = 95 := by omega
      have h3' : (c == 95) = false := by simpa using h3
      go_enter Tryz.func89, Tryz.ntmps89
      go_wp2
      go_ret
      exact ⟨by simp [smB, h2', h3], rfl⟩
    · go_enter Tryz.func89, Tryz.ntmps89
      go_wp2
      go_ret
      exact ⟨by simp [smB, h1, h2], rfl⟩
set_option maxHeartbeats 400000 in
theorem isGreat_any (w : World) (c : Int) : Calls Tryz.prog 86 #[.int .u8 c] w fun e w' => e = .returned (.bool (grB c)) ∧ w' = w := by
  rcases Int.lt_or_le c 65 with h1 | h1
  · have h1' : ¬ (65 ≤ c) := by omega
    go_enter Tryz.func86, Tryz.ntmps86
    go_wp2
    go_ret
    exact ⟨by simp [grB]; omega, rfl⟩
  · rcases Int.lt_or_le 90 c with h2 | h2
    · have h2' : ¬ (c ≤ 90) := by omega
      go_enter Tryz.func86, Tryz.ntmps86
      go_wp2
      go_ret
      exact ⟨by simp [grB, h2'], rfl⟩
    · go_enter Tryz.func86, Tryz.ntmps86
      go_wp2
      go_ret
      exact ⟨by simp [grB, h1, h2], rfl⟩

theorem all_take_snoc {p : UInt8 → Bool} {l : List UInt8} {i : Nat} {c : UInt8} (h : (l.take i).all p = true) (e : l[i]? = some c) (hc : p c = true) : (l.take (i + 1)).all p = true := by
  rw [List.take_add_one, e]; simp [h, hc]
theorem all_not {p : UInt8 → Bool} {l : List UInt8} {i : Nat} {c : UInt8} (e : l[i]? = some c) (hc : p c = false) : l.all p = false := by
  rw [List.all_eq_false]
  exact ⟨c, List.mem_of_getElem? e, by simp [hc]⟩

set_option maxRecDepth 10000 in
set_option maxHeartbeats 1000000 in
theorem isName_any (w : World) (s : ByteArray) (hs : s.size ≤ 9223372036854775807) : Calls Tryz.prog 99 #[.string s] w fun e w' => e = .returned (.bool (nameB s)) ∧ Below w.heap.size w w' := by
  rcases Nat.lt_or_ge s.size 1 with h1 | h1
  · have h1' : ¬ (1 ≤ s.size) := by omega
    have hn : nameB s = false := by simp [nameB, h1']
    rw [hn]
    go_enter Tryz.func99, Tryz.ntmps99
    go_wp2
    go_ret
    exact ⟨rfl, Below.refl _ _⟩
  · rcases Nat.lt_or_ge 20 s.size with h2 | h2
    · have h2' : ¬ (s.size ≤ 20) := by omega
      have hn : nameB s = false := by simp [nameB, h2']
      rw [hn]
      go_enter Tryz.func99, Tryz.ntmps99
      go_wp2
      go_ret
      exact ⟨rfl, Below.refl _ _⟩
    · have hn : nameB s = s.data.toList.all fun c => nmB c.toNat := by simp [nameB, h1, h2]
      rw [hn]
      obtain ⟨C, WW, hconv, hcell, hbw⟩ : ∃ (C : Nat) (WW : World), (convert 9 52 (.string s)).run Tryz.prog w = .ok (.slice (some ⟨w.heap.size, 0, none⟩) s.size C) WW ∧ (∀ j, j < s.size → WW.cell? ⟨w.heap.size, j, none⟩ = some (.int .u8 (s.data.toList.getD j 0).toNat)) ∧ Below w.heap.size w WW :=
        ⟨_, _, Lib.run_convert_string_bytes (P := Tryz.prog) w 9 52 5 s Tryz.underlying9 Tryz.underlying52 Tryz.underlying5, fun j hj => Lib.bytesWorld_cell w 5 s j hj, Lib.bytesWorld_below _ _ _⟩
      have Hs : Hid (s.data.toList.length = s.size) := hid Array.length_toList
      have Hcell := hid hcell
      clear hcell hn
      go_enter Tryz.func99, Tryz.ntmps99
      go_wp2
      go_loopg [16] s.size (fun g ii wr => ∃ i : Nat, i + g = s.size ∧ ii = .int .i64 (i : Int) ∧ wr = WW ∧ (s.data.toList.take i).all (fun c => nmB c.toNat) = true)
      case atStart => exact ⟨0, by omega, rfl, rfl, rfl⟩
      case round =>
        obtain ⟨i, hi, rfl, rfl, hAc⟩ := hrel
        have HAc := hid hAc
        have Hi := hid hi
        clear hAc
        cases gk with
        | zero =>
          have hin : i = s.size := by omega
          clear hi
          subst hin
          go_wp2
          go_ret
          have := HAc.out
          rw [← Hs.out, List.take_length] at this
          exact ⟨by rw [this]; rfl, hbw⟩
        | succ g =>
          have hlt : i < s.size := by omega
          clear hi
          obtain ⟨c, hc⟩ : ∃ c, s.data.toList[i]? = some c := ⟨s.data.toList[i]'(by rw [Hs.out]; omega), by rw [List.getElem?_eq_getElem]⟩
          have xc := Hcell.out i hlt
          rw [List.getD_eq_getElem?_getD, hc, Option.getD_some] at xc
          have Hc := hid hc
          clear hc
          have K1 := hid (fun w => isSmall_any w c.toNat)
          have K2 := hid (fun w => isGreat_any w c.toNat)
          cases q1 : smB c.toNat with
          | true =>
            rw [q1] at K1
            go_wp2_with (go_at_call 89; (refine (Hid.out K1 _).mono ?_; rintro e w2 ⟨rfl, rfl⟩))
            go_roundg g
            case measure => omega
            case rel => exact ⟨i + 1, by have := Hi.out; omega, by go_num, rfl, all_take_snoc HAc.out Hc.out (by simp [nmB, q1])⟩
          | false =>
            rw [q1] at K1
            cases q2 : grB c.toNat with
            | true =>
              rw [q2] at K2
              go_wp2_with (first
                | (go_at_call 89; (refine (Hid.out K1 _).mono ?_; rintro e w2 ⟨rfl, rfl⟩))
                | (go_at_call 86; (refine (Hid.out K2 _).mono ?_; rintro e w2 ⟨rfl, rfl⟩)))
              go_roundg g
              case measure => omega
              case rel => exact ⟨i + 1, by have := Hi.out; omega, by go_num, rfl, all_take_snoc HAc.out Hc.out (by simp [nmB, q2])⟩
            | false =>
              rw [q2] at K2
              rcases Int.lt_or_le (c.toNat : Int) 48 with d1 | d1
              · have d1' : ¬ ((48 : Int) ≤ (c.toNat : Int)) := by omega
                have hno := all_not (p := fun c => nmB c.toNat) Hc.out (by simp [nmB, q1, q2]; omega)
                go_wp2_with (first
                  | (go_at_call 89; (refine (Hid.out K1 _).mono ?_; rintro e w2 ⟨rfl, rfl⟩))
                  | (go_at_call 86; (refine (Hid.out K2 _).mono ?_; rintro e w2 ⟨rfl, rfl⟩)))
                go_ret
                exact ⟨by rw [hno]; rfl, hbw⟩
              · rcases Int.lt_or_le 57 (c.toNat : Int) with d2 | d2
                · have hno := all_not (p := fun c => nmB c.toNat) Hc.out (by simp [nmB, q1, q2]; omega)
                  go_wp2_with (first
                    | (go_at_call 89; (refine (Hid.out K1 _).mono ?_; rintro e w2 ⟨rfl, rfl⟩))
                    | (go_at_call 86; (refine (Hid.out K2 _).mono ?_; rintro e w2 ⟨rfl, rfl⟩)))
                  go_ret
                  exact ⟨by rw [hno]; rfl, hbw⟩
                · go_wp2_with (first
                    | (go_at_call 89; (refine (Hid.out K1 _).mono ?_; rintro e w2 ⟨rfl, rfl⟩))
                    | (go_at_call 86; (refine (Hid.out K2 _).mono ?_; rintro e w2 ⟨rfl, rfl⟩)))
                  go_roundg g
                  case measure => omega
                  case rel => exact ⟨i + 1, by have := Hi.out; omega, by go_num, rfl, all_take_snoc HAc.out Hc.out (by simp [nmB]; omega)⟩
end Go.Proofs.YthnolocldeokeaaGreatDoor

namespace Go.Proofs.YthnolocldeokeaaGreatDoor
set_option maxRecDepth 100000
open Go.RowKit Go.Deep Go.Shelf
set_option linter.unusedVariables false
set_option linter.unusedSimpArgs false

/- Texts that a slice reads. -/
def SRd (w : World) (a : Option Addr) (ss : List ByteArray) : Prop := ∀ (j : Nat) (s : ByteArray), ss[j]? = some s → s.size ≤ 9223372036854775807 ∧ ∃ b off, a = some ⟨b, off, none⟩ ∧ w.cell? ⟨b, off + j, none⟩ = some (.string s)
theorem SRd.below {w w' : World} {a : Option Addr} {ss : List ByteArray} {B : Nat} (h : SRd w a ss) (hB : w.heap.size ≤ B) (k : Below B w w') : SRd w' a ss := by
  intro j s e
  obtain ⟨hz, b, off, rfl, hc⟩ := h j s e
  exact ⟨hz, b, off, rfl, (k.cell (p := ⟨b, off + j, none⟩) (Nat.lt_of_lt_of_le (World.block_lt_of_cell? w _ hc) hB)).trans hc⟩
def okAt (f : Int → Bool) (ss : List ByteArray) (i : Nat) : Bool := match ss[i]? with
  | some s => nameB s && f (s.data.toList.getD 0 0).toNat && !(Lib.containsS (ss.take i) s)
  | none => true
def namesB (f : Int → Bool) (ss : List ByteArray) : Bool := (List.range ss.length).all (okAt f ss)
theorem okAt_some {f : Int → Bool} {ss : List ByteArray} {i : Nat} {s : ByteArray} (e : ss[i]? = some s) : okAt f ss i = (nameB s && f (s.data.toList.getD 0 0).toNat && !(Lib.containsS (ss.take i) s)) := by
  unfold okAt; rw [e]
theorem namesB_no {f : Int → Bool} {ss : List ByteArray} {i : Nat} (hi : i < ss.length) (h : okAt f ss i = false) : namesB f ss = false := by
  unfold namesB; rw [List.all_eq_false]
  exact ⟨i, List.mem_range.2 hi, by simp [h]⟩
theorem namesB_yes {f : Int → Bool} {ss : List ByteArray} (h : ∀ j, j < ss.length → okAt f ss j = true) : namesB f ss = true := by
  unfold namesB; rw [List.all_eq_true]
  exact fun j hj => h j (List.mem_range.1 hj)
theorem acc_snoc {p : Nat → Bool} {i : Nat} (h : ∀ j, j < i → p j = true) (hi : p i = true) : ∀ j, j < i + 1 → p j = true := fun j hj => by
  rcases Nat.lt_or_ge j i with h1 | h1
  · exact h j h1
  · obtain rfl : j = i := by omega
    exact hi
theorem nameB_size {s : ByteArray} (h : nameB s = true) : 1 ≤ s.size := by
  unfold nameB at h
  simp only [Bool.and_eq_true, decide_eq_true_eq] at h
  exact h.1.1
theorem srd_getD {w : World} {b off : Nat} {ss : List ByteArray} (h : SRd w (some ⟨b, off, none⟩) ss) : ∀ j, j < ss.length → w.cell? ⟨b, off + j, none⟩ = some (.string (ss.getD j ByteArray.empty)) := fun j hj => by
  obtain ⟨_, b', off', e, hc⟩ := h j ss[j] (List.getElem?_eq_getElem hj)
  cases e
  rw [hc, List.getD_eq_getElem?_getD, List.getElem?_eq_getElem hj]; rfl
theorem fb (s : ByteArray) (h : 0 < s.size) : ((s[0]'h).toNat : Int) = ((s.data.toList.getD 0 0).toNat : Int) := by
  have h' : 0 < s.data.toList.length := by rw [Array.length_toList]; exact h
  have e : s.data.toList.getD 0 0 = s[0]'h := by
    rw [List.getD_eq_getElem?_getD, List.getElem?_eq_getElem h', Option.getD_some, Array.getElem_toList]
    rfl
  rw [e]

set_option maxRecDepth 10000 in
set_option maxHeartbeats 1000000 in
theorem rightNames_42 (w : World) (a : Option Addr) (n cap : Nat) (ss : List ByteArray) (hn : n = ss.length) (hn2 : n ≤ 9223372036854775807) (hcap : n ≤ cap) (hr : SRd w a ss) :
    Calls Tryz.prog 85 #[.slice a n cap, .func (.func 89) #[] #[]] w fun e w' => e = .returned (.bool (namesB smB ss)) ∧ Below w.heap.size w w' := by
  have Hn := hid hn
  have Hr := hid hr
  clear hn hr
  obtain ⟨res, hres⟩ : ∃ res, res = namesB smB ss := ⟨_, rfl⟩
  rw [← hres]
  have Hres := hid hres
  clear hres
  go_enter Tryz.func85, Tryz.ntmps85
  go_wp2
  go_loopg [9] n (fun g ii wr => ∃ i : Nat, i + g = n ∧ ii = .int .i64 (i : Int) ∧ Below w.heap.size w wr ∧ ∀ j, j < i → okAt smB ss j = true)
  case atStart => exact ⟨0, by omega, rfl, Below.refl _ _, fun j hj => by omega⟩
  case round =>
    obtain ⟨i, hi, rfl, hbe, hAc⟩ := hrel
    have HAc := hid hAc
    have Hi := hid hi
    have Hbe := hid hbe
    clear hAc hbe
    cases gk with
    | zero =>
      have hin : i = n := by omega
      clear hi
      subst hin
      go_wp2
      go_ret
      exact ⟨by rw [Hres.out, namesB_yes (by rw [← Hn.out]; exact HAc.out)]; rfl, Hbe.out⟩
    | succ g =>
      have hlt : i < n := by omega
      clear hi
      obtain ⟨s, hs⟩ : ∃ s, ss[i]? = some s := ⟨ss[i]'(by rw [← Hn.out]; exact hlt), by rw [List.getElem?_eq_getElem]⟩
      obtain ⟨hz, b, off, rfl, hc⟩ := (Hr.out.below (Nat.le_refl _) Hbe.out) i s hs
      have hc1 : wr.cell? ⟨b, off + i, none⟩ = some (.string s) := hc
      have Hok := hid (okAt_some (f := smB) hs)
      have Hz := hid hz
      have K1 := hid (fun w => isName_any w s hz)
      clear hc hs hz
      have hicap : ((i : Int) ≤ (cap : Int)) := by omega
      cases q1 : nameB s with
      | false =>
        rw [q1] at K1
        go_wp2_with (go_at_call 99; (refine (Hid.out K1 _).mono ?_; rintro e w2 ⟨rfl, hb2⟩))
        go_ret
        exact ⟨by rw [Hres.out, namesB_no (i := i) (by rw [← Hn.out]; exact hlt) (by rw [Hok.out, q1]; rfl)]; rfl, Hbe.out.trans (hb2.mono Hbe.out.size)⟩
      | true =>
        rw [q1] at K1
        have hs1 := nameB_size q1
        have hs1' : (0 : Int) < (s.size : Int) := by omega
        obtain ⟨c, hcc⟩ : ∃ c : Int, c = (s.data.toList.getD 0 0).toNat := ⟨_, rfl⟩
        have Hcc := hid hcc
        have K2 : Hid (∀ (w : World) (x : Int), x = c → Calls Tryz.prog 89 #[.int .u8 x] w fun e w' => e = .returned (.bool (smB c)) ∧ w' = w) := hid (fun w x hx => by rw [hx]; exact isSmall_any w c)
        clear hcc
        cases q2 : smB c with
        | false =>
          rw [q2] at K2
          go_wp2_with (first
            | (go_at_call 99; (refine (Hid.out K1 _).mono ?_; rintro e w2 ⟨rfl, hb2⟩))
            | (go_at_call 89; (refine (Hid.out K2 _ _ (by rw [Hcc.out]; exact fb _ _)).mono ?_; rintro e w3 ⟨rfl, rfl⟩)))
          go_ret
          exact ⟨by rw [Hres.out, namesB_no (i := i) (by rw [← Hn.out]; exact hlt) (by rw [Hok.out, q1, ← Hcc.out, q2]; rfl)]; rfl, Hbe.out.trans (hb2.mono Hbe.out.size)⟩
        | true =>
          rw [q2] at K2
          have K3 : Hid (∀ w2 : World, Below wr.heap.size wr w2 → Calls Tryz.prog 100 #[.slice (some ⟨b, off, none⟩) i cap, .string s] w2 fun e w' => e = .returned (.bool (Lib.containsS (ss.take i) s)) ∧ w' = w2) := hid (fun w2 hb => Tryz.slices_Contains_string b off i cap ss s w2 (by rw [← Hn.out]; omega) (by omega) (srd_getD (Hr.out.below (Nat.le_refl _) (Hbe.out.trans (hb.mono Hbe.out.size)))))
          cases q3 : Lib.containsS (ss.take i) s with
          | true =>
            rw [q3] at K3
            go_wp2_with (first
              | (go_at_call 99; (refine (Hid.out K1 _).mono ?_; rintro e w2 ⟨rfl, hb2⟩))
              | (go_at_call 89; (refine (Hid.out K2 _ _ (by rw [Hcc.out]; exact fb _ _)).mono ?_; rintro e w3 ⟨rfl, rfl⟩))
              | (go_at_call 100; (refine (Hid.out K3 _ hb2).mono ?_; rintro e w4 ⟨rfl, rfl⟩)))
            go_ret
            exact ⟨by rw [Hres.out, namesB_no (i := i) (by rw [← Hn.out]; exact hlt) (by rw [Hok.out, q1, ← Hcc.out, q2, q3]; rfl)]; rfl, Hbe.out.trans (hb2.mono Hbe.out.size)⟩
          | false =>
            rw [q3] at K3
            go_wp2_with (first
              | (go_at_call 99; (refine (Hid.out K1 _).mono ?_; rintro e w2 ⟨rfl, hb2⟩))
              | (go_at_call 89; (refine (Hid.out K2 _ _ (by rw [Hcc.out]; exact fb _ _)).mono ?_; rintro e w3 ⟨rfl, rfl⟩))
              | (go_at_call 100; (refine (Hid.out K3 _ hb2).mono ?_; rintro e w4 ⟨rfl, rfl⟩)))
            go_roundg g
            case measure => omega
            case rel => exact ⟨i + 1, by have := Hi.out; omega, by go_num, Hbe.out.trans (hb2.mono Hbe.out.size), acc_snoc HAc.out (by rw [Hok.out, q1, ← Hcc.out, q2, q3]; rfl)⟩

set_option maxRecDepth 10000 in
set_option maxHeartbeats 1000000 in
theorem rightNames_40 (w : World) (a : Option Addr) (n cap : Nat) (ss : List ByteArray) (hn : n = ss.length) (hn2 : n ≤ 9223372036854775807) (hcap : n ≤ cap) (hr : SRd w a ss) :
    Calls Tryz.prog 85 #[.slice a n cap, .func (.func 86) #[] #[]] w fun e w' => e = .returned (.bool (namesB grB ss)) ∧ Below w.heap.size w w' := by
  have Hn := hid hn
  have Hr := hid hr
  clear hn hr
  obtain ⟨res, hres⟩ : ∃ res, res = namesB grB ss := ⟨_, rfl⟩
  rw [← hres]
  have Hres := hid hres
  clear hres
  go_enter Tryz.func85, Tryz.ntmps85
  go_wp2
  go_loopg [9] n (fun g ii wr => ∃ i : Nat, i + g = n ∧ ii = .int .i64 (i : Int) ∧ Below w.heap.size w wr ∧ ∀ j, j < i → okAt grB ss j = true)
  case atStart => exact ⟨0, by omega, rfl, Below.refl _ _, fun j hj => by omega⟩
  case round =>
    obtain ⟨i, hi, rfl, hbe, hAc⟩ := hrel
    have HAc := hid hAc
    have Hi := hid hi
    have Hbe := hid hbe
    clear hAc hbe
    cases gk with
    | zero =>
      have hin : i = n := by omega
      clear hi
      subst hin
      go_wp2
      go_ret
      exact ⟨by rw [Hres.out, namesB_yes (by rw [← Hn.out]; exact HAc.out)]; rfl, Hbe.out⟩
    | succ g =>
      have hlt : i < n := by omega
      clear hi
      obtain ⟨s, hs⟩ : ∃ s, ss[i]? = some s := ⟨ss[i]'(by rw [← Hn.out]; exact hlt), by rw [List.getElem?_eq_getElem]⟩
      obtain ⟨hz, b, off, rfl, hc⟩ := (Hr.out.below (Nat.le_refl _) Hbe.out) i s hs
      have hc1 : wr.cell? ⟨b, off + i, none⟩ = some (.string s) := hc
      have Hok := hid (okAt_some (f := grB) hs)
      have Hz := hid hz
      have K1 := hid (fun w => isName_any w s hz)
      clear hc hs hz
      have hicap : ((i : Int) ≤ (cap : Int)) := by omega
      cases q1 : nameB s with
      | false =>
        rw [q1] at K1
        go_wp2_with (go_at_call 99; (refine (Hid.out K1 _).mono ?_; rintro e w2 ⟨rfl, hb2⟩))
        go_ret
        exact ⟨by rw [Hres.out, namesB_no (i := i) (by rw [← Hn.out]; exact hlt) (by rw [Hok.out, q1]; rfl)]; rfl, Hbe.out.trans (hb2.mono Hbe.out.size)⟩
      | true =>
        rw [q1] at K1
        have hs1 := nameB_size q1
        have hs1' : (0 : Int) < (s.size : Int) := by omega
        obtain ⟨c, hcc⟩ : ∃ c : Int, c = (s.data.toList.getD 0 0).toNat := ⟨_, rfl⟩
        have Hcc := hid hcc
        have K2 : Hid (∀ (w : World) (x : Int), x = c → Calls Tryz.prog 86 #[.int .u8 x] w fun e w' => e = .returned (.bool (grB c)) ∧ w' = w) := hid (fun w x hx => by rw [hx]; exact isGreat_any w c)
        clear hcc
        cases q2 : grB c with
        | false =>
          rw [q2] at K2
          go_wp2_with (first
            | (go_at_call 99; (refine (Hid.out K1 _).mono ?_; rintro e w2 ⟨rfl, hb2⟩))
            | (go_at_call 86; (refine (Hid.out K2 _ _ (by rw [Hcc.out]; exact fb _ _)).mono ?_; rintro e w3 ⟨rfl, rfl⟩)))
          go_ret
          exact ⟨by rw [Hres.out, namesB_no (i := i) (by rw [← Hn.out]; exact hlt) (by rw [Hok.out, q1, ← Hcc.out, q2]; rfl)]; rfl, Hbe.out.trans (hb2.mono Hbe.out.size)⟩
        | true =>
          rw [q2] at K2
          have K3 : Hid (∀ w2 : World, Below wr.heap.size wr w2 → Calls Tryz.prog 100 #[.slice (some ⟨b, off, none⟩) i cap, .string s] w2 fun e w' => e = .returned (.bool (Lib.containsS (ss.take i) s)) ∧ w' = w2) := hid (fun w2 hb => Tryz.slices_Contains_string b off i cap ss s w2 (by rw [← Hn.out]; omega) (by omega) (srd_getD (Hr.out.below (Nat.le_refl _) (Hbe.out.trans (hb.mono Hbe.out.size)))))
          cases q3 : Lib.containsS (ss.take i) s with
          | true =>
            rw [q3] at K3
            go_wp2_with (first
              | (go_at_call 99; (refine (Hid.out K1 _).mono ?_; rintro e w2 ⟨rfl, hb2⟩))
              | (go_at_call 86; (refine (Hid.out K2 _ _ (by rw [Hcc.out]; exact fb _ _)).mono ?_; rintro e w3 ⟨rfl, rfl⟩))
              | (go_at_call 100; (refine (Hid.out K3 _ hb2).mono ?_; rintro e w4 ⟨rfl, rfl⟩)))
            go_ret
            exact ⟨by rw [Hres.out, namesB_no (i := i) (by rw [← Hn.out]; exact hlt) (by rw [Hok.out, q1, ← Hcc.out, q2, q3]; rfl)]; rfl, Hbe.out.trans (hb2.mono Hbe.out.size)⟩
          | false =>
            rw [q3] at K3
            go_wp2_with (first
              | (go_at_call 99; (refine (Hid.out K1 _).mono ?_; rintro e w2 ⟨rfl, hb2⟩))
              | (go_at_call 86; (refine (Hid.out K2 _ _ (by rw [Hcc.out]; exact fb _ _)).mono ?_; rintro e w3 ⟨rfl, rfl⟩))
              | (go_at_call 100; (refine (Hid.out K3 _ hb2).mono ?_; rintro e w4 ⟨rfl, rfl⟩)))
            go_roundg g
            case measure => omega
            case rel => exact ⟨i + 1, by have := Hi.out; omega, by go_num, Hbe.out.trans (hb2.mono Hbe.out.size), acc_snoc HAc.out (by rw [Hok.out, q1, ← Hcc.out, q2, q3]; rfl)⟩
end Go.Proofs.YthnolocldeokeaaGreatDoor

