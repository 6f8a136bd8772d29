/- Types of fields, told by ranging over a function. -/
import Derived.Test.YtnmbifoinponeaaGreatDoorE
import Derived.Test.YtnmbifoinponeaaGreatDoorK
namespace Go.Proofs.YtnmbifoinponeaaGreatDoor
open Go.RowKit Go.Deep Go.Shelf
set_option linter.unusedVariables false
set_option linter.unusedSimpArgs false
attribute [local go_sem] Oper.semAt_some

/- Types that a slice reads. -/
abbrev TyP := Int × Int
def TRd (w : World) (a : Option Addr) (ts : List TyP) : Prop := ∀ (j : Nat) (t : TyP), ts[j]? = some t → ∃ b off, a = some ⟨b, off, none⟩ ∧ w.cell? ⟨b, off + j * 2, none⟩ = some (.int .i64 t.1) ∧ w.cell? ⟨b, off + j * 2 + 1, none⟩ = some (.int .i64 t.2)
theorem TRd.below {w w' : World} {a : Option Addr} {ts : List TyP} {B : Nat} (h : TRd w a ts) (hB : w.heap.size ≤ B) (k : Below B w w') : TRd w' a ts := by
  intro j t e
  obtain ⟨b, off, rfl, h1, h2⟩ := h j t e
  exact ⟨b, off, rfl, (k.cell (p := ⟨b, off + j * 2, none⟩) (Nat.lt_of_lt_of_le (World.block_lt_of_cell? w _ h1) hB)).trans h1, (k.cell (p := ⟨b, off + j * 2 + 1, none⟩) (Nat.lt_of_lt_of_le (World.block_lt_of_cell? w _ h2) hB)).trans h2⟩
/- What a round keeps: all below, and the box of the record. -/
def KB (n₀ Bx : Nat) (W W' : World) : Prop := Below n₀ W W' ∧ W'.heap[Bx]? = W.heap[Bx]?
theorem KB_t {n₀ Bx : Nat} {A B C : World} (h : KB n₀ Bx A B) (k : KB n₀ Bx B C) : KB n₀ Bx A C := ⟨h.1.trans k.1, k.2.trans h.2⟩
theorem KB_b {n₀ Bx : Nat} {w : World} (hn : n₀ ≤ w.heap.size) (hB : Bx < w.heap.size) (W : World) (l : Nat) (o o' : Obj) (hl : w.heap.size ≤ l) (h : W.heap[l]? = some o) (hc : o.isCells = false) (hw : o.isWalk = false) : KB n₀ Bx W (W.putObj l o') :=
  ⟨belowK_b hn W l o o' hl h hc hw, (grownBy_putObj' W l o').block Bx (by have := (Array.getElem?_eq_some_iff.1 h).1; omega) (fun e => by cases e; omega)⟩
theorem KB_of {n₀ Bx : Nat} {W W' : World} (h : Below W.heap.size W W') (hn : n₀ ≤ W.heap.size) (hB : Bx < W.heap.size) : KB n₀ Bx W W' := ⟨h.mono hn, h.block Bx hB⟩
theorem KB.alloc {n₀ Bx : Nat} {W W' : World} (h : KB n₀ Bx W W') (hn : n₀ ≤ W'.heap.size) (hB : Bx < W'.heap.size) (o : Obj) : KB n₀ Bx W (W'.alloc o) := KB_t h ⟨(Below.refl _ _).alloc hn _, Below.heap_alloc _ _ _ hB⟩

def encT {α : Type} (idx : α → Nat) (f : α → TyP) (x : α) : Array Value := #[.int .i64 (idx x : Int), ty (f x).1 (f x).2]

set_option maxRecDepth 100000 in
set_option maxHeartbeats 1000000 in
theorem types1_in {α : Type} (idx : α → Nat) (f : α → TyP) (ts : List TyP) (Z : List α) (F : Fence) (n : Nat) (h46 : F.fn 63) (hro : F.round = none) (hn : 1 ≤ n) (l Bx n₀ : Nat) (nm : ByteArray) (fa ta : Option Addr) (fn fc tn tc : Nat) (hz : Z.length = fn) (hi : ∀ (k : Nat) (x : α), Z[k]? = some x → idx x = k ∧ f x = ts.getD k (0, 0)) (hts : tn = ts.length) (l1 : fn ≤ 1000000) (l2 : tn ≤ 9223372036854775807)
    (J Jx : List α → World → Prop)
    (hY : ∀ pre x W, J pre W → pre.length < Z.length → YieldAt F (n - 1) Tryz.prog l (encT idx f x) W fun e W' =>
      (e = .returned (.bool true) ∧ J (pre ++ [x]) W' ∧ KB n₀ Bx W W') ∨ (e = .returned (.bool false) ∧ Jx (pre ++ [x]) W'))
    (W : World) (hn0 : n₀ ≤ W.heap.size) (hBx : W.heap[Bx]? = some (.cells #[.string nm, .slice fa fn fc, .slice ta tn tc] 45 (0, 0)))
    (hJa : AbidesFrom W.heap.size J) (hr1 : TRd W ta ts) (hl1 : ts ≠ [] → ∀ b off, ta = some ⟨b, off, none⟩ → b < n₀) (h0 : J [] W) :
    CallsIn F n Tryz.prog 63 #[.func (.yield l) #[] #[], .pointer (some ⟨Bx, 0, none⟩)] W fun e W' => (∃ v, e = .returned v) ∧
      ((∃ ys, ys = Z ∧ J ys W') ∨ (∃ pre, (∃ k, k ≤ Z.length ∧ pre = Z.take k) ∧ Jx pre W')) := by
  refine callsIn_of_wp Tryz.func63 rfl h46 ?_ hro
  simp only [Tryz.ntmps63, List.size_toArray, List.length_cons, List.length_nil, Nat.reduceAdd, Nat.reduceSub, Array.replicate_succ, Array.replicate_zero, List.push_toArray, List.append_toArray, List.nil_append, List.cons_append]
  have Hm := hid hz
  have Hts := hid hts
  have HBx := hid hBx
  have hlx : Bx < W.heap.size := (Array.getElem?_eq_some_iff.1 hBx).1
  have c1 : W.cell? ⟨Bx, 1, none⟩ = some (.slice fa fn fc) := cellOf hBx 1
  clear hz hts hBx
  gi_wp2
  gi_loopw [8] (fun i wr => ∃ k : Nat, k ≤ fn ∧ i = .int .i64 k ∧ J (Z.take k) wr ∧ KB n₀ Bx W wr)
    (fun i _ => fn - (intOf i).toNat)
  case atStart => exact ⟨0, Nat.zero_le _, rfl, h0, Below.refl _ _, rfl⟩
  case round =>
    obtain ⟨k, hk, rfl, hJs, hnx⟩ := hrel
    by_cases hlt : k < fn
    · obtain ⟨x, hx⟩ : ∃ x, Z[k]? = some x := ⟨Z[k]'(by rw [Hm.out]; exact hlt), by rw [List.getElem?_eq_getElem]⟩
      obtain ⟨hix, hfx⟩ := hi k x hx
      have d2 : wr.cell? ⟨Bx, 2, none⟩ = some (.slice ta tn tc) := cellOf (hnx.2.trans HBx.out) 2
      have hsz : W.heap.size ≤ wr.heap.size := hnx.1.size
      have al : ∀ (o : Obj) (p : Addr) (v : Value), wr.cell? p = some v → (wr.alloc o).cell? p = some v := fun o p v h => (World.cell?_of_block (Below.heap_alloc _ _ _ (World.block_lt_of_cell? wr p h))).trans h
      have d2' := fun o => al o _ _ d2
      obtain ⟨fn', tmps, assign, body, hy, hRd⟩ := hY _ x (wr.alloc (.cells #[.int .i64 (f x).1, .int .i64 (f x).2] 28)) (hJa _ _ _ none hJs (World.grownBy_alloc _ _ _) (by simp)) (by rw [List.length_take, Hm.out]; omega)
      have Htk : Hid (Z.take (k + 1) = Z.take k ++ [x]) := by refine hid ?_; rw [List.take_add_one, hx]; rfl
      have hRd' : RoundIn F (n - 1) Tryz.prog l fn' tmps assign body (wr.alloc (.cells #[.int .i64 (f x).1, .int .i64 (f x).2] 28)) (fun e W' => ∃ b : Bool, e = .returned (.bool b) ∧ ((b = true → J (Z.take k ++ [x]) W' ∧ KB n₀ Bx (wr.alloc (.cells #[.int .i64 (f x).1, .int .i64 (f x).2] 28)) W') ∧ (b = false → Jx (Z.take k ++ [x]) W'))) := by
        refine hRd.mono ?_
        rintro e W' (⟨rfl, h1, h2⟩ | ⟨rfl, h1⟩)
        · exact ⟨true, rfl, ⟨fun _ => ⟨h1, h2⟩, fun h => (by cases h)⟩⟩
        · exact ⟨false, rfl, ⟨fun h => (by cases h), fun _ => h1⟩⟩
      clear hRd
      simp only [encT, ty, hix] at hy hRd'
      have Hnx := hid (hnx.alloc (by omega) (by omega) (.cells #[.int .i64 (f x).1, .int .i64 (f x).2] 28))
      rcases Nat.lt_or_ge k tn with hkt | hkt
      · obtain ⟨t, ht⟩ : ∃ t, ts[k]? = some t := ⟨ts[k]'(by rw [← Hts.out]; exact hkt), by rw [List.getElem?_eq_getElem]⟩
        have hft : f x = t := by rw [hfx, List.getD_eq_getElem?_getD, ht]; rfl
        obtain ⟨b1, o1, rfl, y0, y1⟩ := hr1 k t ht
        have q1 : b1 < n₀ := hl1 (by rintro rfl; simp at ht) _ _ rfl
        have x0 := (hnx.1.cell (p := ⟨b1, o1 + k * 2, none⟩) q1).trans y0
        have x1 := (hnx.1.cell (p := ⟨b1, o1 + k * 2 + 1, none⟩) q1).trans y1
        obtain ⟨tk, tr⟩ := t
        simp only [hft] at hy hRd' Hnx
        simp only at x0 x1
        have x0' := fun o => al o _ _ x0
        have x1' := fun o => al o _ _ x1
        have HRd := hid hRd'
        clear al
        clear hr1 hl1 hY hRd' hnx hJs hJa h0 hx q1 hi hix hfx y0 y1 c1 ht hft
        gi_wp2
        refine (Hid.out HRd).mono ?_
        rintro e W3 ⟨bb, rfl, hor⟩
        cases bb with
        | true =>
          have hor' := hor.1 rfl
          gi_wp2
          go_roundw
          case rel => exact ⟨k + 1, by omega, by go_num, by rw [Htk.out]; exact hor'.1, KB_t Hnx.out hor'.2⟩
          case measure => simp [intOf]; omega
        | false =>
          have hor' := hor.2 rfl
          gi_wp2
          refine bodyPost_ret (results_none rfl _ _ _) rfl ?_
          exact ⟨⟨_, rfl⟩, .inr ⟨_, ⟨k + 1, by rw [Hm.out]; omega, Htk.out.symm⟩, hor'⟩⟩
      · have hft : f x = (0, 0) := by rw [hfx, List.getD_eq_getElem?_getD, List.getElem?_eq_none (by rw [← Hts.out]; exact hkt)]; rfl
        simp only [hft] at hy hRd' Hnx
        have HRd := hid hRd'
        have hkt' : ¬ ((k : Int) < (tn : Int)) := by omega
        clear al
        clear hr1 hl1 hY hRd' hnx hJs hJa h0 hx hi hix hfx c1 hft
        gi_wp2
        refine (Hid.out HRd).mono ?_
        rintro e W3 ⟨bb, rfl, hor⟩
        cases bb with
        | true =>
          have hor' := hor.1 rfl
          gi_wp2
          go_roundw
          case rel => exact ⟨k + 1, by omega, by go_num, by rw [Htk.out]; exact hor'.1, KB_t Hnx.out hor'.2⟩
          case measure => simp [intOf]; omega
        | false =>
          have hor' := hor.2 rfl
          gi_wp2
          refine bodyPost_ret (results_none rfl _ _ _) rfl ?_
          exact ⟨⟨_, rfl⟩, .inr ⟨_, ⟨k + 1, by rw [Hm.out]; omega, Htk.out.symm⟩, hor'⟩⟩
    · obtain rfl : k = fn := by omega
      gi_wp2
      go_end0
      exact ⟨⟨_, rfl⟩, .inl ⟨_, rfl, by rw [← Hm.out, List.take_length] at hJs; exact hJs⟩⟩

theorem types_stops {α : Type} (idx : α → Nat) (f : α → TyP) (ts : List TyP) (Z : List α) (n : Nat) (hn : 1 ≤ n) (Bx n₀ : Nat) (nm : ByteArray) (fa ta : Option Addr) (fn fc tn tc : Nat) (hz : Z.length = fn) (hi : ∀ (k : Nat) (x : α), Z[k]? = some x → idx x = k ∧ f x = ts.getD k (0, 0)) (hts : tn = ts.length) (l1 : fn ≤ 1000000) (l2 : tn ≤ 9223372036854775807) (w : World)
    (hn0 : n₀ ≤ w.heap.size) (hBx : w.heap[Bx]? = some (.cells #[.string nm, .slice fa fn fc, .slice ta tn tc] 45 (0, 0))) (hr1 : TRd w ta ts) (hl1 : ts ≠ [] → ∀ b off, ta = some ⟨b, off, none⟩ → b < n₀) :
    SeqStopsK Fence.wide n Tryz.prog 63 #[.pointer (some ⟨Bx, 0, none⟩)] (encT idx f) (KB n₀ Bx) (fun ys => ys = Z) (fun pre => ∃ k, k ≤ Z.length ∧ pre = Z.take k) Z.length w := fun l J Jx W hW hJa _ hY h0 =>
  types1_in idx f ts Z Fence.wide n trivial rfl hn l Bx n₀ nm fa ta fn fc tn tc hz hi hts l1 l2 J Jx hY W (Nat.le_trans hn0 hW.size) ((hW.block Bx (Array.getElem?_eq_some_iff.1 hBx).1).trans hBx) hJa (hr1.below (Nat.le_refl _) hW) hl1 h0

set_option maxHeartbeats 400000 in
theorem types_in (F : Fence) (n : Nat) (h30 : F.fn 42) (hro : F.round = none) (nm : ByteArray) (v1 v2 : Value) (h1 : v1.oneCell' = true) (h2 : v2.oneCell' = true) (w : World) :
    CallsIn F n Tryz.prog 42 #[.agg #[.string nm, v1, v2]] w fun e w' => e = .returned (.func (.func 63) #[] #[.pointer (some ⟨w.heap.size, 0, none⟩)]) ∧ w' = w.alloc (.cells #[.string nm, v1, v2] 45) := by
  refine callsIn_of_wp Tryz.func42 rfl h30 ?_ hro
  simp only [Tryz.ntmps42, List.size_toArray, List.length_cons, List.length_nil, Nat.reduceAdd, Nat.reduceSub, Array.replicate_succ, Array.replicate_zero, List.push_toArray, List.append_toArray, List.nil_append, List.cons_append]
  gi_wp2
  go_ret
  exact ⟨rfl, rfl⟩
end Go.Proofs.YtnmbifoinponeaaGreatDoor
