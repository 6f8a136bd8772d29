/- Rows of numbers that a function grows, cuts and writes into. -/
import Derived.Test.YtkkcbabhccfllaaRows
import Derived.WalkKit
import Derived.WalkSpells
import Derived.WalkLawsBesides
import Derived.Deep.OwnRows
import Derived.Maps.AppendAt
import Derived.Deep.AppendLies
import Derived.Lib.AppendStr
import Derived.Deep.LoopGhost
import Derived.Below
import Derived.RangeFuncNested
import Derived.RangeFuncBound
import Derived.RangeFuncCalls
import Derived.RangeFuncLeaves
import Derived.LoopIn
import Derived.LoopNIn
import Derived.OwnWalkIn
import Derived.TacticsInMore
import Derived.BigRegionIn
import Derived.BigQuiet
import Derived.Deep.RegionHeld3
import Derived.Shelf.RegionOpen
import Derived.Shelf.Abstract
import Derived.Sort.LoopGhostIn
import Derived.Deep.CutBlock
import Derived.Deep.DeepCutAuto
namespace Go.Proofs.Ytkkcbabhccfllaa
open Go.RowKit Go.Deep Go.Shelf
set_option linter.unusedVariables false
set_option linter.unusedSimpArgs false

theorem hid {p : Prop} (h : p) : Hid p := h
theorem cellOf {w : World} {b : Nat} {c : Array Value} {e : TypeId} {f : Nat × Nat} (h : w.heap[b]? = some (.cells c e f)) (i : Nat) : w.cell? ⟨b, i, none⟩ = c[i]? := by
  simp [World.cell?, h]
theorem freeOf {w : World} {b : Nat} {c : Array Value} {e : TypeId} (h : w.heap[b]? = some (.cells c e (0, 0))) (i : Nat) : w.frozen? ⟨b, i, none⟩ = false := by
  simp [World.frozen?, h]
theorem heap_set_at {w : World} {b : Nat} {c : Array Value} {e : TypeId} {f : Nat × Nat} (h : w.heap[b]? = some (.cells c e f)) (i : Nat) (u : Value) :
    (w.setCell ⟨b, i, none⟩ u).heap[b]? = some (.cells (c.setIfInBounds i u) e f) := by
  simp [World.setCell, Array.getElem?_modify, h]
theorem belowCell {w w' : World} {B b o : Nat} {v : Value} (h : w.cell? ⟨b, o, none⟩ = some v) (hB : w.heap.size ≤ B) (k : Below B w w') : w'.cell? ⟨b, o, none⟩ = some v := by
  have hb : b < w.heap.size := World.block_lt_of_cell? w _ h
  exact (k.cell (p := ⟨b, o, none⟩) (by show b < B; omega)).trans h
theorem lt_of_heap {w : World} {b : Nat} {o : Obj} (h : w.heap[b]? = some o) : b < w.heap.size := (Array.getElem?_eq_some_iff.1 h).1

def iv (xs : List Int) : List Value := xs.map fun x => .int .i64 x
structure GRow (w : World) (B : Nat) (a : Option Addr) (n cap : Nat) (xs : List Int) : Prop where
  n1 : n = xs.length
  nc : n ≤ cap
  at' : ∀ x : Addr, a = some x → ∃ g, x = ⟨g, 0, none⟩ ∧ B ≤ g ∧ g < w.heap.size
  ct : 0 < cap → ∃ g cur, a = some ⟨g, 0, none⟩ ∧ w.heap[g]? = some (.cells cur 3 (0, 0)) ∧ cap ≤ cur.size ∧ cur.toList.take n = iv xs
theorem GRow.nil (w : World) (B : Nat) : GRow w B none 0 0 [] := ⟨rfl, Nat.le_refl _, fun x e => (by cases e), fun h => (by omega)⟩
theorem GRow.keep {w w' : World} {B : Nat} {a : Option Addr} {n cap : Nat} {xs : List Int} (h : GRow w B a n cap xs) (hs : w.heap.size ≤ w'.heap.size) (e : ∀ x : Addr, a = some x → w'.heap[x.block]? = w.heap[x.block]?) : GRow w' B a n cap xs := by
  refine ⟨h.n1, h.nc, fun x ex => ?_, fun hc => ?_⟩
  · obtain ⟨g, h1, h2, h3⟩ := h.at' x ex
    exact ⟨g, h1, h2, by omega⟩
  · obtain ⟨g, cur, rfl, h2, h3⟩ := h.ct hc
    exact ⟨g, cur, rfl, (e _ rfl).trans h2, h3⟩
theorem GRow.below {w w' : World} {B C : Nat} {a : Option Addr} {n cap : Nat} {xs : List Int} (h : GRow w B a n cap xs) (hC : w.heap.size ≤ C) (hb : Below C w w') : GRow w' B a n cap xs :=
  h.keep hb.size (fun x ex => by
    obtain ⟨g, rfl, h2, h3⟩ := h.at' x ex
    exact hb.block _ (by show g < C; omega))
theorem GRow.cell {w : World} {B : Nat} {a : Option Addr} {n cap : Nat} {xs : List Int} (h : GRow w B a n cap xs) {j : Nat} {x : Int} (hj : xs[j]? = some x) : ∃ g, a = some ⟨g, 0, none⟩ ∧ B ≤ g ∧ w.cell? ⟨g, j, none⟩ = some (.int .i64 x) ∧ w.frozen? ⟨g, j, none⟩ = false := by
  have hlt := (List.getElem?_eq_some_iff.1 hj).1
  have hc : 0 < cap := by have := h.n1; have := h.nc; omega
  obtain ⟨g, cur, rfl, h2, h3, h4⟩ := h.ct hc
  obtain ⟨g', e, hB, _⟩ := h.at' _ rfl
  cases e
  refine ⟨g, rfl, hB, ?_, freeOf h2 j⟩
  rw [cellOf h2 j]
  have h5 : (iv xs)[j]? = some (.int .i64 x) := by unfold iv; rw [List.getElem?_map, hj]; rfl
  rw [← h5, ← h4, List.getElem?_take, if_pos (by have := h.n1; omega)]
  simp
theorem GRow.set {w : World} {B : Nat} {n cap : Nat} {xs : List Int} {g : Nat} (h : GRow w B (some ⟨g, 0, none⟩) n cap xs) (j : Nat) (hj : j < n) (v : Int) : GRow (w.setCell ⟨g, j, none⟩ (.int .i64 v)) B (some ⟨g, 0, none⟩) n cap (xs.set j v) := by
  refine ⟨by rw [List.length_set]; exact h.n1, h.nc, fun x ex => ?_, fun hc => ?_⟩
  · obtain ⟨g', h1, h2, h3⟩ := h.at' x ex
    exact ⟨g', h1, h2, by simp [World.setCell]; omega⟩
  · obtain ⟨g', cur, e, h2, h3, h4⟩ := h.ct hc
    cases e
    refine ⟨g, _, rfl, heap_set_at h2 j (.int .i64 v), by simpa using h3, ?_⟩
    rw [Array.toList_setIfInBounds, List.take_set, h4]
    unfold iv
    rw [List.map_set]
theorem info3 : (Try.prog.info? 3).map (fun i => (i.zero, i.size, i.bytes)) = some (some (.int .i64 0), 1, 8) := by kernel_rfl
theorem GRow.of_owns {w : World} {B : Nat} {v : Value} {n : Nat} {xs : List Int} (h : w.ownsRow B 3 1 v n (iv xs)) (hn : 0 < n) : ∃ g cap, v = .slice (some ⟨g, 0, none⟩) n cap ∧ B ≤ g ∧ GRow w B (some ⟨g, 0, none⟩) n cap xs := by
  have hl := h.1
  rcases h.2 with ⟨_, h0⟩ | ⟨g, cap, cur, rfl, hb, hgg, hc, hm, hs, ht⟩
  · omega
  · refine ⟨g, cap, rfl, hb, ⟨by unfold iv at hl; rw [List.length_map] at hl; omega, hc, fun x ex => ?_, fun _ => ⟨g, cur, rfl, hgg, by omega, by rw [Nat.mul_one] at ht; exact ht⟩⟩⟩
    cases ex
    exact ⟨g, rfl, hb, (Array.getElem?_eq_some_iff.1 hgg).1⟩
theorem GRow.cells {w : World} {B : Nat} {ad : Addr} {n cap : Nat} {xs : List Int} (h : GRow w B (some ad) n cap xs) (d : Nat) : ∀ j u, (iv (xs.drop d))[j]? = some u → w.cell? ((ad.add d).add j) = some u := by
  intro j u hu
  unfold iv at hu
  rw [List.getElem?_map, Option.map_eq_some_iff] at hu
  obtain ⟨x, hx, rfl⟩ := hu
  rw [List.getElem?_drop] at hx
  obtain ⟨g, e, _, hc, _⟩ := h.cell hx
  cases e
  rw [Addr.add_lit, Addr.add_lit, Nat.zero_add]
  exact hc
/- What append leaves: a row, in place or new. -/
def Gwn (w : World) (a : Option Addr) (w' : World) (a' : Option Addr) : Prop := (∃ row, w.grownBy w' row ∧ ∀ b, row = some b → ∃ x : Addr, a = some x ∧ x.block = b) ∧ (a' = a ∨ ∃ g, a' = some ⟨g, 0, none⟩ ∧ w.heap.size ≤ g)
theorem run_app1 (w : World) (ty : TypeId) (B : Nat) (a : Option Addr) (n cap : Nat) (xs : List Int) (x : Int) (q : Nat) (h : GRow w B a n cap xs) (hq : w.heap[q]? = some (.cells #[.int .i64 x] 3 (0, 0))) (hn : n ≤ 1000000) (hB : B ≤ w.heap.size) :
    ∃ a' cap' w', (Builtin.append_ #[50, 50] ty #[.slice a n cap, .slice (some ⟨q, 0, none⟩) 1 1]).run Try.prog w = .ok (.slice a' (n + 1) cap') w' ∧ GRow w' B a' (n + 1) cap' (xs ++ [x]) ∧ Gwn w a w' a' := by
  obtain ⟨i0, hi, hz0, hz1, hz2⟩ := info_parts info3
  have hnews : ∀ j u, [Value.int .i64 x][j]? = some u → w.cell? ((⟨q, 0, none⟩ : Addr).add j) = some u := by
    intro j u hu
    exact World.news_of_block hq j u (by simpa using hu)
  by_cases hroom : n + 1 ≤ cap
  · obtain ⟨g, cur, rfl, h2, h3, h4⟩ := h.ct (by omega)
    have hlt : n < cur.size := by omega
    have hr := run_append_room_cells (P := Try.prog) w 50 ty 3 i0 Try.underlying50 hi g 0 n cap ⟨q, 0, none⟩ 1 1 [.int .i64 x] (by rw [hz1]; rfl) hnews (by intro u hu; simp at hu; subst hu; rfl) hroom (by
      intro j hj
      have hj0 : j = 0 := by simpa using hj
      subst hj0
      rw [hz1, cellOf h2]
      simp; omega) (by intro j _; exact freeOf h2 _)
    rw [hz1] at hr
    refine ⟨_, _, _, hr, ?_, ⟨some g, ?_, fun b e => ⟨_, rfl, by cases e; rfl⟩⟩, .inl rfl⟩
    · have hh : (w.setCells g (0 + n * 1) [.int .i64 x]) = w.setCell ⟨g, n, none⟩ (.int .i64 x) := by
        simp [World.setCells]
      rw [hh]
      refine ⟨by rw [List.length_append, h.n1]; rfl, hroom, fun y ey => ?_, fun _ => ⟨g, _, rfl, heap_set_at h2 n (.int .i64 x), by simpa using (by omega), ?_⟩⟩
      · obtain ⟨g', e1, e2, e3⟩ := h.at' y ey
        exact ⟨g', e1, e2, by simp [World.setCell]; omega⟩
      · rw [Array.toList_setIfInBounds]
        unfold iv at h4 ⊢
        rw [List.map_append, ← h4]
        rw [List.take_add_one, List.take_set_of_le (Nat.le_refl _)]
        rw [List.getElem?_set_self (by simpa using hlt)]
        rfl
    · have hh : (w.setCells g (0 + n * 1) [.int .i64 x]) = w.setCell ⟨g, n, none⟩ (.int .i64 x) := by
        simp [World.setCells]
      rw [hh]
      exact ⟨rfl, rfl, rfl, by simp [World.setCell], fun i hi hne => Below.heap_setCell _ _ _ _ (fun e => hne (by rw [e]))⟩
  · have hcap : cap = n := by have := h.nc; omega
    cases a with
    | none =>
      have hc0 : cap = 0 := by
        rcases Nat.eq_zero_or_pos cap with h0 | h0
        · exact h0
        · obtain ⟨g, cur, e, _⟩ := h.ct h0; cases e
      have hn0 : n = 0 := by omega
      have hxs : xs = [] := List.eq_nil_of_length_eq_zero (by rw [← h.n1]; exact hn0)
      subst hc0
      subst hn0
      subst hxs
      obtain ⟨v', w', hrun, hown, hgr, _, hat⟩ := run_append_own_at (P := Try.prog) w B 50 ty 3 i0 (.int .i64 0) 1 8 Try.underlying50 hi hz0 hz1 hz2 rfl (by decide) (.slice none 0 0) 0 [] (World.ownsRow_nil _ _ _ _) ⟨q, 0, none⟩ 1 1 [.int .i64 x] rfl hnews (by intro u hu; simp at hu; subst hu; rfl) (by unfold maxLen; omega) (by omega) hB
      obtain ⟨g, cap', rfl, hg1, hg2⟩ := GRow.of_owns (xs := [x]) (by simpa [iv] using hown) (by omega)
      refine ⟨_, _, _, hrun, hg2, ⟨none, hgr, fun b e => by cases e⟩, .inr ⟨g, rfl, ?_⟩⟩
      rcases hat with h1 | h1
      · cases h1
      · cases h1; exact Nat.le_refl _
    | some ad =>
      have hro := run_append_arg_grows (P := Try.prog) w 50 ty 3 i0 (.int .i64 0) 1 8 Try.underlying50 hi hz0 hz1 hz2 rfl (by decide) ad n cap (iv xs) (by unfold iv; rw [List.length_map, ← h.n1, Nat.mul_one]) (by
        have := h.cells 0
        obtain ⟨g, e, _⟩ := h.at' _ rfl
        subst e
        simpa [Addr.add_lit] using this) ⟨q, 0, none⟩ 1 1 [.int .i64 x] rfl hnews (by omega) (by unfold maxLen; omega) (by omega)
      obtain ⟨v', w', hrun, hown, hgr⟩ := hro
      obtain ⟨g, cap', rfl, hg1, hg2⟩ := GRow.of_owns (xs := xs ++ [x]) (by simpa [iv] using hown) (by omega)
      refine ⟨_, _, _, hrun, ⟨hg2.n1, hg2.nc, fun y ey => ?_, hg2.ct⟩, ⟨none, hgr, fun b e => by cases e⟩, .inr ⟨g, rfl, hg1⟩⟩
      obtain ⟨g', e1, e2, e3⟩ := hg2.at' y ey
      exact ⟨g', e1, by omega, e3⟩
theorem wpList_app1 {ops : Array Oper} {rest : List Oper} {o : Oper} {a : Act} {Q : Exit → Act → World → Prop} (w : World) (hgd : o.guard = none) (s x : Operand)
    (ho : o.op = .call { callee := .builtin .append, args := #[s, x], argTypes := #[50, 50] }) (v : Option Addr) (n cap : Nat) (y : Int) (hs : a.eval s = .slice v n cap) (hx : a.eval x = .slice (some ⟨w.heap.size, 0, none⟩) 1 1)
    (B : Nat) (xs : List Int) (hr : GRow w B v n cap xs) (hn : n ≤ 1000000) (hB : B ≤ w.heap.size)
    (k : ∀ v' cap' w', GRow w' B v' (n + 1) cap' (xs ++ [y]) → Gwn (w.alloc (.cells #[.int .i64 y] 3)) v w' v' → wpList Try.prog ops Q rest (a.put o.dst (.slice v' (n + 1) cap')) w') :
    wpList Try.prog ops Q (o :: rest) a (w.alloc (.cells #[.int .i64 y] 3)) := by
  refine wpList_plain hgd fun K hK => ?_
  obtain ⟨v', c', w', hrun, h2, h3⟩ := run_app1 _ o.type B v n cap xs y w.heap.size (hr.below (Nat.le_refl _) ((Below.refl _ w).alloc (Nat.le_refl _) _)) (heap_alloc_new w _) hn (by simp; omega)
  unfold Oper.wp execOp
  simp only [ho, resolve, invoke, builtin, Sem.run_bind, Sem.run_pure, Result.andThen_ok, List.map_toArray, List.map_cons, List.map_nil, hs, hx, hrun]
  exact hK _ _ (k v' c' w' h2 h3)
end Go.Proofs.Ytkkcbabhccfllaa

namespace Go.Proofs.Ytkkcbabhccfllaa
open Go.RowKit Go.Deep Go.Shelf
set_option linter.unusedVariables false
set_option linter.unusedSimpArgs false

/- Reached from 0 by the ways. -/
def Rch (ways : Nat → List Nat) (x : Nat) : Prop := ∀ p : Nat → Prop, p 0 → (∀ i t, p i → t ∈ ways i → p t) → p x
theorem Rch.zero {ways : Nat → List Nat} : Rch ways 0 := fun p h _ => h
theorem Rch.step {ways : Nat → List Nat} {i t : Nat} (h : Rch ways i) (ht : t ∈ ways i) : Rch ways t := fun p h0 hs => hs i t (h p h0 hs) ht
theorem rch_sub {ways : Nat → List Nat} {p : Nat → Prop} (h0 : p 0) (hs : ∀ i t, p i → t ∈ ways i → p t) : ∀ x, Rch ways x → p x := fun x h => h p h0 hs
/- Lists without repeats are not long. -/
theorem nodup_le : ∀ (n : Nat) (l : List Nat), l.Nodup → (∀ x ∈ l, x < n) → l.length ≤ n
  | 0, l, _, h => by
    cases l with
    | nil => exact Nat.le_refl _
    | cons x t => have := h x (List.mem_cons_self ..); omega
  | n + 1, l, hn, h => by
    have hl : (l.erase n).length ≤ n := nodup_le n (l.erase n) (hn.erase n) fun x hx => by
      have h1 := (List.Nodup.mem_erase_iff hn).1 hx
      have h2 := h x h1.2
      have := h1.1
      omega
    have := List.length_erase (a := n) (l := l)
    split at this <;> omega
/- Marks. -/
def mk (cnt : Nat) (P : List Nat) : Array Value := ((List.range cnt).map fun i => Value.bool (decide (i ∈ P))).toArray
theorem mk_size (cnt : Nat) (P : List Nat) : (mk cnt P).size = cnt := by simp [mk]
theorem mk_get {cnt : Nat} {P : List Nat} {i : Nat} (h : i < cnt) : (mk cnt P)[i]? = some (.bool (decide (i ∈ P))) := by
  simp [mk, h]
theorem mk_nil (cnt : Nat) : mk cnt [] = (List.replicate cnt (.bool false)).toArray := by
  unfold mk
  congr 1
  apply List.ext_getElem?
  intro i
  by_cases h : i < cnt
  · simp [h, List.getElem?_replicate]
  · simp [h, List.getElem?_replicate]
theorem mk_snoc {cnt : Nat} (P : List Nat) {x : Nat} (h : x < cnt) : (mk cnt P).setIfInBounds x (.bool true) = mk cnt (P ++ [x]) := by
  apply Array.ext_getElem?
  intro i
  rw [Array.getElem?_setIfInBounds, mk_size]
  by_cases hi : i < cnt
  · rw [mk_get hi, mk_get hi]
    by_cases e : x = i
    · subst e; simp [h]
    · have : ¬ i = x := fun k => e k.symm
      simp [e, this]
  · have h1 : (mk cnt P)[i]? = none := by simp [mk, hi]
    have h2 : (mk cnt (P ++ [x]))[i]? = none := by simp [mk, hi]
    rw [h1, h2, if_neg (by omega)]
/- What a walk has come to: P all that was handed on, op what is still to be gone from. -/
structure Good (cnt : Nat) (ways : Nat → List Nat) (P op : List Nat) : Prop where
  nod : P.Nodup
  z : 0 ∈ P
  rch : ∀ x ∈ P, Rch ways x
  lt : ∀ x ∈ P, x < cnt
  o : ∀ x ∈ op, x ∈ P
  cl : ∀ x ∈ P, x ∉ op → ∀ t ∈ ways x, t ∈ P
theorem Good.start {cnt : Nat} {ways : Nat → List Nat} (h : 0 < cnt) : Good cnt ways [0] [0] :=
  ⟨by simp, by simp, fun x hx => by simp at hx; subst hx; exact .zero, fun x hx => by simp at hx; omega, fun x hx => hx, fun x hx hn => absurd hx hn⟩
theorem Good.fin {cnt : Nat} {ways : Nat → List Nat} {P : List Nat} (h : Good cnt ways P []) : ∀ x, x ∈ P ↔ Rch ways x :=
  fun x => ⟨h.rch x, fun hx => rch_sub (p := fun x => x ∈ P) h.z (fun i t hi ht => h.cl i hi (by simp) t ht) x hx⟩
/- Within: from is gone from, its first j ways have been handed on. -/
structure Goin (cnt : Nat) (ways : Nat → List Nat) (from' j : Nat) (P op : List Nat) : Prop where
  nod : P.Nodup
  z : 0 ∈ P
  rch : ∀ x ∈ P, Rch ways x
  lt : ∀ x ∈ P, x < cnt
  o : ∀ x ∈ op, x ∈ P
  f : from' ∈ P
  cl : ∀ x ∈ P, x ∉ op → x ≠ from' → ∀ t ∈ ways x, t ∈ P
  d : ∀ t ∈ (ways from').take j, t ∈ P
theorem Good.pop {cnt : Nat} {ways : Nat → List Nat} {P op : List Nat} {x : Nat} (h : Good cnt ways P (op ++ [x])) : Goin cnt ways x 0 P op :=
  ⟨h.nod, h.z, h.rch, h.lt, fun y hy => h.o y (by simp [hy]), h.o x (by simp), fun y hy hn hx => h.cl y hy (by simp [hn, hx]), fun t ht => by simp at ht⟩
theorem Goin.skip {cnt from' j t : Nat} {ways : Nat → List Nat} {P op : List Nat} (h : Goin cnt ways from' j P op) (ht : (ways from')[j]? = some t) (hp : t ∈ P) : Goin cnt ways from' (j + 1) P op :=
  ⟨h.nod, h.z, h.rch, h.lt, h.o, h.f, h.cl, fun u hu => by
    rw [List.take_add_one, ht] at hu
    rcases List.mem_append.1 hu with hu | hu
    · exact h.d u hu
    · simp at hu; subst hu; exact hp⟩
theorem Goin.take {cnt from' j t : Nat} {ways : Nat → List Nat} {P op : List Nat} (h : Goin cnt ways from' j P op) (ht : (ways from')[j]? = some t) (hp : t ∉ P) (hlt : t < cnt) : Goin cnt ways from' (j + 1) (P ++ [t]) (op ++ [t]) := by
  have hm := List.mem_of_getElem? ht
  refine ⟨?_, by simp [h.z], ?_, ?_, ?_, by simp [h.f], ?_, ?_⟩
  · rw [List.nodup_append]
    exact ⟨h.nod, by simp, fun a ha b hb => by simp at hb; subst hb; intro e; subst e; exact hp ha⟩
  · intro x hx
    rcases List.mem_append.1 hx with hx | hx
    · exact h.rch x hx
    · simp at hx; subst hx; exact .step (h.rch _ h.f) hm
  · intro x hx
    rcases List.mem_append.1 hx with hx | hx
    · exact h.lt x hx
    · simp at hx; subst hx; exact hlt
  · intro x hx
    rcases List.mem_append.1 hx with hx | hx
    · exact List.mem_append.2 (.inl (h.o x hx))
    · exact List.mem_append.2 (.inr hx)
  · intro x hx hn hf u hu
    rcases List.mem_append.1 hx with hx | hx
    · exact List.mem_append.2 (.inl (h.cl x hx (fun k => hn (List.mem_append.2 (.inl k))) hf u hu))
    · exact absurd (List.mem_append.2 (.inr hx)) hn
  · intro u hu
    rw [List.take_add_one, ht] at hu
    rcases List.mem_append.1 hu with hu | hu
    · exact List.mem_append.2 (.inl (h.d u hu))
    · simp at hu; subst hu; simp
theorem Goin.done {cnt from' : Nat} {ways : Nat → List Nat} {P op : List Nat} (h : Goin cnt ways from' (ways from').length P op) : Good cnt ways P op :=
  ⟨h.nod, h.z, h.rch, h.lt, h.o, fun x hx hn t ht => by
    by_cases e : x = from'
    · subst e; exact h.d t (by rw [List.take_of_length_le (Nat.le_refl _)]; exact ht)
    · exact h.cl x hx hn e t ht⟩
theorem Goin.room {cnt from' j t : Nat} {ways : Nat → List Nat} {P op : List Nat} (h : Goin cnt ways from' j P op) (hp : t ∉ P) (hlt : t < cnt) : P.length < cnt := by
  have := nodup_le cnt (P ++ [t]) (by
    rw [List.nodup_append]
    exact ⟨h.nod, by simp, fun a ha b hb => by simp at hb; subst hb; intro e; subst e; exact hp ha⟩) (fun x hx => by
    rcases List.mem_append.1 hx with hx | hx
    · exact h.lt x hx
    · simp at hx; omega)
  simp at this; omega
end Go.Proofs.Ytkkcbabhccfllaa

namespace Go.Proofs.Ytkkcbabhccfllaa
open Go.RowKit Go.Deep Go.Shelf
set_option linter.unusedVariables false
set_option linter.unusedSimpArgs false

theorem wpIn_scope_wide {P : Program} {n : Nat} {c : Code} {Q : Exit → Act → World → Prop} {a : Act} {w : World} (h : c.wpIn Fence.wide n P (Exit.noGoto Q) a w) : (Code.scope c).wpIn Fence.wide n P Q a w :=
  wpIn_wide.2 (wp_scope_straight ((wpIn_wide (n := n)).1 h))
/- What a round keeps: all below, and all cells but those of two blocks. -/
def KW (n₀ L T : Nat) (W W' : World) : Prop := Below n₀ W W' ∧ ∀ b c t f, b ≠ L → b ≠ T → W.heap[b]? = some (.cells c t f) → W'.heap[b]? = some (.cells c t f)
theorem KW_t {n₀ L T : Nat} {A B C : World} (h : KW n₀ L T A B) (k : KW n₀ L T B C) : KW n₀ L T A C := ⟨h.1.trans k.1, fun b c t f h1 h2 h3 => k.2 b c t f h1 h2 (h.2 b c t f h1 h2 h3)⟩
theorem KW_b {n₀ L T : Nat} {w : World} (hn : n₀ ≤ w.heap.size) (W : World) (l : Nat) (o o' : Obj) (hl : w.heap.size ≤ l) (h : W.heap[l]? = some o) (hc : o.isCells = false) (hw : o.isWalk = false) : KW n₀ L T W (W.putObj l o') :=
  ⟨belowK_b hn W l o o' hl h hc hw, fun b c t f h1 h2 h3 => ((grownBy_putObj' W l o').block b (lt_of_heap h3) (fun e => by
    cases e
    rw [h] at h3
    cases h3
    simp [Obj.isCells] at hc)).trans h3⟩
theorem below_grown {W W' : World} (h : Below W.heap.size W W') : W.grownBy W' none := ⟨h.os, h.tape, h.output, h.size, fun i hi _ => h.block i hi⟩
theorem GRow.kw {w w' : World} {B n₀ L T : Nat} {a : Option Addr} {n cap : Nat} {xs : List Int} (h : GRow w B a n cap xs) (k : KW n₀ L T w w') (hL : L < B) (hT : T < B) : GRow w' B a n cap xs := by
  refine ⟨h.n1, h.nc, fun x ex => ?_, fun hc => ?_⟩
  · obtain ⟨g, h1, h2, h3⟩ := h.at' x ex
    exact ⟨g, h1, h2, Nat.lt_of_lt_of_le h3 k.1.size⟩
  · obtain ⟨g, cur, rfl, h2, h3⟩ := h.ct hc
    obtain ⟨g', e, hB, _⟩ := h.at' _ rfl
    cases e
    exact ⟨g, cur, rfl, k.2 _ _ _ _ (by omega) (by omega) h2, h3⟩
theorem GRow.cut {w : World} {B : Nat} {a : Option Addr} {n cap : Nat} {xs : List Int} {x : Int} (h : GRow w B a (n + 1) cap (xs ++ [x])) : GRow w B a n cap xs := by
  have hl : n = xs.length := by have := h.n1; simp at this; exact this
  refine ⟨hl, by have := h.nc; omega, h.at', fun hc => ?_⟩
  obtain ⟨g, cur, e, h2, h3, h4⟩ := h.ct hc
  refine ⟨g, cur, e, h2, h3, ?_⟩
  have := congrArg (List.take n) h4
  rw [List.take_take, Nat.min_eq_left (by omega)] at this
  rw [this]
  unfold iv
  rw [List.map_append, List.take_append_of_le_length (by simp [hl]), List.take_of_length_le (by simp [hl])]
/- The walk's own memory. -/
structure WkR (w0 : World) (C1 C2 SB cnt : Nat) (V : Value) (P : List Nat) (wr : World) : Prop where
  b : Below w0.heap.size w0 wr
  c1 : wr.heap[C1]? = some (.cells #[.int .i64 (cnt : Int)] 3 (0, 0))
  c2 : wr.heap[C2]? = some (.cells #[V] 54 (0, 0))
  s : wr.heap[SB]? = some (.cells (mk cnt P) 4 (0, 0))
theorem WkR.kw {w0 : World} {C1 C2 SB cnt L T : Nat} {V : Value} {P : List Nat} {wr w' : World} (h : WkR w0 C1 C2 SB cnt V P wr) (k : KW w0.heap.size L T wr w') (h1 : C1 ≠ L) (h2 : C1 ≠ T) (h3 : C2 ≠ L) (h4 : C2 ≠ T) (h5 : SB ≠ L) (h6 : SB ≠ T) : WkR w0 C1 C2 SB cnt V P w' :=
  ⟨h.b.trans k.1, k.2 _ _ _ _ h1 h2 h.c1, k.2 _ _ _ _ h3 h4 h.c2, k.2 _ _ _ _ h5 h6 h.s⟩
theorem WkR.below {w0 : World} {C1 C2 SB cnt : Nat} {V : Value} {P : List Nat} {wr w' : World} (h : WkR w0 C1 C2 SB cnt V P wr) (k : Below wr.heap.size wr w') : WkR w0 C1 C2 SB cnt V P w' :=
  ⟨h.b.trans (k.mono h.b.size), (k.block _ (lt_of_heap h.c1)).trans h.c1, (k.block _ (lt_of_heap h.c2)).trans h.c2, (k.block _ (lt_of_heap h.s)).trans h.s⟩
theorem WkR.set {w0 : World} {C1 C2 SB cnt x : Nat} {V : Value} {P : List Nat} {wr : World} (h : WkR w0 C1 C2 SB cnt V P wr) (hx : x < cnt) (h1 : C1 ≠ SB) (h2 : C2 ≠ SB) (h3 : w0.heap.size ≤ SB) : WkR w0 C1 C2 SB cnt V (P ++ [x]) (wr.setCell ⟨SB, x, none⟩ (.bool true)) :=
  ⟨h.b.setCell (p := ⟨SB, x, none⟩) h3 _, (Below.heap_setCell _ _ _ _ h1).trans h.c1, (Below.heap_setCell _ _ _ _ h2).trans h.c2, by rw [heap_set_at h.s, mk_snoc P hx]⟩
theorem WkR.grown {w0 : World} {C1 C2 SB cnt : Nat} {V : Value} {P : List Nat} {wr w' : World} {row : Option Nat} (h : WkR w0 C1 C2 SB cnt V P wr) (k : wr.grownBy w' row) (hr : ∀ b, row = some b → w0.heap.size ≤ b ∧ b ≠ C1 ∧ b ≠ C2 ∧ b ≠ SB) : WkR w0 C1 C2 SB cnt V P w' := by
  have hb : ∀ j, j < wr.heap.size → (∀ b, row = some b → b ≠ j) → w'.heap[j]? = wr.heap[j]? := fun j hj hn => k.block j hj (fun e => by exact hn j e.symm rfl)
  refine ⟨⟨k.os.trans h.b.os, k.tape.trans h.b.tape, k.output.trans h.b.output, Nat.le_trans h.b.size k.size, fun j hj => ?_⟩, ?_, ?_, ?_⟩
  · exact (hb j (Nat.lt_of_lt_of_le hj h.b.size) (fun b e => by have := (hr b e).1; omega)).trans (h.b.block j hj)
  · exact (hb _ (lt_of_heap h.c1) (fun b e => (hr b e).2.1)).trans h.c1
  · exact (hb _ (lt_of_heap h.c2) (fun b e => (hr b e).2.2.1)).trans h.c2
  · exact (hb _ (lt_of_heap h.s) (fun b e => (hr b e).2.2.2)).trans h.s
/- A row of numbers, told. -/
def ofN (l : List Nat) : List Int := l.map fun (x : Nat) => (x : Int)
theorem ofN_len (l : List Nat) : (ofN l).length = l.length := by simp [ofN]
theorem ofN_get {l : List Nat} {j x : Nat} (h : l[j]? = some x) : (ofN l)[j]? = some (x : Int) := by simp [ofN, h]
theorem ofN_snoc (l : List Nat) (x : Nat) : ofN (l ++ [x]) = ofN l ++ [(x : Int)] := by simp [ofN]
def vals {cnt : Nat} (pre : List (Fin cnt)) : List Nat := pre.map fun x => x.val
theorem vals_snoc {cnt : Nat} (pre : List (Fin cnt)) (x : Fin cnt) : vals (pre ++ [x]) = vals pre ++ [x.val] := by simp [vals]
theorem vals_len {cnt : Nat} (pre : List (Fin cnt)) : (vals pre).length = pre.length := by simp [vals]
def encF {cnt : Nat} (x : Fin cnt) : Array Value := #[.int .i64 (x.val : Int)]
theorem info4 : (Try.prog.info? 4).map (fun i => (i.zero, i.size, i.bytes)) = some (some (.bool false), 1, 1) := by kernel_rfl
theorem made_b (n : Nat) : madeCells (Value.bool false).cells (n * 1) = (List.replicate n (Value.bool false)).toArray := by
  have := toList_madeCells_one (.bool false) n
  rw [Nat.mul_one]
  exact Array.toList_inj.1 (by rw [List.toList_toArray]; exact this)
theorem run_mkB (w : World) (n : Nat) (h : n ≤ 1000000) : (Instr.makeSlice 37 (.int .i64 (n : Int)) (.int .i64 (n : Int))).run Try.prog w = .ok (.slice (some ⟨w.heap.size, 0, none⟩) n n) (w.alloc (.cells (mk n []) 4)) := by
  obtain ⟨i0, hi, hz0, hz1, hz2⟩ := info_parts info4
  have := run_make (P := Try.prog) w 37 4 i0 (.bool false) Try.underlying37 hi hz0 .i64 .i64 (n : Int) (n : Int) (by omega) (Int.le_refl _) (by rw [hz2]; omega) (by omega)
  rw [hz1, Int.toNat_natCast, made_b n] at this
  rw [mk_nil]
  exact this
theorem wpListIn_app1 {F : Fence} {fn : Nat} {ops : Array Oper} {rest : List Oper} {o : Oper} {a : Act} {Q : Exit → Act → World → Prop} (w : World) (hgd : o.guard = none) (s x : Operand)
    (ho : o.op = .call { callee := .builtin .append, args := #[s, x], argTypes := #[50, 50] }) (v : Option Addr) (n cap : Nat) (y : Int) (hs : a.eval s = .slice v n cap) (hx : a.eval x = .slice (some ⟨w.heap.size, 0, none⟩) 1 1)
    (B : Nat) (xs : List Int) (hr : GRow w B v n cap xs) (hn : n ≤ 1000000) (hB : B ≤ w.heap.size)
    (k : ∀ v' cap' w', GRow w' B v' (n + 1) cap' (xs ++ [y]) → Gwn (w.alloc (.cells #[.int .i64 y] 3)) v w' v' → wpListIn F fn Try.prog ops Q rest (a.put o.dst (.slice v' (n + 1) cap')) w') :
    wpListIn F fn Try.prog ops Q (o :: rest) a (w.alloc (.cells #[.int .i64 y] 3)) := by
  refine wpListIn_plain hgd fun K hK => ?_
  obtain ⟨v', c', w', hrun, h2, h3⟩ := run_app1 _ o.type B v n cap xs y w.heap.size (hr.below (Nat.le_refl _) ((Below.refl _ w).alloc (Nat.le_refl _) _)) (heap_alloc_new w _) hn (by simp; omega)
  unfold Oper.wpIn
  refine ⟨?_, ?_⟩
  · simp [Oper.about, ho, resolve, Target.leads, Sem.run_pure]
  · rw [Oper.semAt_plain F _ _ (by rw [ho]; intro c hc'; cases hc')]
    simp [execOp, ho, resolve, invoke, builtin, hs, hx, hrun, Result.andThen]
    exact hK _ _ (k v' c' w' h2 h3)
end Go.Proofs.Ytkkcbabhccfllaa

namespace Go.Proofs.Ytkkcbabhccfllaa
open Go.RowKit Go.Deep Go.Shelf
set_option linter.unusedVariables false
set_option linter.unusedSimpArgs false
structure Opx where
  c : Int
  d : Int
  a : Int
  b : Int
  k : Int
def Opx.cs (o : Opx) : Array Value := #[.int .i64 o.c, .int .i64 o.d, .int .i64 o.a, .int .i64 o.b, .int .i64 o.k]
def ORd (w : World) (a : Option Addr) (l : List Opx) : Prop := ∀ (j : Nat) (x : Opx), l[j]? = some x → ∃ b off, a = some ⟨b, off, none⟩ ∧ ∀ i, i < 5 → w.cell? ⟨b, off + j * 5 + i, none⟩ = x.cs[i]?
theorem ORd.below {w w' : World} {a : Option Addr} {l : List Opx} (h : ORd w a l) (k : Below w.heap.size w w') : ORd w' a l := fun j x hx => by
  obtain ⟨b, off, e, hc⟩ := h j x hx
  refine ⟨b, off, e, fun i hi => ?_⟩
  obtain ⟨v, hv⟩ : ∃ v, x.cs[i]? = some v := by
    rcases (show i = 0 ∨ i = 1 ∨ i = 2 ∨ i = 3 ∨ i = 4 by omega) with rfl | rfl | rfl | rfl | rfl <;> exact ⟨_, rfl⟩
  have := hc i hi
  rw [hv] at this ⊢
  exact belowCell this (Nat.le_refl _) k
def jmpB (o : Opx) : Bool := o.c == 38 || o.c == 39
set_option maxRecDepth 100000 in
theorem isJump_any (w : World) (c d a b k : Int) : Calls Try.prog 29 #[.agg #[.int .i64 c, .int .i64 d, .int .i64 a, .int .i64 b, .int .i64 k]] w fun e w' => e = .returned (.bool (jmpB ⟨c, d, a, b, k⟩)) ∧ Below w.heap.size w w' := by
  have hb : Below w.heap.size w (w.alloc (.cells #[.int .i64 c, .int .i64 d, .int .i64 a, .int .i64 b, .int .i64 k] 36)) := (Below.refl _ w).alloc (Nat.le_refl _) _
  have HB := hid hb
  clear hb
  unfold jmpB
  cases h1 : (c == 38) with
  | true =>
    go_enter Try.func29, Try.ntmps29
    go_wp2
    go_ret
    exact ⟨rfl, HB.out⟩
  | false =>
    go_enter Try.func29, Try.ntmps29
    go_wp2
    go_ret
    exact ⟨by simp, HB.out⟩
/- Numbers that a slice reads. -/
def IRd (w : World) (a : Option Addr) (l : List Int) : Prop := ∀ (j : Nat) (x : Int), l[j]? = some x → ∃ b off, a = some ⟨b, off, none⟩ ∧ w.cell? ⟨b, off + j, none⟩ = some (.int .i64 x)
theorem GRow.ird {w : World} {B : Nat} {a : Option Addr} {n cap : Nat} {xs : List Int} (h : GRow w B a n cap xs) : IRd w a xs := fun j x hx => by
  obtain ⟨g, e, _, hc, _⟩ := h.cell hx
  exact ⟨g, 0, e, by rw [Nat.zero_add]; exact hc⟩
theorem IRd.below {w w' : World} {a : Option Addr} {l : List Int} (h : IRd w a l) (k : Below w.heap.size w w') : IRd w' a l := fun j x hx => by
  obtain ⟨b, off, e, hc⟩ := h j x hx
  exact ⟨b, off, e, belowCell hc (Nat.le_refl _) k⟩
def wthB (n : Int) (l : List Int) : Bool := l.all fun x => decide (0 ≤ x) && decide (x < n)
set_option maxRecDepth 100000 in
set_option maxHeartbeats 1000000 in
theorem areWithin_any (w : World) (a : Option Addr) (m c : Nat) (l : List Int) (hm : m = l.length) (hmb : m ≤ 1000000) (hr : IRd w a l) (n : Int) : Calls Try.prog 26 #[.slice a m c, .int .i64 n] w fun e w' => e = .returned (.bool (wthB n l)) ∧ Below w.heap.size w w' := by
  have hmI : (m : Int) ≤ 1000000 := by omega
  have HR := hid hr
  have HM := hid hm
  clear hm hr
  go_enter Try.func26, Try.ntmps26
  go_wp2
  go_loopg [9] m (fun g x wr => ∃ j : Nat, j + g = m ∧ x = .int .i64 (j : Int) ∧ wthB n (l.take j) = true ∧ Below w.heap.size w wr)
  case atStart => exact ⟨0, by omega, rfl, by simp [wthB], Below.refl _ _⟩
  case round =>
    obtain ⟨j, hj, rfl, hp, hb⟩ := hrel
    cases gk with
    | zero =>
      have hjm : j = m := by omega
      subst hjm
      have HP : Hid (wthB n l = true) := hid (by rw [HM.out, List.take_of_length_le (Nat.le_refl _)] at hp; exact hp)
      have HB := hid hb
      clear hp hb
      go_wp2
      go_ret
      exact ⟨by rw [HP.out]; rfl, HB.out⟩
    | succ g =>
      obtain ⟨x, hx⟩ : ∃ x, l[j]? = some x := ⟨l[j]'(by have := HM.out; omega), List.getElem?_eq_getElem _⟩
      obtain ⟨b, off, rfl, hc⟩ := HR.out j x hx
      have hc' := belowCell hc (Nat.le_refl _) hb
      have hjI : (j : Int) < (m : Int) := by omega
      have hj0 : (0 : Int) ≤ (j : Int) := by omega
      have ht : l.take (j + 1) = l.take j ++ [x] := by rw [List.take_add_one, hx]; rfl
      have HB := hid hb
      have HX := hid hx
      by_cases hok : 0 ≤ x ∧ x < n
      · have h1 : ¬ x < 0 := by omega
        have h2 : ¬ n ≤ x := by omega
        have HP : Hid (wthB n (l.take (j + 1)) = true) := hid (by
          rw [ht]; unfold wthB at hp ⊢; rw [List.all_append, hp]; simp [hok.1, hok.2])
        clear hp hb hc ht hx hok
        go_wp2
        go_roundg g
        case measure => omega
        exact ⟨j + 1, by omega, by go_num, HP.out, HB.out⟩
      · have HP : Hid (wthB n l = false) := hid (by
          refine Bool.eq_false_iff.2 fun h => hok ?_
          unfold wthB at h
          have := List.all_eq_true.1 h x (List.mem_of_getElem? hx)
          simpa using this)
        clear hp hb hc ht hx
        by_cases h1 : x < 0
        · go_wp2
          go_ret
          exact ⟨by rw [HP.out]; rfl, HB.out⟩
        · have h2 : n ≤ x := by omega
          go_wp2
          go_ret
          exact ⟨by rw [HP.out]; rfl, HB.out⟩
end Go.Proofs.Ytkkcbabhccfllaa

namespace Go.Proofs.Ytkkcbabhccfllaa
open Go.RowKit Go.Deep Go.Shelf
set_option linter.unusedVariables false
set_option linter.unusedSimpArgs false
def nxtB (n : Nat) (o : Opx) (i : Nat) : Bool := o.c != 38 && o.c != 40 && decide (i + 1 < n)
def folO (n : Nat) (o : Opx) (i : Nat) : List Int := (if jmpB o = true then [o.k] else []) ++ (if nxtB n o i = true then [((i : Int) + 1)] else [])
theorem folO_len (n : Nat) (o : Opx) (i : Nat) : (folO n o i).length ≤ 2 := by unfold folO; split <;> split <;> simp
theorem GRow.lower {w : World} {B C : Nat} {a : Option Addr} {n cap : Nat} {xs : List Int} (h : GRow w B a n cap xs) (hC : C ≤ B) : GRow w C a n cap xs :=
  ⟨h.n1, h.nc, fun x e => by obtain ⟨g, h1, h2, h3⟩ := h.at' x e; exact ⟨g, h1, by omega, h3⟩, h.ct⟩
theorem below_own {w : World} {B : Nat} (h : B ≤ w.heap.size) (o : Obj) : Below B w (w.alloc o) := (Below.refl _ _).alloc h _
theorem Gwn.below {w w' : World} {a a' : Option Addr} {B : Nat} (h : Gwn w a w' a') (ha : ∀ x : Addr, a = some x → B ≤ x.block) (hB : B ≤ w.heap.size) : Below B w w' := by
  obtain ⟨⟨row, hg, hr⟩, _⟩ := h
  refine ⟨hg.os, hg.tape, hg.output, hg.size, fun j hj => hg.block j (by omega) (fun e => ?_)⟩
  obtain ⟨x, ex, hx⟩ := hr j e.symm
  have := ha x ex
  omega
set_option maxRecDepth 100000 in
set_option maxHeartbeats 1000000 in
theorem followers_any (w : World) (a : Option Addr) (n c : Nat) (ops : List Opx) (hn : n = ops.length) (hnb : n ≤ 1000000) (hr : ORd w a ops) (i : Nat) (o : Opx) (ho : ops[i]? = some o) :
    Calls Try.prog 24 #[.slice a n c, .int .i64 (i : Int)] w fun e w' => ∃ a' c', e = .returned (.slice a' (folO n o i).length c') ∧ GRow w' w.heap.size a' (folO n o i).length c' (folO n o i) ∧ Below w.heap.size w w' := by
  obtain ⟨b, off, rfl, hc⟩ := hr i o ho
  obtain ⟨oc, od, oa, ob, ok⟩ := o
  have c0 := hc 0 (by omega)
  have c1 := hc 1 (by omega)
  have c2 := hc 2 (by omega)
  have c3 := hc 3 (by omega)
  have c4 := hc 4 (by omega)
  simp only [Opx.cs, List.getElem?_toArray, List.getElem?_cons_zero, List.getElem?_cons_succ, Nat.add_zero] at c0 c1 c2 c3 c4
  have hil : i < n := by rw [hn]; exact (List.getElem?_eq_some_iff.1 ho).1
  have hiI : (i : Int) < (n : Int) := by omega
  have hi0 : (0 : Int) ≤ (i : Int) := by omega
  have hnI : (n : Int) ≤ 1000000 := by omega
  clear hr hc ho hn
  have hcase : (oc = 38 ∧ nxtB n ⟨oc, od, oa, ob, ok⟩ i = false) ∨ (¬ oc = 38 ∧ oc = 40 ∧ nxtB n ⟨oc, od, oa, ob, ok⟩ i = false) ∨ (¬ oc = 38 ∧ ¬ oc = 40 ∧ (n : Int) ≤ (i : Int) + 1 ∧ nxtB n ⟨oc, od, oa, ob, ok⟩ i = false) ∨ (¬ oc = 38 ∧ ¬ oc = 40 ∧ (i : Int) + 1 < (n : Int) ∧ nxtB n ⟨oc, od, oa, ob, ok⟩ i = true) := by
    unfold nxtB
    by_cases h1 : oc = 38
    · exact .inl ⟨h1, by simp [h1]⟩
    · by_cases h2 : oc = 40
      · exact .inr (.inl ⟨h1, h2, by simp [h2]⟩)
      · by_cases h3 : i + 1 < n
        · exact .inr (.inr (.inr ⟨h1, h2, by omega, by simp [h1, h2, h3]⟩))
        · exact .inr (.inr (.inl ⟨h1, h2, by omega, by simp [h3]⟩))
  obtain ⟨W0, hW0⟩ : ∃ W0, W0 = w.alloc (.cells #[.int .i64 oc, .int .i64 od, .int .i64 oa, .int .i64 ob, .int .i64 ok] 36) := ⟨_, rfl⟩
  have K := hid (isJump_any W0 oc od oa ob ok)
  have z0 : W0.heap.size = w.heap.size + 1 := by rw [hW0]; simp
  have m0 : W0.heap[w.heap.size]? = some (.cells #[.int .i64 oc, .int .i64 od, .int .i64 oa, .int .i64 ob, .int .i64 ok] 36 (0, 0)) := by rw [hW0]; exact heap_alloc_new _ _
  have bw0 : Below w.heap.size w W0 := by rw [hW0]; exact (Below.refl _ _).alloc (Nat.le_refl _) _
  have rd : ∀ v : World, Below (w.heap.size + 1) W0 v → v.cell? ⟨w.heap.size, 0, none⟩ = some (.int .i64 oc) ∧ v.cell? ⟨w.heap.size, 1, none⟩ = some (.int .i64 od) ∧ v.cell? ⟨w.heap.size, 2, none⟩ = some (.int .i64 oa) ∧ v.cell? ⟨w.heap.size, 3, none⟩ = some (.int .i64 ob) ∧ v.cell? ⟨w.heap.size, 4, none⟩ = some (.int .i64 ok) := fun v hv => by
    have h := (hv.block w.heap.size (by omega)).trans m0
    exact ⟨cellOf h 0, cellOf h 1, cellOf h 2, cellOf h 3, cellOf h 4⟩
  have CB := hid (fun (v : World) (hv : Below W0.heap.size W0 v) => rd v (hv.mono (by omega)))
  have CB2 := hid (fun (v v2 : World) (hv : Below W0.heap.size W0 v) (h2 : Below (w.heap.size + 1) v v2) => rd v2 ((hv.mono (by omega)).trans h2))
  have BW := hid (fun (v : World) (hv : Below W0.heap.size W0 v) => bw0.trans (hv.mono bw0.size))
  have SZ := hid (fun (v : World) (hv : Below W0.heap.size W0 v) => (by have := hv.size; omega : w.heap.size + 1 ≤ v.heap.size))
  clear z0 m0 bw0 rd
  cases hjb : jmpB ⟨oc, od, oa, ob, ok⟩ with
  | true =>
    rw [hjb] at K
    rcases hcase with ⟨h1, hnx⟩ | ⟨h1, h2, hnx⟩ | ⟨h1, h2, h3, hnx⟩ | ⟨h1, h2, h3, hnx⟩
    · have HF : Hid (folO n ⟨oc, od, oa, ob, ok⟩ i = [ok]) := hid (by unfold folO; rw [hjb, hnx]; rfl)
      clear hnx hjb
      subst h1
      go_enter Try.func24, Try.ntmps24
      go_upto_region 3 with fail
      rw [← hW0]
      clear hW0
      obtain ⟨x0, x1, x2, x3, x4⟩ := CB.out W0 (Below.refl _ _)
      go_wp2_with (first | (go_at_call 29; (refine (Hid.out K).mono ?_; rintro e w1 ⟨rfl, hb1⟩; obtain ⟨d0, d1, d2, d3, d4⟩ := CB.out w1 hb1; have HB1 := hid (BW.out w1 hb1); have hs1 := SZ.out w1 hb1; have HX1 := hid hb1; clear hb1 x0 x1 x2 x3 x4)) | (at_builtin; refine wpList_app1 w1 rfl _ _ rfl none 0 0 ok (by rfl) (by rfl) (w.heap.size + 1) [] (GRow.nil _ _) (by omega) hs1 ?_; intro a2 k2 w2 hg2 hgw; have HG1 := hid hg2; have hb2 := (below_own hs1 (.cells #[.int .i64 ok] 3)).trans (hgw.below (B := w.heap.size + 1) (fun x e => by cases e) (by rw [World.size_alloc]; omega)); obtain ⟨y0, y1, y2, y3, y4⟩ := CB2.out w1 w2 HX1.out hb2; have hs2 := Nat.le_trans hs1 hb2.size; have HB2 := hid (HB1.out.trans (hb2.mono (by omega))); clear hg2 hgw hb2 d0 d1 d2 d3 d4))
      go_ret
      exact ⟨_, _, by rw [HF.out]; rfl, by rw [HF.out]; exact HG1.out.lower (by omega), HB2.out⟩
    · have HF : Hid (folO n ⟨oc, od, oa, ob, ok⟩ i = [ok]) := hid (by unfold folO; rw [hjb, hnx]; rfl)
      clear hnx hjb
      subst h2
      go_enter Try.func24, Try.ntmps24
      go_upto_region 3 with fail
      rw [← hW0]
      clear hW0
      obtain ⟨x0, x1, x2, x3, x4⟩ := CB.out W0 (Below.refl _ _)
      go_wp2_with (first | (go_at_call 29; (refine (Hid.out K).mono ?_; rintro e w1 ⟨rfl, hb1⟩; obtain ⟨d0, d1, d2, d3, d4⟩ := CB.out w1 hb1; have HB1 := hid (BW.out w1 hb1); have hs1 := SZ.out w1 hb1; have HX1 := hid hb1; clear hb1 x0 x1 x2 x3 x4)) | (at_builtin; refine wpList_app1 w1 rfl _ _ rfl none 0 0 ok (by rfl) (by rfl) (w.heap.size + 1) [] (GRow.nil _ _) (by omega) hs1 ?_; intro a2 k2 w2 hg2 hgw; have HG1 := hid hg2; have hb2 := (below_own hs1 (.cells #[.int .i64 ok] 3)).trans (hgw.below (B := w.heap.size + 1) (fun x e => by cases e) (by rw [World.size_alloc]; omega)); obtain ⟨y0, y1, y2, y3, y4⟩ := CB2.out w1 w2 HX1.out hb2; have hs2 := Nat.le_trans hs1 hb2.size; have HB2 := hid (HB1.out.trans (hb2.mono (by omega))); clear hg2 hgw hb2 d0 d1 d2 d3 d4))
      go_ret
      exact ⟨_, _, by rw [HF.out]; rfl, by rw [HF.out]; exact HG1.out.lower (by omega), HB2.out⟩
    · have HF : Hid (folO n ⟨oc, od, oa, ob, ok⟩ i = [ok]) := hid (by unfold folO; rw [hjb, hnx]; rfl)
      clear hnx hjb
      go_enter Try.func24, Try.ntmps24
      go_upto_region 3 with fail
      rw [← hW0]
      clear hW0
      obtain ⟨x0, x1, x2, x3, x4⟩ := CB.out W0 (Below.refl _ _)
      go_wp2_with (first | (go_at_call 29; (refine (Hid.out K).mono ?_; rintro e w1 ⟨rfl, hb1⟩; obtain ⟨d0, d1, d2, d3, d4⟩ := CB.out w1 hb1; have HB1 := hid (BW.out w1 hb1); have hs1 := SZ.out w1 hb1; have HX1 := hid hb1; clear hb1 x0 x1 x2 x3 x4)) | (at_builtin; refine wpList_app1 w1 rfl _ _ rfl none 0 0 ok (by rfl) (by rfl) (w.heap.size + 1) [] (GRow.nil _ _) (by omega) hs1 ?_; intro a2 k2 w2 hg2 hgw; have HG1 := hid hg2; have hb2 := (below_own hs1 (.cells #[.int .i64 ok] 3)).trans (hgw.below (B := w.heap.size + 1) (fun x e => by cases e) (by rw [World.size_alloc]; omega)); obtain ⟨y0, y1, y2, y3, y4⟩ := CB2.out w1 w2 HX1.out hb2; have hs2 := Nat.le_trans hs1 hb2.size; have HB2 := hid (HB1.out.trans (hb2.mono (by omega))); clear hg2 hgw hb2 d0 d1 d2 d3 d4))
      go_ret
      exact ⟨_, _, by rw [HF.out]; rfl, by rw [HF.out]; exact HG1.out.lower (by omega), HB2.out⟩
    · have HF : Hid (folO n ⟨oc, od, oa, ob, ok⟩ i = [ok, (i : Int) + 1]) := hid (by unfold folO; rw [hjb, hnx]; rfl)
      clear hnx hjb
      have g1 : (oc != 38) = true := by simpa using h1
      have g2 : (oc != 40) = true := by simpa using h2
      go_enter Try.func24, Try.ntmps24
      go_upto_region 3 with fail
      rw [← hW0]
      clear hW0
      obtain ⟨x0, x1, x2, x3, x4⟩ := CB.out W0 (Below.refl _ _)
      go_wp2_with (first | (go_at_call 29; (refine (Hid.out K).mono ?_; rintro e w1 ⟨rfl, hb1⟩; obtain ⟨d0, d1, d2, d3, d4⟩ := CB.out w1 hb1; have HB1 := hid (BW.out w1 hb1); have hs1 := SZ.out w1 hb1; have HX1 := hid hb1; clear hb1 x0 x1 x2 x3 x4)) | (at_builtin; refine wpList_app1 w2 rfl _ _ rfl a2 1 k2 ((i : Int) + 1) (by rfl) (by rfl) (w.heap.size + 1) [ok] HG1.out (by omega) hs2 ?_; intro a3 k3 w3 hg3 hgw; have HG2 := hid hg3; have HB3 := hid (HB2.out.trans (((below_own hs2 (.cells #[.int .i64 ((i : Int) + 1)] 3)).trans (hgw.below (B := w.heap.size + 1) (fun x e => by obtain ⟨g', rfl, hg', _⟩ := HG1.out.at' x e; exact hg') (by rw [World.size_alloc]; omega))).mono (by omega))); clear hg3 hgw) | (at_builtin; refine wpList_app1 w1 rfl _ _ rfl none 0 0 ok (by rfl) (by rfl) (w.heap.size + 1) [] (GRow.nil _ _) (by omega) hs1 ?_; intro a2 k2 w2 hg2 hgw; have HG1 := hid hg2; have hb2 := (below_own hs1 (.cells #[.int .i64 ok] 3)).trans (hgw.below (B := w.heap.size + 1) (fun x e => by cases e) (by rw [World.size_alloc]; omega)); obtain ⟨y0, y1, y2, y3, y4⟩ := CB2.out w1 w2 HX1.out hb2; have hs2 := Nat.le_trans hs1 hb2.size; have HB2 := hid (HB1.out.trans (hb2.mono (by omega))); clear hg2 hgw hb2 d0 d1 d2 d3 d4))
      go_ret
      exact ⟨_, _, by rw [HF.out]; rfl, by rw [HF.out]; exact HG2.out.lower (by omega), HB3.out⟩
  | false =>
    rw [hjb] at K
    rcases hcase with ⟨h1, hnx⟩ | ⟨h1, h2, hnx⟩ | ⟨h1, h2, h3, hnx⟩ | ⟨h1, h2, h3, hnx⟩
    · have HF : Hid (folO n ⟨oc, od, oa, ob, ok⟩ i = []) := hid (by unfold folO; rw [hjb, hnx]; rfl)
      clear hnx hjb
      subst h1
      go_enter Try.func24, Try.ntmps24
      go_upto_region 3 with fail
      rw [← hW0]
      clear hW0
      obtain ⟨x0, x1, x2, x3, x4⟩ := CB.out W0 (Below.refl _ _)
      go_wp2_with (first | (go_at_call 29; (refine (Hid.out K).mono ?_; rintro e w1 ⟨rfl, hb1⟩; obtain ⟨d0, d1, d2, d3, d4⟩ := CB.out w1 hb1; have HB1 := hid (BW.out w1 hb1); have hs1 := SZ.out w1 hb1; have HX1 := hid hb1; clear hb1 x0 x1 x2 x3 x4)))
      go_ret
      exact ⟨_, _, by rw [HF.out]; rfl, by rw [HF.out]; exact GRow.nil _ _, HB1.out⟩
    · have HF : Hid (folO n ⟨oc, od, oa, ob, ok⟩ i = []) := hid (by unfold folO; rw [hjb, hnx]; rfl)
      clear hnx hjb
      subst h2
      go_enter Try.func24, Try.ntmps24
      go_upto_region 3 with fail
      rw [← hW0]
      clear hW0
      obtain ⟨x0, x1, x2, x3, x4⟩ := CB.out W0 (Below.refl _ _)
      go_wp2_with (first | (go_at_call 29; (refine (Hid.out K).mono ?_; rintro e w1 ⟨rfl, hb1⟩; obtain ⟨d0, d1, d2, d3, d4⟩ := CB.out w1 hb1; have HB1 := hid (BW.out w1 hb1); have hs1 := SZ.out w1 hb1; have HX1 := hid hb1; clear hb1 x0 x1 x2 x3 x4)))
      go_ret
      exact ⟨_, _, by rw [HF.out]; rfl, by rw [HF.out]; exact GRow.nil _ _, HB1.out⟩
    · have HF : Hid (folO n ⟨oc, od, oa, ob, ok⟩ i = []) := hid (by unfold folO; rw [hjb, hnx]; rfl)
      clear hnx hjb
      go_enter Try.func24, Try.ntmps24
      go_upto_region 3 with fail
      rw [← hW0]
      clear hW0
      obtain ⟨x0, x1, x2, x3, x4⟩ := CB.out W0 (Below.refl _ _)
      go_wp2_with (first | (go_at_call 29; (refine (Hid.out K).mono ?_; rintro e w1 ⟨rfl, hb1⟩; obtain ⟨d0, d1, d2, d3, d4⟩ := CB.out w1 hb1; have HB1 := hid (BW.out w1 hb1); have hs1 := SZ.out w1 hb1; have HX1 := hid hb1; clear hb1 x0 x1 x2 x3 x4)))
      go_ret
      exact ⟨_, _, by rw [HF.out]; rfl, by rw [HF.out]; exact GRow.nil _ _, HB1.out⟩
    · have HF : Hid (folO n ⟨oc, od, oa, ob, ok⟩ i = [(i : Int) + 1]) := hid (by unfold folO; rw [hjb, hnx]; rfl)
      clear hnx hjb
      have g1 : (oc != 38) = true := by simpa using h1
      have g2 : (oc != 40) = true := by simpa using h2
      go_enter Try.func24, Try.ntmps24
      go_upto_region 3 with fail
      rw [← hW0]
      clear hW0
      obtain ⟨x0, x1, x2, x3, x4⟩ := CB.out W0 (Below.refl _ _)
      go_wp2_with (first | (go_at_call 29; (refine (Hid.out K).mono ?_; rintro e w1 ⟨rfl, hb1⟩; obtain ⟨d0, d1, d2, d3, d4⟩ := CB.out w1 hb1; have HB1 := hid (BW.out w1 hb1); have hs1 := SZ.out w1 hb1; have HX1 := hid hb1; clear hb1 x0 x1 x2 x3 x4)) | (at_builtin; refine wpList_app1 w1 rfl _ _ rfl none 0 0 ((i : Int) + 1) (by rfl) (by rfl) (w.heap.size + 1) [] (GRow.nil _ _) (by omega) hs1 ?_; intro a3 k3 w3 hg3 hgw; have HG2 := hid hg3; have HB3 := hid (HB1.out.trans (((below_own hs1 (.cells #[.int .i64 ((i : Int) + 1)] 3)).trans (hgw.below (B := w.heap.size + 1) (fun x e => by cases e) (by rw [World.size_alloc]; omega))).mono (by omega))); clear hg3 hgw))
      go_ret
      exact ⟨_, _, by rw [HF.out]; rfl, by rw [HF.out]; exact HG2.out.lower (by omega), HB3.out⟩
/- The ways of a function's instructions, told by numbers. -/
def stepW (ops : List Opx) (i : Nat) : List Nat := match ops[i]? with
  | some o => (folO ops.length o i).map Int.toNat
  | none => []
def okO (n : Nat) (o : Opx) : Bool := !jmpB o || (decide (0 ≤ o.k) && decide (o.k < (n : Int)))
def okSt (ops : List Opx) : Bool := ops.all (okO ops.length) && decide (0 < ops.length)
theorem stepW_len (ops : List Opx) (i : Nat) : (stepW ops i).length ≤ 2 := by
  unfold stepW
  split
  · rw [List.length_map]; exact folO_len _ _ _
  · simp
theorem fol_in {n : Nat} {o : Opx} (h : okO n o = true) (i : Nat) : ∀ x ∈ folO n o i, 0 ≤ x ∧ x < (n : Int) := by
  intro x hx
  unfold folO at hx
  rcases List.mem_append.1 hx with hx | hx
  · split at hx
    · rename_i hj
      simp at hx; subst hx
      unfold okO at h
      rw [hj] at h
      simpa using h
    · simp at hx
  · split at hx
    · rename_i hj
      simp at hx; subst hx
      unfold nxtB at hj
      simp at hj
      omega
    · simp at hx
theorem ofN_toNat : ∀ (l : List Int), (∀ x ∈ l, 0 ≤ x) → ofN (l.map Int.toNat) = l
  | [], _ => rfl
  | a :: l, h => by
    have h1 := ofN_toNat l (fun x hx => h x (List.mem_cons_of_mem _ hx))
    have h2 := h a (List.mem_cons_self ..)
    unfold ofN at h1 ⊢
    rw [List.map_cons, List.map_cons, h1]
    congr 1
    omega
theorem okSt_at {ops : List Opx} (h : okSt ops = true) {i : Nat} {o : Opx} (ho : ops[i]? = some o) : okO ops.length o = true := by
  unfold okSt at h
  simp only [Bool.and_eq_true] at h
  exact List.all_eq_true.1 h.1 o (List.mem_of_getElem? ho)
theorem stepW_lt {ops : List Opx} (h : okSt ops = true) : ∀ i, i < ops.length → ∀ t ∈ stepW ops i, t < ops.length := by
  intro i hi t ht
  unfold stepW at ht
  rw [List.getElem?_eq_getElem hi] at ht
  simp only [List.mem_map] at ht
  obtain ⟨x, hx, rfl⟩ := ht
  have := fol_in (okSt_at h (List.getElem?_eq_getElem hi)) i x hx
  omega
theorem stepW_ofN {ops : List Opx} (h : okSt ops = true) {i : Nat} {o : Opx} (ho : ops[i]? = some o) : ofN (stepW ops i) = folO ops.length o i ∧ (stepW ops i).length = (folO ops.length o i).length := by
  unfold stepW
  rw [ho]
  exact ⟨ofN_toNat _ (fun x hx => (fol_in (okSt_at h ho) i x hx).1), by simp⟩
end Go.Proofs.Ytkkcbabhccfllaa

namespace Go.Proofs.Ytkkcbabhccfllaa
open Go.RowKit Go.Deep Go.Shelf
set_option linter.unusedVariables false
set_option linter.unusedSimpArgs false
structure Blk where
  oa : Option Addr
  on : Nat
  oc : Nat
  en : Int
  a : Int
  tt : Int
  el : Int
  ops : List Opx
def Blk.cs (b : Blk) : Array Value := #[.slice b.oa b.on b.oc, .int .i64 b.en, .int .i64 b.a, .int .i64 b.tt, .int .i64 b.el]
structure BkR (w : World) (x : Blk) : Prop where
  n : x.on = x.ops.length
  nb : x.on ≤ 10000
  r : ORd w x.oa x.ops
theorem BkR.below {w w' : World} {x : Blk} (h : BkR w x) (k : Below w.heap.size w w') : BkR w' x := ⟨h.n, h.nb, h.r.below k⟩
structure BRd (w : World) (a : Option Addr) (l : List Blk) : Prop where
  c : ∀ (j : Nat) (x : Blk), l[j]? = some x → ∃ b off, a = some ⟨b, off, none⟩ ∧ ∀ i, i < 5 → w.cell? ⟨b, off + j * 5 + i, none⟩ = x.cs[i]?
  e : ∀ x ∈ l, BkR w x
theorem BRd.below {w w' : World} {a : Option Addr} {l : List Blk} (h : BRd w a l) (k : Below w.heap.size w w') : BRd w' a l := by
  refine ⟨fun j x hx => ?_, fun x hx => (h.e x hx).below k⟩
  obtain ⟨b, off, e, hc⟩ := h.c j x hx
  refine ⟨b, off, e, fun i hi => ?_⟩
  obtain ⟨v, hv⟩ : ∃ v, x.cs[i]? = some v := by
    rcases (show i = 0 ∨ i = 1 ∨ i = 2 ∨ i = 3 ∨ i = 4 by omega) with rfl | rfl | rfl | rfl | rfl <;> exact ⟨_, rfl⟩
  have := hc i hi
  rw [hv] at this ⊢
  exact belowCell this (Nat.le_refl _) k
def tgE (en tt el : Int) : List Int := if en = 38 then [tt] else if en = 39 then [tt, el] else []
theorem tgE_len (en tt el : Int) : (tgE en tt el).length ≤ 2 := by unfold tgE; split; simp; split <;> simp
set_option maxRecDepth 100000 in
set_option maxHeartbeats 1000000 in
theorem targets_any (w : World) (oa : Option Addr) (on oc : Nat) (en a tt el : Int) : Calls Try.prog 21 #[.agg #[.slice oa on oc, .int .i64 en, .int .i64 a, .int .i64 tt, .int .i64 el]] w fun e w' => ∃ a' c', e = .returned (.slice a' (tgE en tt el).length c') ∧ GRow w' w.heap.size a' (tgE en tt el).length c' (tgE en tt el) ∧ Below w.heap.size w w' := by
  obtain ⟨W0, hW0⟩ : ∃ W0, W0 = w.alloc (.cells #[.slice oa on oc, .int .i64 en, .int .i64 a, .int .i64 tt, .int .i64 el] 47) := ⟨_, rfl⟩
  have bw0 : Below w.heap.size w W0 := by rw [hW0]; exact (Below.refl _ _).alloc (Nat.le_refl _) _
  have z0 : W0.heap.size = w.heap.size + 1 := by rw [hW0]; simp
  have m0 : W0.heap[w.heap.size]? = some (.cells #[.slice oa on oc, .int .i64 en, .int .i64 a, .int .i64 tt, .int .i64 el] 47 (0, 0)) := by rw [hW0]; exact heap_alloc_new _ _
  have x1 := cellOf m0 1
  have x3 := cellOf m0 3
  have x4 := cellOf m0 4
  simp only [List.getElem?_toArray, List.getElem?_cons_zero, List.getElem?_cons_succ] at x1 x3 x4
  have HB0 := hid bw0
  have Z0 := hid z0
  clear bw0 m0 z0
  by_cases h1 : en = 38
  · subst h1
    have HF : Hid (tgE 38 tt el = [tt]) := hid rfl
    have hgr : GRow (W0.alloc (.cells #[.int .i64 tt] 3)) w.heap.size (some ⟨W0.heap.size, 0, none⟩) 1 1 [tt] := ⟨rfl, Nat.le_refl _, fun x ex => by cases ex; exact ⟨_, rfl, by have := Z0.out; omega, by simp⟩, fun _ => ⟨_, _, rfl, heap_alloc_new _ _, Nat.le_refl _, rfl⟩⟩
    have HG := hid hgr
    have HB := hid (HB0.out.trans ((Below.refl _ W0).alloc (by have := Z0.out; omega) (.cells #[.int .i64 tt] 3)))
    clear hgr
    go_enter Try.func21, Try.ntmps21
    go_upto_region 1 with fail
    rw [← hW0]
    clear hW0
    go_wp2
    go_ret
    exact ⟨_, _, by rw [HF.out]; rfl, by rw [HF.out]; exact HG.out, HB.out⟩
  · have g1 : (en == 38) = false := by simpa using h1
    by_cases h2 : en = 39
    · subst h2
      have HF : Hid (tgE 39 tt el = [tt, el]) := hid rfl
      have hgr : GRow (W0.alloc (.cells #[.int .i64 tt, .int .i64 el] 3)) w.heap.size (some ⟨W0.heap.size, 0, none⟩) 2 2 [tt, el] := ⟨rfl, Nat.le_refl _, fun x ex => by cases ex; exact ⟨_, rfl, by have := Z0.out; omega, by simp⟩, fun _ => ⟨_, _, rfl, heap_alloc_new _ _, Nat.le_refl _, rfl⟩⟩
      have HG := hid hgr
      have HB := hid (HB0.out.trans ((Below.refl _ W0).alloc (by have := Z0.out; omega) (.cells #[.int .i64 tt, .int .i64 el] 3)))
      clear hgr
      go_enter Try.func21, Try.ntmps21
      go_upto_region 1 with fail
      rw [← hW0]
      clear hW0
      go_wp2
      go_ret
      exact ⟨_, _, by rw [HF.out]; rfl, by rw [HF.out]; exact HG.out, HB.out⟩
    · have g2 : (en == 39) = false := by simpa using h2
      have HF : Hid (tgE en tt el = []) := hid (by unfold tgE; rw [if_neg h1, if_neg h2])
      go_enter Try.func21, Try.ntmps21
      go_upto_region 1 with fail
      rw [← hW0]
      clear hW0
      go_wp2
      go_ret
      exact ⟨_, _, by rw [HF.out]; rfl, by rw [HF.out]; exact GRow.nil _ _, HB0.out⟩
def endE (en a tt el : Int) : Bool := if en = 38 then a == 0 && el == 0 else if en = 39 then decide (0 ≤ a) else if en = 40 then decide (-1 ≤ a) && tt == 0 && el == 0 else false
set_option maxRecDepth 100000 in
set_option maxHeartbeats 1000000 in
theorem isEnd_any (w : World) (oa : Option Addr) (on oc : Nat) (en a tt el : Int) : Calls Try.prog 25 #[.agg #[.slice oa on oc, .int .i64 en, .int .i64 a, .int .i64 tt, .int .i64 el]] w fun e w' => e = .returned (.bool (endE en a tt el)) ∧ Below w.heap.size w w' := by
  obtain ⟨W0, hW0⟩ : ∃ W0, W0 = w.alloc (.cells #[.slice oa on oc, .int .i64 en, .int .i64 a, .int .i64 tt, .int .i64 el] 47) := ⟨_, rfl⟩
  have bw0 : Below w.heap.size w W0 := by rw [hW0]; exact (Below.refl _ _).alloc (Nat.le_refl _) _
  have m0 : W0.heap[w.heap.size]? = some (.cells #[.slice oa on oc, .int .i64 en, .int .i64 a, .int .i64 tt, .int .i64 el] 47 (0, 0)) := by rw [hW0]; exact heap_alloc_new _ _
  have x1 := cellOf m0 1
  have x2 := cellOf m0 2
  have x3 := cellOf m0 3
  have x4 := cellOf m0 4
  simp only [List.getElem?_toArray, List.getElem?_cons_zero, List.getElem?_cons_succ] at x1 x2 x3 x4
  have HB0 := hid bw0
  clear bw0 m0
  by_cases h1 : en = 38
  · subst h1
    by_cases h2 : a = 0
    · subst h2
      have HF : Hid (endE 38 0 tt el = (el == 0)) := hid rfl
      go_enter Try.func25, Try.ntmps25
      go_upto_region 1 with fail
      rw [← hW0]
      clear hW0
      go_wp2
      go_ret
      exact ⟨by rw [HF.out]; rfl, HB0.out⟩
    · have g2 : (a == 0) = false := by simpa using h2
      have HF : Hid (endE 38 a tt el = false) := hid (by unfold endE; rw [if_pos rfl, g2]; rfl)
      go_enter Try.func25, Try.ntmps25
      go_upto_region 1 with fail
      rw [← hW0]
      clear hW0
      go_wp2
      go_ret
      exact ⟨by rw [HF.out]; rfl, HB0.out⟩
  · have g1 : (en == 38) = false := by simpa using h1
    by_cases h2 : en = 39
    · subst h2
      have HF : Hid (endE 39 a tt el = decide (0 ≤ a)) := hid rfl
      go_enter Try.func25, Try.ntmps25
      go_upto_region 1 with fail
      rw [← hW0]
      clear hW0
      go_wp2
      go_ret
      exact ⟨by rw [HF.out]; rfl, HB0.out⟩
    · have g2 : (en == 39) = false := by simpa using h2
      by_cases h3 : en = 40
      · subst h3
        by_cases h4 : -1 ≤ a
        · by_cases h5 : tt = 0
          · subst h5
            have HF : Hid (endE 40 a 0 el = (el == 0)) := hid (by unfold endE; rw [if_neg (by decide), if_neg (by decide), if_pos rfl, decide_eq_true h4]; rfl)
            go_enter Try.func25, Try.ntmps25
            go_upto_region 1 with fail
            rw [← hW0]
            clear hW0
            go_wp2
            go_ret
            exact ⟨by rw [HF.out]; rfl, HB0.out⟩
          · have g5 : (tt == 0) = false := by simpa using h5
            have HF : Hid (endE 40 a tt el = false) := hid (by unfold endE; rw [if_neg (by decide), if_neg (by decide), if_pos rfl, g5]; simp)
            go_enter Try.func25, Try.ntmps25
            go_upto_region 1 with fail
            rw [← hW0]
            clear hW0
            go_wp2
            go_ret
            exact ⟨by rw [HF.out]; rfl, HB0.out⟩
        · have HF : Hid (endE 40 a tt el = false) := hid (by unfold endE; rw [if_neg (by decide), if_neg (by decide), if_pos rfl, decide_eq_false h4]; rfl)
          go_enter Try.func25, Try.ntmps25
          go_upto_region 1 with fail
          rw [← hW0]
          clear hW0
          go_wp2
          go_ret
          exact ⟨by rw [HF.out]; rfl, HB0.out⟩
      · have g3 : (en == 40) = false := by simpa using h3
        have HF : Hid (endE en a tt el = false) := hid (by unfold endE; rw [if_neg h1, if_neg h2, if_neg h3])
        go_enter Try.func25, Try.ntmps25
        go_upto_region 1 with fail
        rw [← hW0]
        clear hW0
        go_wp2
        go_ret
        exact ⟨by rw [HF.out]; rfl, HB0.out⟩
end Go.Proofs.Ytkkcbabhccfllaa

