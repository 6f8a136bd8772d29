/- Programs among the arguments. -/
import Derived.Test.YtmhjnfibpngpmaaJAB
import Derived.Test.YtmhjnfibpngpmaaRows
import Derived.WalkKit
import Derived.WalkSpells
import Derived.WalkLawsBesides
import Derived.Deep.OwnRows
import Derived.Maps.AppendAt
import Derived.Deep.AppendLies
import Derived.Lib.AppendStr
import Derived.Deep.LoopGhost
import Derived.Below
import Derived.RangeFuncNested
import Derived.RangeFuncBound
import Derived.RangeFuncCalls
import Derived.RangeFuncLeaves
import Derived.LoopIn
import Derived.LoopNIn
import Derived.OwnWalkIn
import Derived.TacticsInMore
import Derived.BigRegionIn
import Derived.BigQuiet
import Derived.Deep.RegionHeld3
import Derived.Shelf.RegionOpen
import Derived.Shelf.Abstract
import Derived.Sort.LoopGhostIn
import Derived.Deep.CutBlock
import Derived.Deep.DeepCutAuto
namespace Go.Proofs.Ytmhjnfibpngpmaa
set_option maxRecDepth 100000
open Go.ChangeShapes Go.WideShapes Go.ChangeAt Go.RowKit Go.Deep
set_option linter.unusedVariables false
set_option linter.unusedSimpArgs false

theorem cells28 : Try.prog.cellsOf 24 = 2 := by kernel_rfl
theorem cells46 : Try.prog.cellsOf 32 = 3 := by kernel_rfl
theorem cells79 : Try.prog.cellsOf 120 = 5 := by kernel_rfl
theorem cells48 : Try.prog.cellsOf 29 = 4 := by kernel_rfl
theorem cells43 : Try.prog.cellsOf 26 = 1 := by kernel_rfl
theorem cells44 : Try.prog.cellsOf 25 = 1 := by kernel_rfl
theorem cells22 : Try.prog.cellsOf 33 = 1 := by kernel_rfl
theorem cells23 : Try.prog.cellsOf 34 = 1 := by kernel_rfl
theorem cells24 : Try.prog.cellsOf 30 = 1 := by kernel_rfl
theorem cells26 : Try.prog.cellsOf 36 = 4 := by kernel_rfl

section
variable {H : Type} {enc : TypeId × Value → H} {W : World}

def TrdT (enc : TypeId × Value → H) (W : World) (T : TypeId) (cs : List Value) : Prop := ∃ fuel x, DataW.trod enc Try.prog W 0 (fun _ => true) true fuel T cs = some x

set_option maxRecDepth 100000 in
theorem rows_of {T E : TypeId} {k : Nat} (hT : Try.prog.underlying T = some (.slice E)) (hk : Try.prog.cellsOf E = k) (k0 : 0 < k) {a0 : Option Addr} {len cap : Nat} (h : TrdT enc W T [.slice a0 len cap]) :
    ∃ rows : List (List Value), rows.length = len ∧ CRd W a0 k rows ∧ (∀ r ∈ rows, r.length = k ∧ TrdT enc W E r) ∧ len ≤ 9223372036854775807 ∧ len ≤ cap := by
  obtain ⟨fuel, x, hf⟩ := h
  rcases open_slice hT hf with ⟨hcs, _⟩ | ⟨a, l, c, m, n, D, Pl, hcs, _, hl, hm', hm, _, hx⟩
  · simp at hcs
    obtain ⟨rfl, rfl, rfl⟩ := hcs
    exact ⟨[], rfl, fun j x hx => by simp at hx, fun h hh => by simp at hh, by omega, by omega⟩
  · simp at hcs
    obtain ⟨rfl, rfl, rfl⟩ := hcs
    simp at hm
    subst hm
    have hs : ∀ j, j < len → ∃ r : List Value, (∃ b off, some a = some ⟨b, off, none⟩ ∧ b < W.heap.size ∧ ∀ i, i < k → W.cell? ⟨b, off + j * k + i, none⟩ = r[i]?) ∧ r.length = k ∧ TrdT enc W E r := by
      intro j hj
      obtain ⟨cs, h1, h2⟩ := hx j (by omega)
      rw [hk] at h1
      obtain ⟨_, h3, h4⟩ := World.cells?_some h1
      obtain ⟨b, off, spot⟩ := a
      have hc0 : cs[0]? = some (cs[0]'(by omega)) := by rw [List.getElem?_eq_getElem]
      have hcell := (h4 0 k0).trans hc0
      have hspot : spot = none := by
        obtain ⟨cs', h1', h2'⟩ := hx 0 (by omega)
        rw [hk] at h1'
        obtain ⟨_, h3', h4'⟩ := World.cells?_some h1'
        have := World.cell?_spot ((h4' 0 k0).trans (show cs'[0]? = some (cs'[0]'(by omega)) by rw [List.getElem?_eq_getElem]))
        simpa [Addr.add] using this
      subst hspot
      have hb : b < W.heap.size := by
        have := World.block_lt_of_cell? W _ hcell
        simpa [Addr.add_lit] using this
      refine ⟨cs, ⟨b, off, rfl, hb, fun i hi => ?_⟩, h3, _, _, h2⟩
      have := h4 i hi
      simp only [Addr.add_lit] at this
      exact this
    refine ⟨(List.range len).map (fun j => if hj : j < len then Classical.choose (hs j hj) else []), by simp, ?_, ?_, by unfold maxLen at hm'; omega, by omega⟩
    · intro j h hjh
      simp only [List.getElem?_map, Option.map_eq_some_iff] at hjh
      obtain ⟨j', hj', rfl⟩ := hjh
      have hj : j < len := by have := (List.getElem?_eq_some_iff.1 hj').1; simpa using this
      have : j' = j := by simpa [hj] using hj'.symm
      subst this
      simp only [hj, dif_pos]
      exact (Classical.choose_spec (hs j' hj)).1
    · intro h hh
      simp only [List.mem_map, List.mem_range] at hh
      obtain ⟨j, hj, rfl⟩ := hh
      simp only [hj, dif_pos]
      exact (Classical.choose_spec (hs j hj)).2

theorem str_of {c : Value} (h : TrdT enc W 9 [c]) : ∃ s, c = .string s ∧ s.size ≤ 9223372036854775807 := by
  obtain ⟨fuel, x, hf⟩ := h
  obtain ⟨s, e, _, w⟩ := DataW.trod_string Try.underlying9 hf
  simp at e
  exact ⟨s, e, by unfold maxLen at w; omega⟩
theorem int_of {c : Value} (h : TrdT enc W 3 [c]) : ∃ n, c = .int .i64 n := by
  obtain ⟨fuel, x, hf⟩ := h
  obtain ⟨n, e, _, w⟩ := DataW.trod_int Try.underlying3 hf
  simp at e
  exact ⟨n, e⟩
set_option maxRecDepth 100000 in
theorem slice_of {T E : TypeId} (hT : Try.prog.underlying T = some (.slice E)) {c : Value} (h : TrdT enc W T [c]) : ∃ a n cap, c = .slice a n cap := by
  obtain ⟨fuel, x, hf⟩ := h
  rcases open_slice hT hf with ⟨hcs, _⟩ | ⟨a, l, c, m, n', D, Pl, hcs, _, hl, hm', hm, _, hx⟩
  · simp at hcs; exact ⟨_, _, _, hcs⟩
  · simp at hcs; exact ⟨_, _, _, hcs⟩
set_option maxRecDepth 100000 in
theorem type_of {cs : List Value} (hl : cs.length = 2) (h : TrdT enc W 24 cs) : ∃ k r, cs = [.int .i64 k, .int .i64 r] := by
  obtain ⟨fuel, x, hf⟩ := h
  obtain ⟨xs, n, _, rfl, _, hlen, hf⟩ := DataW.trod_struct Try.underlying24 hf
  match cs, hl with
  | [c0, c1], _ =>
    match xs, hlen with
    | [y0, y1], _ =>
      have h0 := hf 0 _ rfl
      have h1 := hf 1 _ rfl
      simp [cells3] at h0 h1
      obtain ⟨k, rfl⟩ := int_of ⟨_, _, h0⟩
      obtain ⟨r, rfl⟩ := int_of ⟨_, _, h1⟩
      exact ⟨k, r, rfl⟩

/- Rows out of their elements. -/
theorem list_of {α β : Type} {R : α → β → Prop} : ∀ (l : List α), (∀ a ∈ l, ∃ b, R a b) → ∃ m : List β, m.length = l.length ∧ ∀ (j : Nat) (a : α), l[j]? = some a → ∃ b, m[j]? = some b ∧ R a b
  | [], _ => ⟨[], rfl, fun j a e => by simp at e⟩
  | a :: l, h => by
    obtain ⟨b, hb⟩ := h a (by simp)
    obtain ⟨m, hm, hr⟩ := list_of l (fun x hx => h x (by simp [hx]))
    refine ⟨b :: m, by simp [hm], fun j x e => ?_⟩
    cases j with
    | zero => simp at e; subst e; exact ⟨b, rfl, hb⟩
    | succ j => simp at e; exact hr j x e
theorem at_of {α β : Type} {l : List α} {m : List β} (h : m.length = l.length) {j : Nat} {b : β} (e : m[j]? = some b) : ∃ a, l[j]? = some a := by
  have := (List.getElem?_eq_some_iff.1 e).1
  exact ⟨l[j]'(by omega), by rw [List.getElem?_eq_getElem]⟩

theorem srd_of {a : Option Addr} {n cap : Nat} (h : TrdT enc W 26 [.slice a n cap]) : ∃ ss : List ByteArray, n = ss.length ∧ n ≤ cap ∧ n ≤ 9223372036854775807 ∧ SRd W a ss := by
  obtain ⟨rows, hl, hrd, hel, hn, hc⟩ := rows_of Try.underlying26 cells9 (by omega) h
  obtain ⟨ss, hm, hr⟩ := list_of (R := fun r (s : ByteArray) => r = [.string s] ∧ s.size ≤ 9223372036854775807) rows (fun r hr => by
    obtain ⟨h1, h2⟩ := hel r hr
    match r, h1 with
    | [c], _ =>
      obtain ⟨s, rfl, hs⟩ := str_of h2
      exact ⟨s, rfl, hs⟩)
  refine ⟨ss, by omega, hc, hn, fun j s e => ?_⟩
  obtain ⟨r, hrr⟩ := at_of hm e
  obtain ⟨s', e', rfl, hz⟩ := hr j r hrr
  rw [e] at e'; cases e'
  obtain ⟨b, off, rfl, _, hcell⟩ := hrd j _ hrr
  have := hcell 0 (by omega)
  simp only [Nat.mul_one, Nat.add_zero, List.getElem?_cons_zero] at this
  exact ⟨hz, b, off, rfl, this⟩
theorem trd_of {a : Option Addr} {n cap : Nat} (h : TrdT enc W 25 [.slice a n cap]) : ∃ ts : List TyP, n = ts.length ∧ n ≤ 9223372036854775807 ∧ TRd W a ts := by
  obtain ⟨rows, hl, hrd, hel, hn, hc⟩ := rows_of Try.underlying25 cells28 (by omega) h
  obtain ⟨ts, hm, hr⟩ := list_of (R := fun r (t : TyP) => r = [.int .i64 t.1, .int .i64 t.2]) rows (fun r hr => by
    obtain ⟨h1, h2⟩ := hel r hr
    obtain ⟨k, q, rfl⟩ := type_of h1 h2
    exact ⟨(k, q), rfl⟩)
  refine ⟨ts, by omega, hn, fun j t e => ?_⟩
  obtain ⟨r, hrr⟩ := at_of hm e
  obtain ⟨t', e', rfl⟩ := hr j r hrr
  rw [e] at e'; cases e'
  obtain ⟨b, off, rfl, _, hcell⟩ := hrd j _ hrr
  have h0 := hcell 0 (by omega)
  have h1 := hcell 1 (by omega)
  simp only [Nat.add_zero, List.getElem?_cons_zero, List.getElem?_cons_succ] at h0 h1
  exact ⟨b, off, rfl, h0, h1⟩
set_option maxRecDepth 100000 in
theorem map_of {cs : List Value} (hl : cs.length = 5) (h : TrdT enc W 120 cs) : ∃ m : Mp, cs = m.cs ∧ m.name.size ≤ 9223372036854775807 := by
  obtain ⟨fuel, x, hf⟩ := h
  obtain ⟨xs, n, _, rfl, _, hlen, hf⟩ := DataW.trod_struct Try.underlying120 hf
  match cs, hl with
  | [c0, c1, c2, c3, c4], _ =>
    match xs, hlen with
    | [y0, y1, y2], _ =>
      have h0 := hf 0 _ rfl
      have h1 := hf 1 _ rfl
      have h2 := hf 2 _ rfl
      simp [cells9, cells28] at h0 h1 h2
      obtain ⟨nm, rfl, hs⟩ := str_of ⟨_, _, h0⟩
      obtain ⟨k1, r1, e1⟩ := type_of rfl ⟨_, _, h1⟩
      obtain ⟨k2, r2, e2⟩ := type_of rfl ⟨_, _, h2⟩
      cases e1
      cases e2
      exact ⟨⟨nm, (k1, r1), (k2, r2)⟩, rfl, hs⟩
theorem crd_map {α : Type} {a : Option Addr} {k : Nat} {rows : List (List Value)} {l : List α} (f : α → List Value) (h : CRd W a k rows) (hm : l.length = rows.length) (hr : ∀ (j : Nat) (r : List Value), rows[j]? = some r → ∃ x, l[j]? = some x ∧ r = f x) : CRd W a k (l.map f) := by
  intro j r e
  simp only [List.getElem?_map, Option.map_eq_some_iff] at e
  obtain ⟨x, hx, rfl⟩ := e
  obtain ⟨r, hrr⟩ := at_of hm hx
  obtain ⟨x', e', rfl⟩ := hr j r hrr
  rw [hx] at e'; cases e'
  exact h j _ hrr
theorem mrd_of {a : Option Addr} {n cap : Nat} (h : TrdT enc W 34 [.slice a n cap]) : ∃ ms, MRd W a n ms := by
  obtain ⟨rows, hl, hrd, hel, hn, hc⟩ := rows_of Try.underlying34 cells79 (by omega) h
  obtain ⟨ps, hm, hr⟩ := list_of (R := fun r (p : Mp) => r = p.cs ∧ p.name.size ≤ 9223372036854775807) rows (fun r hr => map_of (hel r hr).1 (hel r hr).2)
  refine ⟨ps, by omega, hn, crd_map Mp.cs hrd hm (fun j r e => by obtain ⟨x, h1, h2, _⟩ := hr j r e; exact ⟨x, h1, h2⟩), fun p hp => ?_⟩
  obtain ⟨j, hj⟩ := List.getElem?_of_mem hp
  obtain ⟨r, hrr⟩ := at_of hm hj
  obtain ⟨x, h1, _, h3⟩ := hr j r hrr
  rw [hj] at h1; cases h1; exact h3
end
end Go.Proofs.Ytmhjnfibpngpmaa

namespace Go.Proofs.Ytmhjnfibpngpmaa
set_option maxRecDepth 100000
open Go.RowKit Go.Deep Go.Shelf
set_option linter.unusedVariables false
set_option linter.unusedSimpArgs false

theorem heap_set_at {w : World} {b : Nat} {c : Array Value} {e : TypeId} {f : Nat × Nat} (h : w.heap[b]? = some (.cells c e f)) (i : Nat) (u : Value) :
    (w.setCell ⟨b, i, none⟩ u).heap[b]? = some (.cells (c.setIfInBounds i u) e f) := by
  simp [World.setCell, Array.getElem?_modify, h]
theorem belowCell {w w' : World} {B b o : Nat} {v : Value} (h : w.cell? ⟨b, o, none⟩ = some v) (hB : w.heap.size ≤ B) (k : Below B w w') : w'.cell? ⟨b, o, none⟩ = some v := by
  have hb : b < w.heap.size := World.block_lt_of_cell? w _ h
  exact (k.cell (p := ⟨b, o, none⟩) (by show b < B; omega)).trans h
theorem lt_of_heap {w : World} {b : Nat} {o : Obj} (h : w.heap[b]? = some o) : b < w.heap.size := (Array.getElem?_eq_some_iff.1 h).1

def iv (xs : List Int) : List Value := xs.map fun x => .int .i64 x
structure GRow (w : World) (B : Nat) (a : Option Addr) (n cap : Nat) (xs : List Int) : Prop where
  n1 : n = xs.length
  nc : n ≤ cap
  at' : ∀ x : Addr, a = some x → ∃ g, x = ⟨g, 0, none⟩ ∧ B ≤ g ∧ g < w.heap.size
  ct : 0 < cap → ∃ g cur, a = some ⟨g, 0, none⟩ ∧ w.heap[g]? = some (.cells cur 3 (0, 0)) ∧ cap ≤ cur.size ∧ cur.toList.take n = iv xs
theorem GRow.nil (w : World) (B : Nat) : GRow w B none 0 0 [] := ⟨rfl, Nat.le_refl _, fun x e => (by cases e), fun h => (by omega)⟩
theorem GRow.keep {w w' : World} {B : Nat} {a : Option Addr} {n cap : Nat} {xs : List Int} (h : GRow w B a n cap xs) (hs : w.heap.size ≤ w'.heap.size) (e : ∀ x : Addr, a = some x → w'.heap[x.block]? = w.heap[x.block]?) : GRow w' B a n cap xs := by
  refine ⟨h.n1, h.nc, fun x ex => ?_, fun hc => ?_⟩
  · obtain ⟨g, h1, h2, h3⟩ := h.at' x ex
    exact ⟨g, h1, h2, by omega⟩
  · obtain ⟨g, cur, rfl, h2, h3⟩ := h.ct hc
    exact ⟨g, cur, rfl, (e _ rfl).trans h2, h3⟩
theorem GRow.below {w w' : World} {B C : Nat} {a : Option Addr} {n cap : Nat} {xs : List Int} (h : GRow w B a n cap xs) (hC : w.heap.size ≤ C) (hb : Below C w w') : GRow w' B a n cap xs :=
  h.keep hb.size (fun x ex => by
    obtain ⟨g, rfl, h2, h3⟩ := h.at' x ex
    exact hb.block _ (by show g < C; omega))
theorem GRow.cell {w : World} {B : Nat} {a : Option Addr} {n cap : Nat} {xs : List Int} (h : GRow w B a n cap xs) {j : Nat} {x : Int} (hj : xs[j]? = some x) : ∃ g, a = some ⟨g, 0, none⟩ ∧ B ≤ g ∧ w.cell? ⟨g, j, none⟩ = some (.int .i64 x) ∧ w.frozen? ⟨g, j, none⟩ = false := by
  have hlt := (List.getElem?_eq_some_iff.1 hj).1
  have hc : 0 < cap := by have := h.n1; have := h.nc; omega
  obtain ⟨g, cur, rfl, h2, h3, h4⟩ := h.ct hc
  obtain ⟨g', e, hB, _⟩ := h.at' _ rfl
  cases e
  refine ⟨g, rfl, hB, ?_, freeOf h2 j⟩
  rw [cellOf h2 j]
  have h5 : (iv xs)[j]? = some (.int .i64 x) := by unfold iv; rw [List.getElem?_map, hj]; rfl
  rw [← h5, ← h4, List.getElem?_take, if_pos (by have := h.n1; omega)]
  simp
theorem GRow.set {w : World} {B : Nat} {n cap : Nat} {xs : List Int} {g : Nat} (h : GRow w B (some ⟨g, 0, none⟩) n cap xs) (j : Nat) (hj : j < n) (v : Int) : GRow (w.setCell ⟨g, j, none⟩ (.int .i64 v)) B (some ⟨g, 0, none⟩) n cap (xs.set j v) := by
  refine ⟨by rw [List.length_set]; exact h.n1, h.nc, fun x ex => ?_, fun hc => ?_⟩
  · obtain ⟨g', h1, h2, h3⟩ := h.at' x ex
    exact ⟨g', h1, h2, by simp [World.setCell]; omega⟩
  · obtain ⟨g', cur, e, h2, h3, h4⟩ := h.ct hc
    cases e
    refine ⟨g, _, rfl, heap_set_at h2 j (.int .i64 v), by simpa using h3, ?_⟩
    rw [Array.toList_setIfInBounds, List.take_set, h4]
    unfold iv
    rw [List.map_set]
theorem info3 : (Try.prog.info? 3).map (fun i => (i.zero, i.size, i.bytes)) = some (some (.int .i64 0), 1, 8) := by kernel_rfl
theorem GRow.of_owns {w : World} {B : Nat} {v : Value} {n : Nat} {xs : List Int} (h : w.ownsRow B 3 1 v n (iv xs)) (hn : 0 < n) : ∃ g cap, v = .slice (some ⟨g, 0, none⟩) n cap ∧ B ≤ g ∧ GRow w B (some ⟨g, 0, none⟩) n cap xs := by
  have hl := h.1
  rcases h.2 with ⟨_, h0⟩ | ⟨g, cap, cur, rfl, hb, hgg, hc, hm, hs, ht⟩
  · omega
  · refine ⟨g, cap, rfl, hb, ⟨by unfold iv at hl; rw [List.length_map] at hl; omega, hc, fun x ex => ?_, fun _ => ⟨g, cur, rfl, hgg, by omega, by rw [Nat.mul_one] at ht; exact ht⟩⟩⟩
    cases ex
    exact ⟨g, rfl, hb, (Array.getElem?_eq_some_iff.1 hgg).1⟩
theorem GRow.cells {w : World} {B : Nat} {ad : Addr} {n cap : Nat} {xs : List Int} (h : GRow w B (some ad) n cap xs) (d : Nat) : ∀ j u, (iv (xs.drop d))[j]? = some u → w.cell? ((ad.add d).add j) = some u := by
  intro j u hu
  unfold iv at hu
  rw [List.getElem?_map, Option.map_eq_some_iff] at hu
  obtain ⟨x, hx, rfl⟩ := hu
  rw [List.getElem?_drop] at hx
  obtain ⟨g, e, _, hc, _⟩ := h.cell hx
  cases e
  rw [Addr.add_lit, Addr.add_lit, Nat.zero_add]
  exact hc
/- What append leaves: a row, in place or new. -/
def Gwn (w : World) (a : Option Addr) (w' : World) (a' : Option Addr) : Prop := (∃ row, w.grownBy w' row ∧ ∀ b, row = some b → ∃ x : Addr, a = some x ∧ x.block = b) ∧ (a' = a ∨ ∃ g, a' = some ⟨g, 0, none⟩ ∧ w.heap.size ≤ g)
theorem run_app1 (w : World) (ty : TypeId) (B : Nat) (a : Option Addr) (n cap : Nat) (xs : List Int) (x : Int) (q : Nat) (h : GRow w B a n cap xs) (hq : w.heap[q]? = some (.cells #[.int .i64 x] 3 (0, 0))) (hn : n ≤ 1000000) (hB : B ≤ w.heap.size) :
    ∃ a' cap' w', (Builtin.append_ #[37, 37] ty #[.slice a n cap, .slice (some ⟨q, 0, none⟩) 1 1]).run Try.prog w = .ok (.slice a' (n + 1) cap') w' ∧ GRow w' B a' (n + 1) cap' (xs ++ [x]) ∧ Gwn w a w' a' := by
  obtain ⟨i0, hi, hz0, hz1, hz2⟩ := info_parts info3
  have hnews : ∀ j u, [Value.int .i64 x][j]? = some u → w.cell? ((⟨q, 0, none⟩ : Addr).add j) = some u := by
    intro j u hu
    exact World.news_of_block hq j u (by simpa using hu)
  by_cases hroom : n + 1 ≤ cap
  · obtain ⟨g, cur, rfl, h2, h3, h4⟩ := h.ct (by omega)
    have hlt : n < cur.size := by omega
    have hr := run_append_room_cells (P := Try.prog) w 37 ty 3 i0 Try.underlying37 hi g 0 n cap ⟨q, 0, none⟩ 1 1 [.int .i64 x] (by rw [hz1]; rfl) hnews (by intro u hu; simp at hu; subst hu; rfl) hroom (by
      intro j hj
      have hj0 : j = 0 := by simpa using hj
      subst hj0
      rw [hz1, cellOf h2]
      simp; omega) (by intro j _; exact freeOf h2 _)
    rw [hz1] at hr
    refine ⟨_, _, _, hr, ?_, ⟨some g, ?_, fun b e => ⟨_, rfl, by cases e; rfl⟩⟩, .inl rfl⟩
    · have hh : (w.setCells g (0 + n * 1) [.int .i64 x]) = w.setCell ⟨g, n, none⟩ (.int .i64 x) := by
        simp [World.setCells]
      rw [hh]
      refine ⟨by rw [List.length_append, h.n1]; rfl, hroom, fun y ey => ?_, fun _ => ⟨g, _, rfl, heap_set_at h2 n (.int .i64 x), by simpa using (by omega), ?_⟩⟩
      · obtain ⟨g', e1, e2, e3⟩ := h.at' y ey
        exact ⟨g', e1, e2, by simp [World.setCell]; omega⟩
      · rw [Array.toList_setIfInBounds]
        unfold iv at h4 ⊢
        rw [List.map_append, ← h4]
        rw [List.take_add_one, List.take_set_of_le (Nat.le_refl _)]
        rw [List.getElem?_set_self (by simpa using hlt)]
        rfl
    · have hh : (w.setCells g (0 + n * 1) [.int .i64 x]) = w.setCell ⟨g, n, none⟩ (.int .i64 x) := by
        simp [World.setCells]
      rw [hh]
      exact ⟨rfl, rfl, rfl, by simp [World.setCell], fun i hi hne => Below.heap_setCell _ _ _ _ (fun e => hne (by rw [e]))⟩
  · have hcap : cap = n := by have := h.nc; omega
    cases a with
    | none =>
      have hc0 : cap = 0 := by
        rcases Nat.eq_zero_or_pos cap with h0 | h0
        · exact h0
        · obtain ⟨g, cur, e, _⟩ := h.ct h0; cases e
      have hn0 : n = 0 := by omega
      have hxs : xs = [] := List.eq_nil_of_length_eq_zero (by rw [← h.n1]; exact hn0)
      subst hc0
      subst hn0
      subst hxs
      obtain ⟨v', w', hrun, hown, hgr, _, hat⟩ := run_append_own_at (P := Try.prog) w B 37 ty 3 i0 (.int .i64 0) 1 8 Try.underlying37 hi hz0 hz1 hz2 rfl (by decide) (.slice none 0 0) 0 [] (World.ownsRow_nil _ _ _ _) ⟨q, 0, none⟩ 1 1 [.int .i64 x] rfl hnews (by intro u hu; simp at hu; subst hu; rfl) (by unfold maxLen; omega) (by omega) hB
      obtain ⟨g, cap', rfl, hg1, hg2⟩ := GRow.of_owns (xs := [x]) (by simpa [iv] using hown) (by omega)
      refine ⟨_, _, _, hrun, hg2, ⟨none, hgr, fun b e => by cases e⟩, .inr ⟨g, rfl, ?_⟩⟩
      rcases hat with h1 | h1
      · cases h1
      · cases h1; exact Nat.le_refl _
    | some ad =>
      have hro := run_append_arg_grows (P := Try.prog) w 37 ty 3 i0 (.int .i64 0) 1 8 Try.underlying37 hi hz0 hz1 hz2 rfl (by decide) ad n cap (iv xs) (by unfold iv; rw [List.length_map, ← h.n1, Nat.mul_one]) (by
        have := h.cells 0
        obtain ⟨g, e, _⟩ := h.at' _ rfl
        subst e
        simpa [Addr.add_lit] using this) ⟨q, 0, none⟩ 1 1 [.int .i64 x] rfl hnews (by omega) (by unfold maxLen; omega) (by omega)
      obtain ⟨v', w', hrun, hown, hgr⟩ := hro
      obtain ⟨g, cap', rfl, hg1, hg2⟩ := GRow.of_owns (xs := xs ++ [x]) (by simpa [iv] using hown) (by omega)
      refine ⟨_, _, _, hrun, ⟨hg2.n1, hg2.nc, fun y ey => ?_, hg2.ct⟩, ⟨none, hgr, fun b e => by cases e⟩, .inr ⟨g, rfl, hg1⟩⟩
      obtain ⟨g', e1, e2, e3⟩ := hg2.at' y ey
      exact ⟨g', e1, by omega, e3⟩
theorem f_wpList_app1 {ops : Array Oper} {rest : List Oper} {o : Oper} {a : Act} {Q : Exit → Act → World → Prop} (w : World) (hgd : o.guard = none) (s x : Operand)
    (ho : o.op = .call { callee := .builtin .append, args := #[s, x], argTypes := #[37, 37] }) (v : Option Addr) (n cap : Nat) (y : Int) (hs : a.eval s = .slice v n cap) (hx : a.eval x = .slice (some ⟨w.heap.size, 0, none⟩) 1 1)
    (B : Nat) (xs : List Int) (hr : GRow w B v n cap xs) (hn : n ≤ 1000000) (hB : B ≤ w.heap.size)
    (k : ∀ v' cap' w', GRow w' B v' (n + 1) cap' (xs ++ [y]) → Gwn (w.alloc (.cells #[.int .i64 y] 3)) v w' v' → wpList Try.prog ops Q rest (a.put o.dst (.slice v' (n + 1) cap')) w') :
    wpList Try.prog ops Q (o :: rest) a (w.alloc (.cells #[.int .i64 y] 3)) := by
  refine wpList_plain hgd fun K hK => ?_
  obtain ⟨v', c', w', hrun, h2, h3⟩ := run_app1 _ o.type B v n cap xs y w.heap.size (hr.below (Nat.le_refl _) ((Below.refl _ w).alloc (Nat.le_refl _) _)) (heap_alloc_new w _) hn (by simp; omega)
  unfold Oper.wp execOp
  simp only [ho, resolve, invoke, builtin, Sem.run_bind, Sem.run_pure, Result.andThen_ok, List.map_toArray, List.map_cons, List.map_nil, hs, hx, hrun]
  exact hK _ _ (k v' c' w' h2 h3)
end Go.Proofs.Ytmhjnfibpngpmaa

namespace Go.Proofs.Ytmhjnfibpngpmaa
set_option maxRecDepth 100000
open Go.RowKit Go.Deep Go.Shelf
set_option linter.unusedVariables false
set_option linter.unusedSimpArgs false

/- Reached from 0 by the ways. -/
def Rch (ways : Nat → List Nat) (x : Nat) : Prop := ∀ p : Nat → Prop, p 0 → (∀ i t, p i → t ∈ ways i → p t) → p x
theorem Rch.zero {ways : Nat → List Nat} : Rch ways 0 := fun p h _ => h
theorem Rch.step {ways : Nat → List Nat} {i t : Nat} (h : Rch ways i) (ht : t ∈ ways i) : Rch ways t := fun p h0 hs => hs i t (h p h0 hs) ht
theorem rch_sub {ways : Nat → List Nat} {p : Nat → Prop} (h0 : p 0) (hs : ∀ i t, p i → t ∈ ways i → p t) : ∀ x, Rch ways x → p x := fun x h => h p h0 hs
/- Lists without repeats are not long. -/
theorem nodup_le : ∀ (n : Nat) (l : List Nat), l.Nodup → (∀ x ∈ l, x < n) → l.length ≤ n
  | 0, l, _, h => by
    cases l with
    | nil => exact Nat.le_refl _
    | cons x t => have := h x (List.mem_cons_self ..); omega
  | n + 1, l, hn, h => by
    have hl : (l.erase n).length ≤ n := nodup_le n (l.erase n) (hn.erase n) fun x hx => by
      have h1 := (List.Nodup.mem_erase_iff hn).1 hx
      have h2 := h x h1.2
      have := h1.1
      omega
    have := List.length_erase (a := n) (l := l)
    split at this <;> omega
/- Marks. -/
def mk (cnt : Nat) (P : List Nat) : Array Value := ((List.range cnt).map fun i => Value.bool (decide (i ∈ P))).toArray
theorem mk_size (cnt : Nat) (P : List Nat) : (mk cnt P).size = cnt := by simp [mk]
theorem mk_get {cnt : Nat} {P : List Nat} {i : Nat} (h : i < cnt) : (mk cnt P)[i]? = some (.bool (decide (i ∈ P))) := by
  simp [mk, h]
theorem mk_nil (cnt : Nat) : mk cnt [] = (List.replicate cnt (.bool false)).toArray := by
  unfold mk
  congr 1
  apply List.ext_getElem?
  intro i
  by_cases h : i < cnt
  · simp [h, List.getElem?_replicate]
  · simp [h, List.getElem?_replicate]
theorem mk_snoc {cnt : Nat} (P : List Nat) {x : Nat} (h : x < cnt) : (mk cnt P).setIfInBounds x (.bool true) = mk cnt (P ++ [x]) := by
  apply Array.ext_getElem?
  intro i
  rw [Array.getElem?_setIfInBounds, mk_size]
  by_cases hi : i < cnt
  · rw [mk_get hi, mk_get hi]
    by_cases e : x = i
    · subst e; simp [h]
    · have : ¬ i = x := fun k => e k.symm
      simp [e, this]
  · have h1 : (mk cnt P)[i]? = none := by simp [mk, hi]
    have h2 : (mk cnt (P ++ [x]))[i]? = none := by simp [mk, hi]
    rw [h1, h2, if_neg (by omega)]
/- What a walk has come to: P all that was handed on, op what is still to be gone from. -/
structure Good (cnt : Nat) (ways : Nat → List Nat) (P op : List Nat) : Prop where
  nod : P.Nodup
  z : 0 ∈ P
  rch : ∀ x ∈ P, Rch ways x
  lt : ∀ x ∈ P, x < cnt
  o : ∀ x ∈ op, x ∈ P
  cl : ∀ x ∈ P, x ∉ op → ∀ t ∈ ways x, t ∈ P
theorem Good.start {cnt : Nat} {ways : Nat → List Nat} (h : 0 < cnt) : Good cnt ways [0] [0] :=
  ⟨by simp, by simp, fun x hx => by simp at hx; subst hx; exact .zero, fun x hx => by simp at hx; omega, fun x hx => hx, fun x hx hn => absurd hx hn⟩
theorem Good.fin {cnt : Nat} {ways : Nat → List Nat} {P : List Nat} (h : Good cnt ways P []) : ∀ x, x ∈ P ↔ Rch ways x :=
  fun x => ⟨h.rch x, fun hx => rch_sub (p := fun x => x ∈ P) h.z (fun i t hi ht => h.cl i hi (by simp) t ht) x hx⟩
/- Within: from is gone from, its first j ways have been handed on. -/
structure Goin (cnt : Nat) (ways : Nat → List Nat) (from' j : Nat) (P op : List Nat) : Prop where
  nod : P.Nodup
  z : 0 ∈ P
  rch : ∀ x ∈ P, Rch ways x
  lt : ∀ x ∈ P, x < cnt
  o : ∀ x ∈ op, x ∈ P
  f : from' ∈ P
  cl : ∀ x ∈ P, x ∉ op → x ≠ from' → ∀ t ∈ ways x, t ∈ P
  d : ∀ t ∈ (ways from').take j, t ∈ P
theorem Good.pop {cnt : Nat} {ways : Nat → List Nat} {P op : List Nat} {x : Nat} (h : Good cnt ways P (op ++ [x])) : Goin cnt ways x 0 P op :=
  ⟨h.nod, h.z, h.rch, h.lt, fun y hy => h.o y (by simp [hy]), h.o x (by simp), fun y hy hn hx => h.cl y hy (by simp [hn, hx]), fun t ht => by simp at ht⟩
theorem Goin.skip {cnt from' j t : Nat} {ways : Nat → List Nat} {P op : List Nat} (h : Goin cnt ways from' j P op) (ht : (ways from')[j]? = some t) (hp : t ∈ P) : Goin cnt ways from' (j + 1) P op :=
  ⟨h.nod, h.z, h.rch, h.lt, h.o, h.f, h.cl, fun u hu => by
    rw [List.take_add_one, ht] at hu
    rcases List.mem_append.1 hu with hu | hu
    · exact h.d u hu
    · simp at hu; subst hu; exact hp⟩
theorem Goin.take {cnt from' j t : Nat} {ways : Nat → List Nat} {P op : List Nat} (h : Goin cnt ways from' j P op) (ht : (ways from')[j]? = some t) (hp : t ∉ P) (hlt : t < cnt) : Goin cnt ways from' (j + 1) (P ++ [t]) (op ++ [t]) := by
  have hm := List.mem_of_getElem? ht
  refine ⟨?_, by simp [h.z], ?_, ?_, ?_, by simp [h.f], ?_, ?_⟩
  · rw [List.nodup_append]
    exact ⟨h.nod, by simp, fun a ha b hb => by simp at hb; subst hb; intro e; subst e; exact hp ha⟩
  · intro x hx
    rcases List.mem_append.1 hx with hx | hx
    · exact h.rch x hx
    · simp at hx; subst hx; exact .step (h.rch _ h.f) hm
  · intro x hx
    rcases List.mem_append.1 hx with hx | hx
    · exact h.lt x hx
    · simp at hx; subst hx; exact hlt
  · intro x hx
    rcases List.mem_append.1 hx with hx | hx
    · exact List.mem_append.2 (.inl (h.o x hx))
    · exact List.mem_append.2 (.inr hx)
  · intro x hx hn hf u hu
    rcases List.mem_append.1 hx with hx | hx
    · exact List.mem_append.2 (.inl (h.cl x hx (fun k => hn (List.mem_append.2 (.inl k))) hf u hu))
    · exact absurd (List.mem_append.2 (.inr hx)) hn
  · intro u hu
    rw [List.take_add_one, ht] at hu
    rcases List.mem_append.1 hu with hu | hu
    · exact List.mem_append.2 (.inl (h.d u hu))
    · simp at hu; subst hu; simp
theorem Goin.done {cnt from' : Nat} {ways : Nat → List Nat} {P op : List Nat} (h : Goin cnt ways from' (ways from').length P op) : Good cnt ways P op :=
  ⟨h.nod, h.z, h.rch, h.lt, h.o, fun x hx hn t ht => by
    by_cases e : x = from'
    · subst e; exact h.d t (by rw [List.take_of_length_le (Nat.le_refl _)]; exact ht)
    · exact h.cl x hx hn e t ht⟩
theorem Goin.room {cnt from' j t : Nat} {ways : Nat → List Nat} {P op : List Nat} (h : Goin cnt ways from' j P op) (hp : t ∉ P) (hlt : t < cnt) : P.length < cnt := by
  have := nodup_le cnt (P ++ [t]) (by
    rw [List.nodup_append]
    exact ⟨h.nod, by simp, fun a ha b hb => by simp at hb; subst hb; intro e; subst e; exact hp ha⟩) (fun x hx => by
    rcases List.mem_append.1 hx with hx | hx
    · exact h.lt x hx
    · simp at hx; omega)
  simp at this; omega
end Go.Proofs.Ytmhjnfibpngpmaa

namespace Go.Proofs.Ytmhjnfibpngpmaa
set_option maxRecDepth 100000
open Go.RowKit Go.Deep Go.Shelf
set_option linter.unusedVariables false
set_option linter.unusedSimpArgs false

theorem wpIn_scope_wide {P : Program} {n : Nat} {c : Code} {Q : Exit → Act → World → Prop} {a : Act} {w : World} (h : c.wpIn Fence.wide n P (Exit.noGoto Q) a w) : (Code.scope c).wpIn Fence.wide n P Q a w :=
  wpIn_wide.2 (wp_scope_straight ((wpIn_wide (n := n)).1 h))
/- What a round keeps: all below, and all cells but those of two blocks. -/
def KW (n₀ L T : Nat) (W W' : World) : Prop := Below n₀ W W' ∧ ∀ b c t f, b ≠ L → b ≠ T → W.heap[b]? = some (.cells c t f) → W'.heap[b]? = some (.cells c t f)
theorem KW_t {n₀ L T : Nat} {A B C : World} (h : KW n₀ L T A B) (k : KW n₀ L T B C) : KW n₀ L T A C := ⟨h.1.trans k.1, fun b c t f h1 h2 h3 => k.2 b c t f h1 h2 (h.2 b c t f h1 h2 h3)⟩
theorem KW_b {n₀ L T : Nat} {w : World} (hn : n₀ ≤ w.heap.size) (W : World) (l : Nat) (o o' : Obj) (hl : w.heap.size ≤ l) (h : W.heap[l]? = some o) (hc : o.isCells = false) (hw : o.isWalk = false) : KW n₀ L T W (W.putObj l o') :=
  ⟨belowK_b hn W l o o' hl h hc hw, fun b c t f h1 h2 h3 => ((grownBy_putObj' W l o').block b (lt_of_heap h3) (fun e => by
    cases e
    rw [h] at h3
    cases h3
    simp [Obj.isCells] at hc)).trans h3⟩
theorem below_grown {W W' : World} (h : Below W.heap.size W W') : W.grownBy W' none := ⟨h.os, h.tape, h.output, h.size, fun i hi _ => h.block i hi⟩
theorem GRow.kw {w w' : World} {B n₀ L T : Nat} {a : Option Addr} {n cap : Nat} {xs : List Int} (h : GRow w B a n cap xs) (k : KW n₀ L T w w') (hL : L < B) (hT : T < B) : GRow w' B a n cap xs := by
  refine ⟨h.n1, h.nc, fun x ex => ?_, fun hc => ?_⟩
  · obtain ⟨g, h1, h2, h3⟩ := h.at' x ex
    exact ⟨g, h1, h2, Nat.lt_of_lt_of_le h3 k.1.size⟩
  · obtain ⟨g, cur, rfl, h2, h3⟩ := h.ct hc
    obtain ⟨g', e, hB, _⟩ := h.at' _ rfl
    cases e
    exact ⟨g, cur, rfl, k.2 _ _ _ _ (by omega) (by omega) h2, h3⟩
theorem GRow.cut {w : World} {B : Nat} {a : Option Addr} {n cap : Nat} {xs : List Int} {x : Int} (h : GRow w B a (n + 1) cap (xs ++ [x])) : GRow w B a n cap xs := by
  have hl : n = xs.length := by have := h.n1; simp at this; exact this
  refine ⟨hl, by have := h.nc; omega, h.at', fun hc => ?_⟩
  obtain ⟨g, cur, e, h2, h3, h4⟩ := h.ct hc
  refine ⟨g, cur, e, h2, h3, ?_⟩
  have := congrArg (List.take n) h4
  rw [List.take_take, Nat.min_eq_left (by omega)] at this
  rw [this]
  unfold iv
  rw [List.map_append, List.take_append_of_le_length (by simp [hl]), List.take_of_length_le (by simp [hl])]
/- The walk's own memory. -/
structure WkR (w0 : World) (C1 C2 SB cnt : Nat) (V : Value) (P : List Nat) (wr : World) : Prop where
  b : Below w0.heap.size w0 wr
  c1 : wr.heap[C1]? = some (.cells #[.int .i64 (cnt : Int)] 3 (0, 0))
  c2 : wr.heap[C2]? = some (.cells #[V] 157 (0, 0))
  s : wr.heap[SB]? = some (.cells (mk cnt P) 4 (0, 0))
theorem WkR.kw {w0 : World} {C1 C2 SB cnt L T : Nat} {V : Value} {P : List Nat} {wr w' : World} (h : WkR w0 C1 C2 SB cnt V P wr) (k : KW w0.heap.size L T wr w') (h1 : C1 ≠ L) (h2 : C1 ≠ T) (h3 : C2 ≠ L) (h4 : C2 ≠ T) (h5 : SB ≠ L) (h6 : SB ≠ T) : WkR w0 C1 C2 SB cnt V P w' :=
  ⟨h.b.trans k.1, k.2 _ _ _ _ h1 h2 h.c1, k.2 _ _ _ _ h3 h4 h.c2, k.2 _ _ _ _ h5 h6 h.s⟩
theorem WkR.below {w0 : World} {C1 C2 SB cnt : Nat} {V : Value} {P : List Nat} {wr w' : World} (h : WkR w0 C1 C2 SB cnt V P wr) (k : Below wr.heap.size wr w') : WkR w0 C1 C2 SB cnt V P w' :=
  ⟨h.b.trans (k.mono h.b.size), (k.block _ (lt_of_heap h.c1)).trans h.c1, (k.block _ (lt_of_heap h.c2)).trans h.c2, (k.block _ (lt_of_heap h.s)).trans h.s⟩
theorem WkR.set {w0 : World} {C1 C2 SB cnt x : Nat} {V : Value} {P : List Nat} {wr : World} (h : WkR w0 C1 C2 SB cnt V P wr) (hx : x < cnt) (h1 : C1 ≠ SB) (h2 : C2 ≠ SB) (h3 : w0.heap.size ≤ SB) : WkR w0 C1 C2 SB cnt V (P ++ [x]) (wr.setCell ⟨SB, x, none⟩ (.bool true)) :=
  ⟨h.b.setCell (p := ⟨SB, x, none⟩) h3 _, (Below.heap_setCell _ _ _ _ h1).trans h.c1, (Below.heap_setCell _ _ _ _ h2).trans h.c2, by rw [heap_set_at h.s, mk_snoc P hx]⟩
theorem WkR.grown {w0 : World} {C1 C2 SB cnt : Nat} {V : Value} {P : List Nat} {wr w' : World} {row : Option Nat} (h : WkR w0 C1 C2 SB cnt V P wr) (k : wr.grownBy w' row) (hr : ∀ b, row = some b → w0.heap.size ≤ b ∧ b ≠ C1 ∧ b ≠ C2 ∧ b ≠ SB) : WkR w0 C1 C2 SB cnt V P w' := by
  have hb : ∀ j, j < wr.heap.size → (∀ b, row = some b → b ≠ j) → w'.heap[j]? = wr.heap[j]? := fun j hj hn => k.block j hj (fun e => by exact hn j e.symm rfl)
  refine ⟨⟨k.os.trans h.b.os, k.tape.trans h.b.tape, k.output.trans h.b.output, Nat.le_trans h.b.size k.size, fun j hj => ?_⟩, ?_, ?_, ?_⟩
  · exact (hb j (Nat.lt_of_lt_of_le hj h.b.size) (fun b e => by have := (hr b e).1; omega)).trans (h.b.block j hj)
  · exact (hb _ (lt_of_heap h.c1) (fun b e => (hr b e).2.1)).trans h.c1
  · exact (hb _ (lt_of_heap h.c2) (fun b e => (hr b e).2.2.1)).trans h.c2
  · exact (hb _ (lt_of_heap h.s) (fun b e => (hr b e).2.2.2)).trans h.s
/- A row of numbers, told. -/
def ofN (l : List Nat) : List Int := l.map fun (x : Nat) => (x : Int)
theorem ofN_len (l : List Nat) : (ofN l).length = l.length := by simp [ofN]
theorem ofN_get {l : List Nat} {j x : Nat} (h : l[j]? = some x) : (ofN l)[j]? = some (x : Int) := by simp [ofN, h]
theorem ofN_snoc (l : List Nat) (x : Nat) : ofN (l ++ [x]) = ofN l ++ [(x : Int)] := by simp [ofN]
def vals {cnt : Nat} (pre : List (Fin cnt)) : List Nat := pre.map fun x => x.val
theorem vals_snoc {cnt : Nat} (pre : List (Fin cnt)) (x : Fin cnt) : vals (pre ++ [x]) = vals pre ++ [x.val] := by simp [vals]
theorem vals_len {cnt : Nat} (pre : List (Fin cnt)) : (vals pre).length = pre.length := by simp [vals]
def f_encF {cnt : Nat} (x : Fin cnt) : Array Value := #[.int .i64 (x.val : Int)]
theorem info4 : (Try.prog.info? 4).map (fun i => (i.zero, i.size, i.bytes)) = some (some (.bool false), 1, 1) := by kernel_rfl
theorem made_b (n : Nat) : madeCells (Value.bool false).cells (n * 1) = (List.replicate n (Value.bool false)).toArray := by
  have := toList_madeCells_one (.bool false) n
  rw [Nat.mul_one]
  exact Array.toList_inj.1 (by rw [List.toList_toArray]; exact this)
theorem run_mkB (w : World) (n : Nat) (h : n ≤ 1000000) : (Instr.makeSlice 59 (.int .i64 (n : Int)) (.int .i64 (n : Int))).run Try.prog w = .ok (.slice (some ⟨w.heap.size, 0, none⟩) n n) (w.alloc (.cells (mk n []) 4)) := by
  obtain ⟨i0, hi, hz0, hz1, hz2⟩ := info_parts info4
  have := run_make (P := Try.prog) w 59 4 i0 (.bool false) Try.underlying59 hi hz0 .i64 .i64 (n : Int) (n : Int) (by omega) (Int.le_refl _) (by rw [hz2]; omega) (by omega)
  rw [hz1, Int.toNat_natCast, made_b n] at this
  rw [mk_nil]
  exact this
theorem wpListIn_app1 {F : Fence} {fn : Nat} {ops : Array Oper} {rest : List Oper} {o : Oper} {a : Act} {Q : Exit → Act → World → Prop} (w : World) (hgd : o.guard = none) (s x : Operand)
    (ho : o.op = .call { callee := .builtin .append, args := #[s, x], argTypes := #[37, 37] }) (v : Option Addr) (n cap : Nat) (y : Int) (hs : a.eval s = .slice v n cap) (hx : a.eval x = .slice (some ⟨w.heap.size, 0, none⟩) 1 1)
    (B : Nat) (xs : List Int) (hr : GRow w B v n cap xs) (hn : n ≤ 1000000) (hB : B ≤ w.heap.size)
    (k : ∀ v' cap' w', GRow w' B v' (n + 1) cap' (xs ++ [y]) → Gwn (w.alloc (.cells #[.int .i64 y] 3)) v w' v' → wpListIn F fn Try.prog ops Q rest (a.put o.dst (.slice v' (n + 1) cap')) w') :
    wpListIn F fn Try.prog ops Q (o :: rest) a (w.alloc (.cells #[.int .i64 y] 3)) := by
  refine wpListIn_plain hgd fun K hK => ?_
  obtain ⟨v', c', w', hrun, h2, h3⟩ := run_app1 _ o.type B v n cap xs y w.heap.size (hr.below (Nat.le_refl _) ((Below.refl _ w).alloc (Nat.le_refl _) _)) (heap_alloc_new w _) hn (by simp; omega)
  unfold Oper.wpIn
  refine ⟨?_, ?_⟩
  · simp [Oper.about, ho, resolve, Target.leads, Sem.run_pure]
  · rw [Oper.semAt_plain F _ _ (by rw [ho]; intro c hc'; cases hc')]
    simp [execOp, ho, resolve, invoke, builtin, hs, hx, hrun, Result.andThen]
    exact hK _ _ (k v' c' w' h2 h3)
end Go.Proofs.Ytmhjnfibpngpmaa

namespace Go.Proofs.Ytmhjnfibpngpmaa
set_option maxRecDepth 100000
open Go.RowKit Go.Deep Go.Shelf
set_option linter.unusedVariables false
set_option linter.unusedSimpArgs false
structure Opx where
  c : Int
  d : Int
  a : Int
  b : Int
  k : Int
def Opx.cs (o : Opx) : Array Value := #[.int .i64 o.c, .int .i64 o.d, .int .i64 o.a, .int .i64 o.b, .int .i64 o.k]
def ORd (w : World) (a : Option Addr) (l : List Opx) : Prop := ∀ (j : Nat) (x : Opx), l[j]? = some x → ∃ b off, a = some ⟨b, off, none⟩ ∧ ∀ i, i < 5 → w.cell? ⟨b, off + j * 5 + i, none⟩ = x.cs[i]?
theorem ORd.below {w w' : World} {a : Option Addr} {l : List Opx} (h : ORd w a l) (k : Below w.heap.size w w') : ORd w' a l := fun j x hx => by
  obtain ⟨b, off, e, hc⟩ := h j x hx
  refine ⟨b, off, e, fun i hi => ?_⟩
  obtain ⟨v, hv⟩ : ∃ v, x.cs[i]? = some v := by
    rcases (show i = 0 ∨ i = 1 ∨ i = 2 ∨ i = 3 ∨ i = 4 by omega) with rfl | rfl | rfl | rfl | rfl <;> exact ⟨_, rfl⟩
  have := hc i hi
  rw [hv] at this ⊢
  exact belowCell this (Nat.le_refl _) k
def jmpB (o : Opx) : Bool := o.c == 38 || o.c == 39
set_option maxRecDepth 100000 in
theorem isJump_any (w : World) (c d a b k : Int) : Calls Try.prog 120 #[.agg #[.int .i64 c, .int .i64 d, .int .i64 a, .int .i64 b, .int .i64 k]] w fun e w' => e = .returned (.bool (jmpB ⟨c, d, a, b, k⟩)) ∧ Below w.heap.size w w' := by
  have hb : Below w.heap.size w (w.alloc (.cells #[.int .i64 c, .int .i64 d, .int .i64 a, .int .i64 b, .int .i64 k] 41)) := (Below.refl _ w).alloc (Nat.le_refl _) _
  have HB := hid hb
  clear hb
  unfold jmpB
  cases h1 : (c == 38) with
  | true =>
    go_enter Try.func120, Try.ntmps120
    go_wp2
    go_ret
    exact ⟨rfl, HB.out⟩
  | false =>
    go_enter Try.func120, Try.ntmps120
    go_wp2
    go_ret
    exact ⟨by simp, HB.out⟩
/- Numbers that a slice reads. -/
def IRd (w : World) (a : Option Addr) (l : List Int) : Prop := ∀ (j : Nat) (x : Int), l[j]? = some x → ∃ b off, a = some ⟨b, off, none⟩ ∧ w.cell? ⟨b, off + j, none⟩ = some (.int .i64 x)
theorem GRow.ird {w : World} {B : Nat} {a : Option Addr} {n cap : Nat} {xs : List Int} (h : GRow w B a n cap xs) : IRd w a xs := fun j x hx => by
  obtain ⟨g, e, _, hc, _⟩ := h.cell hx
  exact ⟨g, 0, e, by rw [Nat.zero_add]; exact hc⟩
theorem IRd.below {w w' : World} {a : Option Addr} {l : List Int} (h : IRd w a l) (k : Below w.heap.size w w') : IRd w' a l := fun j x hx => by
  obtain ⟨b, off, e, hc⟩ := h j x hx
  exact ⟨b, off, e, belowCell hc (Nat.le_refl _) k⟩
def wthB (n : Int) (l : List Int) : Bool := l.all fun x => decide (0 ≤ x) && decide (x < n)
set_option maxRecDepth 100000 in
set_option maxHeartbeats 1000000 in
theorem areWithin_any (w : World) (a : Option Addr) (m c : Nat) (l : List Int) (hm : m = l.length) (hmb : m ≤ 1000000) (hr : IRd w a l) (n : Int) : Calls Try.prog 117 #[.slice a m c, .int .i64 n] w fun e w' => e = .returned (.bool (wthB n l)) ∧ Below w.heap.size w w' := by
  have hmI : (m : Int) ≤ 1000000 := by omega
  have HR := hid hr
  have HM := hid hm
  clear hm hr
  go_enter Try.func117, Try.ntmps117
  go_wp2
  go_loopg [9] m (fun g x wr => ∃ j : Nat, j + g = m ∧ x = .int .i64 (j : Int) ∧ wthB n (l.take j) = true ∧ Below w.heap.size w wr)
  case atStart => exact ⟨0, by omega, rfl, by simp [wthB], Below.refl _ _⟩
  case round =>
    obtain ⟨j, hj, rfl, hp, hb⟩ := hrel
    cases gk with
    | zero =>
      have hjm : j = m := by omega
      subst hjm
      have HP : Hid (wthB n l = true) := hid (by rw [HM.out, List.take_of_length_le (Nat.le_refl _)] at hp; exact hp)
      have HB := hid hb
      clear hp hb
      go_wp2
      go_ret
      exact ⟨by rw [HP.out]; rfl, HB.out⟩
    | succ g =>
      obtain ⟨x, hx⟩ : ∃ x, l[j]? = some x := ⟨l[j]'(by have := HM.out; omega), List.getElem?_eq_getElem _⟩
      obtain ⟨b, off, rfl, hc⟩ := HR.out j x hx
      have hc' := belowCell hc (Nat.le_refl _) hb
      have hjI : (j : Int) < (m : Int) := by omega
      have hj0 : (0 : Int) ≤ (j : Int) := by omega
      have ht : l.take (j + 1) = l.take j ++ [x] := by rw [List.take_add_one, hx]; rfl
      have HB := hid hb
      have HX := hid hx
      by_cases hok : 0 ≤ x ∧ x < n
      · have h1 : ¬ x < 0 := by omega
        have h2 : ¬ n ≤ x := by omega
        have HP : Hid (wthB n (l.take (j + 1)) = true) := hid (by
          rw [ht]; unfold wthB at hp ⊢; rw [List.all_append, hp]; simp [hok.1, hok.2])
        clear hp hb hc ht hx hok
        go_wp2
        go_roundg g
        case measure => omega
        exact ⟨j + 1, by omega, by go_num, HP.out, HB.out⟩
      · have HP : Hid (wthB n l = false) := hid (by
          refine Bool.eq_false_iff.2 fun h => hok ?_
          unfold wthB at h
          have := List.all_eq_true.1 h x (List.mem_of_getElem? hx)
          simpa using this)
        clear hp hb hc ht hx
        by_cases h1 : x < 0
        · go_wp2
          go_ret
          exact ⟨by rw [HP.out]; rfl, HB.out⟩
        · have h2 : n ≤ x := by omega
          go_wp2
          go_ret
          exact ⟨by rw [HP.out]; rfl, HB.out⟩
end Go.Proofs.Ytmhjnfibpngpmaa

namespace Go.Proofs.Ytmhjnfibpngpmaa
set_option maxRecDepth 100000
open Go.RowKit Go.Deep Go.Shelf
set_option linter.unusedVariables false
set_option linter.unusedSimpArgs false
theorem GRow.lower {w : World} {B C : Nat} {a : Option Addr} {n cap : Nat} {xs : List Int} (h : GRow w B a n cap xs) (hC : C ≤ B) : GRow w C a n cap xs :=
  ⟨h.n1, h.nc, fun x e => by obtain ⟨g, h1, h2, h3⟩ := h.at' x e; exact ⟨g, h1, by omega, h3⟩, h.ct⟩
theorem below_own {w : World} {B : Nat} (h : B ≤ w.heap.size) (o : Obj) : Below B w (w.alloc o) := (Below.refl _ _).alloc h _
theorem Gwn.below {w w' : World} {a a' : Option Addr} {B : Nat} (h : Gwn w a w' a') (ha : ∀ x : Addr, a = some x → B ≤ x.block) (hB : B ≤ w.heap.size) : Below B w w' := by
  obtain ⟨⟨row, hg, hr⟩, _⟩ := h
  refine ⟨hg.os, hg.tape, hg.output, hg.size, fun j hj => hg.block j (by omega) (fun e => ?_)⟩
  obtain ⟨x, ex, hx⟩ := hr j e.symm
  have := ha x ex
  omega
/- The ways of a function's instructions, told by numbers. -/
theorem ofN_toNat : ∀ (l : List Int), (∀ x ∈ l, 0 ≤ x) → ofN (l.map Int.toNat) = l
  | [], _ => rfl
  | a :: l, h => by
    have h1 := ofN_toNat l (fun x hx => h x (List.mem_cons_of_mem _ hx))
    have h2 := h a (List.mem_cons_self ..)
    unfold ofN at h1 ⊢
    rw [List.map_cons, List.map_cons, h1]
    congr 1
    omega
end Go.Proofs.Ytmhjnfibpngpmaa

namespace Go.Proofs.Ytmhjnfibpngpmaa
set_option maxRecDepth 100000
open Go.RowKit Go.Deep Go.Shelf
set_option linter.unusedVariables false
set_option linter.unusedSimpArgs false
def ocs (l : List Opx) : List Value := l.flatMap fun o => o.cs.toList
theorem ocs_len : ∀ l : List Opx, (ocs l).length = l.length * 5
  | [] => rfl
  | o :: l => by
    have := ocs_len l
    unfold ocs at this ⊢
    rw [List.flatMap_cons, List.length_append, this, List.length_cons]
    have : o.cs.toList.length = 5 := rfl
    omega
theorem ocs_app (l m : List Opx) : ocs (l ++ m) = ocs l ++ ocs m := by unfold ocs; rw [List.flatMap_append]
theorem ocs_get : ∀ (l : List Opx) (j : Nat) (o : Opx), l[j]? = some o → ∀ i, i < 5 → (ocs l)[j * 5 + i]? = o.cs[i]?
  | [], j, o, h => by simp at h
  | p :: l, 0, o, h => fun i hi => by
    simp at h; subst h
    unfold ocs
    rw [List.flatMap_cons, Nat.zero_mul, Nat.zero_add, List.getElem?_append_left (by show i < 5; exact hi)]
    simp
  | p :: l, j + 1, o, h => fun i hi => by
    have h1 : l[j]? = some o := by simpa using h
    have h2 := ocs_get l j o h1 i hi
    unfold ocs at h2 ⊢
    rw [List.flatMap_cons, List.getElem?_append_right (by show 5 ≤ (j + 1) * 5 + i; omega)]
    have : (j + 1) * 5 + i - p.cs.toList.length = j * 5 + i := by show (j + 1) * 5 + i - 5 = _; omega
    rw [this]; exact h2
theorem ocs_of {l : List Opx} {k : Nat} {u : Value} (h : (ocs l)[k]? = some u) : ∃ o i, l[k / 5]? = some o ∧ i < 5 ∧ k = k / 5 * 5 + i ∧ o.cs[i]? = some u := by
  have hk : k < l.length * 5 := by rw [← ocs_len]; exact (List.getElem?_eq_some_iff.1 h).1
  have hj : k / 5 < l.length := by omega
  refine ⟨l[k / 5], k % 5, List.getElem?_eq_getElem hj, by omega, by omega, ?_⟩
  rw [← ocs_get l (k / 5) _ (List.getElem?_eq_getElem hj) (k % 5) (by omega), show k / 5 * 5 + k % 5 = k by omega]
  exact h
theorem ocs_one (l : List Opx) : ∀ u ∈ ocs l, u.oneCell' = true := by
  intro u hu
  unfold ocs at hu
  obtain ⟨o, _, ho⟩ := List.mem_flatMap.1 hu
  simp [Opx.cs] at ho
  rcases ho with rfl | rfl | rfl | rfl | rfl <;> rfl
def OpR (w : World) (B : Nat) (v : Value) (l : List Opx) : Prop := w.ownsRow B 41 5 v l.length (ocs l)
theorem OpR.nil (w : World) (B : Nat) : OpR w B (.slice none 0 0) [] := ⟨rfl, .inl ⟨rfl, rfl⟩⟩
theorem OpR.keep {w w' : World} {B : Nat} {v : Value} {l : List Opx} (h : OpR w B v l) (e : ∀ g, v.ownBlock = some g → w'.heap[g]? = w.heap[g]?) : OpR w' B v l := by
  refine ⟨h.1, ?_⟩
  rcases h.2 with h2 | ⟨g, cap, cur, rfl, h3, h4, h5⟩
  · exact .inl h2
  · exact .inr ⟨g, cap, cur, rfl, h3, (e g rfl).trans h4, h5⟩
theorem OpR.own {w : World} {B : Nat} {v : Value} {l : List Opx} (h : OpR w B v l) {g : Nat} (e : v.ownBlock = some g) : B ≤ g ∧ g < w.heap.size := by
  rcases h.2 with ⟨rfl, _⟩ | ⟨g', cap, cur, rfl, h3, h4, h5⟩
  · cases e
  · cases e; exact ⟨h3, lt_of_heap h4⟩
theorem OpR.below {w w' : World} {B C : Nat} {v : Value} {l : List Opx} (h : OpR w B v l) (hC : w.heap.size ≤ C) (k : Below C w w') : OpR w' B v l := h.keep fun g e => k.block g (by have := (h.own e).2; omega)
theorem OpR.lower {w : World} {B C : Nat} {v : Value} {l : List Opx} (h : OpR w B v l) (hC : C ≤ B) : OpR w C v l := by
  refine ⟨h.1, ?_⟩
  rcases h.2 with h2 | ⟨g, cap, cur, rfl, h3, h4⟩
  · exact .inl h2
  · exact .inr ⟨g, cap, cur, rfl, by omega, h4⟩
theorem OpR.rd {w : World} {B : Nat} {v : Value} {l : List Opx} (h : OpR w B v l) : ∃ a cap, v = .slice a l.length cap ∧ ORd w a l ∧ (a = none → cap = 0) := by
  rcases h.2 with ⟨rfl, h2⟩ | ⟨g, cap, cur, rfl, h3, h4, h5, h6, h7, h8⟩
  · have : l = [] := List.eq_nil_of_length_eq_zero h2
    subst this
    exact ⟨none, 0, rfl, fun j x hx => by simp at hx, fun _ => rfl⟩
  · refine ⟨_, cap, rfl, fun j x hx => ⟨g, 0, rfl, fun i hi => ?_⟩, fun e => by cases e⟩
    have hj := (List.getElem?_eq_some_iff.1 hx).1
    rw [cellOf h4, ← ocs_get l j x hx i hi, ← h8, List.getElem?_take, if_pos (by omega), Nat.zero_add]
    simp
theorem info36 : (Try.prog.info? 41).map (fun i => (i.zero, i.size, i.bytes)) = some (some (.agg #[.int .i64 0, .int .i64 0, .int .i64 0, .int .i64 0, .int .i64 0]), 5, 40) := by kernel_rfl
/- A row of one, just laid. -/
theorem OpR.one (w : World) (o : Opx) : OpR (w.alloc (.cells o.cs 41)) w.heap.size (.slice (some ⟨w.heap.size, 0, none⟩) 1 1) [o] := by
  refine ⟨rfl, .inr ⟨w.heap.size, 1, o.cs, rfl, Nat.le_refl _, heap_alloc_new w _, Nat.le_refl _, by unfold maxLen; omega, rfl, ?_⟩⟩
  show o.cs.toList.take 5 = ocs [o]
  rfl
theorem run_appO (w : World) (ty : TypeId) (B : Nat) (v : Value) (l : List Opx) (h : OpR w B v l) (a : Option Addr) (m c : Nat) (l2 : List Opx) (hm : m = l2.length) (hr : ORd w a l2) (hnil : a = none → c = 0) (hl : l.length ≤ 1000000) (hl2 : m ≤ 1000000) (hB : B ≤ w.heap.size) :
    ∃ v' w', (Builtin.append_ #[60, 60] ty #[v, .slice a m c]).run Try.prog w = .ok v' w' ∧ OpR w' B v' (l ++ l2) ∧ w.grownBy w' v.ownBlock ∧ (v'.ownBlock = v.ownBlock ∨ v'.ownBlock = some w.heap.size) := by
  obtain ⟨i0, hi, hz0, hz1, hz2⟩ := info_parts info36
  cases a with
  | none =>
    have hc0 := hnil rfl
    have hl0 : l2 = [] := by
      cases l2 with
      | nil => rfl
      | cons o r => obtain ⟨b, off, e, _⟩ := hr 0 o rfl; cases e
    subst hl0
    subst hc0
    have hm0 : m = 0 := hm
    subst hm0
    exact ⟨v, w, run_append_owned_none w B 60 ty 41 i0 5 Try.underlying60 hi v l.length (ocs l) h, by rw [List.append_nil]; exact h, ⟨rfl, rfl, rfl, Nat.le_refl _, fun _ _ _ => rfl⟩, .inl rfl⟩
  | some ad =>
    have hcell : ∀ k u, (ocs l2)[k]? = some u → w.cell? (ad.add k) = some u := by
      intro k u hu
      obtain ⟨o, i, ho, hi5, hk, hu'⟩ := ocs_of hu
      obtain ⟨b, off, e, hc⟩ := hr (k / 5) o ho
      cases e
      have := hc i hi5
      rw [hu'] at this
      rw [Addr.add_lit, hk, ← Nat.add_assoc]
      exact this
    obtain ⟨v', w', hrun, hown, hgr, _, hat⟩ := run_append_own_at (P := Try.prog) w B 60 ty 41 i0 _ 5 40 Try.underlying60 hi hz0 hz1 hz2 rfl (by decide) v l.length (ocs l) h ad m c (ocs l2) (by rw [ocs_len, hm]) hcell (ocs_one l2) (by unfold maxLen; omega) (by omega) hB
    refine ⟨v', w', hrun, ?_, hgr, hat⟩
    unfold OpR
    rw [List.length_append, ← hm, ocs_app]
    exact hown
theorem wpList_appO {ops : Array Oper} {rest : List Oper} {o : Oper} {act : Act} {Q : Exit → Act → World → Prop} (w : World) (hgd : o.guard = none) (s x : Operand)
    (ho : o.op = .call { callee := .builtin .append, args := #[s, x], argTypes := #[60, 60] }) (v u : Value) (hs : act.eval s = v) (hx : act.eval x = u) (B : Nat) (l : List Opx) (h : OpR w B v l) (a : Option Addr) (m c : Nat) (hu : u = .slice a m c) (l2 : List Opx) (hm : m = l2.length) (hr : ORd w a l2) (hnil : a = none → c = 0) (hl : l.length ≤ 1000000) (hl2 : m ≤ 1000000) (hB : B ≤ w.heap.size)
    (k : ∀ v' w', OpR w' B v' (l ++ l2) → w.grownBy w' v.ownBlock → (v'.ownBlock = v.ownBlock ∨ v'.ownBlock = some w.heap.size) → wpList Try.prog ops Q rest (act.put o.dst v') w') :
    wpList Try.prog ops Q (o :: rest) act w := by
  refine wpList_plain hgd fun K hK => ?_
  subst hu
  obtain ⟨v', w', hrun, h2, h3, h4⟩ := run_appO w o.type B v l h a m c l2 hm hr hnil hl hl2 hB
  unfold Oper.wp execOp
  simp only [ho, resolve, invoke, builtin, Sem.run_bind, Sem.run_pure, Result.andThen_ok, List.map_toArray, List.map_cons, List.map_nil, hs, hx, hrun]
  exact hK _ _ (k v' w' h2 h3 h4)
/- leap. -/
def lpO (tt nx : Int) : List Opx := if tt = nx then [] else [⟨38, 0, 0, 0, tt⟩]
set_option maxRecDepth 100000 in
theorem leap_any (w : World) (tt nx : Int) : Calls Try.prog 150 #[.int .i64 tt, .int .i64 nx] w fun e w' => ∃ v, e = .returned v ∧ OpR w' w.heap.size v (lpO tt nx) ∧ Below w.heap.size w w' := by
  by_cases h : tt = nx
  · subst h
    have HF : Hid (lpO tt tt = []) := hid (by unfold lpO; rw [if_pos rfl])
    go_enter Try.func150, Try.ntmps150
    go_wp2
    go_ret
    exact ⟨_, rfl, by rw [HF.out]; exact OpR.nil _ _, Below.refl _ _⟩
  · have g : (tt == nx) = false := by simpa using h
    have HF : Hid (lpO tt nx = [⟨38, 0, 0, 0, tt⟩]) := hid (by unfold lpO; rw [if_neg h])
    have HO := hid (OpR.one w ⟨38, 0, 0, 0, tt⟩)
    go_enter Try.func150, Try.ntmps150
    go_wp2
    go_ret
    exact ⟨_, rfl, by rw [HF.out]; exact HO.out, (Below.refl _ _).alloc (Nat.le_refl _) _⟩
end Go.Proofs.Ytmhjnfibpngpmaa

