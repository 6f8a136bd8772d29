/- Programs among the arguments. -/
import Derived.Test.YthnolocldeokeaaGreatJAB
import Derived.Test.YthnolocldeokeaaGreatRows
import Derived.WalkKit
import Derived.WalkSpells
import Derived.WalkLawsBesides
import Derived.Deep.OwnRows
import Derived.Maps.AppendAt
import Derived.Deep.AppendLies
import Derived.Lib.AppendStr
import Derived.Deep.LoopGhost
import Derived.Below
import Derived.RangeFuncNested
import Derived.RangeFuncBound
import Derived.RangeFuncCalls
import Derived.RangeFuncLeaves
import Derived.LoopIn
import Derived.LoopNIn
import Derived.OwnWalkIn
import Derived.TacticsInMore
import Derived.BigRegionIn
import Derived.BigQuiet
import Derived.Deep.RegionHeld3
import Derived.Shelf.RegionOpen
import Derived.Shelf.Abstract
import Derived.Sort.LoopGhostIn
import Derived.Deep.CutBlock
import Derived.Deep.DeepCutAuto
import Derived.ProofKit
import Derived.OpenShut
import Derived.ChangeOld
import Derived.ChangeSlices
import Derived.ChangeMaps5
import Derived.ChangeAt
import Derived.Deep.Slices
import Derived.Sort.CutIn
import Derived.SizedLaws
namespace Go.Proofs.YthnolocldeokeaaGreat
set_option maxRecDepth 100000
open Go.ChangeShapes Go.WideShapes Go.ChangeAt Go.RowKit Go.Deep
set_option linter.unusedVariables false
set_option linter.unusedSimpArgs false

theorem cells28 : Tryz.prog.cellsOf 46 = 2 := by kernel_rfl
theorem cells46 : Tryz.prog.cellsOf 63 = 3 := by kernel_rfl
theorem cells79 : Tryz.prog.cellsOf 67 = 5 := by kernel_rfl
theorem cells48 : Tryz.prog.cellsOf 49 = 4 := by kernel_rfl
theorem cells43 : Tryz.prog.cellsOf 28 = 1 := by kernel_rfl
theorem cells44 : Tryz.prog.cellsOf 47 = 1 := by kernel_rfl
theorem cells22 : Tryz.prog.cellsOf 22 = 1 := by kernel_rfl
theorem cells23 : Tryz.prog.cellsOf 23 = 1 := by kernel_rfl
theorem cells24 : Tryz.prog.cellsOf 24 = 1 := by kernel_rfl
theorem cells26 : Tryz.prog.cellsOf 26 = 4 := by kernel_rfl

section
variable {H : Type} {enc : TypeId × Value → H} {W : World}

def TrdT (enc : TypeId × Value → H) (W : World) (T : TypeId) (cs : List Value) : Prop := ∃ fuel x, DataW.trod enc Tryz.prog W 0 (fun _ => true) true fuel T cs = some x

set_option maxRecDepth 100000 in
theorem rows_of {T E : TypeId} {k : Nat} (hT : Tryz.prog.underlying T = some (.slice E)) (hk : Tryz.prog.cellsOf E = k) (k0 : 0 < k) {a0 : Option Addr} {len cap : Nat} (h : TrdT enc W T [.slice a0 len cap]) :
    ∃ rows : List (List Value), rows.length = len ∧ CRd W a0 k rows ∧ (∀ r ∈ rows, r.length = k ∧ TrdT enc W E r) ∧ len ≤ 9223372036854775807 ∧ len ≤ cap := by
  obtain ⟨fuel, x, hf⟩ := h
  rcases open_slice hT hf with ⟨hcs, _⟩ | ⟨a, l, c, m, n, D, Pl, hcs, _, hl, hm', hm, _, hx⟩
  · simp at hcs
    obtain ⟨rfl, rfl, rfl⟩ := hcs
    exact ⟨[], rfl, fun j x hx => by simp at hx, fun h hh => by simp at hh, by omega, by omega⟩
  · simp at hcs
    obtain ⟨rfl, rfl, rfl⟩ := hcs
    simp at hm
    subst hm
    have hs : ∀ j, j < len → ∃ r : List Value, (∃ b off, some a = some ⟨b, off, none⟩ ∧ b < W.heap.size ∧ ∀ i, i < k → W.cell? ⟨b, off + j * k + i, none⟩ = r[i]?) ∧ r.length = k ∧ TrdT enc W E r := by
      intro j hj
      obtain ⟨cs, h1, h2⟩ := hx j (by omega)
      rw [hk] at h1
      obtain ⟨_, h3, h4⟩ := World.cells?_some h1
      obtain ⟨b, off, spot⟩ := a
      have hc0 : cs[0]? = some (cs[0]'(by omega)) := by rw [List.getElem?_eq_getElem]
      have hcell := (h4 0 k0).trans hc0
      have hspot : spot = none := by
        obtain ⟨cs', h1', h2'⟩ := hx 0 (by omega)
        rw [hk] at h1'
        obtain ⟨_, h3', h4'⟩ := World.cells?_some h1'
        have := World.cell?_spot ((h4' 0 k0).trans (show cs'[0]? = some (cs'[0]'(by omega)) by rw [List.getElem?_eq_getElem]))
        simpa [Addr.add] using this
      subst hspot
      have hb : b < W.heap.size := by
        have := World.block_lt_of_cell? W _ hcell
        simpa [Addr.add_lit] using this
      refine ⟨cs, ⟨b, off, rfl, hb, fun i hi => ?_⟩, h3, _, _, h2⟩
      have := h4 i hi
      simp only [Addr.add_lit] at this
      exact this
    refine ⟨(List.range len).map (fun j => if hj : j < len then Classical.choose (hs j hj) else []), by simp, ?_, ?_, by unfold maxLen at hm'; omega, by omega⟩
    · intro j h hjh
      simp only [List.getElem?_map, Option.map_eq_some_iff] at hjh
      obtain ⟨j', hj', rfl⟩ := hjh
      have hj : j < len := by have := (List.getElem?_eq_some_iff.1 hj').1; simpa using this
      have : j' = j := by simpa [hj] using hj'.symm
      subst this
      simp only [hj, dif_pos]
      exact (Classical.choose_spec (hs j' hj)).1
    · intro h hh
      simp only [List.mem_map, List.mem_range] at hh
      obtain ⟨j, hj, rfl⟩ := hh
      simp only [hj, dif_pos]
      exact (Classical.choose_spec (hs j hj)).2

theorem str_of {c : Value} (h : TrdT enc W 9 [c]) : ∃ s, c = .string s ∧ s.size ≤ 9223372036854775807 := by
  obtain ⟨fuel, x, hf⟩ := h
  obtain ⟨s, e, _, w⟩ := DataW.trod_string Tryz.underlying9 hf
  simp at e
  exact ⟨s, e, by unfold maxLen at w; omega⟩
theorem int_of {c : Value} (h : TrdT enc W 3 [c]) : ∃ n, c = .int .i64 n := by
  obtain ⟨fuel, x, hf⟩ := h
  obtain ⟨n, e, _, w⟩ := DataW.trod_int Tryz.underlying3 hf
  simp at e
  exact ⟨n, e⟩
set_option maxRecDepth 100000 in
theorem slice_of {T E : TypeId} (hT : Tryz.prog.underlying T = some (.slice E)) {c : Value} (h : TrdT enc W T [c]) : ∃ a n cap, c = .slice a n cap := by
  obtain ⟨fuel, x, hf⟩ := h
  rcases open_slice hT hf with ⟨hcs, _⟩ | ⟨a, l, c, m, n', D, Pl, hcs, _, hl, hm', hm, _, hx⟩
  · simp at hcs; exact ⟨_, _, _, hcs⟩
  · simp at hcs; exact ⟨_, _, _, hcs⟩
set_option maxRecDepth 100000 in
theorem type_of {cs : List Value} (hl : cs.length = 2) (h : TrdT enc W 46 cs) : ∃ k r, cs = [.int .i64 k, .int .i64 r] := by
  obtain ⟨fuel, x, hf⟩ := h
  obtain ⟨xs, n, _, rfl, _, hlen, hf⟩ := DataW.trod_struct Tryz.underlying46 hf
  match cs, hl with
  | [c0, c1], _ =>
    match xs, hlen with
    | [y0, y1], _ =>
      have h0 := hf 0 _ rfl
      have h1 := hf 1 _ rfl
      simp [cells3] at h0 h1
      obtain ⟨k, rfl⟩ := int_of ⟨_, _, h0⟩
      obtain ⟨r, rfl⟩ := int_of ⟨_, _, h1⟩
      exact ⟨k, r, rfl⟩

/- Rows out of their elements. -/
theorem list_of {α β : Type} {R : α → β → Prop} : ∀ (l : List α), (∀ a ∈ l, ∃ b, R a b) → ∃ m : List β, m.length = l.length ∧ ∀ (j : Nat) (a : α), l[j]? = some a → ∃ b, m[j]? = some b ∧ R a b
  | [], _ => ⟨[], rfl, fun j a e => by simp at e⟩
  | a :: l, h => by
    obtain ⟨b, hb⟩ := h a (by simp)
    obtain ⟨m, hm, hr⟩ := list_of l (fun x hx => h x (by simp [hx]))
    refine ⟨b :: m, by simp [hm], fun j x e => ?_⟩
    cases j with
    | zero => simp at e; subst e; exact ⟨b, rfl, hb⟩
    | succ j => simp at e; exact hr j x e
theorem at_of {α β : Type} {l : List α} {m : List β} (h : m.length = l.length) {j : Nat} {b : β} (e : m[j]? = some b) : ∃ a, l[j]? = some a := by
  have := (List.getElem?_eq_some_iff.1 e).1
  exact ⟨l[j]'(by omega), by rw [List.getElem?_eq_getElem]⟩

theorem srd_of {a : Option Addr} {n cap : Nat} (h : TrdT enc W 28 [.slice a n cap]) : ∃ ss : List ByteArray, n = ss.length ∧ n ≤ cap ∧ n ≤ 9223372036854775807 ∧ SRd W a ss := by
  obtain ⟨rows, hl, hrd, hel, hn, hc⟩ := rows_of Tryz.underlying28 cells9 (by omega) h
  obtain ⟨ss, hm, hr⟩ := list_of (R := fun r (s : ByteArray) => r = [.string s] ∧ s.size ≤ 9223372036854775807) rows (fun r hr => by
    obtain ⟨h1, h2⟩ := hel r hr
    match r, h1 with
    | [c], _ =>
      obtain ⟨s, rfl, hs⟩ := str_of h2
      exact ⟨s, rfl, hs⟩)
  refine ⟨ss, by omega, hc, hn, fun j s e => ?_⟩
  obtain ⟨r, hrr⟩ := at_of hm e
  obtain ⟨s', e', rfl, hz⟩ := hr j r hrr
  rw [e] at e'; cases e'
  obtain ⟨b, off, rfl, _, hcell⟩ := hrd j _ hrr
  have := hcell 0 (by omega)
  simp only [Nat.mul_one, Nat.add_zero, List.getElem?_cons_zero] at this
  exact ⟨hz, b, off, rfl, this⟩
theorem trd_of {a : Option Addr} {n cap : Nat} (h : TrdT enc W 47 [.slice a n cap]) : ∃ ts : List TyP, n = ts.length ∧ n ≤ 9223372036854775807 ∧ TRd W a ts := by
  obtain ⟨rows, hl, hrd, hel, hn, hc⟩ := rows_of Tryz.underlying47 cells28 (by omega) h
  obtain ⟨ts, hm, hr⟩ := list_of (R := fun r (t : TyP) => r = [.int .i64 t.1, .int .i64 t.2]) rows (fun r hr => by
    obtain ⟨h1, h2⟩ := hel r hr
    obtain ⟨k, q, rfl⟩ := type_of h1 h2
    exact ⟨(k, q), rfl⟩)
  refine ⟨ts, by omega, hn, fun j t e => ?_⟩
  obtain ⟨r, hrr⟩ := at_of hm e
  obtain ⟨t', e', rfl⟩ := hr j r hrr
  rw [e] at e'; cases e'
  obtain ⟨b, off, rfl, _, hcell⟩ := hrd j _ hrr
  have h0 := hcell 0 (by omega)
  have h1 := hcell 1 (by omega)
  simp only [Nat.add_zero, List.getElem?_cons_zero, List.getElem?_cons_succ] at h0 h1
  exact ⟨b, off, rfl, h0, h1⟩
set_option maxRecDepth 100000 in
theorem map_of {cs : List Value} (hl : cs.length = 5) (h : TrdT enc W 67 cs) : ∃ m : Mp, cs = m.cs ∧ m.name.size ≤ 9223372036854775807 := by
  obtain ⟨fuel, x, hf⟩ := h
  obtain ⟨xs, n, _, rfl, _, hlen, hf⟩ := DataW.trod_struct Tryz.underlying67 hf
  match cs, hl with
  | [c0, c1, c2, c3, c4], _ =>
    match xs, hlen with
    | [y0, y1, y2], _ =>
      have h0 := hf 0 _ rfl
      have h1 := hf 1 _ rfl
      have h2 := hf 2 _ rfl
      simp [cells9, cells28] at h0 h1 h2
      obtain ⟨nm, rfl, hs⟩ := str_of ⟨_, _, h0⟩
      obtain ⟨k1, r1, e1⟩ := type_of rfl ⟨_, _, h1⟩
      obtain ⟨k2, r2, e2⟩ := type_of rfl ⟨_, _, h2⟩
      cases e1
      cases e2
      exact ⟨⟨nm, (k1, r1), (k2, r2)⟩, rfl, hs⟩
theorem crd_map {α : Type} {a : Option Addr} {k : Nat} {rows : List (List Value)} {l : List α} (f : α → List Value) (h : CRd W a k rows) (hm : l.length = rows.length) (hr : ∀ (j : Nat) (r : List Value), rows[j]? = some r → ∃ x, l[j]? = some x ∧ r = f x) : CRd W a k (l.map f) := by
  intro j r e
  simp only [List.getElem?_map, Option.map_eq_some_iff] at e
  obtain ⟨x, hx, rfl⟩ := e
  obtain ⟨r, hrr⟩ := at_of hm hx
  obtain ⟨x', e', rfl⟩ := hr j r hrr
  rw [hx] at e'; cases e'
  exact h j _ hrr
theorem mrd_of {a : Option Addr} {n cap : Nat} (h : TrdT enc W 23 [.slice a n cap]) : ∃ ms, MRd W a n ms := by
  obtain ⟨rows, hl, hrd, hel, hn, hc⟩ := rows_of Tryz.underlying23 cells79 (by omega) h
  obtain ⟨ps, hm, hr⟩ := list_of (R := fun r (p : Mp) => r = p.cs ∧ p.name.size ≤ 9223372036854775807) rows (fun r hr => map_of (hel r hr).1 (hel r hr).2)
  refine ⟨ps, by omega, hn, crd_map Mp.cs hrd hm (fun j r e => by obtain ⟨x, h1, h2, _⟩ := hr j r e; exact ⟨x, h1, h2⟩), fun p hp => ?_⟩
  obtain ⟨j, hj⟩ := List.getElem?_of_mem hp
  obtain ⟨r, hrr⟩ := at_of hm hj
  obtain ⟨x, h1, _, h3⟩ := hr j r hrr
  rw [hj] at h1; cases h1; exact h3
end
end Go.Proofs.YthnolocldeokeaaGreat

namespace Go.Proofs.YthnolocldeokeaaGreat
set_option maxRecDepth 100000
open Go.RowKit Go.Deep Go.Shelf
set_option linter.unusedVariables false
set_option linter.unusedSimpArgs false

theorem heap_set_at {w : World} {b : Nat} {c : Array Value} {e : TypeId} {f : Nat × Nat} (h : w.heap[b]? = some (.cells c e f)) (i : Nat) (u : Value) :
    (w.setCell ⟨b, i, none⟩ u).heap[b]? = some (.cells (c.setIfInBounds i u) e f) := by
  simp [World.setCell, Array.getElem?_modify, h]
theorem belowCell {w w' : World} {B b o : Nat} {v : Value} (h : w.cell? ⟨b, o, none⟩ = some v) (hB : w.heap.size ≤ B) (k : Below B w w') : w'.cell? ⟨b, o, none⟩ = some v := by
  have hb : b < w.heap.size := World.block_lt_of_cell? w _ h
  exact (k.cell (p := ⟨b, o, none⟩) (by show b < B; omega)).trans h
theorem lt_of_heap {w : World} {b : Nat} {o : Obj} (h : w.heap[b]? = some o) : b < w.heap.size := (Array.getElem?_eq_some_iff.1 h).1

def iv (xs : List Int) : List Value := xs.map fun x => .int .i64 x
structure GRow (w : World) (B : Nat) (a : Option Addr) (n cap : Nat) (xs : List Int) : Prop where
  n1 : n = xs.length
  nc : n ≤ cap
  at' : ∀ x : Addr, a = some x → ∃ g, x = ⟨g, 0, none⟩ ∧ B ≤ g ∧ g < w.heap.size
  ct : 0 < cap → ∃ g cur, a = some ⟨g, 0, none⟩ ∧ w.heap[g]? = some (.cells cur 3 (0, 0)) ∧ cap ≤ cur.size ∧ cur.toList.take n = iv xs
theorem GRow.nil (w : World) (B : Nat) : GRow w B none 0 0 [] := ⟨rfl, Nat.le_refl _, fun x e => (by cases e), fun h => (by omega)⟩
theorem GRow.keep {w w' : World} {B : Nat} {a : Option Addr} {n cap : Nat} {xs : List Int} (h : GRow w B a n cap xs) (hs : w.heap.size ≤ w'.heap.size) (e : ∀ x : Addr, a = some x → w'.heap[x.block]? = w.heap[x.block]?) : GRow w' B a n cap xs := by
  refine ⟨h.n1, h.nc, fun x ex => ?_, fun hc => ?_⟩
  · obtain ⟨g, h1, h2, h3⟩ := h.at' x ex
    exact ⟨g, h1, h2, by omega⟩
  · obtain ⟨g, cur, rfl, h2, h3⟩ := h.ct hc
    exact ⟨g, cur, rfl, (e _ rfl).trans h2, h3⟩
theorem GRow.below {w w' : World} {B C : Nat} {a : Option Addr} {n cap : Nat} {xs : List Int} (h : GRow w B a n cap xs) (hC : w.heap.size ≤ C) (hb : Below C w w') : GRow w' B a n cap xs :=
  h.keep hb.size (fun x ex => by
    obtain ⟨g, rfl, h2, h3⟩ := h.at' x ex
    exact hb.block _ (by show g < C; omega))
theorem GRow.cell {w : World} {B : Nat} {a : Option Addr} {n cap : Nat} {xs : List Int} (h : GRow w B a n cap xs) {j : Nat} {x : Int} (hj : xs[j]? = some x) : ∃ g, a = some ⟨g, 0, none⟩ ∧ B ≤ g ∧ w.cell? ⟨g, j, none⟩ = some (.int .i64 x) ∧ w.frozen? ⟨g, j, none⟩ = false := by
  have hlt := (List.getElem?_eq_some_iff.1 hj).1
  have hc : 0 < cap := by have := h.n1; have := h.nc; omega
  obtain ⟨g, cur, rfl, h2, h3, h4⟩ := h.ct hc
  obtain ⟨g', e, hB, _⟩ := h.at' _ rfl
  cases e
  refine ⟨g, rfl, hB, ?_, freeOf h2 j⟩
  rw [cellOf h2 j]
  have h5 : (iv xs)[j]? = some (.int .i64 x) := by unfold iv; rw [List.getElem?_map, hj]; rfl
  rw [← h5, ← h4, List.getElem?_take, if_pos (by have := h.n1; omega)]
  simp
theorem GRow.set {w : World} {B : Nat} {n cap : Nat} {xs : List Int} {g : Nat} (h : GRow w B (some ⟨g, 0, none⟩) n cap xs) (j : Nat) (hj : j < n) (v : Int) : GRow (w.setCell ⟨g, j, none⟩ (.int .i64 v)) B (some ⟨g, 0, none⟩) n cap (xs.set j v) := by
  refine ⟨by rw [List.length_set]; exact h.n1, h.nc, fun x ex => ?_, fun hc => ?_⟩
  · obtain ⟨g', h1, h2, h3⟩ := h.at' x ex
    exact ⟨g', h1, h2, by simp [World.setCell]; omega⟩
  · obtain ⟨g', cur, e, h2, h3, h4⟩ := h.ct hc
    cases e
    refine ⟨g, _, rfl, heap_set_at h2 j (.int .i64 v), by simpa using h3, ?_⟩
    rw [Array.toList_setIfInBounds, List.take_set, h4]
    unfold iv
    rw [List.map_set]
theorem GRow.cells {w : World} {B : Nat} {ad : Addr} {n cap : Nat} {xs : List Int} (h : GRow w B (some ad) n cap xs) (d : Nat) : ∀ j u, (iv (xs.drop d))[j]? = some u → w.cell? ((ad.add d).add j) = some u := by
  intro j u hu
  unfold iv at hu
  rw [List.getElem?_map, Option.map_eq_some_iff] at hu
  obtain ⟨x, hx, rfl⟩ := hu
  rw [List.getElem?_drop] at hx
  obtain ⟨g, e, _, hc, _⟩ := h.cell hx
  cases e
  rw [Addr.add_lit, Addr.add_lit, Nat.zero_add]
  exact hc
/- What append leaves: a row, in place or new. -/
def Gwn (w : World) (a : Option Addr) (w' : World) (a' : Option Addr) : Prop := (∃ row, w.grownBy w' row ∧ ∀ b, row = some b → ∃ x : Addr, a = some x ∧ x.block = b) ∧ (a' = a ∨ ∃ g, a' = some ⟨g, 0, none⟩ ∧ w.heap.size ≤ g)
end Go.Proofs.YthnolocldeokeaaGreat

namespace Go.Proofs.YthnolocldeokeaaGreat
set_option maxRecDepth 100000
open Go.RowKit Go.Deep Go.Shelf
set_option linter.unusedVariables false
set_option linter.unusedSimpArgs false
structure Opx where
  c : Int
  d : Int
  a : Int
  b : Int
  k : Int
def Opx.cs (o : Opx) : Array Value := #[.int .i64 o.c, .int .i64 o.d, .int .i64 o.a, .int .i64 o.b, .int .i64 o.k]
def ORd (w : World) (a : Option Addr) (l : List Opx) : Prop := ∀ (j : Nat) (x : Opx), l[j]? = some x → ∃ b off, a = some ⟨b, off, none⟩ ∧ ∀ i, i < 5 → w.cell? ⟨b, off + j * 5 + i, none⟩ = x.cs[i]?
theorem ORd.below {w w' : World} {a : Option Addr} {l : List Opx} (h : ORd w a l) (k : Below w.heap.size w w') : ORd w' a l := fun j x hx => by
  obtain ⟨b, off, e, hc⟩ := h j x hx
  refine ⟨b, off, e, fun i hi => ?_⟩
  obtain ⟨v, hv⟩ : ∃ v, x.cs[i]? = some v := by
    rcases (show i = 0 ∨ i = 1 ∨ i = 2 ∨ i = 3 ∨ i = 4 by omega) with rfl | rfl | rfl | rfl | rfl <;> exact ⟨_, rfl⟩
  have := hc i hi
  rw [hv] at this ⊢
  exact belowCell this (Nat.le_refl _) k
/- Numbers that a slice reads. -/
def IRd (w : World) (a : Option Addr) (l : List Int) : Prop := ∀ (j : Nat) (x : Int), l[j]? = some x → ∃ b off, a = some ⟨b, off, none⟩ ∧ w.cell? ⟨b, off + j, none⟩ = some (.int .i64 x)
theorem GRow.ird {w : World} {B : Nat} {a : Option Addr} {n cap : Nat} {xs : List Int} (h : GRow w B a n cap xs) : IRd w a xs := fun j x hx => by
  obtain ⟨g, e, _, hc, _⟩ := h.cell hx
  exact ⟨g, 0, e, by rw [Nat.zero_add]; exact hc⟩
theorem IRd.below {w w' : World} {a : Option Addr} {l : List Int} (h : IRd w a l) (k : Below w.heap.size w w') : IRd w' a l := fun j x hx => by
  obtain ⟨b, off, e, hc⟩ := h j x hx
  exact ⟨b, off, e, belowCell hc (Nat.le_refl _) k⟩
end Go.Proofs.YthnolocldeokeaaGreat

namespace Go.Proofs.YthnolocldeokeaaGreat
set_option maxRecDepth 100000
open Go.RowKit Go.Deep Go.Shelf
set_option linter.unusedVariables false
set_option linter.unusedSimpArgs false
theorem GRow.lower {w : World} {B C : Nat} {a : Option Addr} {n cap : Nat} {xs : List Int} (h : GRow w B a n cap xs) (hC : C ≤ B) : GRow w C a n cap xs :=
  ⟨h.n1, h.nc, fun x e => by obtain ⟨g, h1, h2, h3⟩ := h.at' x e; exact ⟨g, h1, by omega, h3⟩, h.ct⟩
theorem Gwn.below {w w' : World} {a a' : Option Addr} {B : Nat} (h : Gwn w a w' a') (ha : ∀ x : Addr, a = some x → B ≤ x.block) (hB : B ≤ w.heap.size) : Below B w w' := by
  obtain ⟨⟨row, hg, hr⟩, _⟩ := h
  refine ⟨hg.os, hg.tape, hg.output, hg.size, fun j hj => hg.block j (by omega) (fun e => ?_)⟩
  obtain ⟨x, ex, hx⟩ := hr j e.symm
  have := ha x ex
  omega
/- The ways of a function's instructions, told by numbers. -/
end Go.Proofs.YthnolocldeokeaaGreat

namespace Go.Proofs.YthnolocldeokeaaGreat
set_option maxRecDepth 100000
open Go.RowKit Go.Deep Go.Shelf
set_option linter.unusedVariables false
set_option linter.unusedSimpArgs false
def ocs (l : List Opx) : List Value := l.flatMap fun o => o.cs.toList
theorem ocs_len : ∀ l : List Opx, (ocs l).length = l.length * 5
  | [] => rfl
  | o :: l => by
    have := ocs_len l
    unfold ocs at this ⊢
    rw [List.flatMap_cons, List.length_append, this, List.length_cons]
    have : o.cs.toList.length = 5 := rfl
    omega
theorem ocs_app (l m : List Opx) : ocs (l ++ m) = ocs l ++ ocs m := by unfold ocs; rw [List.flatMap_append]
theorem ocs_get : ∀ (l : List Opx) (j : Nat) (o : Opx), l[j]? = some o → ∀ i, i < 5 → (ocs l)[j * 5 + i]? = o.cs[i]?
  | [], j, o, h => by simp at h
  | p :: l, 0, o, h => fun i hi => by
    simp at h; subst h
    unfold ocs
    rw [List.flatMap_cons, Nat.zero_mul, Nat.zero_add, List.getElem?_append_left (by show i < 5; exact hi)]
    simp
  | p :: l, j + 1, o, h => fun i hi => by
    have h1 : l[j]? = some o := by simpa using h
    have h2 := ocs_get l j o h1 i hi
    unfold ocs at h2 ⊢
    rw [List.flatMap_cons, List.getElem?_append_right (by show 5 ≤ (j + 1) * 5 + i; omega)]
    have : (j + 1) * 5 + i - p.cs.toList.length = j * 5 + i := by show (j + 1) * 5 + i - 5 = _; omega
    rw [this]; exact h2
theorem ocs_of {l : List Opx} {k : Nat} {u : Value} (h : (ocs l)[k]? = some u) : ∃ o i, l[k / 5]? = some o ∧ i < 5 ∧ k = k / 5 * 5 + i ∧ o.cs[i]? = some u := by
  have hk : k < l.length * 5 := by rw [← ocs_len]; exact (List.getElem?_eq_some_iff.1 h).1
  have hj : k / 5 < l.length := by omega
  refine ⟨l[k / 5], k % 5, List.getElem?_eq_getElem hj, by omega, by omega, ?_⟩
  rw [← ocs_get l (k / 5) _ (List.getElem?_eq_getElem hj) (k % 5) (by omega), show k / 5 * 5 + k % 5 = k by omega]
  exact h
theorem ocs_one (l : List Opx) : ∀ u ∈ ocs l, u.oneCell' = true := by
  intro u hu
  unfold ocs at hu
  obtain ⟨o, _, ho⟩ := List.mem_flatMap.1 hu
  simp [Opx.cs] at ho
  rcases ho with rfl | rfl | rfl | rfl | rfl <;> rfl
def OpR (w : World) (B : Nat) (v : Value) (l : List Opx) : Prop := w.ownsRow B 54 5 v l.length (ocs l)
theorem OpR.nil (w : World) (B : Nat) : OpR w B (.slice none 0 0) [] := ⟨rfl, .inl ⟨rfl, rfl⟩⟩
theorem OpR.keep {w w' : World} {B : Nat} {v : Value} {l : List Opx} (h : OpR w B v l) (e : ∀ g, v.ownBlock = some g → w'.heap[g]? = w.heap[g]?) : OpR w' B v l := by
  refine ⟨h.1, ?_⟩
  rcases h.2 with h2 | ⟨g, cap, cur, rfl, h3, h4, h5⟩
  · exact .inl h2
  · exact .inr ⟨g, cap, cur, rfl, h3, (e g rfl).trans h4, h5⟩
theorem OpR.own {w : World} {B : Nat} {v : Value} {l : List Opx} (h : OpR w B v l) {g : Nat} (e : v.ownBlock = some g) : B ≤ g ∧ g < w.heap.size := by
  rcases h.2 with ⟨rfl, _⟩ | ⟨g', cap, cur, rfl, h3, h4, h5⟩
  · cases e
  · cases e; exact ⟨h3, lt_of_heap h4⟩
theorem OpR.below {w w' : World} {B C : Nat} {v : Value} {l : List Opx} (h : OpR w B v l) (hC : w.heap.size ≤ C) (k : Below C w w') : OpR w' B v l := h.keep fun g e => k.block g (by have := (h.own e).2; omega)
theorem OpR.lower {w : World} {B C : Nat} {v : Value} {l : List Opx} (h : OpR w B v l) (hC : C ≤ B) : OpR w C v l := by
  refine ⟨h.1, ?_⟩
  rcases h.2 with h2 | ⟨g, cap, cur, rfl, h3, h4⟩
  · exact .inl h2
  · exact .inr ⟨g, cap, cur, rfl, by omega, h4⟩
theorem OpR.rd {w : World} {B : Nat} {v : Value} {l : List Opx} (h : OpR w B v l) : ∃ a cap, v = .slice a l.length cap ∧ ORd w a l ∧ (a = none → cap = 0) := by
  rcases h.2 with ⟨rfl, h2⟩ | ⟨g, cap, cur, rfl, h3, h4, h5, h6, h7, h8⟩
  · have : l = [] := List.eq_nil_of_length_eq_zero h2
    subst this
    exact ⟨none, 0, rfl, fun j x hx => by simp at hx, fun _ => rfl⟩
  · refine ⟨_, cap, rfl, fun j x hx => ⟨g, 0, rfl, fun i hi => ?_⟩, fun e => by cases e⟩
    have hj := (List.getElem?_eq_some_iff.1 hx).1
    rw [cellOf h4, ← ocs_get l j x hx i hi, ← h8, List.getElem?_take, if_pos (by omega), Nat.zero_add]
    simp
theorem info36 : (Tryz.prog.info? 54).map (fun i => (i.zero, i.size, i.bytes)) = some (some (.agg #[.int .i64 0, .int .i64 0, .int .i64 0, .int .i64 0, .int .i64 0]), 5, 40) := by kernel_rfl
/- A row of one, just laid. -/
theorem OpR.one (w : World) (o : Opx) : OpR (w.alloc (.cells o.cs 54)) w.heap.size (.slice (some ⟨w.heap.size, 0, none⟩) 1 1) [o] := by
  refine ⟨rfl, .inr ⟨w.heap.size, 1, o.cs, rfl, Nat.le_refl _, heap_alloc_new w _, Nat.le_refl _, by unfold maxLen; omega, rfl, ?_⟩⟩
  show o.cs.toList.take 5 = ocs [o]
  rfl
theorem run_appO (w : World) (ty : TypeId) (B : Nat) (v : Value) (l : List Opx) (h : OpR w B v l) (a : Option Addr) (m c : Nat) (l2 : List Opx) (hm : m = l2.length) (hr : ORd w a l2) (hnil : a = none → c = 0) (hl : l.length ≤ 1000000) (hl2 : m ≤ 1000000) (hB : B ≤ w.heap.size) :
    ∃ v' w', (Builtin.append_ #[55, 55] ty #[v, .slice a m c]).run Tryz.prog w = .ok v' w' ∧ OpR w' B v' (l ++ l2) ∧ w.grownBy w' v.ownBlock ∧ (v'.ownBlock = v.ownBlock ∨ v'.ownBlock = some w.heap.size) := by
  obtain ⟨i0, hi, hz0, hz1, hz2⟩ := info_parts info36
  cases a with
  | none =>
    have hc0 := hnil rfl
    have hl0 : l2 = [] := by
      cases l2 with
      | nil => rfl
      | cons o r => obtain ⟨b, off, e, _⟩ := hr 0 o rfl; cases e
    subst hl0
    subst hc0
    have hm0 : m = 0 := hm
    subst hm0
    exact ⟨v, w, run_append_owned_none w B 55 ty 54 i0 5 Tryz.underlying55 hi v l.length (ocs l) h, by rw [List.append_nil]; exact h, ⟨rfl, rfl, rfl, Nat.le_refl _, fun _ _ _ => rfl⟩, .inl rfl⟩
  | some ad =>
    have hcell : ∀ k u, (ocs l2)[k]? = some u → w.cell? (ad.add k) = some u := by
      intro k u hu
      obtain ⟨o, i, ho, hi5, hk, hu'⟩ := ocs_of hu
      obtain ⟨b, off, e, hc⟩ := hr (k / 5) o ho
      cases e
      have := hc i hi5
      rw [hu'] at this
      rw [Addr.add_lit, hk, ← Nat.add_assoc]
      exact this
    obtain ⟨v', w', hrun, hown, hgr, _, hat⟩ := run_append_own_at (P := Tryz.prog) w B 55 ty 54 i0 _ 5 40 Tryz.underlying55 hi hz0 hz1 hz2 rfl (by decide) v l.length (ocs l) h ad m c (ocs l2) (by rw [ocs_len, hm]) hcell (ocs_one l2) (by unfold maxLen; omega) (by omega) hB
    refine ⟨v', w', hrun, ?_, hgr, hat⟩
    unfold OpR
    rw [List.length_append, ← hm, ocs_app]
    exact hown
theorem wpList_appO {ops : Array Oper} {rest : List Oper} {o : Oper} {act : Act} {Q : Exit → Act → World → Prop} (w : World) (hgd : o.guard = none) (s x : Operand)
    (ho : o.op = .call { callee := .builtin .append, args := #[s, x], argTypes := #[55, 55] }) (v u : Value) (hs : act.eval s = v) (hx : act.eval x = u) (B : Nat) (l : List Opx) (h : OpR w B v l) (a : Option Addr) (m c : Nat) (hu : u = .slice a m c) (l2 : List Opx) (hm : m = l2.length) (hr : ORd w a l2) (hnil : a = none → c = 0) (hl : l.length ≤ 1000000) (hl2 : m ≤ 1000000) (hB : B ≤ w.heap.size)
    (k : ∀ v' w', OpR w' B v' (l ++ l2) → w.grownBy w' v.ownBlock → (v'.ownBlock = v.ownBlock ∨ v'.ownBlock = some w.heap.size) → wpList Tryz.prog ops Q rest (act.put o.dst v') w') :
    wpList Tryz.prog ops Q (o :: rest) act w := by
  refine wpList_plain hgd fun K hK => ?_
  subst hu
  obtain ⟨v', w', hrun, h2, h3, h4⟩ := run_appO w o.type B v l h a m c l2 hm hr hnil hl hl2 hB
  unfold Oper.wp execOp
  simp only [ho, resolve, invoke, builtin, Sem.run_bind, Sem.run_pure, Result.andThen_ok, List.map_toArray, List.map_cons, List.map_nil, hs, hx, hrun]
  exact hK _ _ (k v' w' h2 h3 h4)
/- leap. -/
end Go.Proofs.YthnolocldeokeaaGreat

namespace Go.Proofs.YthnolocldeokeaaGreat
set_option maxRecDepth 100000
open Go.RowKit Go.Deep Go.Shelf
set_option linter.unusedVariables false
set_option linter.unusedSimpArgs false
theorem OpR.rdm {w : World} {B : Nat} {v : Value} {l : List Opx} (h : OpR w B v l) : ∃ a m cap, v = .slice a m cap ∧ Hid (m = l.length) ∧ ORd w a l ∧ (a = none → cap = 0) := by
  obtain ⟨a, cap, e, h1, h2⟩ := h.rd
  exact ⟨a, l.length, cap, e, hid rfl, h1, h2⟩
theorem OpR.some {w : World} {B : Nat} {a : Option Addr} {m c : Nat} {l : List Opx} (h : OpR w B (.slice a m c) l) (hl : 0 < l.length) : m = l.length ∧ ∃ g, a = some ⟨g, 0, none⟩ ∧ B ≤ g := by
  rcases h.2 with ⟨e, h2⟩ | ⟨g, cap, cur, e, h3, _⟩
  · omega
  · cases e; exact ⟨rfl, g, rfl, h3⟩
/- Between two rounds: the row of beginnings, the row of instructions. -/
end Go.Proofs.YthnolocldeokeaaGreat

namespace Go.Proofs.YthnolocldeokeaaGreat
set_option maxRecDepth 100000
open Go.ChangeShapes Go.WideShapes Go.ChangeAt Go.RowKit Go.Deep
set_option linter.unusedVariables false
set_option linter.unusedSimpArgs false

theorem ownN : ownKnob Tryz.prog.godebug = none := by kernel_rfl
theorem laidOut : laidOutB Tryz.prog = true := by kernel_rfl
theorem f_cells3 : Tryz.prog.cellsOf 3 = 1 := by kernel_rfl
theorem cells36 : Tryz.prog.cellsOf 54 = 5 := by kernel_rfl
def f_CRd (w : World) (a : Option Addr) (k : Nat) (rows : List (List Value)) : Prop := ∀ (j : Nat) (r : List Value), rows[j]? = some r → ∃ b off, a = some ⟨b, off, none⟩ ∧ b < w.heap.size ∧ ∀ i, i < k → w.cell? ⟨b, off + j * k + i, none⟩ = r[i]?

section
variable {H : Type} {enc : TypeId × Value → H} {W : World}

def f_TrdT (enc : TypeId × Value → H) (W : World) (T : TypeId) (cs : List Value) : Prop := ∃ fuel x, DataW.trod enc Tryz.prog W 0 (fun _ => true) true fuel T cs = some x

set_option maxRecDepth 100000 in
theorem f_rows_of {T E : TypeId} {k : Nat} (hT : Tryz.prog.underlying T = some (.slice E)) (hk : Tryz.prog.cellsOf E = k) (k0 : 0 < k) {a0 : Option Addr} {len cap : Nat} (h : f_TrdT enc W T [.slice a0 len cap]) :
    ∃ rows : List (List Value), rows.length = len ∧ f_CRd W a0 k rows ∧ (∀ r ∈ rows, r.length = k ∧ f_TrdT enc W E r) ∧ len ≤ 9223372036854775807 ∧ len ≤ cap := by
  obtain ⟨fuel, x, hf⟩ := h
  rcases open_slice hT hf with ⟨hcs, _⟩ | ⟨a, l, c, m, n, D, Pl, hcs, _, hl, hm', hm, _, hx⟩
  · simp at hcs
    obtain ⟨rfl, rfl, rfl⟩ := hcs
    exact ⟨[], rfl, fun j x hx => by simp at hx, fun h hh => by simp at hh, by omega, by omega⟩
  · simp at hcs
    obtain ⟨rfl, rfl, rfl⟩ := hcs
    simp at hm
    subst hm
    have hs : ∀ j, j < len → ∃ r : List Value, (∃ b off, some a = some ⟨b, off, none⟩ ∧ b < W.heap.size ∧ ∀ i, i < k → W.cell? ⟨b, off + j * k + i, none⟩ = r[i]?) ∧ r.length = k ∧ f_TrdT enc W E r := by
      intro j hj
      obtain ⟨cs, h1, h2⟩ := hx j (by omega)
      rw [hk] at h1
      obtain ⟨_, h3, h4⟩ := World.cells?_some h1
      obtain ⟨b, off, spot⟩ := a
      have hc0 : cs[0]? = some (cs[0]'(by omega)) := by rw [List.getElem?_eq_getElem]
      have hcell := (h4 0 k0).trans hc0
      have hspot : spot = none := by
        obtain ⟨cs', h1', h2'⟩ := hx 0 (by omega)
        rw [hk] at h1'
        obtain ⟨_, h3', h4'⟩ := World.cells?_some h1'
        have := World.cell?_spot ((h4' 0 k0).trans (show cs'[0]? = some (cs'[0]'(by omega)) by rw [List.getElem?_eq_getElem]))
        simpa [Addr.add] using this
      subst hspot
      have hb : b < W.heap.size := by
        have := World.block_lt_of_cell? W _ hcell
        simpa [Addr.add_lit] using this
      refine ⟨cs, ⟨b, off, rfl, hb, fun i hi => ?_⟩, h3, _, _, h2⟩
      have := h4 i hi
      simp only [Addr.add_lit] at this
      exact this
    refine ⟨(List.range len).map (fun j => if hj : j < len then Classical.choose (hs j hj) else []), by simp, ?_, ?_, by unfold maxLen at hm'; omega, by omega⟩
    · intro j h hjh
      simp only [List.getElem?_map, Option.map_eq_some_iff] at hjh
      obtain ⟨j', hj', rfl⟩ := hjh
      have hj : j < len := by have := (List.getElem?_eq_some_iff.1 hj').1; simpa using this
      have : j' = j := by simpa [hj] using hj'.symm
      subst this
      simp only [hj, dif_pos]
      exact (Classical.choose_spec (hs j' hj)).1
    · intro h hh
      simp only [List.mem_map, List.mem_range] at hh
      obtain ⟨j, hj, rfl⟩ := hh
      simp only [hj, dif_pos]
      exact (Classical.choose_spec (hs j hj)).2

theorem f_int_of {c : Value} (h : f_TrdT enc W 3 [c]) : ∃ n, c = .int .i64 n := by
  obtain ⟨fuel, x, hf⟩ := h
  obtain ⟨n, e, _, w⟩ := DataW.trod_int Tryz.underlying3 hf
  simp at e
  exact ⟨n, e⟩
set_option maxRecDepth 100000 in
theorem f_slice_of {T E : TypeId} (hT : Tryz.prog.underlying T = some (.slice E)) {c : Value} (h : f_TrdT enc W T [c]) : ∃ a n cap, c = .slice a n cap := by
  obtain ⟨fuel, x, hf⟩ := h
  rcases open_slice hT hf with ⟨hcs, _⟩ | ⟨a, l, c, m, n', D, Pl, hcs, _, hl, hm', hm, _, hx⟩
  · simp at hcs; exact ⟨_, _, _, hcs⟩
  · simp at hcs; exact ⟨_, _, _, hcs⟩
set_option maxRecDepth 100000 in
theorem op_of {cs : List Value} (hl : cs.length = 5) (h : f_TrdT enc W 54 cs) : ∃ o : Opx, cs = o.cs.toList := by
  obtain ⟨fuel, x, hf⟩ := h
  obtain ⟨xs, n, _, rfl, _, hlen, hf⟩ := DataW.trod_struct Tryz.underlying54 hf
  match cs, hl with
  | [c0, c1, c2, c3, c4], _ =>
    match xs, hlen with
    | [y0, y1, y2, y3, y4], _ =>
      have h0 := hf 0 _ rfl
      have h1 := hf 1 _ rfl
      have h2 := hf 2 _ rfl
      have h3 := hf 3 _ rfl
      have h4 := hf 4 _ rfl
      simp [f_cells3] at h0 h1 h2 h3 h4
      obtain ⟨n0, rfl⟩ := f_int_of ⟨_, _, h0⟩
      obtain ⟨n1, rfl⟩ := f_int_of ⟨_, _, h1⟩
      obtain ⟨n2, rfl⟩ := f_int_of ⟨_, _, h2⟩
      obtain ⟨n3, rfl⟩ := f_int_of ⟨_, _, h3⟩
      obtain ⟨n4, rfl⟩ := f_int_of ⟨_, _, h4⟩
      exact ⟨⟨n0, n1, n2, n3, n4⟩, rfl⟩
/- Rows out of their elements. -/
theorem f_list_of {α β : Type} {R : α → β → Prop} : ∀ (l : List α), (∀ a ∈ l, ∃ b, R a b) → ∃ m : List β, m.length = l.length ∧ ∀ (j : Nat) (a : α), l[j]? = some a → ∃ b, m[j]? = some b ∧ R a b
  | [], _ => ⟨[], rfl, fun j a e => by simp at e⟩
  | a :: l, h => by
    obtain ⟨b, hb⟩ := h a (by simp)
    obtain ⟨m, hm, hr⟩ := f_list_of l (fun x hx => h x (by simp [hx]))
    refine ⟨b :: m, by simp [hm], fun j x e => ?_⟩
    cases j with
    | zero => simp at e; subst e; exact ⟨b, rfl, hb⟩
    | succ j => simp at e; exact hr j x e
theorem f_at_of {α β : Type} {l : List α} {m : List β} (h : m.length = l.length) {j : Nat} {b : β} (e : m[j]? = some b) : ∃ a, l[j]? = some a := by
  have := (List.getElem?_eq_some_iff.1 e).1
  exact ⟨l[j]'(by omega), by rw [List.getElem?_eq_getElem]⟩

theorem ord_of {a : Option Addr} {n cap : Nat} (h : f_TrdT enc W 55 [.slice a n cap]) : ∃ ops : List Opx, n = ops.length ∧ n ≤ 9223372036854775807 ∧ ORd W a ops := by
  obtain ⟨rows, hl, hrd, hel, hn, hc⟩ := f_rows_of Tryz.underlying55 cells36 (by omega) h
  obtain ⟨ts, hm, hr⟩ := f_list_of (R := fun r (t : Opx) => r = t.cs.toList) rows (fun r hr => by
    obtain ⟨h1, h2⟩ := hel r hr
    exact op_of h1 h2)
  refine ⟨ts, by omega, hn, fun j t e => ?_⟩
  obtain ⟨r, hrr⟩ := f_at_of hm e
  obtain ⟨t', e', rfl⟩ := hr j r hrr
  rw [e] at e'; cases e'
  obtain ⟨b, off, rfl, _, hcell⟩ := hrd j _ hrr
  exact ⟨b, off, rfl, fun i hi => by rw [hcell i hi]; simp⟩
end
end Go.Proofs.YthnolocldeokeaaGreat

namespace Go.Proofs.YthnolocldeokeaaGreat
set_option maxRecDepth 100000
open Go.ChangeShapes Go.WideShapes Go.ChangeAt Go.RowKit Go.Deep
set_option linter.unusedVariables false
set_option linter.unusedSimpArgs false
theorem bytes36 : Tryz.prog.bytesOf 54 = 40 := by kernel_rfl
section
variable {H : Type} {enc : TypeId × Value → H} {W : World}
def f_Sm (T : TypeId) (d : DataW H) : Prop := ∀ n ∈ d.weights Tryz.prog T, n ≤ reachBytes
def TrdS (enc : TypeId × Value → H) (W : World) (T : TypeId) (cs : List Value) : Prop := ∃ fuel x, DataW.trod enc Tryz.prog W 0 (fun _ => true) true fuel T cs = some x ∧ f_Sm T x.1
theorem TrdS.t {T : TypeId} {cs : List Value} (h : TrdS enc W T cs) : f_TrdT enc W T cs := by
  obtain ⟨f, x, h1, _⟩ := h
  exact ⟨f, x, h1⟩
theorem mem_all {e : TypeId} : ∀ {l : List (DataW H)} {d : DataW H}, d ∈ l → ∀ n ∈ d.weights Tryz.prog e, n ∈ DataW.weightsAll Tryz.prog e l
  | x :: r, d, h, n, hn => by
    simp only [DataW.weightsAll, List.mem_append]
    rcases List.mem_cons.1 h with rfl | h
    · exact .inl hn
    · exact .inr (mem_all h n hn)
set_option maxRecDepth 100000 in
theorem rowsS_of {T E : TypeId} {k : Nat} (hT : Tryz.prog.underlying T = some (.slice E)) (hk : Tryz.prog.cellsOf E = k) (k0 : 0 < k) {a0 : Option Addr} {len cap : Nat} (h : TrdS enc W T [.slice a0 len cap]) :
    ∃ rows : List (List Value), rows.length = len ∧ f_CRd W a0 k rows ∧ (∀ r ∈ rows, r.length = k ∧ TrdS enc W E r) ∧ len * Tryz.prog.bytesOf E ≤ reachBytes ∧ (a0 = none → cap = 0) := by
  obtain ⟨fuel, x, hf, hsm⟩ := h
  rcases open_slice hT hf with ⟨hcs, _⟩ | ⟨a, l, c, m, n, D, Pl, hcs, _, hl, hm', hm, hxe, hx⟩
  · simp at hcs
    obtain ⟨rfl, rfl, rfl⟩ := hcs
    exact ⟨[], rfl, fun j x hx => by simp at hx, fun h hh => by simp at hh, by omega, fun _ => rfl⟩
  · simp at hcs
    obtain ⟨rfl, rfl, rfl⟩ := hcs
    simp at hm
    subst hm
    subst hxe
    have hD : ∀ i, i < len → f_Sm E (D i) := fun i hi n hn => hsm n (by
      simp only [DataW.weights, hT, List.mem_cons, List.mem_append]
      exact .inr (.inl (mem_all (List.mem_map.2 ⟨i, List.mem_range.2 hi, rfl⟩) n hn)))
    have hW : len * Tryz.prog.bytesOf E ≤ reachBytes := by
      have h1 := hsm ((((List.range len).map D).length + ((List.range (m - len)).map fun j => D (len + j)).length) * Tryz.prog.bytesOf E) (by simp only [DataW.weights, hT, List.mem_cons]; exact .inl trivial)
      refine Nat.le_trans (Nat.mul_le_mul_right _ ?_) h1
      simp
    have hs : ∀ j, j < len → ∃ r : List Value, (∃ b off, some a = some ⟨b, off, none⟩ ∧ b < W.heap.size ∧ ∀ i, i < k → W.cell? ⟨b, off + j * k + i, none⟩ = r[i]?) ∧ r.length = k ∧ TrdS enc W E r := by
      intro j hj
      obtain ⟨cs, h1, h2⟩ := hx j (by omega)
      rw [hk] at h1
      obtain ⟨_, h3, h4⟩ := World.cells?_some h1
      obtain ⟨b, off, spot⟩ := a
      have hc0 : cs[0]? = some (cs[0]'(by omega)) := by rw [List.getElem?_eq_getElem]
      have hcell := (h4 0 k0).trans hc0
      have hspot : spot = none := by
        obtain ⟨cs', h1', h2'⟩ := hx 0 (by omega)
        rw [hk] at h1'
        obtain ⟨_, h3', h4'⟩ := World.cells?_some h1'
        have := World.cell?_spot ((h4' 0 k0).trans (show cs'[0]? = some (cs'[0]'(by omega)) by rw [List.getElem?_eq_getElem]))
        simpa [Addr.add] using this
      subst hspot
      have hb : b < W.heap.size := by
        have := World.block_lt_of_cell? W _ hcell
        simpa [Addr.add_lit] using this
      refine ⟨cs, ⟨b, off, rfl, hb, fun i hi => ?_⟩, h3, _, _, h2, hD j hj⟩
      have := h4 i hi
      simp only [Addr.add_lit] at this
      exact this
    refine ⟨(List.range len).map (fun j => if hj : j < len then Classical.choose (hs j hj) else []), by simp, ?_, ?_, hW, fun e => by cases e⟩
    · intro j h hjh
      simp only [List.getElem?_map, Option.map_eq_some_iff] at hjh
      obtain ⟨j', hj', rfl⟩ := hjh
      have hj : j < len := by have := (List.getElem?_eq_some_iff.1 hj').1; simpa using this
      have : j' = j := by simpa [hj] using hj'.symm
      subst this
      simp only [hj, dif_pos]
      exact (Classical.choose_spec (hs j' hj)).1
    · intro h hh
      simp only [List.mem_map, List.mem_range] at hh
      obtain ⟨j, hj, rfl⟩ := hh
      simp only [hj, dif_pos]
      exact (Classical.choose_spec (hs j hj)).2
theorem reach_is : reachBytes = 140737488351232 := rfl
end
end Go.Proofs.YthnolocldeokeaaGreat

namespace Go.Proofs.YthnolocldeokeaaGreat
open Go.RowKit Go.Deep Go.Shelf
set_option linter.unusedVariables false
set_option linter.unusedSimpArgs false
structure Shp where
  nm : ByteArray
  d : Int
  a : Int
  b : Int
  k : Int
def Shp.cs (s : Shp) : List Value := [.string s.nm, .int .u8 s.d, .int .u8 s.a, .int .u8 s.b, .int .u8 s.k]
def shp0 : Shp := ⟨.empty, 0, 0, 0, 0⟩
def shpL : List Shp := [shp0, ⟨⟨#[105, 110, 116]⟩, 1, 0, 0, 6⟩, ⟨⟨#[116, 101, 120, 116]⟩, 1, 0, 0, 7⟩, ⟨⟨#[98, 111, 111, 108]⟩, 1, 0, 0, 8⟩, ⟨⟨#[109, 111, 118, 101]⟩, 1, 3, 0, 0⟩, ⟨⟨#[97, 100, 100]⟩, 1, 3, 3, 0⟩, ⟨⟨#[115, 117, 98]⟩, 1, 3, 3, 0⟩, ⟨⟨#[109, 117, 108]⟩, 1, 3, 3, 0⟩, ⟨⟨#[119, 97, 100, 100]⟩, 1, 3, 3, 0⟩, ⟨⟨#[119, 115, 117, 98]⟩, 1, 3, 3, 0⟩, ⟨⟨#[119, 109, 117, 108]⟩, 1, 3, 3, 0⟩, ⟨⟨#[100, 105, 118]⟩, 1, 3, 3, 0⟩, ⟨⟨#[109, 111, 100]⟩, 1, 3, 3, 0⟩, ⟨⟨#[99, 97, 116]⟩, 1, 3, 3, 0⟩, ⟨⟨#[101, 113]⟩, 1, 3, 3, 0⟩, ⟨⟨#[110, 101]⟩, 1, 3, 3, 0⟩, ⟨⟨#[108, 116]⟩, 1, 3, 3, 0⟩, ⟨⟨#[108, 101]⟩, 1, 3, 3, 0⟩, ⟨⟨#[103, 116]⟩, 1, 3, 3, 0⟩, ⟨⟨#[103, 101]⟩, 1, 3, 3, 0⟩, ⟨⟨#[110, 101, 103]⟩, 1, 3, 0, 0⟩, ⟨⟨#[110, 111, 116]⟩, 1, 3, 0, 0⟩, ⟨⟨#[108, 101, 110]⟩, 1, 3, 0, 0⟩, ⟨⟨#[115, 116, 114]⟩, 1, 3, 0, 0⟩, ⟨⟨#[109, 97, 107, 101]⟩, 1, 5, 0, 9⟩, ⟨⟨#[102, 105, 101, 108, 100]⟩, 1, 3, 0, 10⟩, ⟨⟨#[103, 101, 116]⟩, 1, 3, 0, 11⟩, ⟨⟨#[104, 97, 115]⟩, 1, 3, 0, 11⟩, ⟨⟨#[112, 117, 116]⟩, 0, 3, 3, 11⟩, ⟨⟨#[100, 101, 108]⟩, 0, 3, 0, 11⟩, ⟨⟨#[110, 101, 120, 116]⟩, 1, 3, 3, 11⟩, ⟨⟨#[99, 97, 108, 108]⟩, 2, 5, 0, 12⟩, ⟨⟨#[97, 115, 107]⟩, 1, 3, 0, 7⟩, ⟨⟨#[101, 109, 105, 116]⟩, 0, 3, 0, 0⟩, ⟨⟨#[97, 102, 116, 101, 114]⟩, 0, 3, 5, 13⟩, ⟨⟨#[99, 104, 97, 114, 103, 101]⟩, 0, 0, 0, 0⟩, ⟨⟨#[101, 110, 116, 101, 114]⟩, 0, 0, 0, 0⟩, ⟨⟨#[108, 101, 97, 118, 101]⟩, 0, 0, 0, 0⟩, ⟨⟨#[106, 117, 109, 112]⟩, 0, 0, 0, 14⟩, ⟨⟨#[117, 110, 108, 101, 115, 115]⟩, 0, 3, 0, 14⟩, ⟨⟨#[114, 101, 116]⟩, 0, 4, 0, 0⟩]
def shpAt (k : Int) : Shp := shpL.getD k.toNat shp0
def isC (k : Int) : Bool := decide (1 ≤ k) && decide (k < 41)
def shpC : Array Value := (shpL.flatMap Shp.cs).toArray
theorem shpC_len : shpL.length = 41 := by rfl
theorem flat_get : ∀ (l : List Shp) (j : Nat) (s : Shp), l[j]? = some s → ∀ i, i < 5 → (l.flatMap Shp.cs)[j * 5 + i]? = s.cs[i]?
  | [], j, s, h => by simp at h
  | p :: l, 0, s, h => fun i hi => by
    simp at h; subst h
    rw [List.flatMap_cons, Nat.zero_mul, Nat.zero_add, List.getElem?_append_left (by show i < 5; exact hi)]
  | p :: l, j + 1, s, h => fun i hi => by
    have h1 : l[j]? = some s := by simpa using h
    have h2 := flat_get l j s h1 i hi
    rw [List.flatMap_cons, List.getElem?_append_right (by show 5 ≤ (j + 1) * 5 + i; omega)]
    have : (j + 1) * 5 + i - p.cs.length = j * 5 + i := by show (j + 1) * 5 + i - 5 = _; omega
    rw [this]; exact h2
theorem shp_get {k : Nat} (hk : k < 41) : shpL[k]? = some (shpAt (k : Int)) := by
  unfold shpAt
  rw [Int.toNat_natCast, List.getD_eq_getElem?_getD, List.getElem?_eq_getElem (show k < shpL.length by rw [shpC_len]; exact hk)]
  rfl
def blw (n c : Int) : Bool := decide (0 ≤ n) && decide (n < c)
set_option maxRecDepth 100000 in
theorem isBelow_any (w : World) (n c : Int) : Calls Tryz.prog 88 #[.int .i64 n, .int .i64 c] w fun e w' => e = .returned (.bool (blw n c)) ∧ w' = w := by
  by_cases h1 : 0 ≤ n
  · by_cases h2 : n < c
    · have HD : Hid (blw n c = true) := hid (by simp [blw, h1, h2])
      go_enter Tryz.func88, Tryz.ntmps88
      go_wp2
      go_ret
      exact ⟨by rw [HD.out]; rfl, rfl⟩
    · have HD : Hid (blw n c = false) := hid (by simp [blw, h2])
      go_enter Tryz.func88, Tryz.ntmps88
      go_wp2
      go_ret
      exact ⟨by rw [HD.out]; rfl, rfl⟩
  · have HD : Hid (blw n c = false) := hid (by simp [blw, h1])
    go_enter Tryz.func88, Tryz.ntmps88
    go_wp2
    go_ret
    exact ⟨by rw [HD.out]; rfl, rfl⟩
/- The pure side. -/
def rc0 : Rc := ⟨.empty, [], []⟩
def parmB (ss : List Sg) (k : Int) : Int × Bool := if blw k (ss.length : Int) = true then (((ss.getD k.toNat ⟨.empty, [], (0, 0)⟩).params.length : Int), true) else (0, false)
def rowLen (r : Int) (p : Pg) (k : Int) : Int × Bool :=
  if r = 9 then (if blw k (p.recs.length : Int) = true then ((((p.recs.map (·.2)).getD k.toNat rc0).fields.length : Int), true) else (0, false))
  else if r = 11 then (0, blw k (p.maps.length : Int))
  else if r = 12 then parmB (p.funcs.map (·.2)) k
  else if r = 13 then parmB (p.events.map (·.2)) k
  else (0, true)
structure Fx where
  regs : Int
  ops : List Opx
structure Cx where
  p : Pg
  ints : Nat
  texts : List ByteArray
  funcs : List Fx
  events : List Fx
def bnd (c : Cx) (regs : Int) (nops : Nat) (r len : Int) : Int × Int :=
  if r = 1 ∨ r = 3 then (0, regs - 1)
  else if r = 2 ∨ r = 4 then (-1, regs - 1)
  else if r = 5 then (0, regs - len)
  else if r = 6 then (0, (c.ints : Int) - 1)
  else if r = 7 then (0, (c.texts.length : Int) - 1)
  else if r = 8 then (0, 1)
  else if r = 9 then (0, (c.p.recs.length : Int) - 1)
  else if r = 10 then (0, 11)
  else if r = 11 then (0, (c.p.maps.length : Int) - 1)
  else if r = 12 then (0, (c.p.funcs.length : Int) - 1)
  else if r = 13 then (0, (c.p.events.length : Int) - 1)
  else if r = 14 then (0, (nops : Int) - 1)
  else (0, 0)
def inB (b : Int × Int) (n : Int) : Bool := !(decide (n < b.1) || decide (b.2 < n))
def isOpB (c : Cx) (regs : Int) (nops : Nat) (o : Opx) : Bool :=
  isC o.c && (let s := shpAt o.c; let len := (rowLen s.k c.p o.k).1
    inB (bnd c regs nops s.d len) o.d && inB (bnd c regs nops s.a len) o.a && inB (bnd c regs nops s.b len) o.b && inB (bnd c regs nops s.k len) o.k)
def isFnB (c : Cx) (params : Nat) (f : Fx) : Bool := !(decide (f.regs < (params : Int)) || decide (64 < f.regs) || decide (f.ops.length < 1) || decide (2000 < f.ops.length)) && f.ops.all (isOpB c f.regs f.ops.length)
def isFnsB (c : Cx) (ss : List Sg) (fs : List Fx) : Bool := (ss.zip fs).all fun x => isFnB c x.1.params.length x.2
def constB (c : Cx) : Bool := decide (c.ints ≤ 1000) && decide (c.texts.length ≤ 1000) && c.texts.all fun t => decide (t.size ≤ 64)
def isB (c : Cx) : Bool := rightB c.p && constB c && decide (c.funcs.length = c.p.funcs.length) && decide (c.events.length = c.p.events.length) && isFnsB c (c.p.funcs.map (·.2)) c.funcs && isFnsB c (c.p.events.map (·.2)) c.events
end Go.Proofs.YthnolocldeokeaaGreat

namespace Go.Proofs.YthnolocldeokeaaGreat
open Go.RowKit Go.Deep Go.Shelf
set_option linter.unusedVariables false
set_option linter.unusedSimpArgs false
theorem blw_nat {k : Int} {n : Nat} (h : blw k (n : Int) = true) : ∃ kk : Nat, k = (kk : Int) ∧ kk < n := by
  unfold blw at h
  simp at h
  exact ⟨k.toNat, by omega, by omega⟩
theorem GRd.sig {w : World} {a : Option Addr} {n : Nat} {gs : List (GH × Sg)} (d : GRd w a n gs) {kk : Nat} (hk : kk < n) : ∃ g : GH × Sg, gs[kk]? = some g ∧ SgRd w g.1 g.2 ∧ ∃ b off, a = some ⟨b, off, none⟩ ∧ w.cell? ⟨b, off + kk * 4 + 1, none⟩ = some (.slice g.1.pa g.1.pn g.1.pc) := by
  have hl : kk < gs.length := by rw [← d.n1]; exact hk
  have hg : gs[kk]? = some gs[kk] := List.getElem?_eq_getElem hl
  obtain ⟨b, off, e, _, hc⟩ := d.rd kk gs[kk].1.cs (by simp [hg])
  exact ⟨_, hg, d.el _ (List.getElem_mem hl), b, off, e, hc 1 (by omega)⟩
theorem parm_at {gs : List (GH × Sg)} {kk : Nat} {g : GH × Sg} (h : gs[kk]? = some g) (hb : blw (kk : Int) (gs.length : Int) = true) : parmB (gs.map (·.2)) (kk : Int) = ((g.2.params.length : Int), true) := by
  unfold parmB
  rw [List.length_map, hb, if_pos rfl, Int.toNat_natCast, List.getD_eq_getElem?_getD, List.getElem?_map, h]
  rfl
set_option maxRecDepth 100000 in
theorem params_any (w : World) (a : Option Addr) (n cap : Nat) (gs : List (GH × Sg)) (d : GRd w a n gs) (k : Int) : Calls Tryz.prog 89 #[.slice a n cap, .int .i64 k] w fun e w' => e = .returned (.tuple #[.int .i64 (parmB (gs.map (·.2)) k).1, .bool (parmB (gs.map (·.2)) k).2]) ∧ w' = w := by
  have hn := d.n2
  have K := hid (isBelow_any w k (n : Int))
  cases hb : blw k (n : Int) with
  | false =>
    rw [hb] at K
    have HP : Hid (parmB (gs.map (·.2)) k = (0, false)) := hid (by unfold parmB; rw [List.length_map, ← d.n1, hb]; rfl)
    clear hb d
    go_enter Tryz.func89, Tryz.ntmps89
    go_wp2_with (go_at_call 88; (refine (Hid.out K).mono ?_; rintro e w ⟨rfl, rfl⟩))
    go_ret2
    exact ⟨by rw [HP.out]; rfl, rfl⟩
  | true =>
    obtain ⟨kk, rfl, hk⟩ := blw_nat hb
    rw [hb] at K
    obtain ⟨g, hg, sg, b, off, rfl, c1⟩ := d.sig hk
    have HP := hid (parm_at hg (by rw [← d.n1]; exact hb))
    have hpn : Hid (g.1.pn = g.2.params.length) := hid sg.pn
    have hp2 := sg.p2
    have hkI : (kk : Int) < (n : Int) := by omega
    have hk0 : (0 : Int) ≤ (kk : Int) := by omega
    clear hb d hg sg
    obtain ⟨⟨nm, pa, pn, pc, kd, rr⟩, sgg⟩ := g
    simp only at c1 hpn hp2
    go_enter Tryz.func89, Tryz.ntmps89
    go_wp2_with (go_at_call 88; (refine (Hid.out K).mono ?_; rintro e w ⟨rfl, rfl⟩))
    go_ret2
    exact ⟨by rw [HP.out, hpn.out]; rfl, rfl⟩
theorem RRd.recd {w : World} {a : Option Addr} {n : Nat} {rs : List (RH × Rc)} (d : RRd w a n rs) {kk : Nat} (hk : kk < n) : ∃ g : RH × Rc, rs[kk]? = some g ∧ RcRd w g.1 g.2 ∧ ∃ b off, a = some ⟨b, off, none⟩ ∧ w.cell? ⟨b, off + kk * 3 + 1, none⟩ = some (.slice g.1.fa g.1.fn g.1.fc) := by
  have hl : kk < rs.length := by rw [← d.n1]; exact hk
  have hg : rs[kk]? = some rs[kk] := List.getElem?_eq_getElem hl
  obtain ⟨b, off, e, _, hc⟩ := d.rd kk rs[kk].1.cs (by simp [hg])
  exact ⟨_, hg, d.el _ (List.getElem_mem hl), b, off, e, hc 1 (by omega)⟩
set_option maxRecDepth 100000 in
set_option maxHeartbeats 1000000 in
theorem rowLen_any (w : World) (s : Shp) (h : PH) (p : Pg) (d : PRd w h p) (k : Int) : Calls Tryz.prog 55 #[.agg s.cs.toArray, h.v, .int .i64 k] w fun e w' => e = .returned (.tuple #[.int .i64 (rowLen s.k p k).1, .bool (rowLen s.k p k).2]) ∧ Below w.heap.size w w' := by
  obtain ⟨nm, sd, sa, sb, sk⟩ := s
  obtain ⟨ra, rn, rc, ma, mn, mc, fa, fn, fc, ea, en, ec⟩ := h
  have dm := d.m
  have df := d.f
  have de := d.e
  have dr := d.r
  simp only at dm df de dr
  simp only [PH.v, Shp.cs]
  obtain ⟨W0, hW0⟩ : ∃ W0, W0 = (w.alloc (.cells #[.string nm, .int .u8 sd, .int .u8 sa, .int .u8 sb, .int .u8 sk] 105)).alloc (.cells #[.slice ra rn rc, .slice ma mn mc, .slice fa fn fc, .slice ea en ec] 26) := ⟨_, rfl⟩
  have bw : Below w.heap.size w W0 := by rw [hW0]; exact ((Below.refl _ _).alloc (Nat.le_refl _) _).alloc (by simp) _
  have m0 : W0.heap[w.heap.size]? = some (.cells #[.string nm, .int .u8 sd, .int .u8 sa, .int .u8 sb, .int .u8 sk] 105 (0, 0)) := by rw [hW0]; exact (Below.heap_alloc _ _ _ (by simp)).trans (heap_alloc_new w _)
  have m1 : W0.heap[w.heap.size + 1]? = some (.cells #[.slice ra rn rc, .slice ma mn mc, .slice fa fn fc, .slice ea en ec] 26 (0, 0)) := by
    have := heap_alloc_new (w.alloc (.cells #[.string nm, .int .u8 sd, .int .u8 sa, .int .u8 sb, .int .u8 sk] 105)) (.cells #[.slice ra rn rc, .slice ma mn mc, .slice fa fn fc, .slice ea en ec] 26)
    rw [World.size_alloc] at this
    rw [hW0]; exact this
  have x0 := cellOf m0 4
  have y0 := cellOf m1 0
  have y1 := cellOf m1 1
  have y2 := cellOf m1 2
  have y3 := cellOf m1 3
  simp only [List.getElem?_toArray, List.getElem?_cons_zero, List.getElem?_cons_succ] at x0 y0 y1 y2 y3
  have dr0 := dr.below (Nat.le_refl _) bw
  have df0 := df.below (Nat.le_refl _) bw
  have de0 := de.below (Nat.le_refl _) bw
  have BW := hid bw
  have nr : rn ≤ 9223372036854775807 := dr.n2
  have nm' : mn ≤ 9223372036854775807 := dm.n2
  have er : Hid (rn = p.recs.length) := hid dr.n1
  have em : Hid (mn = p.maps.length) := hid dm.n1
  have ef : Hid (fn = p.funcs.length) := hid df.n1
  have ee : Hid (en = p.events.length) := hid de.n1
  clear d dm df de dr m0 m1 bw
  by_cases h9 : sk = 9
  · subst h9
    have K := hid (isBelow_any W0 k (rn : Int))
    cases hb : blw k (rn : Int) with
    | false =>
      rw [hb] at K
      have HP : Hid (rowLen 9 p k = (0, false)) := hid (by unfold rowLen; rw [if_pos rfl, ← er.out, hb]; rfl)
      clear hb dr0 df0 de0
      go_enter Tryz.func55, Tryz.ntmps55
      go_upto_region 1 with fail
      rw [← hW0]
      clear hW0
      go_wp2_with (go_at_call 88; (refine (Hid.out K).mono ?_; rintro e W0 ⟨rfl, rfl⟩))
      go_ret2
      exact ⟨by rw [HP.out]; rfl, BW.out⟩
    | true =>
      obtain ⟨kk, rfl, hk⟩ := blw_nat hb
      rw [hb] at K
      obtain ⟨g, hg, sg, b, off, rfl, c1⟩ := dr0.recd hk
      have HP : Hid (rowLen 9 p (kk : Int) = ((g.2.fields.length : Int), true)) := hid (by
        unfold rowLen
        rw [if_pos rfl, ← er.out, hb, if_pos rfl, Int.toNat_natCast, List.getD_eq_getElem?_getD, List.getElem?_map, hg]; rfl)
      have hfn : Hid (g.1.fn = g.2.fields.length) := hid sg.fn
      have hf2 := sg.f2
      have hkI : (kk : Int) < (rn : Int) := by omega
      have hk0 : (0 : Int) ≤ (kk : Int) := by omega
      clear hb dr0 df0 de0 hg sg
      obtain ⟨⟨gnm, gfa, gfn, gfc, gta, gtn, gtc⟩, gr⟩ := g
      simp only at c1 hfn hf2
      go_enter Tryz.func55, Tryz.ntmps55
      go_upto_region 1 with fail
      rw [← hW0]
      clear hW0
      go_wp2_with (go_at_call 88; (refine (Hid.out K).mono ?_; rintro e W0 ⟨rfl, rfl⟩))
      go_ret2
      exact ⟨by rw [HP.out, hfn.out]; rfl, BW.out⟩
  · by_cases h11 : sk = 11
    · subst h11
      have K := hid (isBelow_any W0 k (mn : Int))
      have HP : Hid (rowLen 11 p k = (0, blw k (mn : Int))) := hid (by unfold rowLen; rw [if_neg (by omega), if_pos rfl, ← em.out])
      clear dr0 df0 de0
      go_enter Tryz.func55, Tryz.ntmps55
      go_upto_region 1 with fail
      rw [← hW0]
      clear hW0
      go_wp2_with (go_at_call 88; (refine (Hid.out K).mono ?_; rintro e W0 ⟨rfl, rfl⟩))
      go_ret2
      exact ⟨by rw [HP.out]; rfl, BW.out⟩
    · by_cases h12 : sk = 12
      · subst h12
        have K := hid (params_any W0 fa fn fc p.funcs df0 k)
        have HP : Hid (rowLen 12 p k = parmB (p.funcs.map (·.2)) k) := hid (by unfold rowLen; rw [if_neg (by omega), if_neg (by omega), if_pos rfl])
        clear dr0 df0 de0
        generalize parmB (p.funcs.map (·.2)) k = pr at K HP
        obtain ⟨pr1, pr2⟩ := pr
        go_enter Tryz.func55, Tryz.ntmps55
        go_upto_region 1 with fail
        rw [← hW0]
        clear hW0
        go_wp2_with (go_at_call 89; (refine (Hid.out K).mono ?_; rintro e W0 ⟨rfl, rfl⟩))
        go_ret2
        exact ⟨by rw [HP.out]; rfl, BW.out⟩
      · by_cases h13 : sk = 13
        · subst h13
          have K := hid (params_any W0 ea en ec p.events de0 k)
          have HP : Hid (rowLen 13 p k = parmB (p.events.map (·.2)) k) := hid (by unfold rowLen; rw [if_neg (by omega), if_neg (by omega), if_neg (by omega), if_pos rfl])
          clear dr0 df0 de0
          generalize parmB (p.events.map (·.2)) k = pr at K HP
          obtain ⟨pr1, pr2⟩ := pr
          go_enter Tryz.func55, Tryz.ntmps55
          go_upto_region 1 with fail
          rw [← hW0]
          clear hW0
          go_wp2_with (go_at_call 89; (refine (Hid.out K).mono ?_; rintro e W0 ⟨rfl, rfl⟩))
          go_ret2
          exact ⟨by rw [HP.out]; rfl, BW.out⟩
        · have HP : Hid (rowLen sk p k = (0, true)) := hid (by unfold rowLen; rw [if_neg h9, if_neg h11, if_neg h12, if_neg h13])
          have b1 : (sk == 9) = false := by simp [h9]
          have b2 : (sk == 11) = false := by simp [h11]
          have b3 : (sk == 12) = false := by simp [h12]
          have b4 : (sk == 13) = false := by simp [h13]
          clear dr0 df0 de0
          go_enter Tryz.func55, Tryz.ntmps55
          go_upto_region 1 with fail
          rw [← hW0]
          clear hW0
          go_wp2
          go_ret2
          exact ⟨by rw [HP.out]; rfl, BW.out⟩
end Go.Proofs.YthnolocldeokeaaGreat

