/- Rows of numbers that a function grows, cuts and writes into. -/
import Derived.Test.YtmhjnfibpngpmaaJAC
import Derived.Test.YtmhjnfibpngpmaaRows
import Derived.WalkKit
import Derived.WalkSpells
import Derived.WalkLawsBesides
import Derived.Deep.OwnRows
import Derived.Maps.AppendAt
import Derived.Deep.AppendLies
import Derived.Lib.AppendStr
import Derived.Deep.LoopGhost
import Derived.Below
import Derived.RangeFuncNested
import Derived.RangeFuncBound
import Derived.RangeFuncCalls
import Derived.RangeFuncLeaves
import Derived.LoopIn
import Derived.LoopNIn
import Derived.OwnWalkIn
import Derived.TacticsInMore
import Derived.BigRegionIn
import Derived.BigQuiet
import Derived.Deep.RegionHeld3
import Derived.Shelf.RegionOpen
import Derived.Shelf.Abstract
import Derived.Sort.LoopGhostIn
import Derived.Deep.CutBlock
import Derived.Deep.DeepCutAuto
import Derived.Shelf.Strconv.Clone
namespace Go.Proofs.Ytmhjnfibpngpmaa
set_option maxRecDepth 100000
open Go.RowKit Go.Deep Go.Shelf
set_option linter.unusedVariables false
set_option linter.unusedSimpArgs false

theorem heap_set_at {w : World} {b : Nat} {c : Array Value} {e : TypeId} {f : Nat × Nat} (h : w.heap[b]? = some (.cells c e f)) (i : Nat) (u : Value) :
    (w.setCell ⟨b, i, none⟩ u).heap[b]? = some (.cells (c.setIfInBounds i u) e f) := by
  simp [World.setCell, Array.getElem?_modify, h]
theorem belowCell {w w' : World} {B b o : Nat} {v : Value} (h : w.cell? ⟨b, o, none⟩ = some v) (hB : w.heap.size ≤ B) (k : Below B w w') : w'.cell? ⟨b, o, none⟩ = some v := by
  have hb : b < w.heap.size := World.block_lt_of_cell? w _ h
  exact (k.cell (p := ⟨b, o, none⟩) (by show b < B; omega)).trans h
theorem lt_of_heap {w : World} {b : Nat} {o : Obj} (h : w.heap[b]? = some o) : b < w.heap.size := (Array.getElem?_eq_some_iff.1 h).1

def iv (xs : List Int) : List Value := xs.map fun x => .int .i64 x
structure GRow (w : World) (B : Nat) (a : Option Addr) (n cap : Nat) (xs : List Int) : Prop where
  n1 : n = xs.length
  nc : n ≤ cap
  at' : ∀ x : Addr, a = some x → ∃ g, x = ⟨g, 0, none⟩ ∧ B ≤ g ∧ g < w.heap.size
  ct : 0 < cap → ∃ g cur, a = some ⟨g, 0, none⟩ ∧ w.heap[g]? = some (.cells cur 3 (0, 0)) ∧ cap ≤ cur.size ∧ cur.toList.take n = iv xs
theorem GRow.nil (w : World) (B : Nat) : GRow w B none 0 0 [] := ⟨rfl, Nat.le_refl _, fun x e => (by cases e), fun h => (by omega)⟩
theorem GRow.keep {w w' : World} {B : Nat} {a : Option Addr} {n cap : Nat} {xs : List Int} (h : GRow w B a n cap xs) (hs : w.heap.size ≤ w'.heap.size) (e : ∀ x : Addr, a = some x → w'.heap[x.block]? = w.heap[x.block]?) : GRow w' B a n cap xs := by
  refine ⟨h.n1, h.nc, fun x ex => ?_, fun hc => ?_⟩
  · obtain ⟨g, h1, h2, h3⟩ := h.at' x ex
    exact ⟨g, h1, h2, by omega⟩
  · obtain ⟨g, cur, rfl, h2, h3⟩ := h.ct hc
    exact ⟨g, cur, rfl, (e _ rfl).trans h2, h3⟩
theorem GRow.below {w w' : World} {B C : Nat} {a : Option Addr} {n cap : Nat} {xs : List Int} (h : GRow w B a n cap xs) (hC : w.heap.size ≤ C) (hb : Below C w w') : GRow w' B a n cap xs :=
  h.keep hb.size (fun x ex => by
    obtain ⟨g, rfl, h2, h3⟩ := h.at' x ex
    exact hb.block _ (by show g < C; omega))
theorem GRow.cell {w : World} {B : Nat} {a : Option Addr} {n cap : Nat} {xs : List Int} (h : GRow w B a n cap xs) {j : Nat} {x : Int} (hj : xs[j]? = some x) : ∃ g, a = some ⟨g, 0, none⟩ ∧ B ≤ g ∧ w.cell? ⟨g, j, none⟩ = some (.int .i64 x) ∧ w.frozen? ⟨g, j, none⟩ = false := by
  have hlt := (List.getElem?_eq_some_iff.1 hj).1
  have hc : 0 < cap := by have := h.n1; have := h.nc; omega
  obtain ⟨g, cur, rfl, h2, h3, h4⟩ := h.ct hc
  obtain ⟨g', e, hB, _⟩ := h.at' _ rfl
  cases e
  refine ⟨g, rfl, hB, ?_, freeOf h2 j⟩
  rw [cellOf h2 j]
  have h5 : (iv xs)[j]? = some (.int .i64 x) := by unfold iv; rw [List.getElem?_map, hj]; rfl
  rw [← h5, ← h4, List.getElem?_take, if_pos (by have := h.n1; omega)]
  simp
theorem GRow.set {w : World} {B : Nat} {n cap : Nat} {xs : List Int} {g : Nat} (h : GRow w B (some ⟨g, 0, none⟩) n cap xs) (j : Nat) (hj : j < n) (v : Int) : GRow (w.setCell ⟨g, j, none⟩ (.int .i64 v)) B (some ⟨g, 0, none⟩) n cap (xs.set j v) := by
  refine ⟨by rw [List.length_set]; exact h.n1, h.nc, fun x ex => ?_, fun hc => ?_⟩
  · obtain ⟨g', h1, h2, h3⟩ := h.at' x ex
    exact ⟨g', h1, h2, by simp [World.setCell]; omega⟩
  · obtain ⟨g', cur, e, h2, h3, h4⟩ := h.ct hc
    cases e
    refine ⟨g, _, rfl, heap_set_at h2 j (.int .i64 v), by simpa using h3, ?_⟩
    rw [Array.toList_setIfInBounds, List.take_set, h4]
    unfold iv
    rw [List.map_set]
theorem GRow.cells {w : World} {B : Nat} {ad : Addr} {n cap : Nat} {xs : List Int} (h : GRow w B (some ad) n cap xs) (d : Nat) : ∀ j u, (iv (xs.drop d))[j]? = some u → w.cell? ((ad.add d).add j) = some u := by
  intro j u hu
  unfold iv at hu
  rw [List.getElem?_map, Option.map_eq_some_iff] at hu
  obtain ⟨x, hx, rfl⟩ := hu
  rw [List.getElem?_drop] at hx
  obtain ⟨g, e, _, hc, _⟩ := h.cell hx
  cases e
  rw [Addr.add_lit, Addr.add_lit, Nat.zero_add]
  exact hc
/- What append leaves: a row, in place or new. -/
def Gwn (w : World) (a : Option Addr) (w' : World) (a' : Option Addr) : Prop := (∃ row, w.grownBy w' row ∧ ∀ b, row = some b → ∃ x : Addr, a = some x ∧ x.block = b) ∧ (a' = a ∨ ∃ g, a' = some ⟨g, 0, none⟩ ∧ w.heap.size ≤ g)
end Go.Proofs.Ytmhjnfibpngpmaa

namespace Go.Proofs.Ytmhjnfibpngpmaa
set_option maxRecDepth 100000
open Go.RowKit Go.Deep Go.Shelf
set_option linter.unusedVariables false
set_option linter.unusedSimpArgs false

/- Reached from 0 by the ways. -/
def Rch (ways : Nat → List Nat) (x : Nat) : Prop := ∀ p : Nat → Prop, p 0 → (∀ i t, p i → t ∈ ways i → p t) → p x
theorem Rch.zero {ways : Nat → List Nat} : Rch ways 0 := fun p h _ => h
theorem Rch.step {ways : Nat → List Nat} {i t : Nat} (h : Rch ways i) (ht : t ∈ ways i) : Rch ways t := fun p h0 hs => hs i t (h p h0 hs) ht
/- Lists without repeats are not long. -/
/- Marks. -/
def mk (cnt : Nat) (P : List Nat) : Array Value := ((List.range cnt).map fun i => Value.bool (decide (i ∈ P))).toArray
theorem mk_size (cnt : Nat) (P : List Nat) : (mk cnt P).size = cnt := by simp [mk]
theorem mk_get {cnt : Nat} {P : List Nat} {i : Nat} (h : i < cnt) : (mk cnt P)[i]? = some (.bool (decide (i ∈ P))) := by
  simp [mk, h]
theorem mk_snoc {cnt : Nat} (P : List Nat) {x : Nat} (h : x < cnt) : (mk cnt P).setIfInBounds x (.bool true) = mk cnt (P ++ [x]) := by
  apply Array.ext_getElem?
  intro i
  rw [Array.getElem?_setIfInBounds, mk_size]
  by_cases hi : i < cnt
  · rw [mk_get hi, mk_get hi]
    by_cases e : x = i
    · subst e; simp [h]
    · have : ¬ i = x := fun k => e k.symm
      simp [e, this]
  · have h1 : (mk cnt P)[i]? = none := by simp [mk, hi]
    have h2 : (mk cnt (P ++ [x]))[i]? = none := by simp [mk, hi]
    rw [h1, h2, if_neg (by omega)]
/- What a walk has come to: P all that was handed on, op what is still to be gone from. -/
/- Within: from is gone from, its first j ways have been handed on. -/
structure Goin (cnt : Nat) (ways : Nat → List Nat) (from' j : Nat) (P op : List Nat) : Prop where
  nod : P.Nodup
  z : 0 ∈ P
  rch : ∀ x ∈ P, Rch ways x
  lt : ∀ x ∈ P, x < cnt
  o : ∀ x ∈ op, x ∈ P
  f : from' ∈ P
  cl : ∀ x ∈ P, x ∉ op → x ≠ from' → ∀ t ∈ ways x, t ∈ P
  d : ∀ t ∈ (ways from').take j, t ∈ P
theorem Goin.take {cnt from' j t : Nat} {ways : Nat → List Nat} {P op : List Nat} (h : Goin cnt ways from' j P op) (ht : (ways from')[j]? = some t) (hp : t ∉ P) (hlt : t < cnt) : Goin cnt ways from' (j + 1) (P ++ [t]) (op ++ [t]) := by
  have hm := List.mem_of_getElem? ht
  refine ⟨?_, by simp [h.z], ?_, ?_, ?_, by simp [h.f], ?_, ?_⟩
  · rw [List.nodup_append]
    exact ⟨h.nod, by simp, fun a ha b hb => by simp at hb; subst hb; intro e; subst e; exact hp ha⟩
  · intro x hx
    rcases List.mem_append.1 hx with hx | hx
    · exact h.rch x hx
    · simp at hx; subst hx; exact .step (h.rch _ h.f) hm
  · intro x hx
    rcases List.mem_append.1 hx with hx | hx
    · exact h.lt x hx
    · simp at hx; subst hx; exact hlt
  · intro x hx
    rcases List.mem_append.1 hx with hx | hx
    · exact List.mem_append.2 (.inl (h.o x hx))
    · exact List.mem_append.2 (.inr hx)
  · intro x hx hn hf u hu
    rcases List.mem_append.1 hx with hx | hx
    · exact List.mem_append.2 (.inl (h.cl x hx (fun k => hn (List.mem_append.2 (.inl k))) hf u hu))
    · exact absurd (List.mem_append.2 (.inr hx)) hn
  · intro u hu
    rw [List.take_add_one, ht] at hu
    rcases List.mem_append.1 hu with hu | hu
    · exact List.mem_append.2 (.inl (h.d u hu))
    · simp at hu; subst hu; simp
end Go.Proofs.Ytmhjnfibpngpmaa

namespace Go.Proofs.Ytmhjnfibpngpmaa
set_option maxRecDepth 100000
open Go.RowKit Go.Deep Go.Shelf
set_option linter.unusedVariables false
set_option linter.unusedSimpArgs false

/- What a round keeps: all below, and all cells but those of two blocks. -/
/- The walk's own memory. -/
structure WkR (w0 : World) (C1 C2 SB cnt : Nat) (V : Value) (P : List Nat) (wr : World) : Prop where
  b : Below w0.heap.size w0 wr
  c1 : wr.heap[C1]? = some (.cells #[.int .i64 (cnt : Int)] 3 (0, 0))
  c2 : wr.heap[C2]? = some (.cells #[V] 157 (0, 0))
  s : wr.heap[SB]? = some (.cells (mk cnt P) 4 (0, 0))
theorem WkR.below {w0 : World} {C1 C2 SB cnt : Nat} {V : Value} {P : List Nat} {wr w' : World} (h : WkR w0 C1 C2 SB cnt V P wr) (k : Below wr.heap.size wr w') : WkR w0 C1 C2 SB cnt V P w' :=
  ⟨h.b.trans (k.mono h.b.size), (k.block _ (lt_of_heap h.c1)).trans h.c1, (k.block _ (lt_of_heap h.c2)).trans h.c2, (k.block _ (lt_of_heap h.s)).trans h.s⟩
theorem WkR.set {w0 : World} {C1 C2 SB cnt x : Nat} {V : Value} {P : List Nat} {wr : World} (h : WkR w0 C1 C2 SB cnt V P wr) (hx : x < cnt) (h1 : C1 ≠ SB) (h2 : C2 ≠ SB) (h3 : w0.heap.size ≤ SB) : WkR w0 C1 C2 SB cnt V (P ++ [x]) (wr.setCell ⟨SB, x, none⟩ (.bool true)) :=
  ⟨h.b.setCell (p := ⟨SB, x, none⟩) h3 _, (Below.heap_setCell _ _ _ _ h1).trans h.c1, (Below.heap_setCell _ _ _ _ h2).trans h.c2, by rw [heap_set_at h.s, mk_snoc P hx]⟩
theorem WkR.grown {w0 : World} {C1 C2 SB cnt : Nat} {V : Value} {P : List Nat} {wr w' : World} {row : Option Nat} (h : WkR w0 C1 C2 SB cnt V P wr) (k : wr.grownBy w' row) (hr : ∀ b, row = some b → w0.heap.size ≤ b ∧ b ≠ C1 ∧ b ≠ C2 ∧ b ≠ SB) : WkR w0 C1 C2 SB cnt V P w' := by
  have hb : ∀ j, j < wr.heap.size → (∀ b, row = some b → b ≠ j) → w'.heap[j]? = wr.heap[j]? := fun j hj hn => k.block j hj (fun e => by exact hn j e.symm rfl)
  refine ⟨⟨k.os.trans h.b.os, k.tape.trans h.b.tape, k.output.trans h.b.output, Nat.le_trans h.b.size k.size, fun j hj => ?_⟩, ?_, ?_, ?_⟩
  · exact (hb j (Nat.lt_of_lt_of_le hj h.b.size) (fun b e => by have := (hr b e).1; omega)).trans (h.b.block j hj)
  · exact (hb _ (lt_of_heap h.c1) (fun b e => (hr b e).2.1)).trans h.c1
  · exact (hb _ (lt_of_heap h.c2) (fun b e => (hr b e).2.2.1)).trans h.c2
  · exact (hb _ (lt_of_heap h.s) (fun b e => (hr b e).2.2.2)).trans h.s
/- A row of numbers, told. -/
def vals {cnt : Nat} (pre : List (Fin cnt)) : List Nat := pre.map fun x => x.val
end Go.Proofs.Ytmhjnfibpngpmaa

namespace Go.Proofs.Ytmhjnfibpngpmaa
set_option maxRecDepth 100000
open Go.RowKit Go.Deep Go.Shelf
set_option linter.unusedVariables false
set_option linter.unusedSimpArgs false
structure Opx where
  c : Int
  d : Int
  a : Int
  b : Int
  k : Int
def Opx.cs (o : Opx) : Array Value := #[.int .i64 o.c, .int .i64 o.d, .int .i64 o.a, .int .i64 o.b, .int .i64 o.k]
def ORd (w : World) (a : Option Addr) (l : List Opx) : Prop := ∀ (j : Nat) (x : Opx), l[j]? = some x → ∃ b off, a = some ⟨b, off, none⟩ ∧ ∀ i, i < 5 → w.cell? ⟨b, off + j * 5 + i, none⟩ = x.cs[i]?
theorem ORd.below {w w' : World} {a : Option Addr} {l : List Opx} (h : ORd w a l) (k : Below w.heap.size w w') : ORd w' a l := fun j x hx => by
  obtain ⟨b, off, e, hc⟩ := h j x hx
  refine ⟨b, off, e, fun i hi => ?_⟩
  obtain ⟨v, hv⟩ : ∃ v, x.cs[i]? = some v := by
    rcases (show i = 0 ∨ i = 1 ∨ i = 2 ∨ i = 3 ∨ i = 4 by omega) with rfl | rfl | rfl | rfl | rfl <;> exact ⟨_, rfl⟩
  have := hc i hi
  rw [hv] at this ⊢
  exact belowCell this (Nat.le_refl _) k
def jmpB (o : Opx) : Bool := o.c == 38 || o.c == 39
/- Numbers that a slice reads. -/
def IRd (w : World) (a : Option Addr) (l : List Int) : Prop := ∀ (j : Nat) (x : Int), l[j]? = some x → ∃ b off, a = some ⟨b, off, none⟩ ∧ w.cell? ⟨b, off + j, none⟩ = some (.int .i64 x)
theorem GRow.ird {w : World} {B : Nat} {a : Option Addr} {n cap : Nat} {xs : List Int} (h : GRow w B a n cap xs) : IRd w a xs := fun j x hx => by
  obtain ⟨g, e, _, hc, _⟩ := h.cell hx
  exact ⟨g, 0, e, by rw [Nat.zero_add]; exact hc⟩
theorem IRd.below {w w' : World} {a : Option Addr} {l : List Int} (h : IRd w a l) (k : Below w.heap.size w w') : IRd w' a l := fun j x hx => by
  obtain ⟨b, off, e, hc⟩ := h j x hx
  exact ⟨b, off, e, belowCell hc (Nat.le_refl _) k⟩
end Go.Proofs.Ytmhjnfibpngpmaa

namespace Go.Proofs.Ytmhjnfibpngpmaa
open Go.RowKit Go.Deep Go.Shelf
set_option linter.unusedVariables false
set_option linter.unusedSimpArgs false
structure Shp where
  nm : ByteArray
  d : Int
  a : Int
  b : Int
  k : Int
def Shp.cs (s : Shp) : List Value := [.string s.nm, .int .u8 s.d, .int .u8 s.a, .int .u8 s.b, .int .u8 s.k]
def shp0 : Shp := ⟨.empty, 0, 0, 0, 0⟩
def shpL : List Shp := [shp0, ⟨⟨#[105, 110, 116]⟩, 1, 0, 0, 6⟩, ⟨⟨#[116, 101, 120, 116]⟩, 1, 0, 0, 7⟩, ⟨⟨#[98, 111, 111, 108]⟩, 1, 0, 0, 8⟩, ⟨⟨#[109, 111, 118, 101]⟩, 1, 3, 0, 0⟩, ⟨⟨#[97, 100, 100]⟩, 1, 3, 3, 0⟩, ⟨⟨#[115, 117, 98]⟩, 1, 3, 3, 0⟩, ⟨⟨#[109, 117, 108]⟩, 1, 3, 3, 0⟩, ⟨⟨#[119, 97, 100, 100]⟩, 1, 3, 3, 0⟩, ⟨⟨#[119, 115, 117, 98]⟩, 1, 3, 3, 0⟩, ⟨⟨#[119, 109, 117, 108]⟩, 1, 3, 3, 0⟩, ⟨⟨#[100, 105, 118]⟩, 1, 3, 3, 0⟩, ⟨⟨#[109, 111, 100]⟩, 1, 3, 3, 0⟩, ⟨⟨#[99, 97, 116]⟩, 1, 3, 3, 0⟩, ⟨⟨#[101, 113]⟩, 1, 3, 3, 0⟩, ⟨⟨#[110, 101]⟩, 1, 3, 3, 0⟩, ⟨⟨#[108, 116]⟩, 1, 3, 3, 0⟩, ⟨⟨#[108, 101]⟩, 1, 3, 3, 0⟩, ⟨⟨#[103, 116]⟩, 1, 3, 3, 0⟩, ⟨⟨#[103, 101]⟩, 1, 3, 3, 0⟩, ⟨⟨#[110, 101, 103]⟩, 1, 3, 0, 0⟩, ⟨⟨#[110, 111, 116]⟩, 1, 3, 0, 0⟩, ⟨⟨#[108, 101, 110]⟩, 1, 3, 0, 0⟩, ⟨⟨#[115, 116, 114]⟩, 1, 3, 0, 0⟩, ⟨⟨#[109, 97, 107, 101]⟩, 1, 5, 0, 9⟩, ⟨⟨#[102, 105, 101, 108, 100]⟩, 1, 3, 0, 10⟩, ⟨⟨#[103, 101, 116]⟩, 1, 3, 0, 11⟩, ⟨⟨#[104, 97, 115]⟩, 1, 3, 0, 11⟩, ⟨⟨#[112, 117, 116]⟩, 0, 3, 3, 11⟩, ⟨⟨#[100, 101, 108]⟩, 0, 3, 0, 11⟩, ⟨⟨#[110, 101, 120, 116]⟩, 1, 3, 3, 11⟩, ⟨⟨#[99, 97, 108, 108]⟩, 2, 5, 0, 12⟩, ⟨⟨#[97, 115, 107]⟩, 1, 3, 0, 7⟩, ⟨⟨#[101, 109, 105, 116]⟩, 0, 3, 0, 0⟩, ⟨⟨#[97, 102, 116, 101, 114]⟩, 0, 3, 5, 13⟩, ⟨⟨#[99, 104, 97, 114, 103, 101]⟩, 0, 0, 0, 0⟩, ⟨⟨#[101, 110, 116, 101, 114]⟩, 0, 0, 0, 0⟩, ⟨⟨#[108, 101, 97, 118, 101]⟩, 0, 0, 0, 0⟩, ⟨⟨#[106, 117, 109, 112]⟩, 0, 0, 0, 14⟩, ⟨⟨#[117, 110, 108, 101, 115, 115]⟩, 0, 3, 0, 14⟩, ⟨⟨#[114, 101, 116]⟩, 0, 4, 0, 0⟩]
def shpAt (k : Int) : Shp := shpL.getD k.toNat shp0
def isC (k : Int) : Bool := decide (1 ≤ k) && decide (k < 41)
def shpC : Array Value := (shpL.flatMap Shp.cs).toArray
theorem shpC_len : shpL.length = 41 := by rfl
theorem flat_get : ∀ (l : List Shp) (j : Nat) (s : Shp), l[j]? = some s → ∀ i, i < 5 → (l.flatMap Shp.cs)[j * 5 + i]? = s.cs[i]?
  | [], j, s, h => by simp at h
  | p :: l, 0, s, h => fun i hi => by
    simp at h; subst h
    rw [List.flatMap_cons, Nat.zero_mul, Nat.zero_add, List.getElem?_append_left (by show i < 5; exact hi)]
  | p :: l, j + 1, s, h => fun i hi => by
    have h1 : l[j]? = some s := by simpa using h
    have h2 := flat_get l j s h1 i hi
    rw [List.flatMap_cons, List.getElem?_append_right (by show 5 ≤ (j + 1) * 5 + i; omega)]
    have : (j + 1) * 5 + i - p.cs.length = j * 5 + i := by show (j + 1) * 5 + i - 5 = _; omega
    rw [this]; exact h2
theorem shp_get {k : Nat} (hk : k < 41) : shpL[k]? = some (shpAt (k : Int)) := by
  unfold shpAt
  rw [Int.toNat_natCast, List.getD_eq_getElem?_getD, List.getElem?_eq_getElem (show k < shpL.length by rw [shpC_len]; exact hk)]
  rfl
def blw (n c : Int) : Bool := decide (0 ≤ n) && decide (n < c)
set_option maxRecDepth 100000 in
theorem isBelow_any (w : World) (n c : Int) : Calls Try.prog 72 #[.int .i64 n, .int .i64 c] w fun e w' => e = .returned (.bool (blw n c)) ∧ w' = w := by
  by_cases h1 : 0 ≤ n
  · by_cases h2 : n < c
    · have HD : Hid (blw n c = true) := hid (by simp [blw, h1, h2])
      go_enter Try.func72, Try.ntmps72
      go_wp2
      go_ret
      exact ⟨by rw [HD.out]; rfl, rfl⟩
    · have HD : Hid (blw n c = false) := hid (by simp [blw, h2])
      go_enter Try.func72, Try.ntmps72
      go_wp2
      go_ret
      exact ⟨by rw [HD.out]; rfl, rfl⟩
  · have HD : Hid (blw n c = false) := hid (by simp [blw, h1])
    go_enter Try.func72, Try.ntmps72
    go_wp2
    go_ret
    exact ⟨by rw [HD.out]; rfl, rfl⟩
/- The pure side. -/
def rc0 : Rc := ⟨.empty, [], []⟩
def parmB (ss : List Sg) (k : Int) : Int × Bool := if blw k (ss.length : Int) = true then (((ss.getD k.toNat ⟨.empty, [], (0, 0)⟩).params.length : Int), true) else (0, false)
def rowLen (r : Int) (p : Pg) (k : Int) : Int × Bool :=
  if r = 9 then (if blw k (p.recs.length : Int) = true then ((((p.recs.map (·.2)).getD k.toNat rc0).fields.length : Int), true) else (0, false))
  else if r = 11 then (0, blw k (p.maps.length : Int))
  else if r = 12 then parmB (p.funcs.map (·.2)) k
  else if r = 13 then parmB (p.events.map (·.2)) k
  else (0, true)
structure Fx where
  regs : Int
  ops : List Opx
structure Cx where
  p : Pg
  ints : Nat
  texts : List ByteArray
  funcs : List Fx
  events : List Fx
def bnd (c : Cx) (regs : Int) (nops : Nat) (r len : Int) : Int × Int :=
  if r = 1 ∨ r = 3 then (0, regs - 1)
  else if r = 2 ∨ r = 4 then (-1, regs - 1)
  else if r = 5 then (0, regs - len)
  else if r = 6 then (0, (c.ints : Int) - 1)
  else if r = 7 then (0, (c.texts.length : Int) - 1)
  else if r = 8 then (0, 1)
  else if r = 9 then (0, (c.p.recs.length : Int) - 1)
  else if r = 10 then (0, 11)
  else if r = 11 then (0, (c.p.maps.length : Int) - 1)
  else if r = 12 then (0, (c.p.funcs.length : Int) - 1)
  else if r = 13 then (0, (c.p.events.length : Int) - 1)
  else if r = 14 then (0, (nops : Int) - 1)
  else (0, 0)
def inB (b : Int × Int) (n : Int) : Bool := !(decide (n < b.1) || decide (b.2 < n))
def isOpB (c : Cx) (regs : Int) (nops : Nat) (o : Opx) : Bool :=
  isC o.c && (let s := shpAt o.c; let len := (rowLen s.k c.p o.k).1
    inB (bnd c regs nops s.d len) o.d && inB (bnd c regs nops s.a len) o.a && inB (bnd c regs nops s.b len) o.b && inB (bnd c regs nops s.k len) o.k)
def isFnB (c : Cx) (params : Nat) (f : Fx) : Bool := !(decide (f.regs < (params : Int)) || decide (64 < f.regs) || decide (f.ops.length < 1) || decide (2000 < f.ops.length)) && f.ops.all (isOpB c f.regs f.ops.length)
def isFnsB (c : Cx) (ss : List Sg) (fs : List Fx) : Bool := (ss.zip fs).all fun x => isFnB c x.1.params.length x.2
def constB (c : Cx) : Bool := decide (c.ints ≤ 1000) && decide (c.texts.length ≤ 1000) && c.texts.all fun t => decide (t.size ≤ 64)
def isB (c : Cx) : Bool := rightB c.p && constB c && decide (c.funcs.length = c.p.funcs.length) && decide (c.events.length = c.p.events.length) && isFnsB c (c.p.funcs.map (·.2)) c.funcs && isFnsB c (c.p.events.map (·.2)) c.events
end Go.Proofs.Ytmhjnfibpngpmaa

namespace Go.Proofs.Ytmhjnfibpngpmaa
open Go.RowKit Go.Deep Go.Shelf
set_option linter.unusedVariables false
set_option linter.unusedSimpArgs false
theorem blw_nat {k : Int} {n : Nat} (h : blw k (n : Int) = true) : ∃ kk : Nat, k = (kk : Int) ∧ kk < n := by
  unfold blw at h
  simp at h
  exact ⟨k.toNat, by omega, by omega⟩
theorem GRd.sig {w : World} {a : Option Addr} {n : Nat} {gs : List (GH × Sg)} (d : GRd w a n gs) {kk : Nat} (hk : kk < n) : ∃ g : GH × Sg, gs[kk]? = some g ∧ SgRd w g.1 g.2 ∧ ∃ b off, a = some ⟨b, off, none⟩ ∧ w.cell? ⟨b, off + kk * 4 + 1, none⟩ = some (.slice g.1.pa g.1.pn g.1.pc) := by
  have hl : kk < gs.length := by rw [← d.n1]; exact hk
  have hg : gs[kk]? = some gs[kk] := List.getElem?_eq_getElem hl
  obtain ⟨b, off, e, _, hc⟩ := d.rd kk gs[kk].1.cs (by simp [hg])
  exact ⟨_, hg, d.el _ (List.getElem_mem hl), b, off, e, hc 1 (by omega)⟩
theorem parm_at {gs : List (GH × Sg)} {kk : Nat} {g : GH × Sg} (h : gs[kk]? = some g) (hb : blw (kk : Int) (gs.length : Int) = true) : parmB (gs.map (·.2)) (kk : Int) = ((g.2.params.length : Int), true) := by
  unfold parmB
  rw [List.length_map, hb, if_pos rfl, Int.toNat_natCast, List.getD_eq_getElem?_getD, List.getElem?_map, h]
  rfl
set_option maxRecDepth 100000 in
theorem params_any (w : World) (a : Option Addr) (n cap : Nat) (gs : List (GH × Sg)) (d : GRd w a n gs) (k : Int) : Calls Try.prog 73 #[.slice a n cap, .int .i64 k] w fun e w' => e = .returned (.tuple #[.int .i64 (parmB (gs.map (·.2)) k).1, .bool (parmB (gs.map (·.2)) k).2]) ∧ w' = w := by
  have hn := d.n2
  have K := hid (isBelow_any w k (n : Int))
  cases hb : blw k (n : Int) with
  | false =>
    rw [hb] at K
    have HP : Hid (parmB (gs.map (·.2)) k = (0, false)) := hid (by unfold parmB; rw [List.length_map, ← d.n1, hb]; rfl)
    clear hb d
    go_enter Try.func73, Try.ntmps73
    go_wp2_with (go_at_call 72; (refine (Hid.out K).mono ?_; rintro e w ⟨rfl, rfl⟩))
    go_ret2
    exact ⟨by rw [HP.out]; rfl, rfl⟩
  | true =>
    obtain ⟨kk, rfl, hk⟩ := blw_nat hb
    rw [hb] at K
    obtain ⟨g, hg, sg, b, off, rfl, c1⟩ := d.sig hk
    have HP := hid (parm_at hg (by rw [← d.n1]; exact hb))
    have hpn : Hid (g.1.pn = g.2.params.length) := hid sg.pn
    have hp2 := sg.p2
    have hkI : (kk : Int) < (n : Int) := by omega
    have hk0 : (0 : Int) ≤ (kk : Int) := by omega
    clear hb d hg sg
    obtain ⟨⟨nm, pa, pn, pc, kd, rr⟩, sgg⟩ := g
    simp only at c1 hpn hp2
    go_enter Try.func73, Try.ntmps73
    go_wp2_with (go_at_call 72; (refine (Hid.out K).mono ?_; rintro e w ⟨rfl, rfl⟩))
    go_ret2
    exact ⟨by rw [HP.out, hpn.out]; rfl, rfl⟩
theorem RRd.recd {w : World} {a : Option Addr} {n : Nat} {rs : List (RH × Rc)} (d : RRd w a n rs) {kk : Nat} (hk : kk < n) : ∃ g : RH × Rc, rs[kk]? = some g ∧ RcRd w g.1 g.2 ∧ ∃ b off, a = some ⟨b, off, none⟩ ∧ w.cell? ⟨b, off + kk * 3 + 1, none⟩ = some (.slice g.1.fa g.1.fn g.1.fc) := by
  have hl : kk < rs.length := by rw [← d.n1]; exact hk
  have hg : rs[kk]? = some rs[kk] := List.getElem?_eq_getElem hl
  obtain ⟨b, off, e, _, hc⟩ := d.rd kk rs[kk].1.cs (by simp [hg])
  exact ⟨_, hg, d.el _ (List.getElem_mem hl), b, off, e, hc 1 (by omega)⟩
set_option maxRecDepth 100000 in
set_option maxHeartbeats 1000000 in
theorem rowLen_any (w : World) (s : Shp) (h : PH) (p : Pg) (d : PRd w h p) (k : Int) : Calls Try.prog 25 #[.agg s.cs.toArray, h.v, .int .i64 k] w fun e w' => e = .returned (.tuple #[.int .i64 (rowLen s.k p k).1, .bool (rowLen s.k p k).2]) ∧ Below w.heap.size w w' := by
  obtain ⟨nm, sd, sa, sb, sk⟩ := s
  obtain ⟨ra, rn, rc, ma, mn, mc, fa, fn, fc, ea, en, ec⟩ := h
  have dm := d.m
  have df := d.f
  have de := d.e
  have dr := d.r
  simp only at dm df de dr
  simp only [PH.v, Shp.cs]
  obtain ⟨W0, hW0⟩ : ∃ W0, W0 = (w.alloc (.cells #[.string nm, .int .u8 sd, .int .u8 sa, .int .u8 sb, .int .u8 sk] 81)).alloc (.cells #[.slice ra rn rc, .slice ma mn mc, .slice fa fn fc, .slice ea en ec] 36) := ⟨_, rfl⟩
  have bw : Below w.heap.size w W0 := by rw [hW0]; exact ((Below.refl _ _).alloc (Nat.le_refl _) _).alloc (by simp) _
  have m0 : W0.heap[w.heap.size]? = some (.cells #[.string nm, .int .u8 sd, .int .u8 sa, .int .u8 sb, .int .u8 sk] 81 (0, 0)) := by rw [hW0]; exact (Below.heap_alloc _ _ _ (by simp)).trans (heap_alloc_new w _)
  have m1 : W0.heap[w.heap.size + 1]? = some (.cells #[.slice ra rn rc, .slice ma mn mc, .slice fa fn fc, .slice ea en ec] 36 (0, 0)) := by
    have := heap_alloc_new (w.alloc (.cells #[.string nm, .int .u8 sd, .int .u8 sa, .int .u8 sb, .int .u8 sk] 81)) (.cells #[.slice ra rn rc, .slice ma mn mc, .slice fa fn fc, .slice ea en ec] 36)
    rw [World.size_alloc] at this
    rw [hW0]; exact this
  have x0 := cellOf m0 4
  have y0 := cellOf m1 0
  have y1 := cellOf m1 1
  have y2 := cellOf m1 2
  have y3 := cellOf m1 3
  simp only [List.getElem?_toArray, List.getElem?_cons_zero, List.getElem?_cons_succ] at x0 y0 y1 y2 y3
  have dr0 := dr.below (Nat.le_refl _) bw
  have df0 := df.below (Nat.le_refl _) bw
  have de0 := de.below (Nat.le_refl _) bw
  have BW := hid bw
  have nr : rn ≤ 9223372036854775807 := dr.n2
  have nm' : mn ≤ 9223372036854775807 := dm.n2
  have er : Hid (rn = p.recs.length) := hid dr.n1
  have em : Hid (mn = p.maps.length) := hid dm.n1
  have ef : Hid (fn = p.funcs.length) := hid df.n1
  have ee : Hid (en = p.events.length) := hid de.n1
  clear d dm df de dr m0 m1 bw
  by_cases h9 : sk = 9
  · subst h9
    have K := hid (isBelow_any W0 k (rn : Int))
    cases hb : blw k (rn : Int) with
    | false =>
      rw [hb] at K
      have HP : Hid (rowLen 9 p k = (0, false)) := hid (by unfold rowLen; rw [if_pos rfl, ← er.out, hb]; rfl)
      clear hb dr0 df0 de0
      go_enter Try.func25, Try.ntmps25
      go_upto_region 1 with fail
      rw [← hW0]
      clear hW0
      go_wp2_with (go_at_call 72; (refine (Hid.out K).mono ?_; rintro e W0 ⟨rfl, rfl⟩))
      go_ret2
      exact ⟨by rw [HP.out]; rfl, BW.out⟩
    | true =>
      obtain ⟨kk, rfl, hk⟩ := blw_nat hb
      rw [hb] at K
      obtain ⟨g, hg, sg, b, off, rfl, c1⟩ := dr0.recd hk
      have HP : Hid (rowLen 9 p (kk : Int) = ((g.2.fields.length : Int), true)) := hid (by
        unfold rowLen
        rw [if_pos rfl, ← er.out, hb, if_pos rfl, Int.toNat_natCast, List.getD_eq_getElem?_getD, List.getElem?_map, hg]; rfl)
      have hfn : Hid (g.1.fn = g.2.fields.length) := hid sg.fn
      have hf2 := sg.f2
      have hkI : (kk : Int) < (rn : Int) := by omega
      have hk0 : (0 : Int) ≤ (kk : Int) := by omega
      clear hb dr0 df0 de0 hg sg
      obtain ⟨⟨gnm, gfa, gfn, gfc, gta, gtn, gtc⟩, gr⟩ := g
      simp only at c1 hfn hf2
      go_enter Try.func25, Try.ntmps25
      go_upto_region 1 with fail
      rw [← hW0]
      clear hW0
      go_wp2_with (go_at_call 72; (refine (Hid.out K).mono ?_; rintro e W0 ⟨rfl, rfl⟩))
      go_ret2
      exact ⟨by rw [HP.out, hfn.out]; rfl, BW.out⟩
  · by_cases h11 : sk = 11
    · subst h11
      have K := hid (isBelow_any W0 k (mn : Int))
      have HP : Hid (rowLen 11 p k = (0, blw k (mn : Int))) := hid (by unfold rowLen; rw [if_neg (by omega), if_pos rfl, ← em.out])
      clear dr0 df0 de0
      go_enter Try.func25, Try.ntmps25
      go_upto_region 1 with fail
      rw [← hW0]
      clear hW0
      go_wp2_with (go_at_call 72; (refine (Hid.out K).mono ?_; rintro e W0 ⟨rfl, rfl⟩))
      go_ret2
      exact ⟨by rw [HP.out]; rfl, BW.out⟩
    · by_cases h12 : sk = 12
      · subst h12
        have K := hid (params_any W0 fa fn fc p.funcs df0 k)
        have HP : Hid (rowLen 12 p k = parmB (p.funcs.map (·.2)) k) := hid (by unfold rowLen; rw [if_neg (by omega), if_neg (by omega), if_pos rfl])
        clear dr0 df0 de0
        generalize parmB (p.funcs.map (·.2)) k = pr at K HP
        obtain ⟨pr1, pr2⟩ := pr
        go_enter Try.func25, Try.ntmps25
        go_upto_region 1 with fail
        rw [← hW0]
        clear hW0
        go_wp2_with (go_at_call 73; (refine (Hid.out K).mono ?_; rintro e W0 ⟨rfl, rfl⟩))
        go_ret2
        exact ⟨by rw [HP.out]; rfl, BW.out⟩
      · by_cases h13 : sk = 13
        · subst h13
          have K := hid (params_any W0 ea en ec p.events de0 k)
          have HP : Hid (rowLen 13 p k = parmB (p.events.map (·.2)) k) := hid (by unfold rowLen; rw [if_neg (by omega), if_neg (by omega), if_neg (by omega), if_pos rfl])
          clear dr0 df0 de0
          generalize parmB (p.events.map (·.2)) k = pr at K HP
          obtain ⟨pr1, pr2⟩ := pr
          go_enter Try.func25, Try.ntmps25
          go_upto_region 1 with fail
          rw [← hW0]
          clear hW0
          go_wp2_with (go_at_call 73; (refine (Hid.out K).mono ?_; rintro e W0 ⟨rfl, rfl⟩))
          go_ret2
          exact ⟨by rw [HP.out]; rfl, BW.out⟩
        · have HP : Hid (rowLen sk p k = (0, true)) := hid (by unfold rowLen; rw [if_neg h9, if_neg h11, if_neg h12, if_neg h13])
          have b1 : (sk == 9) = false := by simp [h9]
          have b2 : (sk == 11) = false := by simp [h11]
          have b3 : (sk == 12) = false := by simp [h12]
          have b4 : (sk == 13) = false := by simp [h13]
          clear dr0 df0 de0
          go_enter Try.func25, Try.ntmps25
          go_upto_region 1 with fail
          rw [← hW0]
          clear hW0
          go_wp2
          go_ret2
          exact ⟨by rw [HP.out]; rfl, BW.out⟩
end Go.Proofs.Ytmhjnfibpngpmaa

namespace Go.Proofs.Ytmhjnfibpngpmaa
open Go.RowKit Go.Deep Go.Shelf
set_option linter.unusedVariables false
set_option linter.unusedSimpArgs false
theorem bel_dN {B : Nat} {a w : World} (h : Below B a w) (n : Nat) : Below B a (w.drewN n) := h.trans ⟨rfl, rfl, rfl, Nat.le_refl _, fun _ _ => rfl⟩
structure FH where
  regs : Int
  oa : Option Addr
  on : Nat
  oc : Nat
def FH.cs (h : FH) : List Value := [.int .i64 h.regs, .slice h.oa h.on h.oc]
def FH.v (h : FH) : Value := .agg #[.int .i64 h.regs, .slice h.oa h.on h.oc]
structure FnRd (w : World) (h : FH) (f : Fx) : Prop where
  rg : h.regs = f.regs
  on : h.on = f.ops.length
  o2 : h.on ≤ 9223372036854775807
  or : ORd w h.oa f.ops
theorem FnRd.below {w w' : World} {h : FH} {f : Fx} {B : Nat} (d : FnRd w h f) (hB : w.heap.size ≤ B) (k : Below B w w') : FnRd w' h f := ⟨d.rg, d.on, d.o2, d.or.below (k.mono hB)⟩
structure FRd (w : World) (a : Option Addr) (n : Nat) (fs : List (FH × Fx)) : Prop where
  n1 : n = fs.length
  n2 : n ≤ 9223372036854775807
  rd : CRd w a 2 (fs.map fun p => p.1.cs)
  el : ∀ p ∈ fs, FnRd w p.1 p.2
theorem FRd.below {w w' : World} {a : Option Addr} {n : Nat} {fs : List (FH × Fx)} {B : Nat} (d : FRd w a n fs) (hB : w.heap.size ≤ B) (k : Below B w w') : FRd w' a n fs := ⟨d.n1, d.n2, d.rd.below hB k, fun p hp => (d.el p hp).below hB k⟩
structure CH where
  h : PH
  ia : Option Addr
  inn : Nat
  ic : Nat
  ta : Option Addr
  tn : Nat
  tc : Nat
  fa : Option Addr
  fn : Nat
  fc : Nat
  ea : Option Addr
  en : Nat
  ec : Nat
def CH.cs (C : CH) : Array Value := #[.slice C.h.ra C.h.rn C.h.rc, .slice C.h.ma C.h.mn C.h.mc, .slice C.h.fa C.h.fn C.h.fc, .slice C.h.ea C.h.en C.h.ec, .slice C.ia C.inn C.ic, .slice C.ta C.tn C.tc, .slice C.fa C.fn C.fc, .slice C.ea C.en C.ec]
def CH.v (C : CH) : Value := .agg C.cs
structure CdRd (w : World) (C : CH) (c : Cx) (fs es : List (FH × Fx)) : Prop where
  p : PRd w C.h c.p
  i1 : C.inn = c.ints
  i2 : C.inn ≤ 9223372036854775807
  t1 : C.tn = c.texts.length
  t2 : C.tn ≤ 9223372036854775807
  tr : SRd w C.ta c.texts
  f : FRd w C.fa C.fn fs
  fe : fs.map (·.2) = c.funcs
  e : FRd w C.ea C.en es
  ee : es.map (·.2) = c.events
theorem CdRd.below {w w' : World} {C : CH} {c : Cx} {fs es : List (FH × Fx)} {B : Nat} (d : CdRd w C c fs es) (hB : w.heap.size ≤ B) (k : Below B w w') : CdRd w' C c fs es := ⟨d.p.below hB k, d.i1, d.i2, d.t1, d.t2, d.tr.below hB k, d.f.below hB k, d.fe, d.e.below hB k, d.ee⟩
/- How many there are. -/
structure Lns (C : CH) (c : Cx) : Prop where
  i1 : C.inn = c.ints
  i2 : C.inn ≤ 9223372036854775807
  t1 : C.tn = c.texts.length
  t2 : C.tn ≤ 9223372036854775807
  r1 : C.h.rn = c.p.recs.length
  r2 : C.h.rn ≤ 9223372036854775807
  m1 : C.h.mn = c.p.maps.length
  m2 : C.h.mn ≤ 9223372036854775807
  f1 : C.h.fn = c.p.funcs.length
  f2 : C.h.fn ≤ 9223372036854775807
  e1 : C.h.en = c.p.events.length
  e2 : C.h.en ≤ 9223372036854775807
theorem CdRd.lns {w : World} {C : CH} {c : Cx} {fs es : List (FH × Fx)} (d : CdRd w C c fs es) : Lns C c := ⟨d.i1, d.i2, d.t1, d.t2, d.p.r.n1, d.p.r.n2, d.p.m.n1, d.p.m.n2, d.p.f.n1, d.p.f.n2, d.p.e.n1, d.p.e.n2⟩
set_option maxRecDepth 100000 in
set_option maxHeartbeats 2000000 in
theorem bounds_any (w : World) (C : CH) (c : Cx) (L : Lns C c) (F : FH) (h0 : 0 ≤ F.regs) (h64 : F.regs ≤ 64) (ho : F.on ≤ 9223372036854775807) (r len : Int) (l0 : 0 ≤ len) (l1 : len ≤ 9223372036854775807) :
    Calls Try.prog 149 #[C.v, F.v, .int .u8 r, .int .i64 len] w fun e w' => e = .returned (.tuple #[.int .i64 (bnd c F.regs F.on r len).1, .int .i64 (bnd c F.regs F.on r len).2]) ∧ Below w.heap.size w w' := by
  obtain ⟨i1, i2, t1, t2, r1, r2, m1, m2, f1, f2, e1, e2⟩ := L
  obtain ⟨⟨ra, rn, rc, ma, mn, mc, fa, fn, fc, ea, en, ec⟩, ia, inn, ic, ta, tn, tc, ga, gn, gc, ha, hn, hc⟩ := C
  obtain ⟨regs, oa, on, oc⟩ := F
  simp only at i1 i2 t1 t2 r1 r2 m1 m2 f1 f2 e1 e2 h0 h64 ho
  simp only [CH.v, CH.cs, FH.v]
  obtain ⟨W0, hW0⟩ : ∃ W0, W0 = (w.alloc (.cells #[.slice ra rn rc, .slice ma mn mc, .slice fa fn fc, .slice ea en ec, .slice ia inn ic, .slice ta tn tc, .slice ga gn gc, .slice ha hn hc] 52)).alloc (.cells #[.int .i64 regs, .slice oa on oc] 73) := ⟨_, rfl⟩
  have bw : Below w.heap.size w W0 := by rw [hW0]; exact ((Below.refl _ _).alloc (Nat.le_refl _) _).alloc (by simp) _
  have m0 : W0.heap[w.heap.size]? = some (.cells #[.slice ra rn rc, .slice ma mn mc, .slice fa fn fc, .slice ea en ec, .slice ia inn ic, .slice ta tn tc, .slice ga gn gc, .slice ha hn hc] 52 (0, 0)) := by rw [hW0]; exact (Below.heap_alloc _ _ _ (by simp)).trans (heap_alloc_new w _)
  have m5 : W0.heap[w.heap.size + 1]? = some (.cells #[.int .i64 regs, .slice oa on oc] 73 (0, 0)) := by
    have := heap_alloc_new (w.alloc (.cells #[.slice ra rn rc, .slice ma mn mc, .slice fa fn fc, .slice ea en ec, .slice ia inn ic, .slice ta tn tc, .slice ga gn gc, .slice ha hn hc] 52)) (.cells #[.int .i64 regs, .slice oa on oc] 73)
    rw [World.size_alloc] at this
    rw [hW0]; exact this
  have x0 := cellOf m0 0
  have x1 := cellOf m0 1
  have x2 := cellOf m0 2
  have x3 := cellOf m0 3
  have x4 := cellOf m0 4
  have x5 := cellOf m0 5
  have y0 := cellOf m5 0
  have y1 := cellOf m5 1
  simp only [List.getElem?_toArray, List.getElem?_cons_zero, List.getElem?_cons_succ] at x0 x1 x2 x3 x4 x5 y0 y1
  have BW := hid bw
  have I1 := hid i1
  have T1 := hid t1
  have R1 := hid r1
  have M1 := hid m1
  have F1 := hid f1
  have E1 := hid e1
  clear m0 m5 bw i1 t1 r1 m1 f1 e1
  have wr1 : ∀ x : Int, 0 ≤ x → x ≤ 9223372036854775807 → IntKind.i64.wrap (x - 1) = x - 1 := fun x a b => by rw [IntKind.wrap_i64]; omega
  by_cases h1 : r = 1
  · subst h1
    have HP : Hid (bnd c regs on 1 len = (0, regs - 1)) := hid (by unfold bnd; simp)
    have w1 := wr1 regs h0 (by omega)
    clear wr1
    go_enter Try.func149, Try.ntmps149
    go_upto_region 1 with fail
    rw [← hW0]
    clear hW0
    go_wp2
    go_quiet (fail)
    go_wp2
    go_ret2
    exact ⟨by rw [HP.out]; rfl, bel_dN BW.out _⟩
  have g1 : (r == 1) = false := by simp [h1]
  by_cases h3 : r = 3
  · subst h3
    have HP : Hid (bnd c regs on 3 len = (0, regs - 1)) := hid (by unfold bnd; simp)
    have w1 := wr1 regs h0 (by omega)
    clear wr1
    go_enter Try.func149, Try.ntmps149
    go_upto_region 1 with fail
    rw [← hW0]
    clear hW0
    go_wp2
    go_quiet (fail)
    go_wp2
    go_ret2
    exact ⟨by rw [HP.out]; rfl, bel_dN BW.out _⟩
  have g3 : (r == 3) = false := by simp [h3]
  by_cases h2 : r = 2
  · subst h2
    have HP : Hid (bnd c regs on 2 len = (-1, regs - 1)) := hid (by unfold bnd; simp)
    have w1 := wr1 regs h0 (by omega)
    clear wr1
    go_enter Try.func149, Try.ntmps149
    go_upto_region 1 with fail
    rw [← hW0]
    clear hW0
    go_wp2
    go_quiet (fail)
    go_wp2
    go_ret2
    exact ⟨by rw [HP.out]; rfl, bel_dN BW.out _⟩
  have g2 : (r == 2) = false := by simp [h2]
  by_cases h4 : r = 4
  · subst h4
    have HP : Hid (bnd c regs on 4 len = (-1, regs - 1)) := hid (by unfold bnd; simp)
    have w1 := wr1 regs h0 (by omega)
    clear wr1
    go_enter Try.func149, Try.ntmps149
    go_upto_region 1 with fail
    rw [← hW0]
    clear hW0
    go_wp2
    go_quiet (fail)
    go_wp2
    go_ret2
    exact ⟨by rw [HP.out]; rfl, bel_dN BW.out _⟩
  have g4 : (r == 4) = false := by simp [h4]
  by_cases h5 : r = 5
  · subst h5
    have HP : Hid (bnd c regs on 5 len = (0, regs - len)) := hid (by unfold bnd; simp)
    have w1 : IntKind.i64.wrap (regs - len) = regs - len := by rw [IntKind.wrap_i64]; omega
    clear wr1
    go_enter Try.func149, Try.ntmps149
    go_upto_region 1 with fail
    rw [← hW0]
    clear hW0
    go_wp2
    go_quiet (fail)
    go_wp2
    go_ret2
    exact ⟨by rw [HP.out]; rfl, bel_dN BW.out _⟩
  have g5 : (r == 5) = false := by simp [h5]
  by_cases h6 : r = 6
  · subst h6
    have HP : Hid (bnd c regs on 6 len = (0, (inn : Int) - 1)) := hid (by unfold bnd; simp [I1.out])
    have w1 := wr1 (inn : Int) (by omega) (by omega)
    clear wr1
    go_enter Try.func149, Try.ntmps149
    go_upto_region 1 with fail
    rw [← hW0]
    clear hW0
    go_wp2
    go_quiet (fail)
    go_wp2
    go_ret2
    exact ⟨by rw [HP.out]; rfl, bel_dN BW.out _⟩
  have g6 : (r == 6) = false := by simp [h6]
  by_cases h7 : r = 7
  · subst h7
    have HP : Hid (bnd c regs on 7 len = (0, (tn : Int) - 1)) := hid (by unfold bnd; simp [T1.out])
    have w1 := wr1 (tn : Int) (by omega) (by omega)
    clear wr1
    go_enter Try.func149, Try.ntmps149
    go_upto_region 1 with fail
    rw [← hW0]
    clear hW0
    go_wp2
    go_quiet (fail)
    go_wp2
    go_ret2
    exact ⟨by rw [HP.out]; rfl, bel_dN BW.out _⟩
  have g7 : (r == 7) = false := by simp [h7]
  by_cases h8 : r = 8
  · subst h8
    have HP : Hid (bnd c regs on 8 len = (0, 1)) := hid (by unfold bnd; simp)
    clear wr1
    go_enter Try.func149, Try.ntmps149
    go_upto_region 1 with fail
    rw [← hW0]
    clear hW0
    go_wp2
    go_ret2
    exact ⟨by rw [HP.out]; rfl, BW.out⟩
  have g8 : (r == 8) = false := by simp [h8]
  by_cases h9 : r = 9
  · subst h9
    have HP : Hid (bnd c regs on 9 len = (0, (rn : Int) - 1)) := hid (by unfold bnd; simp [R1.out])
    have w1 := wr1 (rn : Int) (by omega) (by omega)
    clear wr1
    go_enter Try.func149, Try.ntmps149
    go_upto_region 1 with fail
    rw [← hW0]
    clear hW0
    go_wp2
    go_quiet (fail)
    go_wp2
    go_ret2
    exact ⟨by rw [HP.out]; rfl, bel_dN BW.out _⟩
  have g9 : (r == 9) = false := by simp [h9]
  by_cases h10 : r = 10
  · subst h10
    have HP : Hid (bnd c regs on 10 len = (0, 11)) := hid (by unfold bnd; simp)
    clear wr1
    go_enter Try.func149, Try.ntmps149
    go_upto_region 1 with fail
    rw [← hW0]
    clear hW0
    go_wp2
    go_ret2
    exact ⟨by rw [HP.out]; rfl, BW.out⟩
  have g10 : (r == 10) = false := by simp [h10]
  by_cases h11 : r = 11
  · subst h11
    have HP : Hid (bnd c regs on 11 len = (0, (mn : Int) - 1)) := hid (by unfold bnd; simp [M1.out])
    have w1 := wr1 (mn : Int) (by omega) (by omega)
    clear wr1
    go_enter Try.func149, Try.ntmps149
    go_upto_region 1 with fail
    rw [← hW0]
    clear hW0
    go_wp2
    go_quiet (fail)
    go_wp2
    go_ret2
    exact ⟨by rw [HP.out]; rfl, bel_dN BW.out _⟩
  have g11 : (r == 11) = false := by simp [h11]
  by_cases h12 : r = 12
  · subst h12
    have HP : Hid (bnd c regs on 12 len = (0, (fn : Int) - 1)) := hid (by unfold bnd; simp [F1.out])
    have w1 := wr1 (fn : Int) (by omega) (by omega)
    clear wr1
    go_enter Try.func149, Try.ntmps149
    go_upto_region 1 with fail
    rw [← hW0]
    clear hW0
    go_wp2
    go_quiet (fail)
    go_wp2
    go_ret2
    exact ⟨by rw [HP.out]; rfl, bel_dN BW.out _⟩
  have g12 : (r == 12) = false := by simp [h12]
  by_cases h13 : r = 13
  · subst h13
    have HP : Hid (bnd c regs on 13 len = (0, (en : Int) - 1)) := hid (by unfold bnd; simp [E1.out])
    have w1 := wr1 (en : Int) (by omega) (by omega)
    clear wr1
    go_enter Try.func149, Try.ntmps149
    go_upto_region 1 with fail
    rw [← hW0]
    clear hW0
    go_wp2
    go_quiet (fail)
    go_wp2
    go_ret2
    exact ⟨by rw [HP.out]; rfl, bel_dN BW.out _⟩
  have g13 : (r == 13) = false := by simp [h13]
  by_cases h14 : r = 14
  · subst h14
    have HP : Hid (bnd c regs on 14 len = (0, (on : Int) - 1)) := hid (by unfold bnd; simp)
    have w1 := wr1 (on : Int) (by omega) (by omega)
    clear wr1
    go_enter Try.func149, Try.ntmps149
    go_upto_region 1 with fail
    rw [← hW0]
    clear hW0
    go_wp2
    go_quiet (fail)
    go_wp2
    go_ret2
    exact ⟨by rw [HP.out]; rfl, bel_dN BW.out _⟩
  have g14 : (r == 14) = false := by simp [h14]
  have HP : Hid (bnd c regs on r len = (0, 0)) := hid (by unfold bnd; simp [h1, h2, h3, h4, h5, h6, h7, h8, h9, h10, h11, h12, h13, h14])
  clear wr1
  go_enter Try.func149, Try.ntmps149
  go_upto_region 1 with fail
  rw [← hW0]
  clear hW0
  go_wp2
  go_ret2
  exact ⟨by rw [HP.out]; rfl, BW.out⟩
end Go.Proofs.Ytmhjnfibpngpmaa

namespace Go.Proofs
open Go.Shelf
end Go.Proofs
namespace Go.Proofs.Ytmhjnfibpngpmaa
open Go.RowKit Go.Deep Go.Shelf
set_option linter.unusedVariables false
set_option linter.unusedSimpArgs false
/- Rows. -/
structure Rk (k : Nat) (rows : List (List Value)) : Prop where
  len : ∀ r ∈ rows, r.length = k
  one : ∀ r ∈ rows, ∀ u ∈ r, u.oneCell' = true
theorem Rk.app {k : Nat} {l m : List (List Value)} (h : Rk k l) (g : Rk k m) : Rk k (l ++ m) := ⟨fun r hr => (List.mem_append.1 hr).elim (h.len r) (g.len r), fun r hr => (List.mem_append.1 hr).elim (h.one r) (g.one r)⟩
theorem flat_len {k : Nat} : ∀ {rows : List (List Value)}, (∀ r ∈ rows, r.length = k) → rows.flatten.length = rows.length * k
  | [], _ => by simp
  | r :: l, h => by
    have h1 := flat_len (rows := l) (fun x hx => h x (List.mem_cons_of_mem _ hx))
    have h2 := h r (List.mem_cons_self ..)
    rw [List.flatten_cons, List.length_append, h1, h2, List.length_cons, Nat.add_mul]; omega
theorem flat_at {k : Nat} : ∀ {rows : List (List Value)}, (∀ r ∈ rows, r.length = k) → ∀ (j : Nat) (r : List Value), rows[j]? = some r → ∀ i, i < k → rows.flatten[j * k + i]? = r[i]?
  | [], _, j, r, e => by simp at e
  | p :: l, h, 0, r, e => fun i hi => by
    simp at e; subst e
    rw [List.flatten_cons, Nat.zero_mul, Nat.zero_add, List.getElem?_append_left (by rw [h p (List.mem_cons_self ..)]; exact hi)]
  | p :: l, h, j + 1, r, e => fun i hi => by
    have h1 : l[j]? = some r := by simpa using e
    have h2 := flat_at (rows := l) (fun x hx => h x (List.mem_cons_of_mem _ hx)) j r h1 i hi
    have hp := h p (List.mem_cons_self ..)
    have he : (j + 1) * k + i - p.length = j * k + i := by rw [hp, Nat.add_mul]; omega
    rw [List.flatten_cons, List.getElem?_append_right (by rw [hp, Nat.add_mul]; omega), he]; exact h2
theorem flat_of {k : Nat} (k0 : 0 < k) {rows : List (List Value)} (h : ∀ r ∈ rows, r.length = k) {q : Nat} {u : Value} (e : rows.flatten[q]? = some u) : ∃ r, rows[q / k]? = some r ∧ r[q % k]? = some u := by
  have hq : q < rows.length * k := by rw [← flat_len h]; exact (List.getElem?_eq_some_iff.1 e).1
  have hj : q / k < rows.length := (Nat.div_lt_iff_lt_mul k0).2 hq
  refine ⟨rows[q / k], List.getElem?_eq_getElem hj, ?_⟩
  rw [← flat_at h (q / k) _ (List.getElem?_eq_getElem hj) (q % k) (Nat.mod_lt _ k0), show q / k * k + q % k = q by rw [Nat.mul_comm]; exact Nat.div_add_mod q k]
  exact e
def KR (E : TypeId) (k : Nat) (w : World) (B : Nat) (v : Value) (rows : List (List Value)) : Prop := w.ownsRow B E k v rows.length rows.flatten ∧ Rk k rows
theorem KR.nil (E : TypeId) (k : Nat) (w : World) (B : Nat) : KR E k w B (.slice none 0 0) [] := ⟨⟨by simp, .inl ⟨rfl, rfl⟩⟩, ⟨fun r hr => by simp at hr, fun r hr => by simp at hr⟩⟩
theorem KR.keep {E : TypeId} {k : Nat} {w w' : World} {B : Nat} {v : Value} {l : List (List Value)} (h : KR E k w B v l) (e : ∀ g, v.ownBlock = some g → w'.heap[g]? = w.heap[g]?) : KR E k w' B v l := by
  refine ⟨⟨h.1.1, ?_⟩, h.2⟩
  rcases h.1.2 with h2 | ⟨g, cap, cur, rfl, h3, h4, h5⟩
  · exact .inl h2
  · exact .inr ⟨g, cap, cur, rfl, h3, (e g rfl).trans h4, h5⟩
theorem KR.own {E : TypeId} {k : Nat} {w : World} {B : Nat} {v : Value} {l : List (List Value)} (h : KR E k w B v l) {g : Nat} (e : v.ownBlock = some g) : B ≤ g ∧ g < w.heap.size := by
  rcases h.1.2 with ⟨rfl, _⟩ | ⟨g', cap, cur, rfl, h3, h4, h5⟩
  · cases e
  · cases e; exact ⟨h3, lt_of_heap h4⟩
theorem KR.below {E : TypeId} {k : Nat} {w w' : World} {B C : Nat} {v : Value} {l : List (List Value)} (h : KR E k w B v l) (hC : w.heap.size ≤ C) (q : Below C w w') : KR E k w' B v l := h.keep fun g e => q.block g (by have := (h.own e).2; omega)
theorem KR.lower {E : TypeId} {k : Nat} {w : World} {B C : Nat} {v : Value} {l : List (List Value)} (h : KR E k w B v l) (hC : C ≤ B) : KR E k w C v l := by
  refine ⟨⟨h.1.1, ?_⟩, h.2⟩
  rcases h.1.2 with h2 | ⟨g, cap, cur, rfl, h3, h4⟩
  · exact .inl h2
  · exact .inr ⟨g, cap, cur, rfl, by omega, h4⟩
theorem KR.rd {E : TypeId} {k : Nat} {w : World} {B : Nat} {v : Value} {l : List (List Value)} (h : KR E k w B v l) : ∃ a cap, v = .slice a l.length cap ∧ l.length ≤ cap ∧ CRd w a k l ∧ (a = none → cap = 0) ∧ ∀ x : Addr, a = some x → B ≤ x.block := by
  rcases h.1.2 with ⟨rfl, h2⟩ | ⟨g, cap, cur, rfl, h3, h4, h5, h6, h7, h8⟩
  · have : l = [] := List.eq_nil_of_length_eq_zero h2
    subst this
    exact ⟨none, 0, rfl, by simp, fun j x hx => by simp at hx, fun _ => rfl, fun x e => by cases e⟩
  · refine ⟨_, cap, rfl, h5, fun j r hr => ⟨g, 0, rfl, lt_of_heap h4, fun i hi => ?_⟩, (fun e => by cases e), (fun x e => by cases e; exact h3)⟩
    have hj := (List.getElem?_eq_some_iff.1 hr).1
    have hlt : j * k + i < l.length * k := by
      have : (j + 1) * k ≤ l.length * k := Nat.mul_le_mul_right k hj
      rw [Nat.add_mul] at this; omega
    rw [cellOf h4, ← flat_at h.2.len j r hr i hi, ← h8, List.getElem?_take, if_pos hlt, Nat.zero_add]
    simp
theorem KR.one {E : TypeId} {k : Nat} (w : World) (r : List Value) (hr : r.length = k) (h1 : ∀ u ∈ r, u.oneCell' = true) : KR E k (w.alloc (.cells r.toArray E)) w.heap.size (.slice (some ⟨w.heap.size, 0, none⟩) 1 1) [r] := by
  refine ⟨⟨by simp [hr], .inr ⟨w.heap.size, 1, r.toArray, rfl, Nat.le_refl _, heap_alloc_new w _, Nat.le_refl _, by unfold maxLen; omega, by simp [hr], ?_⟩⟩, ⟨fun x hx => by simp at hx; rw [hx]; exact hr, fun x hx => by simp at hx; rw [hx]; exact h1⟩⟩
  simp [← hr]
theorem run_appK {T E : TypeId} {k bytes : Nat} {z : Value} (hU : Try.prog.underlying T = some (.slice E)) (hI : (Try.prog.info? E).map (fun i => (i.zero, i.size, i.bytes)) = some (some z, k, bytes)) (hz : z.cells.size = k) (k0 : 0 < k) (hby : bytes ≤ 100)
    (w : World) (ty : TypeId) (B : Nat) (v : Value) (l : List (List Value)) (h : KR E k w B v l) (a : Option Addr) (m c : Nat) (l2 : List (List Value)) (hm : m = l2.length) (hr : CRd w a k l2) (hR : Rk k l2) (hnil : a = none → c = 0) (hl : l.length ≤ 1000000) (hl2 : m ≤ 1000000) (hB : B ≤ w.heap.size) :
    ∃ v' w', (Builtin.append_ #[T, T] ty #[v, .slice a m c]).run Try.prog w = .ok v' w' ∧ KR E k w' B v' (l ++ l2) ∧ w.grownBy w' v.ownBlock ∧ (v'.ownBlock = v.ownBlock ∨ v'.ownBlock = some w.heap.size) := by
  obtain ⟨i0, hi, hz0, hz1, hz2⟩ := info_parts hI
  cases a with
  | none =>
    have hc0 := hnil rfl
    have hl0 : l2 = [] := by
      cases l2 with
      | nil => rfl
      | cons o r => obtain ⟨b, off, e, _⟩ := hr 0 o rfl; cases e
    subst hl0
    subst hc0
    have hm0 : m = 0 := hm
    subst hm0
    exact ⟨v, w, run_append_owned_none w B T ty E i0 k hU hi v l.length l.flatten h.1, by rw [List.append_nil]; exact h, ⟨rfl, rfl, rfl, Nat.le_refl _, fun _ _ _ => rfl⟩, .inl rfl⟩
  | some ad =>
    have hcell : ∀ q u, l2.flatten[q]? = some u → w.cell? (ad.add q) = some u := by
      intro q u hu
      obtain ⟨r, hr1, hr2⟩ := flat_of k0 hR.len hu
      obtain ⟨b, off, e, _, hc⟩ := hr (q / k) r hr1
      cases e
      have := hc (q % k) (Nat.mod_lt _ k0)
      rw [hr2] at this
      have he : off + q / k * k + q % k = off + q := by rw [Nat.add_assoc, Nat.mul_comm, Nat.div_add_mod]
      rw [Addr.add_lit, ← he]
      exact this
    have hone : ∀ u ∈ l2.flatten, u.oneCell' = true := fun u hu => by
      obtain ⟨r, hr1, hr2⟩ := List.mem_flatten.1 hu
      exact hR.one r hr1 u hr2
    obtain ⟨v', w', hrun, hown, hgr, _, hat⟩ := run_append_own_at (P := Try.prog) w B T ty E i0 z k bytes hU hi hz0 hz1 hz2 hz k0 v l.length l.flatten h.1 ad m c l2.flatten (by rw [flat_len hR.len, hm]) hcell hone (by unfold maxLen; omega) (by
      have : (l.length + m) * bytes ≤ 2000000 * 100 := Nat.mul_le_mul (by omega) hby
      omega) hB
    refine ⟨v', w', hrun, ⟨?_, h.2.app hR⟩, hgr, hat⟩
    rw [List.length_append, ← hm, List.flatten_append]
    exact hown
theorem wpList_appK {T E : TypeId} {k bytes : Nat} {z : Value} (hU : Try.prog.underlying T = some (.slice E)) (hI : (Try.prog.info? E).map (fun i => (i.zero, i.size, i.bytes)) = some (some z, k, bytes)) (hz : z.cells.size = k) (k0 : 0 < k) (hby : bytes ≤ 100)
    {ops : Array Oper} {rest : List Oper} {o : Oper} {act : Act} {Q : Exit → Act → World → Prop} (w : World) (hgd : o.guard = none) (s x : Operand)
    (ho : o.op = .call { callee := .builtin .append, args := #[s, x], argTypes := #[T, T] }) (v u : Value) (hs : act.eval s = v) (hx : act.eval x = u) (B : Nat) (l : List (List Value)) (h : KR E k w B v l) (a : Option Addr) (m c : Nat) (hu : u = .slice a m c) (l2 : List (List Value)) (hm : m = l2.length) (hr : CRd w a k l2) (hR : Rk k l2) (hnil : a = none → c = 0) (hl : l.length ≤ 1000000) (hl2 : m ≤ 1000000) (hB : B ≤ w.heap.size)
    (kk : ∀ v' w', KR E k w' B v' (l ++ l2) → w.grownBy w' v.ownBlock → (v'.ownBlock = v.ownBlock ∨ v'.ownBlock = some w.heap.size) → wpList Try.prog ops Q rest (act.put o.dst v') w') :
    wpList Try.prog ops Q (o :: rest) act w := by
  refine wpList_plain hgd fun K hK => ?_
  subst hu
  obtain ⟨v', w', hrun, h2, h3, h4⟩ := run_appK hU hI hz k0 hby w o.type B v l h a m c l2 hm hr hR hnil hl hl2 hB
  unfold Oper.wp execOp
  simp only [ho, resolve, invoke, builtin, Sem.run_bind, Sem.run_pure, Result.andThen_ok, List.map_toArray, List.map_cons, List.map_nil, hs, hx, hrun]
  exact hK _ _ (kk v' w' h2 h3 h4)
theorem KR.grown {E : TypeId} {k : Nat} {w0 w w' : World} {B : Nat} {v : Value} {l : List (List Value)} (hb : Below B w0 w) (h : KR E k w B v l) (hg : w.grownBy w' v.ownBlock) (hB : B ≤ w.heap.size) : Below B w0 w' :=
  hb.grown hg hB (fun g e => (h.own e).1)
theorem infoS : (Try.prog.info? 9).map (fun i => (i.zero, i.size, i.bytes)) = some (some (.string ⟨#[]⟩), 1, 16) := by kernel_rfl
theorem infoT : (Try.prog.info? 24).map (fun i => (i.zero, i.size, i.bytes)) = some (some (.agg #[.int .i64 0, .int .i64 0]), 2, 16) := by kernel_rfl
theorem infoI : (Try.prog.info? 2).map (fun i => (i.zero, i.size, i.bytes)) = some (some (.int .i64 0), 1, 8) := by kernel_rfl
theorem infoF : (Try.prog.info? 73).map (fun i => (i.zero, i.size, i.bytes)) = some (some (.agg #[.int .i64 0, .slice none 0 0]), 2, 32) := by kernel_rfl
theorem infoG : (Try.prog.info? 29).map (fun i => (i.zero, i.size, i.bytes)) = some (some (.agg #[.string ⟨#[]⟩, .slice none 0 0, .int .i64 0, .int .i64 0]), 4, 56) := by kernel_rfl
theorem infoR : (Try.prog.info? 32).map (fun i => (i.zero, i.size, i.bytes)) = some (some (.agg #[.string ⟨#[]⟩, .slice none 0 0, .slice none 0 0]), 3, 64) := by kernel_rfl
theorem infoM : (Try.prog.info? 120).map (fun i => (i.zero, i.size, i.bytes)) = some (some (.agg #[.string ⟨#[]⟩, .int .i64 0, .int .i64 0, .int .i64 0, .int .i64 0]), 5, 48) := by kernel_rfl
end Go.Proofs.Ytmhjnfibpngpmaa

namespace Go.Proofs.Ytmhjnfibpngpmaa
open Go.RowKit Go.Deep Go.Shelf
set_option linter.unusedVariables false
set_option linter.unusedSimpArgs false
def tyc (t : TyP) : List Value := [.int .i64 t.1, .int .i64 t.2]
def inc (x : Int) : List Value := [.int .i64 x]
def stc (s : ByteArray) : List Value := [.string s]
theorem rk_ty (ts : List TyP) : Rk 2 (ts.map tyc) := ⟨fun r hr => by obtain ⟨t, _, rfl⟩ := List.mem_map.1 hr; rfl, fun r hr u hu => by
  obtain ⟨t, _, rfl⟩ := List.mem_map.1 hr
  simp [tyc] at hu
  rcases hu with rfl | rfl <;> rfl⟩
theorem rk_in (xs : List Int) : Rk 1 (xs.map inc) := ⟨fun r hr => by obtain ⟨t, _, rfl⟩ := List.mem_map.1 hr; rfl, fun r hr u hu => by
  obtain ⟨t, _, rfl⟩ := List.mem_map.1 hr
  simp [inc] at hu
  subst hu; rfl⟩
theorem rk_st (s : ByteArray) : Rk 1 [stc s] := ⟨fun r hr => by simp at hr; subst hr; rfl, fun r hr u hu => by
  simp at hr; subst hr
  simp [stc] at hu
  subst hu; rfl⟩
theorem TRd.crd {w : World} {a : Option Addr} {ts : List TyP} (h : TRd w a ts) : CRd w a 2 (ts.map tyc) := fun j r e => by
  rw [List.getElem?_map] at e
  obtain ⟨t, ht, rfl⟩ := Option.map_eq_some_iff.1 e
  obtain ⟨b, off, e1, h1, h2⟩ := h j t ht
  refine ⟨b, off, e1, World.block_lt_of_cell? w _ h1, fun i hi => ?_⟩
  rcases (show i = 0 ∨ i = 1 by omega) with rfl | rfl
  · exact h1
  · exact h2
theorem CRd.trd {w : World} {a : Option Addr} {ts : List TyP} (h : CRd w a 2 (ts.map tyc)) : TRd w a ts := fun j t ht => by
  obtain ⟨b, off, e1, _, hc⟩ := h j (tyc t) (by rw [List.getElem?_map, ht]; rfl)
  exact ⟨b, off, e1, hc 0 (by omega), hc 1 (by omega)⟩
def JRd (w : World) (a : Option Addr) (xs : List Int) : Prop := CRd w a 1 (xs.map inc)
theorem crd_one (E : TypeId) (w : World) (r : List Value) (k : Nat) (hk : r.length = k) : CRd (w.alloc (.cells r.toArray E)) (some ⟨w.heap.size, 0, none⟩) k [r] := fun j x e => by
  cases j with
  | succ j => simp at e
  | zero =>
    simp at e; subst e
    refine ⟨w.heap.size, 0, rfl, by rw [World.size_alloc]; omega, fun i hi => ?_⟩
    rw [cellOf (heap_alloc_new w _)]
    simp
end Go.Proofs.Ytmhjnfibpngpmaa

