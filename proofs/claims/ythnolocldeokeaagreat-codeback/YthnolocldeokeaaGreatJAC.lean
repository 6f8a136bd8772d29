/- Rows of numbers that a function grows, cuts and writes into. -/
import Derived.Test.YthnolocldeokeaaGreatJAB
import Derived.Test.YthnolocldeokeaaGreatRows
import Derived.WalkKit
import Derived.WalkSpells
import Derived.WalkLawsBesides
import Derived.Deep.OwnRows
import Derived.Maps.AppendAt
import Derived.Deep.AppendLies
import Derived.Lib.AppendStr
import Derived.Deep.LoopGhost
import Derived.Below
import Derived.RangeFuncNested
import Derived.RangeFuncBound
import Derived.RangeFuncCalls
import Derived.RangeFuncLeaves
import Derived.LoopIn
import Derived.LoopNIn
import Derived.OwnWalkIn
import Derived.TacticsInMore
import Derived.BigRegionIn
import Derived.BigQuiet
import Derived.Deep.RegionHeld3
import Derived.Shelf.RegionOpen
import Derived.Shelf.Abstract
import Derived.Sort.LoopGhostIn
import Derived.Deep.CutBlock
import Derived.Deep.DeepCutAuto
namespace Go.Proofs.YthnolocldeokeaaGreat
set_option maxRecDepth 100000
open Go.RowKit Go.Deep Go.Shelf
set_option linter.unusedVariables false
set_option linter.unusedSimpArgs false

theorem heap_set_at {w : World} {b : Nat} {c : Array Value} {e : TypeId} {f : Nat × Nat} (h : w.heap[b]? = some (.cells c e f)) (i : Nat) (u : Value) :
    (w.setCell ⟨b, i, none⟩ u).heap[b]? = some (.cells (c.setIfInBounds i u) e f) := by
  simp [World.setCell, Array.getElem?_modify, h]
theorem belowCell {w w' : World} {B b o : Nat} {v : Value} (h : w.cell? ⟨b, o, none⟩ = some v) (hB : w.heap.size ≤ B) (k : Below B w w') : w'.cell? ⟨b, o, none⟩ = some v := by
  have hb : b < w.heap.size := World.block_lt_of_cell? w _ h
  exact (k.cell (p := ⟨b, o, none⟩) (by show b < B; omega)).trans h
theorem lt_of_heap {w : World} {b : Nat} {o : Obj} (h : w.heap[b]? = some o) : b < w.heap.size := (Array.getElem?_eq_some_iff.1 h).1

def iv (xs : List Int) : List Value := xs.map fun x => .int .i64 x
structure GRow (w : World) (B : Nat) (a : Option Addr) (n cap : Nat) (xs : List Int) : Prop where
  n1 : n = xs.length
  nc : n ≤ cap
  at' : ∀ x : Addr, a = some x → ∃ g, x = ⟨g, 0, none⟩ ∧ B ≤ g ∧ g < w.heap.size
  ct : 0 < cap → ∃ g cur, a = some ⟨g, 0, none⟩ ∧ w.heap[g]? = some (.cells cur 3 (0, 0)) ∧ cap ≤ cur.size ∧ cur.toList.take n = iv xs
theorem GRow.nil (w : World) (B : Nat) : GRow w B none 0 0 [] := ⟨rfl, Nat.le_refl _, fun x e => (by cases e), fun h => (by omega)⟩
theorem GRow.keep {w w' : World} {B : Nat} {a : Option Addr} {n cap : Nat} {xs : List Int} (h : GRow w B a n cap xs) (hs : w.heap.size ≤ w'.heap.size) (e : ∀ x : Addr, a = some x → w'.heap[x.block]? = w.heap[x.block]?) : GRow w' B a n cap xs := by
  refine ⟨h.n1, h.nc, fun x ex => ?_, fun hc => ?_⟩
  · obtain ⟨g, h1, h2, h3⟩ := h.at' x ex
    exact ⟨g, h1, h2, by omega⟩
  · obtain ⟨g, cur, rfl, h2, h3⟩ := h.ct hc
    exact ⟨g, cur, rfl, (e _ rfl).trans h2, h3⟩
theorem GRow.below {w w' : World} {B C : Nat} {a : Option Addr} {n cap : Nat} {xs : List Int} (h : GRow w B a n cap xs) (hC : w.heap.size ≤ C) (hb : Below C w w') : GRow w' B a n cap xs :=
  h.keep hb.size (fun x ex => by
    obtain ⟨g, rfl, h2, h3⟩ := h.at' x ex
    exact hb.block _ (by show g < C; omega))
theorem GRow.cell {w : World} {B : Nat} {a : Option Addr} {n cap : Nat} {xs : List Int} (h : GRow w B a n cap xs) {j : Nat} {x : Int} (hj : xs[j]? = some x) : ∃ g, a = some ⟨g, 0, none⟩ ∧ B ≤ g ∧ w.cell? ⟨g, j, none⟩ = some (.int .i64 x) ∧ w.frozen? ⟨g, j, none⟩ = false := by
  have hlt := (List.getElem?_eq_some_iff.1 hj).1
  have hc : 0 < cap := by have := h.n1; have := h.nc; omega
  obtain ⟨g, cur, rfl, h2, h3, h4⟩ := h.ct hc
  obtain ⟨g', e, hB, _⟩ := h.at' _ rfl
  cases e
  refine ⟨g, rfl, hB, ?_, freeOf h2 j⟩
  rw [cellOf h2 j]
  have h5 : (iv xs)[j]? = some (.int .i64 x) := by unfold iv; rw [List.getElem?_map, hj]; rfl
  rw [← h5, ← h4, List.getElem?_take, if_pos (by have := h.n1; omega)]
  simp
theorem GRow.set {w : World} {B : Nat} {n cap : Nat} {xs : List Int} {g : Nat} (h : GRow w B (some ⟨g, 0, none⟩) n cap xs) (j : Nat) (hj : j < n) (v : Int) : GRow (w.setCell ⟨g, j, none⟩ (.int .i64 v)) B (some ⟨g, 0, none⟩) n cap (xs.set j v) := by
  refine ⟨by rw [List.length_set]; exact h.n1, h.nc, fun x ex => ?_, fun hc => ?_⟩
  · obtain ⟨g', h1, h2, h3⟩ := h.at' x ex
    exact ⟨g', h1, h2, by simp [World.setCell]; omega⟩
  · obtain ⟨g', cur, e, h2, h3, h4⟩ := h.ct hc
    cases e
    refine ⟨g, _, rfl, heap_set_at h2 j (.int .i64 v), by simpa using h3, ?_⟩
    rw [Array.toList_setIfInBounds, List.take_set, h4]
    unfold iv
    rw [List.map_set]
theorem GRow.cells {w : World} {B : Nat} {ad : Addr} {n cap : Nat} {xs : List Int} (h : GRow w B (some ad) n cap xs) (d : Nat) : ∀ j u, (iv (xs.drop d))[j]? = some u → w.cell? ((ad.add d).add j) = some u := by
  intro j u hu
  unfold iv at hu
  rw [List.getElem?_map, Option.map_eq_some_iff] at hu
  obtain ⟨x, hx, rfl⟩ := hu
  rw [List.getElem?_drop] at hx
  obtain ⟨g, e, _, hc, _⟩ := h.cell hx
  cases e
  rw [Addr.add_lit, Addr.add_lit, Nat.zero_add]
  exact hc
/- What append leaves: a row, in place or new. -/
def Gwn (w : World) (a : Option Addr) (w' : World) (a' : Option Addr) : Prop := (∃ row, w.grownBy w' row ∧ ∀ b, row = some b → ∃ x : Addr, a = some x ∧ x.block = b) ∧ (a' = a ∨ ∃ g, a' = some ⟨g, 0, none⟩ ∧ w.heap.size ≤ g)
end Go.Proofs.YthnolocldeokeaaGreat

namespace Go.Proofs.YthnolocldeokeaaGreat
set_option maxRecDepth 100000
open Go.RowKit Go.Deep Go.Shelf
set_option linter.unusedVariables false
set_option linter.unusedSimpArgs false
structure Opx where
  c : Int
  d : Int
  a : Int
  b : Int
  k : Int
def Opx.cs (o : Opx) : Array Value := #[.int .i64 o.c, .int .i64 o.d, .int .i64 o.a, .int .i64 o.b, .int .i64 o.k]
def ORd (w : World) (a : Option Addr) (l : List Opx) : Prop := ∀ (j : Nat) (x : Opx), l[j]? = some x → ∃ b off, a = some ⟨b, off, none⟩ ∧ ∀ i, i < 5 → w.cell? ⟨b, off + j * 5 + i, none⟩ = x.cs[i]?
theorem ORd.below {w w' : World} {a : Option Addr} {l : List Opx} (h : ORd w a l) (k : Below w.heap.size w w') : ORd w' a l := fun j x hx => by
  obtain ⟨b, off, e, hc⟩ := h j x hx
  refine ⟨b, off, e, fun i hi => ?_⟩
  obtain ⟨v, hv⟩ : ∃ v, x.cs[i]? = some v := by
    rcases (show i = 0 ∨ i = 1 ∨ i = 2 ∨ i = 3 ∨ i = 4 by omega) with rfl | rfl | rfl | rfl | rfl <;> exact ⟨_, rfl⟩
  have := hc i hi
  rw [hv] at this ⊢
  exact belowCell this (Nat.le_refl _) k
/- Numbers that a slice reads. -/
def IRd (w : World) (a : Option Addr) (l : List Int) : Prop := ∀ (j : Nat) (x : Int), l[j]? = some x → ∃ b off, a = some ⟨b, off, none⟩ ∧ w.cell? ⟨b, off + j, none⟩ = some (.int .i64 x)
theorem GRow.ird {w : World} {B : Nat} {a : Option Addr} {n cap : Nat} {xs : List Int} (h : GRow w B a n cap xs) : IRd w a xs := fun j x hx => by
  obtain ⟨g, e, _, hc, _⟩ := h.cell hx
  exact ⟨g, 0, e, by rw [Nat.zero_add]; exact hc⟩
theorem IRd.below {w w' : World} {a : Option Addr} {l : List Int} (h : IRd w a l) (k : Below w.heap.size w w') : IRd w' a l := fun j x hx => by
  obtain ⟨b, off, e, hc⟩ := h j x hx
  exact ⟨b, off, e, belowCell hc (Nat.le_refl _) k⟩
end Go.Proofs.YthnolocldeokeaaGreat

namespace Go.Proofs.YthnolocldeokeaaGreat
open Go.RowKit Go.Deep Go.Shelf
set_option linter.unusedVariables false
set_option linter.unusedSimpArgs false
structure Shp where
  nm : ByteArray
  d : Int
  a : Int
  b : Int
  k : Int
def Shp.cs (s : Shp) : List Value := [.string s.nm, .int .u8 s.d, .int .u8 s.a, .int .u8 s.b, .int .u8 s.k]
def shp0 : Shp := ⟨.empty, 0, 0, 0, 0⟩
def shpL : List Shp := [shp0, ⟨⟨#[105, 110, 116]⟩, 1, 0, 0, 6⟩, ⟨⟨#[116, 101, 120, 116]⟩, 1, 0, 0, 7⟩, ⟨⟨#[98, 111, 111, 108]⟩, 1, 0, 0, 8⟩, ⟨⟨#[109, 111, 118, 101]⟩, 1, 3, 0, 0⟩, ⟨⟨#[97, 100, 100]⟩, 1, 3, 3, 0⟩, ⟨⟨#[115, 117, 98]⟩, 1, 3, 3, 0⟩, ⟨⟨#[109, 117, 108]⟩, 1, 3, 3, 0⟩, ⟨⟨#[119, 97, 100, 100]⟩, 1, 3, 3, 0⟩, ⟨⟨#[119, 115, 117, 98]⟩, 1, 3, 3, 0⟩, ⟨⟨#[119, 109, 117, 108]⟩, 1, 3, 3, 0⟩, ⟨⟨#[100, 105, 118]⟩, 1, 3, 3, 0⟩, ⟨⟨#[109, 111, 100]⟩, 1, 3, 3, 0⟩, ⟨⟨#[99, 97, 116]⟩, 1, 3, 3, 0⟩, ⟨⟨#[101, 113]⟩, 1, 3, 3, 0⟩, ⟨⟨#[110, 101]⟩, 1, 3, 3, 0⟩, ⟨⟨#[108, 116]⟩, 1, 3, 3, 0⟩, ⟨⟨#[108, 101]⟩, 1, 3, 3, 0⟩, ⟨⟨#[103, 116]⟩, 1, 3, 3, 0⟩, ⟨⟨#[103, 101]⟩, 1, 3, 3, 0⟩, ⟨⟨#[110, 101, 103]⟩, 1, 3, 0, 0⟩, ⟨⟨#[110, 111, 116]⟩, 1, 3, 0, 0⟩, ⟨⟨#[108, 101, 110]⟩, 1, 3, 0, 0⟩, ⟨⟨#[115, 116, 114]⟩, 1, 3, 0, 0⟩, ⟨⟨#[109, 97, 107, 101]⟩, 1, 5, 0, 9⟩, ⟨⟨#[102, 105, 101, 108, 100]⟩, 1, 3, 0, 10⟩, ⟨⟨#[103, 101, 116]⟩, 1, 3, 0, 11⟩, ⟨⟨#[104, 97, 115]⟩, 1, 3, 0, 11⟩, ⟨⟨#[112, 117, 116]⟩, 0, 3, 3, 11⟩, ⟨⟨#[100, 101, 108]⟩, 0, 3, 0, 11⟩, ⟨⟨#[110, 101, 120, 116]⟩, 1, 3, 3, 11⟩, ⟨⟨#[99, 97, 108, 108]⟩, 2, 5, 0, 12⟩, ⟨⟨#[97, 115, 107]⟩, 1, 3, 0, 7⟩, ⟨⟨#[101, 109, 105, 116]⟩, 0, 3, 0, 0⟩, ⟨⟨#[97, 102, 116, 101, 114]⟩, 0, 3, 5, 13⟩, ⟨⟨#[99, 104, 97, 114, 103, 101]⟩, 0, 0, 0, 0⟩, ⟨⟨#[101, 110, 116, 101, 114]⟩, 0, 0, 0, 0⟩, ⟨⟨#[108, 101, 97, 118, 101]⟩, 0, 0, 0, 0⟩, ⟨⟨#[106, 117, 109, 112]⟩, 0, 0, 0, 14⟩, ⟨⟨#[117, 110, 108, 101, 115, 115]⟩, 0, 3, 0, 14⟩, ⟨⟨#[114, 101, 116]⟩, 0, 4, 0, 0⟩]
def shpAt (k : Int) : Shp := shpL.getD k.toNat shp0
def isC (k : Int) : Bool := decide (1 ≤ k) && decide (k < 41)
def shpC : Array Value := (shpL.flatMap Shp.cs).toArray
theorem shpC_len : shpL.length = 41 := by rfl
theorem flat_get : ∀ (l : List Shp) (j : Nat) (s : Shp), l[j]? = some s → ∀ i, i < 5 → (l.flatMap Shp.cs)[j * 5 + i]? = s.cs[i]?
  | [], j, s, h => by simp at h
  | p :: l, 0, s, h => fun i hi => by
    simp at h; subst h
    rw [List.flatMap_cons, Nat.zero_mul, Nat.zero_add, List.getElem?_append_left (by show i < 5; exact hi)]
  | p :: l, j + 1, s, h => fun i hi => by
    have h1 : l[j]? = some s := by simpa using h
    have h2 := flat_get l j s h1 i hi
    rw [List.flatMap_cons, List.getElem?_append_right (by show 5 ≤ (j + 1) * 5 + i; omega)]
    have : (j + 1) * 5 + i - p.cs.length = j * 5 + i := by show (j + 1) * 5 + i - 5 = _; omega
    rw [this]; exact h2
theorem shp_get {k : Nat} (hk : k < 41) : shpL[k]? = some (shpAt (k : Int)) := by
  unfold shpAt
  rw [Int.toNat_natCast, List.getD_eq_getElem?_getD, List.getElem?_eq_getElem (show k < shpL.length by rw [shpC_len]; exact hk)]
  rfl
def blw (n c : Int) : Bool := decide (0 ≤ n) && decide (n < c)
set_option maxRecDepth 100000 in
theorem isBelow_any (w : World) (n c : Int) : Calls Tryz.prog 88 #[.int .i64 n, .int .i64 c] w fun e w' => e = .returned (.bool (blw n c)) ∧ w' = w := by
  by_cases h1 : 0 ≤ n
  · by_cases h2 : n < c
    · have HD : Hid (blw n c = true) := hid (by simp [blw, h1, h2])
      go_enter Tryz.func88, Tryz.ntmps88
      go_wp2
      go_ret
      exact ⟨by rw [HD.out]; rfl, rfl⟩
    · have HD : Hid (blw n c = false) := hid (by simp [blw, h2])
      go_enter Tryz.func88, Tryz.ntmps88
      go_wp2
      go_ret
      exact ⟨by rw [HD.out]; rfl, rfl⟩
  · have HD : Hid (blw n c = false) := hid (by simp [blw, h1])
    go_enter Tryz.func88, Tryz.ntmps88
    go_wp2
    go_ret
    exact ⟨by rw [HD.out]; rfl, rfl⟩
/- The pure side. -/
def rc0 : Rc := ⟨.empty, [], []⟩
def parmB (ss : List Sg) (k : Int) : Int × Bool := if blw k (ss.length : Int) = true then (((ss.getD k.toNat ⟨.empty, [], (0, 0)⟩).params.length : Int), true) else (0, false)
def rowLen (r : Int) (p : Pg) (k : Int) : Int × Bool :=
  if r = 9 then (if blw k (p.recs.length : Int) = true then ((((p.recs.map (·.2)).getD k.toNat rc0).fields.length : Int), true) else (0, false))
  else if r = 11 then (0, blw k (p.maps.length : Int))
  else if r = 12 then parmB (p.funcs.map (·.2)) k
  else if r = 13 then parmB (p.events.map (·.2)) k
  else (0, true)
structure Fx where
  regs : Int
  ops : List Opx
structure Cx where
  p : Pg
  ints : Nat
  texts : List ByteArray
  funcs : List Fx
  events : List Fx
def bnd (c : Cx) (regs : Int) (nops : Nat) (r len : Int) : Int × Int :=
  if r = 1 ∨ r = 3 then (0, regs - 1)
  else if r = 2 ∨ r = 4 then (-1, regs - 1)
  else if r = 5 then (0, regs - len)
  else if r = 6 then (0, (c.ints : Int) - 1)
  else if r = 7 then (0, (c.texts.length : Int) - 1)
  else if r = 8 then (0, 1)
  else if r = 9 then (0, (c.p.recs.length : Int) - 1)
  else if r = 10 then (0, 11)
  else if r = 11 then (0, (c.p.maps.length : Int) - 1)
  else if r = 12 then (0, (c.p.funcs.length : Int) - 1)
  else if r = 13 then (0, (c.p.events.length : Int) - 1)
  else if r = 14 then (0, (nops : Int) - 1)
  else (0, 0)
def inB (b : Int × Int) (n : Int) : Bool := !(decide (n < b.1) || decide (b.2 < n))
def isOpB (c : Cx) (regs : Int) (nops : Nat) (o : Opx) : Bool :=
  isC o.c && (let s := shpAt o.c; let len := (rowLen s.k c.p o.k).1
    inB (bnd c regs nops s.d len) o.d && inB (bnd c regs nops s.a len) o.a && inB (bnd c regs nops s.b len) o.b && inB (bnd c regs nops s.k len) o.k)
def isFnB (c : Cx) (params : Nat) (f : Fx) : Bool := !(decide (f.regs < (params : Int)) || decide (64 < f.regs) || decide (f.ops.length < 1) || decide (2000 < f.ops.length)) && f.ops.all (isOpB c f.regs f.ops.length)
def isFnsB (c : Cx) (ss : List Sg) (fs : List Fx) : Bool := (ss.zip fs).all fun x => isFnB c x.1.params.length x.2
def constB (c : Cx) : Bool := decide (c.ints ≤ 1000) && decide (c.texts.length ≤ 1000) && c.texts.all fun t => decide (t.size ≤ 64)
def isB (c : Cx) : Bool := rightB c.p && constB c && decide (c.funcs.length = c.p.funcs.length) && decide (c.events.length = c.p.events.length) && isFnsB c (c.p.funcs.map (·.2)) c.funcs && isFnsB c (c.p.events.map (·.2)) c.events
end Go.Proofs.YthnolocldeokeaaGreat

namespace Go.Proofs.YthnolocldeokeaaGreat
open Go.RowKit Go.Deep Go.Shelf
set_option linter.unusedVariables false
set_option linter.unusedSimpArgs false
theorem blw_nat {k : Int} {n : Nat} (h : blw k (n : Int) = true) : ∃ kk : Nat, k = (kk : Int) ∧ kk < n := by
  unfold blw at h
  simp at h
  exact ⟨k.toNat, by omega, by omega⟩
theorem GRd.sig {w : World} {a : Option Addr} {n : Nat} {gs : List (GH × Sg)} (d : GRd w a n gs) {kk : Nat} (hk : kk < n) : ∃ g : GH × Sg, gs[kk]? = some g ∧ SgRd w g.1 g.2 ∧ ∃ b off, a = some ⟨b, off, none⟩ ∧ w.cell? ⟨b, off + kk * 4 + 1, none⟩ = some (.slice g.1.pa g.1.pn g.1.pc) := by
  have hl : kk < gs.length := by rw [← d.n1]; exact hk
  have hg : gs[kk]? = some gs[kk] := List.getElem?_eq_getElem hl
  obtain ⟨b, off, e, _, hc⟩ := d.rd kk gs[kk].1.cs (by simp [hg])
  exact ⟨_, hg, d.el _ (List.getElem_mem hl), b, off, e, hc 1 (by omega)⟩
theorem parm_at {gs : List (GH × Sg)} {kk : Nat} {g : GH × Sg} (h : gs[kk]? = some g) (hb : blw (kk : Int) (gs.length : Int) = true) : parmB (gs.map (·.2)) (kk : Int) = ((g.2.params.length : Int), true) := by
  unfold parmB
  rw [List.length_map, hb, if_pos rfl, Int.toNat_natCast, List.getD_eq_getElem?_getD, List.getElem?_map, h]
  rfl
set_option maxRecDepth 100000 in
theorem params_any (w : World) (a : Option Addr) (n cap : Nat) (gs : List (GH × Sg)) (d : GRd w a n gs) (k : Int) : Calls Tryz.prog 89 #[.slice a n cap, .int .i64 k] w fun e w' => e = .returned (.tuple #[.int .i64 (parmB (gs.map (·.2)) k).1, .bool (parmB (gs.map (·.2)) k).2]) ∧ w' = w := by
  have hn := d.n2
  have K := hid (isBelow_any w k (n : Int))
  cases hb : blw k (n : Int) with
  | false =>
    rw [hb] at K
    have HP : Hid (parmB (gs.map (·.2)) k = (0, false)) := hid (by unfold parmB; rw [List.length_map, ← d.n1, hb]; rfl)
    clear hb d
    go_enter Tryz.func89, Tryz.ntmps89
    go_wp2_with (go_at_call 88; (refine (Hid.out K).mono ?_; rintro e w ⟨rfl, rfl⟩))
    go_ret2
    exact ⟨by rw [HP.out]; rfl, rfl⟩
  | true =>
    obtain ⟨kk, rfl, hk⟩ := blw_nat hb
    rw [hb] at K
    obtain ⟨g, hg, sg, b, off, rfl, c1⟩ := d.sig hk
    have HP := hid (parm_at hg (by rw [← d.n1]; exact hb))
    have hpn : Hid (g.1.pn = g.2.params.length) := hid sg.pn
    have hp2 := sg.p2
    have hkI : (kk : Int) < (n : Int) := by omega
    have hk0 : (0 : Int) ≤ (kk : Int) := by omega
    clear hb d hg sg
    obtain ⟨⟨nm, pa, pn, pc, kd, rr⟩, sgg⟩ := g
    simp only at c1 hpn hp2
    go_enter Tryz.func89, Tryz.ntmps89
    go_wp2_with (go_at_call 88; (refine (Hid.out K).mono ?_; rintro e w ⟨rfl, rfl⟩))
    go_ret2
    exact ⟨by rw [HP.out, hpn.out]; rfl, rfl⟩
theorem RRd.recd {w : World} {a : Option Addr} {n : Nat} {rs : List (RH × Rc)} (d : RRd w a n rs) {kk : Nat} (hk : kk < n) : ∃ g : RH × Rc, rs[kk]? = some g ∧ RcRd w g.1 g.2 ∧ ∃ b off, a = some ⟨b, off, none⟩ ∧ w.cell? ⟨b, off + kk * 3 + 1, none⟩ = some (.slice g.1.fa g.1.fn g.1.fc) := by
  have hl : kk < rs.length := by rw [← d.n1]; exact hk
  have hg : rs[kk]? = some rs[kk] := List.getElem?_eq_getElem hl
  obtain ⟨b, off, e, _, hc⟩ := d.rd kk rs[kk].1.cs (by simp [hg])
  exact ⟨_, hg, d.el _ (List.getElem_mem hl), b, off, e, hc 1 (by omega)⟩
set_option maxRecDepth 100000 in
set_option maxHeartbeats 1000000 in
theorem rowLen_any (w : World) (s : Shp) (h : PH) (p : Pg) (d : PRd w h p) (k : Int) : Calls Tryz.prog 55 #[.agg s.cs.toArray, h.v, .int .i64 k] w fun e w' => e = .returned (.tuple #[.int .i64 (rowLen s.k p k).1, .bool (rowLen s.k p k).2]) ∧ Below w.heap.size w w' := by
  obtain ⟨nm, sd, sa, sb, sk⟩ := s
  obtain ⟨ra, rn, rc, ma, mn, mc, fa, fn, fc, ea, en, ec⟩ := h
  have dm := d.m
  have df := d.f
  have de := d.e
  have dr := d.r
  simp only at dm df de dr
  simp only [PH.v, Shp.cs]
  obtain ⟨W0, hW0⟩ : ∃ W0, W0 = (w.alloc (.cells #[.string nm, .int .u8 sd, .int .u8 sa, .int .u8 sb, .int .u8 sk] 105)).alloc (.cells #[.slice ra rn rc, .slice ma mn mc, .slice fa fn fc, .slice ea en ec] 26) := ⟨_, rfl⟩
  have bw : Below w.heap.size w W0 := by rw [hW0]; exact ((Below.refl _ _).alloc (Nat.le_refl _) _).alloc (by simp) _
  have m0 : W0.heap[w.heap.size]? = some (.cells #[.string nm, .int .u8 sd, .int .u8 sa, .int .u8 sb, .int .u8 sk] 105 (0, 0)) := by rw [hW0]; exact (Below.heap_alloc _ _ _ (by simp)).trans (heap_alloc_new w _)
  have m1 : W0.heap[w.heap.size + 1]? = some (.cells #[.slice ra rn rc, .slice ma mn mc, .slice fa fn fc, .slice ea en ec] 26 (0, 0)) := by
    have := heap_alloc_new (w.alloc (.cells #[.string nm, .int .u8 sd, .int .u8 sa, .int .u8 sb, .int .u8 sk] 105)) (.cells #[.slice ra rn rc, .slice ma mn mc, .slice fa fn fc, .slice ea en ec] 26)
    rw [World.size_alloc] at this
    rw [hW0]; exact this
  have x0 := cellOf m0 4
  have y0 := cellOf m1 0
  have y1 := cellOf m1 1
  have y2 := cellOf m1 2
  have y3 := cellOf m1 3
  simp only [List.getElem?_toArray, List.getElem?_cons_zero, List.getElem?_cons_succ] at x0 y0 y1 y2 y3
  have dr0 := dr.below (Nat.le_refl _) bw
  have df0 := df.below (Nat.le_refl _) bw
  have de0 := de.below (Nat.le_refl _) bw
  have BW := hid bw
  have nr : rn ≤ 9223372036854775807 := dr.n2
  have nm' : mn ≤ 9223372036854775807 := dm.n2
  have er : Hid (rn = p.recs.length) := hid dr.n1
  have em : Hid (mn = p.maps.length) := hid dm.n1
  have ef : Hid (fn = p.funcs.length) := hid df.n1
  have ee : Hid (en = p.events.length) := hid de.n1
  clear d dm df de dr m0 m1 bw
  by_cases h9 : sk = 9
  · subst h9
    have K := hid (isBelow_any W0 k (rn : Int))
    cases hb : blw k (rn : Int) with
    | false =>
      rw [hb] at K
      have HP : Hid (rowLen 9 p k = (0, false)) := hid (by unfold rowLen; rw [if_pos rfl, ← er.out, hb]; rfl)
      clear hb dr0 df0 de0
      go_enter Tryz.func55, Tryz.ntmps55
      go_upto_region 1 with fail
      rw [← hW0]
      clear hW0
      go_wp2_with (go_at_call 88; (refine (Hid.out K).mono ?_; rintro e W0 ⟨rfl, rfl⟩))
      go_ret2
      exact ⟨by rw [HP.out]; rfl, BW.out⟩
    | true =>
      obtain ⟨kk, rfl, hk⟩ := blw_nat hb
      rw [hb] at K
      obtain ⟨g, hg, sg, b, off, rfl, c1⟩ := dr0.recd hk
      have HP : Hid (rowLen 9 p (kk : Int) = ((g.2.fields.length : Int), true)) := hid (by
        unfold rowLen
        rw [if_pos rfl, ← er.out, hb, if_pos rfl, Int.toNat_natCast, List.getD_eq_getElem?_getD, List.getElem?_map, hg]; rfl)
      have hfn : Hid (g.1.fn = g.2.fields.length) := hid sg.fn
      have hf2 := sg.f2
      have hkI : (kk : Int) < (rn : Int) := by omega
      have hk0 : (0 : Int) ≤ (kk : Int) := by omega
      clear hb dr0 df0 de0 hg sg
      obtain ⟨⟨gnm, gfa, gfn, gfc, gta, gtn, gtc⟩, gr⟩ := g
      simp only at c1 hfn hf2
      go_enter Tryz.func55, Tryz.ntmps55
      go_upto_region 1 with fail
      rw [← hW0]
      clear hW0
      go_wp2_with (go_at_call 88; (refine (Hid.out K).mono ?_; rintro e W0 ⟨rfl, rfl⟩))
      go_ret2
      exact ⟨by rw [HP.out, hfn.out]; rfl, BW.out⟩
  · by_cases h11 : sk = 11
    · subst h11
      have K := hid (isBelow_any W0 k (mn : Int))
      have HP : Hid (rowLen 11 p k = (0, blw k (mn : Int))) := hid (by unfold rowLen; rw [if_neg (by omega), if_pos rfl, ← em.out])
      clear dr0 df0 de0
      go_enter Tryz.func55, Tryz.ntmps55
      go_upto_region 1 with fail
      rw [← hW0]
      clear hW0
      go_wp2_with (go_at_call 88; (refine (Hid.out K).mono ?_; rintro e W0 ⟨rfl, rfl⟩))
      go_ret2
      exact ⟨by rw [HP.out]; rfl, BW.out⟩
    · by_cases h12 : sk = 12
      · subst h12
        have K := hid (params_any W0 fa fn fc p.funcs df0 k)
        have HP : Hid (rowLen 12 p k = parmB (p.funcs.map (·.2)) k) := hid (by unfold rowLen; rw [if_neg (by omega), if_neg (by omega), if_pos rfl])
        clear dr0 df0 de0
        generalize parmB (p.funcs.map (·.2)) k = pr at K HP
        obtain ⟨pr1, pr2⟩ := pr
        go_enter Tryz.func55, Tryz.ntmps55
        go_upto_region 1 with fail
        rw [← hW0]
        clear hW0
        go_wp2_with (go_at_call 89; (refine (Hid.out K).mono ?_; rintro e W0 ⟨rfl, rfl⟩))
        go_ret2
        exact ⟨by rw [HP.out]; rfl, BW.out⟩
      · by_cases h13 : sk = 13
        · subst h13
          have K := hid (params_any W0 ea en ec p.events de0 k)
          have HP : Hid (rowLen 13 p k = parmB (p.events.map (·.2)) k) := hid (by unfold rowLen; rw [if_neg (by omega), if_neg (by omega), if_neg (by omega), if_pos rfl])
          clear dr0 df0 de0
          generalize parmB (p.events.map (·.2)) k = pr at K HP
          obtain ⟨pr1, pr2⟩ := pr
          go_enter Tryz.func55, Tryz.ntmps55
          go_upto_region 1 with fail
          rw [← hW0]
          clear hW0
          go_wp2_with (go_at_call 89; (refine (Hid.out K).mono ?_; rintro e W0 ⟨rfl, rfl⟩))
          go_ret2
          exact ⟨by rw [HP.out]; rfl, BW.out⟩
        · have HP : Hid (rowLen sk p k = (0, true)) := hid (by unfold rowLen; rw [if_neg h9, if_neg h11, if_neg h12, if_neg h13])
          have b1 : (sk == 9) = false := by simp [h9]
          have b2 : (sk == 11) = false := by simp [h11]
          have b3 : (sk == 12) = false := by simp [h12]
          have b4 : (sk == 13) = false := by simp [h13]
          clear dr0 df0 de0
          go_enter Tryz.func55, Tryz.ntmps55
          go_upto_region 1 with fail
          rw [← hW0]
          clear hW0
          go_wp2
          go_ret2
          exact ⟨by rw [HP.out]; rfl, BW.out⟩
end Go.Proofs.YthnolocldeokeaaGreat

namespace Go.Proofs.YthnolocldeokeaaGreat
open Go.RowKit Go.Deep Go.Shelf
set_option linter.unusedVariables false
set_option linter.unusedSimpArgs false
theorem bel_dN {B : Nat} {a w : World} (h : Below B a w) (n : Nat) : Below B a (w.drewN n) := h.trans ⟨rfl, rfl, rfl, Nat.le_refl _, fun _ _ => rfl⟩
structure FH where
  regs : Int
  oa : Option Addr
  on : Nat
  oc : Nat
def FH.cs (h : FH) : List Value := [.int .i64 h.regs, .slice h.oa h.on h.oc]
def FH.v (h : FH) : Value := .agg #[.int .i64 h.regs, .slice h.oa h.on h.oc]
structure FnRd (w : World) (h : FH) (f : Fx) : Prop where
  rg : h.regs = f.regs
  on : h.on = f.ops.length
  o2 : h.on ≤ 9223372036854775807
  or : ORd w h.oa f.ops
theorem FnRd.below {w w' : World} {h : FH} {f : Fx} {B : Nat} (d : FnRd w h f) (hB : w.heap.size ≤ B) (k : Below B w w') : FnRd w' h f := ⟨d.rg, d.on, d.o2, d.or.below (k.mono hB)⟩
structure FRd (w : World) (a : Option Addr) (n : Nat) (fs : List (FH × Fx)) : Prop where
  n1 : n = fs.length
  n2 : n ≤ 9223372036854775807
  rd : CRd w a 2 (fs.map fun p => p.1.cs)
  el : ∀ p ∈ fs, FnRd w p.1 p.2
theorem FRd.below {w w' : World} {a : Option Addr} {n : Nat} {fs : List (FH × Fx)} {B : Nat} (d : FRd w a n fs) (hB : w.heap.size ≤ B) (k : Below B w w') : FRd w' a n fs := ⟨d.n1, d.n2, d.rd.below hB k, fun p hp => (d.el p hp).below hB k⟩
structure CH where
  h : PH
  ia : Option Addr
  inn : Nat
  ic : Nat
  ta : Option Addr
  tn : Nat
  tc : Nat
  fa : Option Addr
  fn : Nat
  fc : Nat
  ea : Option Addr
  en : Nat
  ec : Nat
def CH.cs (C : CH) : Array Value := #[.slice C.h.ra C.h.rn C.h.rc, .slice C.h.ma C.h.mn C.h.mc, .slice C.h.fa C.h.fn C.h.fc, .slice C.h.ea C.h.en C.h.ec, .slice C.ia C.inn C.ic, .slice C.ta C.tn C.tc, .slice C.fa C.fn C.fc, .slice C.ea C.en C.ec]
def CH.v (C : CH) : Value := .agg C.cs
structure CdRd (w : World) (C : CH) (c : Cx) (fs es : List (FH × Fx)) : Prop where
  p : PRd w C.h c.p
  i1 : C.inn = c.ints
  i2 : C.inn ≤ 9223372036854775807
  t1 : C.tn = c.texts.length
  t2 : C.tn ≤ 9223372036854775807
  tr : SRd w C.ta c.texts
  f : FRd w C.fa C.fn fs
  fe : fs.map (·.2) = c.funcs
  e : FRd w C.ea C.en es
  ee : es.map (·.2) = c.events
theorem CdRd.below {w w' : World} {C : CH} {c : Cx} {fs es : List (FH × Fx)} {B : Nat} (d : CdRd w C c fs es) (hB : w.heap.size ≤ B) (k : Below B w w') : CdRd w' C c fs es := ⟨d.p.below hB k, d.i1, d.i2, d.t1, d.t2, d.tr.below hB k, d.f.below hB k, d.fe, d.e.below hB k, d.ee⟩
/- How many there are. -/
structure Lns (C : CH) (c : Cx) : Prop where
  i1 : C.inn = c.ints
  i2 : C.inn ≤ 9223372036854775807
  t1 : C.tn = c.texts.length
  t2 : C.tn ≤ 9223372036854775807
  r1 : C.h.rn = c.p.recs.length
  r2 : C.h.rn ≤ 9223372036854775807
  m1 : C.h.mn = c.p.maps.length
  m2 : C.h.mn ≤ 9223372036854775807
  f1 : C.h.fn = c.p.funcs.length
  f2 : C.h.fn ≤ 9223372036854775807
  e1 : C.h.en = c.p.events.length
  e2 : C.h.en ≤ 9223372036854775807
theorem CdRd.lns {w : World} {C : CH} {c : Cx} {fs es : List (FH × Fx)} (d : CdRd w C c fs es) : Lns C c := ⟨d.i1, d.i2, d.t1, d.t2, d.p.r.n1, d.p.r.n2, d.p.m.n1, d.p.m.n2, d.p.f.n1, d.p.f.n2, d.p.e.n1, d.p.e.n2⟩
set_option maxRecDepth 100000 in
set_option maxHeartbeats 2000000 in
theorem bounds_any (w : World) (C : CH) (c : Cx) (L : Lns C c) (F : FH) (h0 : 0 ≤ F.regs) (h64 : F.regs ≤ 64) (ho : F.on ≤ 9223372036854775807) (r len : Int) (l0 : 0 ≤ len) (l1 : len ≤ 9223372036854775807) :
    Calls Tryz.prog 116 #[C.v, F.v, .int .u8 r, .int .i64 len] w fun e w' => e = .returned (.tuple #[.int .i64 (bnd c F.regs F.on r len).1, .int .i64 (bnd c F.regs F.on r len).2]) ∧ Below w.heap.size w w' := by
  obtain ⟨i1, i2, t1, t2, r1, r2, m1, m2, f1, f2, e1, e2⟩ := L
  obtain ⟨⟨ra, rn, rc, ma, mn, mc, fa, fn, fc, ea, en, ec⟩, ia, inn, ic, ta, tn, tc, ga, gn, gc, ha, hn, hc⟩ := C
  obtain ⟨regs, oa, on, oc⟩ := F
  simp only at i1 i2 t1 t2 r1 r2 m1 m2 f1 f2 e1 e2 h0 h64 ho
  simp only [CH.v, CH.cs, FH.v]
  obtain ⟨W0, hW0⟩ : ∃ W0, W0 = (w.alloc (.cells #[.slice ra rn rc, .slice ma mn mc, .slice fa fn fc, .slice ea en ec, .slice ia inn ic, .slice ta tn tc, .slice ga gn gc, .slice ha hn hc] 31)).alloc (.cells #[.int .i64 regs, .slice oa on oc] 57) := ⟨_, rfl⟩
  have bw : Below w.heap.size w W0 := by rw [hW0]; exact ((Below.refl _ _).alloc (Nat.le_refl _) _).alloc (by simp) _
  have m0 : W0.heap[w.heap.size]? = some (.cells #[.slice ra rn rc, .slice ma mn mc, .slice fa fn fc, .slice ea en ec, .slice ia inn ic, .slice ta tn tc, .slice ga gn gc, .slice ha hn hc] 31 (0, 0)) := by rw [hW0]; exact (Below.heap_alloc _ _ _ (by simp)).trans (heap_alloc_new w _)
  have m5 : W0.heap[w.heap.size + 1]? = some (.cells #[.int .i64 regs, .slice oa on oc] 57 (0, 0)) := by
    have := heap_alloc_new (w.alloc (.cells #[.slice ra rn rc, .slice ma mn mc, .slice fa fn fc, .slice ea en ec, .slice ia inn ic, .slice ta tn tc, .slice ga gn gc, .slice ha hn hc] 31)) (.cells #[.int .i64 regs, .slice oa on oc] 57)
    rw [World.size_alloc] at this
    rw [hW0]; exact this
  have x0 := cellOf m0 0
  have x1 := cellOf m0 1
  have x2 := cellOf m0 2
  have x3 := cellOf m0 3
  have x4 := cellOf m0 4
  have x5 := cellOf m0 5
  have y0 := cellOf m5 0
  have y1 := cellOf m5 1
  simp only [List.getElem?_toArray, List.getElem?_cons_zero, List.getElem?_cons_succ] at x0 x1 x2 x3 x4 x5 y0 y1
  have BW := hid bw
  have I1 := hid i1
  have T1 := hid t1
  have R1 := hid r1
  have M1 := hid m1
  have F1 := hid f1
  have E1 := hid e1
  clear m0 m5 bw i1 t1 r1 m1 f1 e1
  have wr1 : ∀ x : Int, 0 ≤ x → x ≤ 9223372036854775807 → IntKind.i64.wrap (x - 1) = x - 1 := fun x a b => by rw [IntKind.wrap_i64]; omega
  by_cases h1 : r = 1
  · subst h1
    have HP : Hid (bnd c regs on 1 len = (0, regs - 1)) := hid (by unfold bnd; simp)
    have w1 := wr1 regs h0 (by omega)
    clear wr1
    go_enter Tryz.func116, Tryz.ntmps116
    go_upto_region 1 with fail
    rw [← hW0]
    clear hW0
    go_wp2
    go_quiet (fail)
    go_wp2
    go_ret2
    exact ⟨by rw [HP.out]; rfl, bel_dN BW.out _⟩
  have g1 : (r == 1) = false := by simp [h1]
  by_cases h3 : r = 3
  · subst h3
    have HP : Hid (bnd c regs on 3 len = (0, regs - 1)) := hid (by unfold bnd; simp)
    have w1 := wr1 regs h0 (by omega)
    clear wr1
    go_enter Tryz.func116, Tryz.ntmps116
    go_upto_region 1 with fail
    rw [← hW0]
    clear hW0
    go_wp2
    go_quiet (fail)
    go_wp2
    go_ret2
    exact ⟨by rw [HP.out]; rfl, bel_dN BW.out _⟩
  have g3 : (r == 3) = false := by simp [h3]
  by_cases h2 : r = 2
  · subst h2
    have HP : Hid (bnd c regs on 2 len = (-1, regs - 1)) := hid (by unfold bnd; simp)
    have w1 := wr1 regs h0 (by omega)
    clear wr1
    go_enter Tryz.func116, Tryz.ntmps116
    go_upto_region 1 with fail
    rw [← hW0]
    clear hW0
    go_wp2
    go_quiet (fail)
    go_wp2
    go_ret2
    exact ⟨by rw [HP.out]; rfl, bel_dN BW.out _⟩
  have g2 : (r == 2) = false := by simp [h2]
  by_cases h4 : r = 4
  · subst h4
    have HP : Hid (bnd c regs on 4 len = (-1, regs - 1)) := hid (by unfold bnd; simp)
    have w1 := wr1 regs h0 (by omega)
    clear wr1
    go_enter Tryz.func116, Tryz.ntmps116
    go_upto_region 1 with fail
    rw [← hW0]
    clear hW0
    go_wp2
    go_quiet (fail)
    go_wp2
    go_ret2
    exact ⟨by rw [HP.out]; rfl, bel_dN BW.out _⟩
  have g4 : (r == 4) = false := by simp [h4]
  by_cases h5 : r = 5
  · subst h5
    have HP : Hid (bnd c regs on 5 len = (0, regs - len)) := hid (by unfold bnd; simp)
    have w1 : IntKind.i64.wrap (regs - len) = regs - len := by rw [IntKind.wrap_i64]; omega
    clear wr1
    go_enter Tryz.func116, Tryz.ntmps116
    go_upto_region 1 with fail
    rw [← hW0]
    clear hW0
    go_wp2
    go_quiet (fail)
    go_wp2
    go_ret2
    exact ⟨by rw [HP.out]; rfl, bel_dN BW.out _⟩
  have g5 : (r == 5) = false := by simp [h5]
  by_cases h6 : r = 6
  · subst h6
    have HP : Hid (bnd c regs on 6 len = (0, (inn : Int) - 1)) := hid (by unfold bnd; simp [I1.out])
    have w1 := wr1 (inn : Int) (by omega) (by omega)
    clear wr1
    go_enter Tryz.func116, Tryz.ntmps116
    go_upto_region 1 with fail
    rw [← hW0]
    clear hW0
    go_wp2
    go_quiet (fail)
    go_wp2
    go_ret2
    exact ⟨by rw [HP.out]; rfl, bel_dN BW.out _⟩
  have g6 : (r == 6) = false := by simp [h6]
  by_cases h7 : r = 7
  · subst h7
    have HP : Hid (bnd c regs on 7 len = (0, (tn : Int) - 1)) := hid (by unfold bnd; simp [T1.out])
    have w1 := wr1 (tn : Int) (by omega) (by omega)
    clear wr1
    go_enter Tryz.func116, Tryz.ntmps116
    go_upto_region 1 with fail
    rw [← hW0]
    clear hW0
    go_wp2
    go_quiet (fail)
    go_wp2
    go_ret2
    exact ⟨by rw [HP.out]; rfl, bel_dN BW.out _⟩
  have g7 : (r == 7) = false := by simp [h7]
  by_cases h8 : r = 8
  · subst h8
    have HP : Hid (bnd c regs on 8 len = (0, 1)) := hid (by unfold bnd; simp)
    clear wr1
    go_enter Tryz.func116, Tryz.ntmps116
    go_upto_region 1 with fail
    rw [← hW0]
    clear hW0
    go_wp2
    go_ret2
    exact ⟨by rw [HP.out]; rfl, BW.out⟩
  have g8 : (r == 8) = false := by simp [h8]
  by_cases h9 : r = 9
  · subst h9
    have HP : Hid (bnd c regs on 9 len = (0, (rn : Int) - 1)) := hid (by unfold bnd; simp [R1.out])
    have w1 := wr1 (rn : Int) (by omega) (by omega)
    clear wr1
    go_enter Tryz.func116, Tryz.ntmps116
    go_upto_region 1 with fail
    rw [← hW0]
    clear hW0
    go_wp2
    go_quiet (fail)
    go_wp2
    go_ret2
    exact ⟨by rw [HP.out]; rfl, bel_dN BW.out _⟩
  have g9 : (r == 9) = false := by simp [h9]
  by_cases h10 : r = 10
  · subst h10
    have HP : Hid (bnd c regs on 10 len = (0, 11)) := hid (by unfold bnd; simp)
    clear wr1
    go_enter Tryz.func116, Tryz.ntmps116
    go_upto_region 1 with fail
    rw [← hW0]
    clear hW0
    go_wp2
    go_ret2
    exact ⟨by rw [HP.out]; rfl, BW.out⟩
  have g10 : (r == 10) = false := by simp [h10]
  by_cases h11 : r = 11
  · subst h11
    have HP : Hid (bnd c regs on 11 len = (0, (mn : Int) - 1)) := hid (by unfold bnd; simp [M1.out])
    have w1 := wr1 (mn : Int) (by omega) (by omega)
    clear wr1
    go_enter Tryz.func116, Tryz.ntmps116
    go_upto_region 1 with fail
    rw [← hW0]
    clear hW0
    go_wp2
    go_quiet (fail)
    go_wp2
    go_ret2
    exact ⟨by rw [HP.out]; rfl, bel_dN BW.out _⟩
  have g11 : (r == 11) = false := by simp [h11]
  by_cases h12 : r = 12
  · subst h12
    have HP : Hid (bnd c regs on 12 len = (0, (fn : Int) - 1)) := hid (by unfold bnd; simp [F1.out])
    have w1 := wr1 (fn : Int) (by omega) (by omega)
    clear wr1
    go_enter Tryz.func116, Tryz.ntmps116
    go_upto_region 1 with fail
    rw [← hW0]
    clear hW0
    go_wp2
    go_quiet (fail)
    go_wp2
    go_ret2
    exact ⟨by rw [HP.out]; rfl, bel_dN BW.out _⟩
  have g12 : (r == 12) = false := by simp [h12]
  by_cases h13 : r = 13
  · subst h13
    have HP : Hid (bnd c regs on 13 len = (0, (en : Int) - 1)) := hid (by unfold bnd; simp [E1.out])
    have w1 := wr1 (en : Int) (by omega) (by omega)
    clear wr1
    go_enter Tryz.func116, Tryz.ntmps116
    go_upto_region 1 with fail
    rw [← hW0]
    clear hW0
    go_wp2
    go_quiet (fail)
    go_wp2
    go_ret2
    exact ⟨by rw [HP.out]; rfl, bel_dN BW.out _⟩
  have g13 : (r == 13) = false := by simp [h13]
  by_cases h14 : r = 14
  · subst h14
    have HP : Hid (bnd c regs on 14 len = (0, (on : Int) - 1)) := hid (by unfold bnd; simp)
    have w1 := wr1 (on : Int) (by omega) (by omega)
    clear wr1
    go_enter Tryz.func116, Tryz.ntmps116
    go_upto_region 1 with fail
    rw [← hW0]
    clear hW0
    go_wp2
    go_quiet (fail)
    go_wp2
    go_ret2
    exact ⟨by rw [HP.out]; rfl, bel_dN BW.out _⟩
  have g14 : (r == 14) = false := by simp [h14]
  have HP : Hid (bnd c regs on r len = (0, 0)) := hid (by unfold bnd; simp [h1, h2, h3, h4, h5, h6, h7, h8, h9, h10, h11, h12, h13, h14])
  clear wr1
  go_enter Tryz.func116, Tryz.ntmps116
  go_upto_region 1 with fail
  rw [← hW0]
  clear hW0
  go_wp2
  go_ret2
  exact ⟨by rw [HP.out]; rfl, BW.out⟩
end Go.Proofs.YthnolocldeokeaaGreat

namespace Go.Proofs.YthnolocldeokeaaGreat
open Go.RowKit Go.Deep Go.Shelf
set_option linter.unusedVariables false
set_option linter.unusedSimpArgs false
set_option maxRecDepth 100000 in
set_option maxHeartbeats 1000000 in
theorem sameTypes_yes (w : World) (a b : Option Addr) (n c1 c2 : Nat) (ts : List TyP) (hn : n = ts.length) (hnb : n ≤ 9223372036854775807) (h1 : TRd w a ts) (h2 : TRd w b ts) :
    Calls Tryz.prog 81 #[.slice a n c1, .slice b n c2] w fun e w' => e = .returned (.bool true) ∧ Below w.heap.size w w' := by
  have hnI : (n : Int) ≤ 9223372036854775807 := by omega
  have HN := hid hn
  have H1 := hid h1
  have H2 := hid h2
  have nb : ((n : Int) != (n : Int)) = false := by simp
  clear hn h1 h2
  go_enter Tryz.func81, Tryz.ntmps81
  go_wp2
  go_loopg [5] n (fun g x wr => ∃ j : Nat, j + g = n ∧ x = .int .i64 (j : Int) ∧ Below w.heap.size w wr)
  case atStart => exact ⟨0, by omega, rfl, Below.refl _ _⟩
  case round =>
    obtain ⟨j, hj, rfl, hb⟩ := hrel
    cases gk with
    | zero =>
      have hjn : j = n := by omega
      subst hjn
      have HB := hid hb
      clear hb
      go_wp2
      go_ret
      exact ⟨rfl, HB.out⟩
    | succ g =>
      obtain ⟨t, ht⟩ : ∃ t, ts[j]? = some t := ⟨ts[j]'(by have := HN.out; omega), List.getElem?_eq_getElem _⟩
      obtain ⟨b1, o1, rfl, x0, x1⟩ := (H1.out.below (Nat.le_refl _) hb) j t ht
      obtain ⟨b2, o2, rfl, y0, y1⟩ := (H2.out.below (Nat.le_refl _) hb) j t ht
      obtain ⟨tk, tr⟩ := t
      simp only at x0 x1 y0 y1
      have hjI : (j : Int) < (n : Int) := by omega
      have hj0 : (0 : Int) ≤ (j : Int) := by omega
      have HB := hid hb
      clear hb ht
      go_wp2
      go_quiet (fail)
      go_wp2
      go_roundg g
      case measure => omega
      exact ⟨j + 1, by omega, by go_num, bel_dN HB.out _⟩
set_option maxRecDepth 100000 in
set_option maxHeartbeats 4000000 in
theorem sameSigs_yes (w : World) (a b : Option Addr) (n c1 c2 : Nat) (g1 g2 : List (GH × Sg)) (d1 : GRd w a n g1) (d2 : GRd w b n g2) (he : g1.map (·.2) = g2.map (·.2)) :
    Calls Tryz.prog 80 #[.slice a n c1, .slice b n c2] w fun e w' => e = .returned (.bool true) ∧ Below w.heap.size w w' := by
  have hnI : (n : Int) ≤ 9223372036854775807 := by have := d1.n2; omega
  have D1 := hid d1
  have D2 := hid d2
  have HE := hid he
  have nb : ((n : Int) != (n : Int)) = false := by simp
  clear d1 d2 he
  go_enter Tryz.func80, Tryz.ntmps80
  go_wp2
  go_loopg [5] n (fun g x wr => ∃ j : Nat, j + g = n ∧ x = .int .i64 (j : Int) ∧ Below w.heap.size w wr)
  case atStart => exact ⟨0, by omega, rfl, Below.refl _ _⟩
  case round =>
    obtain ⟨j, hj, rfl, hb⟩ := hrel
    cases gk with
    | zero =>
      have hjn : j = n := by omega
      subst hjn
      have HB := hid hb
      clear hb
      go_wp2
      go_ret
      exact ⟨rfl, HB.out⟩
    | succ g =>
      have dA := D1.out.below (Nat.le_refl _) hb
      have dB := D2.out.below (Nat.le_refl _) hb
      have l1 : j < g1.length := by rw [← dA.n1]; omega
      have l2 : j < g2.length := by rw [← dB.n1]; omega
      have e1 : g1[j]? = some g1[j] := List.getElem?_eq_getElem l1
      have e2 : g2[j]? = some g2[j] := List.getElem?_eq_getElem l2
      have hss : (g1[j]).2 = (g2[j]).2 := by
        have h1 : (g1.map (·.2))[j]? = some (g1[j]).2 := by rw [List.getElem?_map, e1]; rfl
        have h2 : (g2.map (·.2))[j]? = some (g2[j]).2 := by rw [List.getElem?_map, e2]; rfl
        rw [HE.out, h2] at h1
        exact (Option.some.inj h1).symm
      obtain ⟨b1, o1, rfl, _, hc1⟩ := dA.rd j (g1[j]).1.cs (by simp [e1])
      obtain ⟨b2, o2, rfl, _, hc2⟩ := dB.rd j (g2[j]).1.cs (by simp [e2])
      have s1 := dA.el _ (List.getElem_mem l1)
      have s2 := dB.el _ (List.getElem_mem l2)
      generalize g1[j] = p1 at hss hc1 s1
      generalize g2[j] = p2 at hss hc2 s2
      obtain ⟨⟨nm1, pa1, pn1, pc1, k1, r1⟩, sg1⟩ := p1
      obtain ⟨⟨nm2, pa2, pn2, pc2, k2, r2⟩, sg2⟩ := p2
      simp only at hss
      subst hss
      obtain rfl : nm1 = nm2 := (show nm1 = _ from s1.nm).trans (show nm2 = _ from s2.nm).symm
      obtain rfl : pn1 = pn2 := (show pn1 = _ from s1.pn).trans (show pn2 = _ from s2.pn).symm
      have hres := (show (k1, r1) = _ from s1.rs).trans (show (k2, r2) = _ from s2.rs).symm
      obtain rfl : k1 = k2 := congrArg Prod.fst hres
      obtain rfl : r1 = r2 := congrArg Prod.snd hres
      have x0 := hc1 0 (by omega)
      have x1 := hc1 1 (by omega)
      have x2 := hc1 2 (by omega)
      have x3 := hc1 3 (by omega)
      have y0 := hc2 0 (by omega)
      have y1 := hc2 1 (by omega)
      have y2 := hc2 2 (by omega)
      have y3 := hc2 3 (by omega)
      simp only [GH.cs, List.getElem?_cons_zero, List.getElem?_cons_succ, Nat.add_zero] at x0 x1 x2 x3 y0 y1 y2 y3
      have hjI : (j : Int) < (n : Int) := by omega
      have hj0 : (0 : Int) ≤ (j : Int) := by omega
      have K := hid (sameTypes_yes wr.drew pa1 pa2 pn1 pc1 pc2 sg1.params s1.pn s1.p2 (s1.pr.below (Nat.le_refl _) (Below.refl _ wr).drew) (s2.pr.below (Nat.le_refl _) (Below.refl _ wr).drew))
      have HB := hid hb
      have ST : Hid (∀ v : World, Below wr.heap.size wr v → v.cell? ⟨b1, o1 + j * 4, none⟩ = some (.string nm1) ∧ v.cell? ⟨b1, o1 + j * 4 + 1, none⟩ = some (.slice pa1 pn1 pc1) ∧ v.cell? ⟨b1, o1 + j * 4 + 2, none⟩ = some (.int .i64 k1) ∧ v.cell? ⟨b1, o1 + j * 4 + 3, none⟩ = some (.int .i64 r1) ∧ v.cell? ⟨b2, o2 + j * 4, none⟩ = some (.string nm1) ∧ v.cell? ⟨b2, o2 + j * 4 + 1, none⟩ = some (.slice pa2 pn1 pc2) ∧ v.cell? ⟨b2, o2 + j * 4 + 2, none⟩ = some (.int .i64 k1) ∧ v.cell? ⟨b2, o2 + j * 4 + 3, none⟩ = some (.int .i64 r1)) := hid (fun v hv => by
        have k : ∀ (p : Addr) (x : Value), wr.cell? p = some x → v.cell? p = some x := fun p x h => (hv.cell (p := p) (World.block_lt_of_cell? wr p h)).trans h
        exact ⟨k _ _ x0, k _ _ x1, k _ _ x2, k _ _ x3, k _ _ y0, k _ _ y1, k _ _ y2, k _ _ y3⟩)
      clear hb dA dB l1 l2 e1 e2 hc1 hc2 s1 s2 hres
      go_upto_region 6 with fail
      go_region_held3 (fun v => v.cell? ⟨b1, o1 + j * 4, none⟩ = some (.string nm1) ∧ v.cell? ⟨b1, o1 + j * 4 + 1, none⟩ = some (.slice pa1 pn1 pc1) ∧ v.cell? ⟨b1, o1 + j * 4 + 2, none⟩ = some (.int .i64 k1) ∧ v.cell? ⟨b1, o1 + j * 4 + 3, none⟩ = some (.int .i64 r1) ∧ v.cell? ⟨b2, o2 + j * 4, none⟩ = some (.string nm1) ∧ v.cell? ⟨b2, o2 + j * 4 + 1, none⟩ = some (.slice pa2 pn1 pc2) ∧ v.cell? ⟨b2, o2 + j * 4 + 2, none⟩ = some (.int .i64 k1) ∧ v.cell? ⟨b2, o2 + j * 4 + 3, none⟩ = some (.int .i64 r1)) (first | exact s8 | go_keep) (first
        | (go_at_call 81; (refine (Hid.out K).mono ?_; rintro e w8 ⟨rfl, hb8⟩; have h8 : Below wr.heap.size wr w8 := (Below.refl _ wr).drew.trans hb8; have s8 := ST.out w8 h8)))
      go_wp2
      go_roundg g
      case measure => omega
      exact ⟨j + 1, by omega, by go_num, HB.out.trans (h8.mono HB.out.size)⟩
end Go.Proofs.YthnolocldeokeaaGreat

namespace Go.Proofs.YthnolocldeokeaaGreat
open Go.RowKit Go.Deep Go.Shelf
set_option linter.unusedVariables false
set_option linter.unusedSimpArgs false
set_option maxRecDepth 100000 in
set_option maxHeartbeats 4000000 in
theorem sameFns_yes (w : World) (a b : Option Addr) (n c1 c2 : Nat) (g1 g2 : List (FH × Fx)) (d1 : FRd w a n g1) (d2 : FRd w b n g2) (he : g1.map (·.2) = g2.map (·.2)) :
    Calls Tryz.prog 48 #[.slice a n c1, .slice b n c2] w fun e w' => e = .returned (.bool true) ∧ Below w.heap.size w w' := by
  have hnI : (n : Int) ≤ 9223372036854775807 := by have := d1.n2; omega
  have D1 := hid d1
  have D2 := hid d2
  have HE := hid he
  have nb : ((n : Int) != (n : Int)) = false := by simp
  clear d1 d2 he
  go_enter Tryz.func48, Tryz.ntmps48
  go_wp2
  go_loopg [5] n (fun g x wr => ∃ j : Nat, j + g = n ∧ x = .int .i64 (j : Int) ∧ Below w.heap.size w wr)
  case atStart => exact ⟨0, by omega, rfl, Below.refl _ _⟩
  case round =>
    obtain ⟨j, hj, rfl, hb⟩ := hrel
    cases gk with
    | zero =>
      have hjn : j = n := by omega
      subst hjn
      have HB := hid hb
      clear hb
      go_wp2
      go_ret
      exact ⟨rfl, HB.out⟩
    | succ g =>
      obtain ⟨wo, hwo⟩ : ∃ wo, wo = wr := ⟨_, rfl⟩
      subst hwo
      have dA := D1.out.below (Nat.le_refl _) hb
      have dB := D2.out.below (Nat.le_refl _) hb
      have l1 : j < g1.length := by rw [← dA.n1]; omega
      have l2 : j < g2.length := by rw [← dB.n1]; omega
      have e1 : g1[j]? = some g1[j] := List.getElem?_eq_getElem l1
      have e2 : g2[j]? = some g2[j] := List.getElem?_eq_getElem l2
      have hss : (g1[j]).2 = (g2[j]).2 := by
        have h1 : (g1.map (·.2))[j]? = some (g1[j]).2 := by rw [List.getElem?_map, e1]; rfl
        have h2 : (g2.map (·.2))[j]? = some (g2[j]).2 := by rw [List.getElem?_map, e2]; rfl
        rw [HE.out, h2] at h1
        exact (Option.some.inj h1).symm
      obtain ⟨b1, o1, rfl, _, hc1⟩ := dA.rd j (g1[j]).1.cs (by simp [e1])
      obtain ⟨b2, o2, rfl, _, hc2⟩ := dB.rd j (g2[j]).1.cs (by simp [e2])
      have s1 := dA.el _ (List.getElem_mem l1)
      have s2 := dB.el _ (List.getElem_mem l2)
      generalize g1[j] = p1 at hss hc1 s1
      generalize g2[j] = p2 at hss hc2 s2
      obtain ⟨⟨r1, oa1, on1, oc1⟩, f1⟩ := p1
      obtain ⟨⟨r2, oa2, on2, oc2⟩, f2⟩ := p2
      simp only at hss
      subst hss
      obtain rfl : r1 = r2 := (show r1 = _ from s1.rg).trans (show r2 = _ from s2.rg).symm
      obtain rfl : on1 = on2 := (show on1 = _ from s1.on).trans (show on2 = _ from s2.on).symm
      have x0 := hc1 0 (by omega)
      have x1 := hc1 1 (by omega)
      have y0 := hc2 0 (by omega)
      have y1 := hc2 1 (by omega)
      simp only [FH.cs, List.getElem?_cons_zero, List.getElem?_cons_succ, Nat.add_zero] at x0 x1 y0 y1
      have hjI : (j : Int) < (n : Int) := by omega
      have hj0 : (0 : Int) ≤ (j : Int) := by omega
      have hon2 : (on1 : Int) ≤ 9223372036854775807 := by have : on1 ≤ _ := s1.o2; omega
      have HON : Hid (on1 = f1.ops.length) := hid s1.on
      have R1 : Hid (ORd wo oa1 f1.ops) := hid s1.or
      have R2 : Hid (ORd wo oa2 f1.ops) := hid s2.or
      have nb2 : ((on1 : Int) != (on1 : Int)) = false := by simp
      have nb3 : (r1 != r1) = false := by simp
      have HB := hid hb
      have ST : Hid (∀ v : World, Below wo.heap.size wo v → v.cell? ⟨b1, o1 + j * 2, none⟩ = some (.int .i64 r1) ∧ v.cell? ⟨b1, o1 + j * 2 + 1, none⟩ = some (.slice oa1 on1 oc1) ∧ v.cell? ⟨b2, o2 + j * 2, none⟩ = some (.int .i64 r1) ∧ v.cell? ⟨b2, o2 + j * 2 + 1, none⟩ = some (.slice oa2 on1 oc2)) := hid (fun v hv => by
        have k : ∀ (p : Addr) (x : Value), wo.cell? p = some x → v.cell? p = some x := fun p x h => (hv.cell (p := p) (World.block_lt_of_cell? wo p h)).trans h
        exact ⟨k _ _ x0, k _ _ x1, k _ _ y0, k _ _ y1⟩)
      clear hb dA dB l1 l2 e1 e2 hc1 hc2 s1 s2
      go_upto_region 6 with fail
      go_quiet (fail)
      obtain ⟨A, hA⟩ : ∃ A, A = wo.drewN nq := ⟨_, rfl⟩
      have bA : Below wo.heap.size wo A := by rw [hA]; exact bel_dN (Below.refl _ _) _
      rw [← hA]
      clear hA x0 x1 y0 y1
      obtain ⟨x0, x1, y0, y1⟩ := ST.out A bA
      have BA := hid bA
      clear bA
      go_wp2
      go_loopg [6] on1 (fun g2 x wr2 => ∃ i : Nat, i + g2 = on1 ∧ x = .int .i64 (i : Int) ∧ Below wo.heap.size wo wr2)
      case atStart => exact ⟨0, by omega, rfl, BA.out⟩
      case round =>
        obtain ⟨i, hi, rfl, hb2⟩ := hrel
        clear x0 x1 y0 y1
        obtain ⟨x0, x1, y0, y1⟩ := ST.out wr hb2
        cases gk with
        | zero =>
          have hin : i = on1 := by omega
          subst hin
          have HB2 := hid hb2
          clear hb2
          go_wp2
          go_roundg g
          case measure => omega
          exact ⟨j + 1, by omega, by go_num, HB.out.trans (HB2.out.mono HB.out.size)⟩
        | succ g2 =>
          obtain ⟨o, ho⟩ : ∃ o, f1.ops[i]? = some o := ⟨f1.ops[i]'(by have := HON.out; omega), List.getElem?_eq_getElem _⟩
          obtain ⟨p1, q1, rfl, hcl1⟩ := (R1.out.below hb2) i o ho
          obtain ⟨p2, q2, rfl, hcl2⟩ := (R2.out.below hb2) i o ho
          have hiI : (i : Int) < (on1 : Int) := by omega
          have hi0 : (0 : Int) ≤ (i : Int) := by omega
          obtain ⟨xc, xd, xa, xb, xk⟩ := o
          have i0 := hcl1 0 (by omega)
          have i1 := hcl1 1 (by omega)
          have i2 := hcl1 2 (by omega)
          have i3 := hcl1 3 (by omega)
          have i4 := hcl1 4 (by omega)
          have k0 := hcl2 0 (by omega)
          have k1 := hcl2 1 (by omega)
          have k2 := hcl2 2 (by omega)
          have k3 := hcl2 3 (by omega)
          have k4 := hcl2 4 (by omega)
          simp only [Opx.cs, List.getElem?_toArray, List.getElem?_cons_zero, List.getElem?_cons_succ, Nat.add_zero] at i0 i1 i2 i3 i4 k0 k1 k2 k3 k4
          have HB2 := hid hb2
          clear hb2 hcl1 hcl2 ho
          go_wp2
          go_quiet (fail)
          go_wp2
          go_roundg g2
          case measure => omega
          exact ⟨i + 1, by omega, by go_num, bel_dN HB2.out _⟩
end Go.Proofs.YthnolocldeokeaaGreat

