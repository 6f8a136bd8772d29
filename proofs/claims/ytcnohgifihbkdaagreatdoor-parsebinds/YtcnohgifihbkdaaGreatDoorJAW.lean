/- Trees, as they lie in memory. -/
import Derived.Test.YtcnohgifihbkdaaGreatDoorJAV
import Derived.WalkKit
import Derived.WalkSpells
import Derived.WalkLawsBesides
import Derived.Deep.LoopGhost
import Derived.Below
import Derived.RangeFuncNested
import Derived.RangeFuncBound
import Derived.RangeFuncCalls
import Derived.RangeFuncLeaves
import Derived.BigQuiet
import Derived.Deep.AppendLies
import Derived.Deep.OwnRows
import Derived.Deep.RegionHeld3
import Derived.Lib.AppendStr
import Derived.LoopIn
import Derived.LoopNIn
import Derived.Maps.AppendAt
import Derived.OwnWalkIn
import Derived.Shelf.Abstract
import Derived.Shelf.RegionOpen
import Derived.TacticsInMore
import Derived.BigRegionIn
namespace Go.Proofs.YtcnohgifihbkdaaGreatDoor.Lx
open Go.RowKit Go.Deep
set_option linter.unusedVariables false
set_option linter.unusedSimpArgs false

theorem cellT {w : World} {b : Nat} {c : Array Value} {e : TypeId} {f : Nat × Nat} (h : w.heap[b]? = some (.cells c e f)) (i : Nat) : w.cell? ⟨b, i, none⟩ = c[i]? := by
  simp [World.cell?, h]
theorem freeT {w : World} {b : Nat} {c : Array Value} {e : TypeId} (h : w.heap[b]? = some (.cells c e (0, 0))) (i : Nat) : w.frozen? ⟨b, i, none⟩ = false := by
  simp [World.frozen?, h]
theorem belowCell {w w' : World} {B b o : Nat} {v : Value} (h : w.cell? ⟨b, o, none⟩ = some v) (hB : w.heap.size ≤ B) (k : Below B w w') : w'.cell? ⟨b, o, none⟩ = some v := by
  have hb : b < w.heap.size := World.block_lt_of_cell? w _ h
  exact (k.cell (p := ⟨b, o, none⟩) (by show b < B; omega)).trans h

/- A row of texts that a slice reads. -/
def SLs (w : World) (a : Option Addr) (l : List ByteArray) : Prop := ∀ (j : Nat) (s : ByteArray), l[j]? = some s → ∃ b off, a = some ⟨b, off, none⟩ ∧ w.cell? ⟨b, off + j, none⟩ = some (.string s)
theorem SLs.below {w w' : World} {a : Option Addr} {l : List ByteArray} {B : Nat} (h : SLs w a l) (hB : w.heap.size ≤ B) (k : Below B w w') : SLs w' a l := fun j s e => by
  obtain ⟨b, off, ea, hc⟩ := h j s e
  exact ⟨b, off, ea, belowCell hc hB k⟩
/- A row of params: two texts each. -/
def PLs (w : World) (a : Option Addr) (l : List (ByteArray × ByteArray)) : Prop := ∀ (j : Nat) (s : ByteArray × ByteArray), l[j]? = some s → ∃ b off, a = some ⟨b, off, none⟩ ∧ w.cell? ⟨b, off + j * 2, none⟩ = some (.string s.1) ∧ w.cell? ⟨b, off + j * 2 + 1, none⟩ = some (.string s.2)
theorem PLs.below {w w' : World} {a : Option Addr} {l : List (ByteArray × ByteArray)} {B : Nat} (h : PLs w a l) (hB : w.heap.size ≤ B) (k : Below B w w') : PLs w' a l := fun j s e => by
  obtain ⟨b, off, ea, h1, h2⟩ := h j s e
  exact ⟨b, off, ea, belowCell h1 hB k, belowCell h2 hB k⟩

/- An expression's cells, and where they lie. -/
structure EH where
  b : Nat
  o : Nat
  kind : Int
  op : Int
  int : Int
  text : ByteArray
  name : ByteArray
  na : Option Addr
  nn : Nat
  nc : Nat
  aa : Option Addr
  an : Nat
  ac : Nat
  pos : Int
  names : List ByteArray
structure EHr (w : World) (h : EH) : Prop where
  c0 : w.cell? ⟨h.b, h.o, none⟩ = some (.int .i64 h.kind)
  c1 : w.cell? ⟨h.b, h.o + 1, none⟩ = some (.int .i64 h.op)
  c2 : w.cell? ⟨h.b, h.o + 2, none⟩ = some (.int .i64 h.int)
  c3 : w.cell? ⟨h.b, h.o + 3, none⟩ = some (.string h.text)
  c4 : w.cell? ⟨h.b, h.o + 4, none⟩ = some (.string h.name)
  c5 : w.cell? ⟨h.b, h.o + 5, none⟩ = some (.slice h.na h.nn h.nc)
  c6 : w.cell? ⟨h.b, h.o + 6, none⟩ = some (.slice h.aa h.an h.ac)
  c7 : w.cell? ⟨h.b, h.o + 7, none⟩ = some (.int .i64 h.pos)
  i0 : -9223372036854775808 ≤ h.int
  i1 : h.int ≤ 9223372036854775807
  t : h.text.size ≤ 9223372036854775807
  n : h.name.size ≤ 9223372036854775807
  nl : h.nn = h.names.length
  nb : h.nn ≤ 1000000
  ns : ∀ s ∈ h.names, s.size ≤ 9223372036854775807
  nr : SLs w h.na h.names
  ab : h.an ≤ 1000000
theorem EHr.below {w w' : World} {h : EH} {B : Nat} (d : EHr w h) (hB : w.heap.size ≤ B) (k : Below B w w') : EHr w' h :=
  ⟨belowCell d.c0 hB k, belowCell d.c1 hB k, belowCell d.c2 hB k, belowCell d.c3 hB k, belowCell d.c4 hB k, belowCell d.c5 hB k, belowCell d.c6 hB k, belowCell d.c7 hB k, d.i0, d.i1, d.t, d.n, d.nl, d.nb, d.ns, d.nr.below hB k, d.ab⟩
/- A statement's. -/
structure SH where
  b : Nat
  o : Nat
  kind : Int
  name : ByteArray
  label : ByteArray
  var : ByteArray
  aa : Option Addr
  an : Nat
  ac : Nat
  ba : Option Addr
  bn : Nat
  bc : Nat
  ea : Option Addr
  en : Nat
  ec : Nat
  pos : Int
structure SHr (w : World) (h : SH) : Prop where
  c0 : w.cell? ⟨h.b, h.o, none⟩ = some (.int .i64 h.kind)
  c1 : w.cell? ⟨h.b, h.o + 1, none⟩ = some (.string h.name)
  c2 : w.cell? ⟨h.b, h.o + 2, none⟩ = some (.string h.label)
  c3 : w.cell? ⟨h.b, h.o + 3, none⟩ = some (.string h.var)
  c4 : w.cell? ⟨h.b, h.o + 4, none⟩ = some (.slice h.aa h.an h.ac)
  c5 : w.cell? ⟨h.b, h.o + 5, none⟩ = some (.slice h.ba h.bn h.bc)
  c6 : w.cell? ⟨h.b, h.o + 6, none⟩ = some (.slice h.ea h.en h.ec)
  c7 : w.cell? ⟨h.b, h.o + 7, none⟩ = some (.int .i64 h.pos)
  n : h.name.size ≤ 9223372036854775807
  l : h.label.size ≤ 9223372036854775807
  v : h.var.size ≤ 9223372036854775807
  ab : h.an ≤ 1000000
  bb : h.bn ≤ 1000000
  eb : h.en ≤ 1000000
theorem SHr.below {w w' : World} {h : SH} {B : Nat} (d : SHr w h) (hB : w.heap.size ≤ B) (k : Below B w w') : SHr w' h :=
  ⟨belowCell d.c0 hB k, belowCell d.c1 hB k, belowCell d.c2 hB k, belowCell d.c3 hB k, belowCell d.c4 hB k, belowCell d.c5 hB k, belowCell d.c6 hB k, belowCell d.c7 hB k, d.n, d.l, d.v, d.ab, d.bb, d.eb⟩
/- A declaration's, with its sort. -/
structure DH where
  sort : ByteArray
  b : Nat
  o : Nat
  name : ByteArray
  pa : Option Addr
  pn : Nat
  pc : Nat
  key : ByteArray
  value : ByteArray
  result : ByteArray
  ba : Option Addr
  bn : Nat
  bc : Nat
  pos : Int
  params : List (ByteArray × ByteArray)
structure DHr (w : World) (h : DH) : Prop where
  c0 : w.cell? ⟨h.b, h.o, none⟩ = some (.string h.name)
  c1 : w.cell? ⟨h.b, h.o + 1, none⟩ = some (.slice h.pa h.pn h.pc)
  c2 : w.cell? ⟨h.b, h.o + 2, none⟩ = some (.string h.key)
  c3 : w.cell? ⟨h.b, h.o + 3, none⟩ = some (.string h.value)
  c4 : w.cell? ⟨h.b, h.o + 4, none⟩ = some (.string h.result)
  c5 : w.cell? ⟨h.b, h.o + 5, none⟩ = some (.slice h.ba h.bn h.bc)
  c6 : w.cell? ⟨h.b, h.o + 6, none⟩ = some (.int .i64 h.pos)
  n : h.name.size ≤ 9223372036854775807
  k : h.key.size ≤ 9223372036854775807
  v : h.value.size ≤ 9223372036854775807
  r : h.result.size ≤ 9223372036854775807
  pl : h.pn = h.params.length
  pb : h.pn ≤ 1000000
  ps : ∀ s ∈ h.params, s.1.size ≤ 9223372036854775807 ∧ s.2.size ≤ 9223372036854775807
  pr : PLs w h.pa h.params
  bb : h.bn ≤ 1000000
theorem DHr.below {w w' : World} {h : DH} {B : Nat} (d : DHr w h) (hB : w.heap.size ≤ B) (k : Below B w w') : DHr w' h :=
  ⟨belowCell d.c0 hB k, belowCell d.c1 hB k, belowCell d.c2 hB k, belowCell d.c3 hB k, belowCell d.c4 hB k, belowCell d.c5 hB k, belowCell d.c6 hB k, d.n, d.k, d.v, d.r, d.pl, d.pb, d.ps, d.pr.below hB k, d.bb⟩
/- A tree's. -/
structure TH where
  b : Nat
  o : Nat
  ra : Option Addr
  rn : Nat
  rc : Nat
  ma : Option Addr
  mn : Nat
  mc : Nat
  fa : Option Addr
  fn : Nat
  fc : Nat
  ea : Option Addr
  en : Nat
  ec : Nat
structure THr (w : World) (h : TH) : Prop where
  c0 : w.cell? ⟨h.b, h.o, none⟩ = some (.slice h.ra h.rn h.rc)
  c1 : w.cell? ⟨h.b, h.o + 1, none⟩ = some (.slice h.ma h.mn h.mc)
  c2 : w.cell? ⟨h.b, h.o + 2, none⟩ = some (.slice h.fa h.fn h.fc)
  c3 : w.cell? ⟨h.b, h.o + 3, none⟩ = some (.slice h.ea h.en h.ec)
  rb : h.rn ≤ 1000000
  mb : h.mn ≤ 1000000
  fb : h.fn ≤ 1000000
  eb : h.en ≤ 1000000
theorem THr.below {w w' : World} {h : TH} {B : Nat} (d : THr w h) (hB : w.heap.size ≤ B) (k : Below B w w') : THr w' h :=
  ⟨belowCell d.c0 hB k, belowCell d.c1 hB k, belowCell d.c2 hB k, belowCell d.c3 hB k, d.rb, d.mb, d.fb, d.eb⟩

/- Where the elements of a row lie: each of z cells. -/
def LiesAt {α : Type} (z : Nat) (a : Option Addr) (at' : α → Nat × Nat) (ts : List α) : Prop := ∀ (j : Nat) (t : α), ts[j]? = some t → ∃ b off, a = some ⟨b, off, none⟩ ∧ at' t = (b, off + j * z)
def ET : Nat → Type
  | 0 => Empty
  | k + 1 => EH × List (ET k)
def eH : (k : Nat) → ET k → EH
  | 0, t => Empty.elim t
  | _ + 1, t => t.1
def eAt (k : Nat) (t : ET k) : Nat × Nat := ((eH k t).b, (eH k t).o)
def ERd : (k : Nat) → World → ET k → Prop
  | 0, _, _ => False
  | k + 1, w, t => EHr w t.1 ∧ t.1.an = t.2.length ∧ LiesAt 8 t.1.aa (eAt k) t.2 ∧ ∀ u ∈ t.2, ERd k w u
theorem ERd.below : ∀ (k : Nat) {w w' : World} {t : ET k} {B : Nat}, ERd k w t → w.heap.size ≤ B → Below B w w' → ERd k w' t
  | 0, _, _, _, _, d, _, _ => d.elim
  | k + 1, _, _, _, _, d, hB, h => ⟨d.1.below hB h, d.2.1, d.2.2.1, fun u hu => ERd.below k (d.2.2.2 u hu) hB h⟩
theorem ERd.h : ∀ {k : Nat} {w : World} {t : ET k}, ERd k w t → EHr w (eH k t)
  | 0, _, _, d => d.elim
  | _ + 1, _, _, d => d.1
def ST : Nat → Type
  | 0 => Empty
  | k + 1 => SH × List (ET k) × List (ST k) × List (ST k)
def sH : (k : Nat) → ST k → SH
  | 0, t => Empty.elim t
  | _ + 1, t => t.1
def sAt (k : Nat) (t : ST k) : Nat × Nat := ((sH k t).b, (sH k t).o)
def SRds : (k : Nat) → World → ST k → Prop
  | 0, _, _ => False
  | k + 1, w, t => SHr w t.1 ∧ (t.1.an = t.2.1.length ∧ t.1.bn = t.2.2.1.length ∧ t.1.en = t.2.2.2.length) ∧ (LiesAt 8 t.1.aa (eAt k) t.2.1 ∧ LiesAt 8 t.1.ba (sAt k) t.2.2.1 ∧ LiesAt 8 t.1.ea (sAt k) t.2.2.2) ∧ (∀ u ∈ t.2.1, ERd k w u) ∧ (∀ u ∈ t.2.2.1, SRds k w u) ∧ ∀ u ∈ t.2.2.2, SRds k w u
theorem SRds.below : ∀ (k : Nat) {w w' : World} {t : ST k} {B : Nat}, SRds k w t → w.heap.size ≤ B → Below B w w' → SRds k w' t
  | 0, _, _, _, _, d, _, _ => d.elim
  | k + 1, _, _, _, _, d, hB, h => ⟨d.1.below hB h, d.2.1, d.2.2.1, fun u hu => ERd.below k (d.2.2.2.1 u hu) hB h, fun u hu => SRds.below k (d.2.2.2.2.1 u hu) hB h, fun u hu => SRds.below k (d.2.2.2.2.2 u hu) hB h⟩
theorem SRds.h : ∀ {k : Nat} {w : World} {t : ST k}, SRds k w t → SHr w (sH k t)
  | 0, _, _, d => d.elim
  | _ + 1, _, _, d => d.1
def DT (k : Nat) : Type := DH × List (ST k)
def dAt {k : Nat} (t : DT k) : Nat × Nat := (t.1.b, t.1.o)
structure DRds (k : Nat) (w : World) (t : DT k) : Prop where
  h : DHr w t.1
  n : t.1.bn = t.2.length
  l : LiesAt 8 t.1.ba (sAt k) t.2
  e : ∀ u ∈ t.2, SRds k w u
theorem DRds.below {k : Nat} {w w' : World} {t : DT k} {B : Nat} (d : DRds k w t) (hB : w.heap.size ≤ B) (h : Below B w w') : DRds k w' t := ⟨d.h.below hB h, d.n, d.l, fun u hu => SRds.below k (d.e u hu) hB h⟩
def wRec : ByteArray := ⟨#[114, 101, 99, 111, 114, 100]⟩
def wMap : ByteArray := ⟨#[109, 97, 112]⟩
def wFn : ByteArray := ⟨#[102, 110]⟩
def wOn : ByteArray := ⟨#[111, 110]⟩
/- A row of declarations of one sort. -/
structure DLs (k : Nat) (w : World) (s : ByteArray) (a : Option Addr) (n : Nat) (ts : List (DT k)) : Prop where
  n : n = ts.length
  l : LiesAt 7 a dAt ts
  e : ∀ u ∈ ts, DRds k w u
  s : ∀ u ∈ ts, u.1.sort = s
theorem DLs.below {k : Nat} {w w' : World} {s : ByteArray} {a : Option Addr} {n : Nat} {ts : List (DT k)} {B : Nat} (d : DLs k w s a n ts) (hB : w.heap.size ≤ B) (h : Below B w w') : DLs k w' s a n ts := ⟨d.n, d.l, fun u hu => (d.e u hu).below hB h, d.s⟩
structure TT (k : Nat) where
  h : TH
  rs : List (DT k)
  ms : List (DT k)
  fs : List (DT k)
  es : List (DT k)
structure TRds (k : Nat) (w : World) (t : TT k) : Prop where
  h : THr w t.h
  rs : DLs k w wRec t.h.ra t.h.rn t.rs
  ms : DLs k w wMap t.h.ma t.h.mn t.ms
  fs : DLs k w wFn t.h.fa t.h.fn t.fs
  es : DLs k w wOn t.h.ea t.h.en t.es
theorem TRds.below {k : Nat} {w w' : World} {t : TT k} {B : Nat} (d : TRds k w t) (hB : w.heap.size ≤ B) (h : Below B w w') : TRds k w' t := ⟨d.h.below hB h, d.rs.below hB h, d.ms.below hB h, d.fs.below hB h, d.es.below hB h⟩

/- The parts, each ahead of what is within it. -/
abbrev Part := Sum (Sum TH DH) (Sum SH EH)
def labP : Part → Value
  | .inl (.inl h) => .iface 83 (.pointer (some ⟨h.b, h.o, none⟩))
  | .inl (.inr h) => .iface 159 (.agg #[.string h.sort, .pointer (some ⟨h.b, h.o, none⟩)])
  | .inr (.inl h) => .iface 161 (.pointer (some ⟨h.b, h.o, none⟩))
  | .inr (.inr h) => .iface 89 (.pointer (some ⟨h.b, h.o, none⟩))
def PRds (w : World) : Part → Prop
  | .inl (.inl h) => THr w h
  | .inl (.inr h) => DHr w h
  | .inr (.inl h) => SHr w h
  | .inr (.inr h) => EHr w h
def ptE : (k : Nat) → ET k → List Part
  | 0, _ => []
  | k + 1, t => .inr (.inr t.1) :: t.2.flatMap (ptE k)
theorem ptE_rd : ∀ (k : Nat) {w : World} {t : ET k}, ERd k w t → ∀ p ∈ ptE k t, PRds w p
  | 0, _, _, d, _, _ => d.elim
  | k + 1, _, _, d, p, hp => by
    rcases List.mem_cons.1 hp with rfl | hp
    · exact d.1
    · obtain ⟨u, hu, hp⟩ := List.mem_flatMap.1 hp
      exact ptE_rd k (d.2.2.2 u hu) p hp
/- Which type an interface holds. -/
theorem as58_58 (v : Value) (w : World) : (Instr.typeAssert (.iface 83 v) 20 83 true).run Tryz.prog w = .ok (.tuple #[v, .bool true]) w := by kernel_rfl
theorem as105_58 (v : Value) (w : World) : (Instr.typeAssert (.iface 159 v) 20 83 true).run Tryz.prog w = .ok (.tuple #[.pointer none, .bool false]) w := by kernel_rfl
theorem as101_58 (v : Value) (w : World) : (Instr.typeAssert (.iface 161 v) 20 83 true).run Tryz.prog w = .ok (.tuple #[.pointer none, .bool false]) w := by kernel_rfl
theorem as67_58 (v : Value) (w : World) : (Instr.typeAssert (.iface 89 v) 20 83 true).run Tryz.prog w = .ok (.tuple #[.pointer none, .bool false]) w := by kernel_rfl
theorem as58_105 (v : Value) (w : World) : (Instr.typeAssert (.iface 83 v) 20 159 true).run Tryz.prog w = .ok (.tuple #[.agg #[.string ⟨#[]⟩, .pointer none], .bool false]) w := by kernel_rfl
theorem as105_105 (v : Value) (w : World) : (Instr.typeAssert (.iface 159 v) 20 159 true).run Tryz.prog w = .ok (.tuple #[v, .bool true]) w := by kernel_rfl
theorem as101_105 (v : Value) (w : World) : (Instr.typeAssert (.iface 161 v) 20 159 true).run Tryz.prog w = .ok (.tuple #[.agg #[.string ⟨#[]⟩, .pointer none], .bool false]) w := by kernel_rfl
theorem as67_105 (v : Value) (w : World) : (Instr.typeAssert (.iface 89 v) 20 159 true).run Tryz.prog w = .ok (.tuple #[.agg #[.string ⟨#[]⟩, .pointer none], .bool false]) w := by kernel_rfl
theorem as58_101 (v : Value) (w : World) : (Instr.typeAssert (.iface 83 v) 20 161 true).run Tryz.prog w = .ok (.tuple #[.pointer none, .bool false]) w := by kernel_rfl
theorem as105_101 (v : Value) (w : World) : (Instr.typeAssert (.iface 159 v) 20 161 true).run Tryz.prog w = .ok (.tuple #[.pointer none, .bool false]) w := by kernel_rfl
theorem as101_101 (v : Value) (w : World) : (Instr.typeAssert (.iface 161 v) 20 161 true).run Tryz.prog w = .ok (.tuple #[v, .bool true]) w := by kernel_rfl
theorem as67_101 (v : Value) (w : World) : (Instr.typeAssert (.iface 89 v) 20 161 true).run Tryz.prog w = .ok (.tuple #[.pointer none, .bool false]) w := by kernel_rfl
theorem as58_67 (v : Value) (w : World) : (Instr.typeAssert (.iface 83 v) 20 89 true).run Tryz.prog w = .ok (.tuple #[.pointer none, .bool false]) w := by kernel_rfl
theorem as105_67 (v : Value) (w : World) : (Instr.typeAssert (.iface 159 v) 20 89 true).run Tryz.prog w = .ok (.tuple #[.pointer none, .bool false]) w := by kernel_rfl
theorem as101_67 (v : Value) (w : World) : (Instr.typeAssert (.iface 161 v) 20 89 true).run Tryz.prog w = .ok (.tuple #[.pointer none, .bool false]) w := by kernel_rfl
theorem as67_67 (v : Value) (w : World) : (Instr.typeAssert (.iface 89 v) 20 89 true).run Tryz.prog w = .ok (.tuple #[v, .bool true]) w := by kernel_rfl
attribute [local go_sem] as58_58 as105_58 as101_58 as67_58 as58_105 as105_105 as101_105 as67_105 as58_101 as105_101 as101_101 as67_101 as58_67 as105_67 as101_67 as67_67
end Go.Proofs.YtcnohgifihbkdaaGreatDoor.Lx

namespace Go.Proofs.YtcnohgifihbkdaaGreatDoor.Lx
open Go.RowKit Go.Deep
set_option linter.unusedVariables false
set_option linter.unusedSimpArgs false
attribute [local go_sem] as58_58 as105_58 as101_58 as67_58 as58_105 as105_105 as101_105 as67_105 as58_101 as105_101 as101_101 as67_101 as58_67 as105_67 as101_67 as67_67
attribute [local go_sem] Oper.semAt_some

/- What is asked of whoever takes the parts. -/
structure Hy (w0 : World) (l : Nat) (N : Nat) (lab : Fin N → Value) (J Jx : List (Fin N) → World → Prop) (B : Nat) : Prop where
  y : ∀ (i : Nat) (hi : i < N) (W : World), J ((List.finRange N).take i) W → YieldAt Fence.wide 0 Tryz.prog l #[lab ⟨i, hi⟩] W fun e W' =>
      (e = .returned (.bool true) ∧ J ((List.finRange N).take (i + 1)) W' ∧ Below w0.heap.size W W') ∨ (e = .returned (.bool false) ∧ Jx ((List.finRange N).take (i + 1)) W')
  a : AbidesFrom B J
def Seg (N : Nat) (lab : Fin N → Value) (i : Nat) (ps : List Part) : Prop := ∀ (j : Nat) (p : Part), ps[j]? = some p → ∃ h : i + j < N, lab ⟨i + j, h⟩ = labP p
theorem Seg.left {N : Nat} {lab : Fin N → Value} {i : Nat} {a b : List Part} (h : Seg N lab i (a ++ b)) : Seg N lab i a := fun j p e => h j p (by
  rw [List.getElem?_append_left (List.getElem?_eq_some_iff.1 e).1]; exact e)
theorem Seg.right {N : Nat} {lab : Fin N → Value} {i : Nat} {a b : List Part} (h : Seg N lab i (a ++ b)) : Seg N lab (i + a.length) b := fun j p e => by
  obtain ⟨h1, h2⟩ := h (a.length + j) p (by rw [List.getElem?_append_right (by omega), Nat.add_sub_cancel_left]; exact e)
  have e2 : i + a.length + j = i + (a.length + j) := by omega
  exact ⟨by omega, by simp only [e2]; exact h2⟩
theorem Seg.head {N : Nat} {lab : Fin N → Value} {i : Nat} {p : Part} {b : List Part} (h : Seg N lab i (p :: b)) : ∃ h : i < N, lab ⟨i, h⟩ = labP p := h 0 p rfl
theorem Seg.tail {N : Nat} {lab : Fin N → Value} {i : Nat} {p : Part} {b : List Part} (h : Seg N lab i (p :: b)) : Seg N lab (i + 1) b := fun j q e => by
  obtain ⟨h1, h2⟩ := h (j + 1) q (by simpa using e)
  have e2 : i + 1 + j = i + (j + 1) := by omega
  exact ⟨by omega, by simp only [e2]; exact h2⟩
/- What is told behind handing on so many parts from place i on. -/
def HoP (w0 : World) (N : Nat) (J Jx : List (Fin N) → World → Prop) (i m : Nat) (e : Ending) (W' : World) : Prop :=
  (e = .returned (.bool true) ∧ J ((List.finRange N).take (i + m)) W' ∧ Below w0.heap.size w0 W') ∨ (e = .returned (.bool false) ∧ ∃ i', i' ≤ N ∧ Jx ((List.finRange N).take i') W')
def HandE (k : Nat) : Prop := ∀ (w0 : World) (l N : Nat) (lab : Fin N → Value) (J Jx : List (Fin N) → World → Prop) (B : Nat) (hy : Hy w0 l N lab J Jx B) (t : ET k) (i : Nat) (W : World), ERd k w0 t → Seg N lab i (ptE k t) → Below w0.heap.size w0 W → J ((List.finRange N).take i) W →
    CallsIn Fence.wide 0 Tryz.prog 123 #[labP (.inr (.inr (eH k t))), .func (.yield l) #[] #[]] W (HoP w0 N J Jx i (ptE k t).length)
def HandEs (k : Nat) : Prop := ∀ (w0 : World) (l N : Nat) (lab : Fin N → Value) (J Jx : List (Fin N) → World → Prop) (B : Nat) (hy : Hy w0 l N lab J Jx B) (a : Option Addr) (n c : Nat) (ts : List (ET k)) (i : Nat) (W : World), n = ts.length → n ≤ 1000000 → LiesAt 8 a (eAt k) ts → (∀ u ∈ ts, ERd k w0 u) → Seg N lab i (ts.flatMap (ptE k)) → Below w0.heap.size w0 W → J ((List.finRange N).take i) W →
    CallsIn Fence.wide 0 Tryz.prog 157 #[.slice a n c, .func (.yield l) #[] #[]] W (HoP w0 N J Jx i (ts.flatMap (ptE k)).length)
theorem flat_at {α : Type} (f : α → List Part) (ts : List α) (j : Nat) (t : α) (h : ts[j]? = some t) : ts.flatMap f = (ts.take j).flatMap f ++ (f t ++ (ts.drop (j + 1)).flatMap f) := by
  obtain ⟨h1, h2⟩ := List.getElem?_eq_some_iff.1 h
  have e : ts = ts.take j ++ (t :: ts.drop (j + 1)) := by
    rw [← h2, ← List.drop_eq_getElem_cons h1, List.take_append_drop]
  conv => lhs; rw [e]
  rw [List.flatMap_append, List.flatMap_cons]
theorem flat_next {α : Type} (f : α → List Part) (ts : List α) (j : Nat) (t : α) (h : ts[j]? = some t) : ((ts.take (j + 1)).flatMap f).length = ((ts.take j).flatMap f).length + (f t).length := by
  rw [List.take_add_one, h, List.flatMap_append]; simp

set_option maxRecDepth 100000 in
set_option maxHeartbeats 1000000 in
theorem handEs_of (k : Nat) (ih : HandE k) : HandEs k := by
  intro w0 l N lab J Jx B hy a n c ts i W hn hb hl hr hs hW hJ
  refine callsIn_of_wp Tryz.func157 rfl trivial ?_ rfl
  simp only [Tryz.ntmps157, List.size_toArray, List.length_cons, List.length_nil, Nat.reduceAdd, Nat.reduceSub, Array.replicate_succ, Array.replicate_zero, List.push_toArray, List.append_toArray, List.nil_append, List.cons_append]
  have hbI : (n : Int) ≤ 1000000 := by omega
  have HJ := hid hJ
  have HW := hid hW
  have HS := hid hs
  have HN := hid hn
  have HR := hid hr
  have HL := hid hl
  clear hJ hW hs hn hr hl hb
  gi_wp2
  gi_loopw [8] (fun x wr => ∃ j : Nat, j ≤ n ∧ x = .int .i64 j ∧ J ((List.finRange N).take (i + ((ts.take j).flatMap (ptE k)).length)) wr ∧ Below w0.heap.size w0 wr)
    (fun x _ => n - (intOf x).toNat)
  case atStart => exact ⟨0, Nat.zero_le _, rfl, by simpa using HJ.out, HW.out⟩
  case round =>
    obtain ⟨j, hj, rfl, hJs, hbs⟩ := hrel
    by_cases hlt : j < n
    · have hlt' : (j : Int) < (n : Int) := by omega
      have hj0 : (0 : Int) ≤ (j : Int) := by omega
      obtain ⟨t, ht⟩ : ∃ t, ts[j]? = some t := ⟨ts[j]'(by rw [← HN.out]; exact hlt), List.getElem?_eq_getElem _⟩
      obtain ⟨b, off, ea, hat⟩ := HL.out j t ht
      subst ea
      have K := hid (ih w0 l N lab J Jx B hy t (i + ((ts.take j).flatMap (ptE k)).length) wr (HR.out t (List.mem_of_getElem? ht)) (by
        have := HS.out
        rw [flat_at _ _ _ _ ht] at this
        exact this.right.left) hbs hJs)
      simp only [eAt, Prod.mk.injEq] at hat
      simp only [labP, hat.1, hat.2] at K
      have HF := hid (flat_next (ptE k) ts j t ht)
      clear hat ht hJs hbs
      gi_wp2_with (refine ⟨trivial, rfl, ?_⟩; gi_at_call 123; refine (Hid.out K).mono ?_; rintro e w1 (⟨rfl, hj1, hb1⟩ | ⟨rfl, hx1⟩))
      · refine ⟨⟨j + 1, by omega, by go_num, ?_, hb1⟩, by simp [intOf]; omega⟩
        have := HF.out
        rw [this, ← Nat.add_assoc]
        exact hj1
      · go_ret
        exact .inr ⟨rfl, hx1⟩
    · obtain rfl : j = n := by omega
      gi_wp2
      go_ret
      refine .inl ⟨rfl, ?_, hbs⟩
      rw [HN.out, List.take_of_length_le (Nat.le_refl _)] at hJs
      exact hJs
end Go.Proofs.YtcnohgifihbkdaaGreatDoor.Lx

namespace Go.Proofs.YtcnohgifihbkdaaGreatDoor.Lx
open Go.RowKit Go.Deep
set_option linter.unusedVariables false
set_option linter.unusedSimpArgs false
attribute [local go_sem] as58_58 as105_58 as101_58 as67_58 as58_105 as105_105 as101_105 as67_105 as58_101 as105_101 as101_101 as67_101 as58_67 as105_67 as101_67 as67_67
attribute [local go_sem] Oper.semAt_some

set_option maxRecDepth 100000 in
set_option maxHeartbeats 1000000 in
theorem handE_succ (k : Nat) (ih : HandEs k) : HandE (k + 1) := by
  intro w0 l N lab J Jx B hy t i W hr hs hW hJ
  obtain ⟨h, ts⟩ := t
  obtain ⟨hn, hlb⟩ := Seg.head hs
  obtain ⟨fn', tmps, assign, body, hyr, hRd⟩ := hy.y i hn W hJ
  rw [hlb] at hyr
  obtain ⟨dh, dn, dl, de⟩ := hr
  simp only at dh dn dl de
  have hRd' : RoundIn Fence.wide 0 Tryz.prog l fn' tmps assign body W (fun e W' => ∃ b : Bool, e = .returned (.bool b) ∧ ((b = true → J ((List.finRange N).take (i + 1)) W' ∧ Below w0.heap.size W W') ∧ (b = false → Jx ((List.finRange N).take (i + 1)) W'))) := by
    refine hRd.mono ?_
    rintro e W' (⟨rfl, h1, h2⟩ | ⟨rfl, h1⟩)
    · exact ⟨true, rfl, ⟨fun _ => ⟨h1, h2⟩, fun h => (by cases h)⟩⟩
    · exact ⟨false, rfl, ⟨fun h => (by cases h), fun _ => h1⟩⟩
  have HRd := hid hRd'
  have HW := hid hW
  have HS := hid hs.tail
  have K := hid (fun (W1 : World) (hb1 : Below w0.heap.size w0 W1) (hj1 : J ((List.finRange N).take (i + 1)) W1) => ih w0 l N lab J Jx B hy h.aa h.an h.ac ts (i + 1) W1 dn dh.ab dl de hs.tail hb1 hj1)
  have HD := hid (fun (W1 : World) (hb1 : Below w0.heap.size w0 W1) => (dh.below (Nat.le_refl _) hb1).c6)
  have HN := hid hn
  clear hRd hRd' hs hJ hlb dh dn dl de hW ih
  refine callsIn_of_wp Tryz.func123 rfl trivial ?_ rfl
  simp only [Tryz.ntmps123, List.size_toArray, List.length_cons, List.length_nil, Nat.reduceAdd, Nat.reduceSub, Array.replicate_succ, Array.replicate_zero, List.push_toArray, List.append_toArray, List.nil_append, List.cons_append]
  simp only [labP, eH] at hyr ⊢
  gi_wp2
  refine ⟨rfl, (Hid.out HRd).mono ?_⟩
  rintro e W3 ⟨bb, rfl, hor⟩
  cases bb with
  | true =>
    obtain ⟨hj1, hb1⟩ := hor.1 rfl
    have hb3 := HW.out.trans hb1
    have K3 := hid (Hid.out K W3 hb3 hj1)
    have c6 := Hid.out HD W3 hb3
    clear hor hj1 hb1
    gi_wp2_with (refine ⟨trivial, rfl, ?_⟩; gi_at_call 157; refine (Hid.out K3).mono ?_; rintro e w1 (⟨rfl, hj1, hb1⟩ | ⟨rfl, hx1⟩))
    · go_ret
      refine .inl ⟨rfl, ?_, hb1⟩
      show J ((List.finRange N).take (i + ((ts.flatMap (ptE k)).length + 1))) _
      rw [Nat.add_comm _ 1, ← Nat.add_assoc]
      exact hj1
    · go_ret
      exact .inr ⟨rfl, hx1⟩
  | false =>
    have hx1 := hor.2 rfl
    gi_wp2
    go_ret
    exact .inr ⟨rfl, i + 1, HN.out, hx1⟩
end Go.Proofs.YtcnohgifihbkdaaGreatDoor.Lx

namespace Go.Proofs.YtcnohgifihbkdaaGreatDoor.Lx
open Go.RowKit Go.Deep
set_option linter.unusedVariables false
set_option linter.unusedSimpArgs false
attribute [local go_sem] as58_58 as105_58 as101_58 as67_58 as58_105 as105_105 as101_105 as67_105 as58_101 as105_101 as101_101 as67_101 as58_67 as105_67 as101_67 as67_67
attribute [local go_sem] Oper.semAt_some


theorem hand_all : ∀ k, HandE k
  | 0 => fun w0 l N lab J Jx B hy t => Empty.elim t
  | k + 1 => handE_succ k (handEs_of k (hand_all k))
end Go.Proofs.YtcnohgifihbkdaaGreatDoor.Lx

namespace Go.Proofs.YtcnohgifihbkdaaGreatDoor.Lx
open Go.RowKit Go.Deep
set_option linter.unusedVariables false
set_option linter.unusedSimpArgs false
attribute [local go_sem] as58_58 as105_58 as101_58 as67_58 as58_105 as105_105 as101_105 as67_105 as58_101 as105_101 as101_101 as67_101 as58_67 as105_67 as101_67 as67_67
attribute [local go_sem] Oper.semAt_some

/- A whole: a tree, or an expression. -/
structure Whole (w0 : World) (root : Part) (ps : List Part) : Prop where
  rd : ∀ p ∈ ps, PRds w0 p
  hand : ∀ (l : Nat) (lab : Fin ps.length → Value) (J Jx : List (Fin ps.length) → World → Prop) (B : Nat) (hy : Hy w0 l ps.length lab J Jx B) (W : World), Seg ps.length lab 0 ps → Below w0.heap.size w0 W → J [] W →
    CallsIn Fence.wide 0 Tryz.prog 123 #[labP root, .func (.yield l) #[] #[]] W (HoP w0 ps.length J Jx 0 ps.length)
theorem whole_expr {k : Nat} {w : World} {t : ET k} (h : ERd k w t) : Whole w (.inr (.inr (eH k t))) (ptE k t) := ⟨ptE_rd k h, fun l lab J Jx B hy W hs hW hJ => hand_all k w l _ lab J Jx B hy t 0 W h hs hW hJ⟩
def encP (ps : List Part) (x : Fin ps.length) : Array Value := #[labP ps[x]]
theorem roundIn_wide {n m : Nat} {P : Program} {l f : Nat} {tmps : Array Value} {assign body : Code} {w : World} {R : Ending → World → Prop} (h : RoundIn Fence.wide n P l f tmps assign body w R) : RoundIn Fence.wide m P l f tmps assign body w R := ⟨h.1, fun c cs _ => h.2 c cs (room_wide _)⟩
theorem callsIn_n {n m : Nat} {P : Program} {f : Nat} {args : Array Value} {w : World} {R : Ending → World → Prop} (h : CallsIn Fence.wide n P f args w R) : CallsIn Fence.wide m P f args w R := callsIn_wide.2 (callsIn_wide.1 h)
theorem take_snoc (N i : Nat) (h : i < N) : (List.finRange N).take i ++ [⟨i, h⟩] = (List.finRange N).take (i + 1) := by
  rw [List.take_add_one, List.getElem?_eq_getElem (by simpa using h)]
  simp
set_option maxRecDepth 100000 in
theorem parts_stops {w0 : World} {root : Part} {ps : List Part} (h : Whole w0 root ps) (n Bx : Nat) (w : World) (hb : Below w0.heap.size w0 w) (hBx : w.heap[Bx]? = some (.cells #[labP root] 20 (0, 0))) :
    SeqStopsK Fence.wide n Tryz.prog 122 #[.pointer (some ⟨Bx, 0, none⟩)] (encP ps) (Below w0.heap.size) (fun ys => ys = List.finRange ps.length) (fun pre => ∃ i, i ≤ ps.length ∧ pre = (List.finRange ps.length).take i) ps.length w := by
  intro l J Jx W hW hJa _ hY h0
  have K := hid (h.hand l (fun x => labP ps[x]) J Jx W.heap.size ⟨fun i hi W1 hj => by
      obtain ⟨fn, tmps, assign, body, hy, hr⟩ := hY ((List.finRange ps.length).take i) ⟨i, hi⟩ W1 hj (by simp; omega)
      refine ⟨fn, tmps, assign, body, hy, roundIn_wide (hr.mono ?_)⟩
      rw [take_snoc]
      exact fun e w' h => h, hJa⟩ W (fun j p e => by
        obtain ⟨h1, h2⟩ := List.getElem?_eq_some_iff.1 e
        exact ⟨by omega, by simp [h2]⟩) (hb.trans (hW.mono hb.size)) h0)
  have c0 := cellT ((hW.block Bx (Array.getElem?_eq_some_iff.1 hBx).1).trans hBx) 0
  simp only [List.getElem?_toArray, List.getElem?_cons_zero] at c0
  clear hY hBx
  refine callsIn_n (n := 0) ?_
  refine callsIn_of_wp Tryz.func122 rfl trivial ?_ rfl
  simp only [Tryz.ntmps122, List.size_toArray, List.length_cons, List.length_nil, Nat.reduceAdd, Nat.reduceSub, Array.replicate_succ, Array.replicate_zero, List.push_toArray, List.append_toArray, List.nil_append, List.cons_append]
  gi_wp2_with (refine ⟨trivial, rfl, ?_⟩; gi_at_call 123; refine (Hid.out K).mono ?_; rintro e w1 (⟨rfl, hj1, hb1⟩ | ⟨rfl, i', hi', hx1⟩))
  · go_end0
    refine ⟨⟨_, rfl⟩, .inl ⟨_, rfl, ?_⟩⟩
    rw [Nat.zero_add, List.take_of_length_le (by simp)] at hj1
    exact hj1
  · go_end0
    exact ⟨⟨_, rfl⟩, .inr ⟨_, ⟨i', hi', rfl⟩, hx1⟩⟩
set_option maxRecDepth 100000 in
theorem parts_in (F : Fence) (n : Nat) (h38 : F.fn 94) (hro : F.round = none) (p : Part) (w : World) :
    CallsIn F n Tryz.prog 94 #[labP p] w fun e w' => e = .returned (.func (.func 122) #[] #[.pointer (some ⟨w.heap.size, 0, none⟩)]) ∧ w' = w.alloc (.cells #[labP p] 20) := by
  refine callsIn_of_wp Tryz.func94 rfl h38 ?_ hro
  simp only [Tryz.ntmps94, List.size_toArray, List.length_cons, List.length_nil, Nat.reduceAdd, Nat.reduceSub, Array.replicate_succ, Array.replicate_zero, List.push_toArray, List.append_toArray, List.nil_append, List.cons_append]
  rcases p with (h | h) | (h | h) <;> simp only [labP]
  all_goals
    gi_wp2
    go_ret
    exact ⟨rfl, rfl⟩
end Go.Proofs.YtcnohgifihbkdaaGreatDoor.Lx

namespace Go.Proofs.YtcnohgifihbkdaaGreatDoor.Lx
open Go.RowKit Go.Deep
set_option linter.unusedVariables false
set_option linter.unusedSimpArgs false

def greatB (s : ByteArray) : Bool := nameB s.data.toList && decide (65 ≤ (s.data.toList.headD 0).toNat) && decide ((s.data.toList.headD 0).toNat ≤ 90)
def smallB (s : ByteArray) : Bool := nameB s.data.toList && !greatB s
theorem lexT_nil : lexT [] = .ok [⟨0, [], 0⟩] := by kernel_rfl
theorem name_ne {s : ByteArray} (h : nameB s.data.toList = true) : 1 ≤ s.size := by
  rw [Lib.size_eq]
  cases e : s.data.toList with
  | nil =>
    rw [e] at h
    unfold nameB at h
    rw [lexT_nil] at h
    simp at h
  | cons c t => simp
theorem get_zero (s : ByteArray) (h : 0 < s.size) : s[0]'h = s.data.toList.headD 0 := by
  have hl : 0 < s.data.toList.length := by rw [← Lib.size_eq]; exact h
  cases e : s.data.toList with
  | nil => rw [e] at hl; simp at hl
  | cons c t => exact get_of_list s 0 h c (by rw [e]; rfl)
set_option maxRecDepth 100000 in
theorem isGreat_any (s : ByteArray) (hs : s.size ≤ 9223372036854775807) (w : World) (hm : MX w) : Calls Tryz.prog 158 #[.string s] w fun e w' => e = .returned (.bool (greatB s)) ∧ Below w.heap.size w w' := by
  have K := hid (name_any s hs w hm)
  cases hn : nameB s.data.toList with
  | false =>
    rw [hn] at K
    have hg : greatB s = false := by unfold greatB; rw [hn]; rfl
    rw [hg]
    clear hn hg
    go_enter Tryz.func158, Tryz.ntmps158
    go_wp2_with (go_at_call 188; (refine (Hid.out K).mono ?_; rintro e w1 ⟨rfl, hb1⟩))
    go_ret
    exact ⟨rfl, hb1⟩
  | true =>
    have h1 := name_ne hn
    have hsI : (0 : Int) < (s.size : Int) := by omega
    have hz := get_zero s (by omega)
    obtain ⟨c, hc⟩ : ∃ c, c = s.data.toList.headD 0 := ⟨_, rfl⟩
    have hg : greatB s = (decide ((65 : Int) ≤ (c.toNat : Int)) && decide ((c.toNat : Int) ≤ 90)) := by
      unfold greatB; rw [hn, ← hc, Bool.true_and]
      congr 1 <;> (apply decide_eq_decide.2; omega)
    rw [hn] at K
    rw [hg]
    rw [← hc] at hz
    clear hn hg hc
    by_cases h65 : (65 : Int) ≤ (c.toNat : Int)
    · go_enter Tryz.func158, Tryz.ntmps158
      go_wp2_with (go_at_call 188; (refine (Hid.out K).mono ?_; rintro e w1 ⟨rfl, hb1⟩))
      go_ret
      exact ⟨ret_bool (by simp [h65]), hb1⟩
    · go_enter Tryz.func158, Tryz.ntmps158
      go_wp2_with (go_at_call 188; (refine (Hid.out K).mono ?_; rintro e w1 ⟨rfl, hb1⟩))
      go_ret
      exact ⟨ret_bool (by simp; omega), hb1⟩
set_option maxRecDepth 100000 in
theorem isSmall_any (s : ByteArray) (hs : s.size ≤ 9223372036854775807) (w : World) (hm : MX w) : Calls Tryz.prog 161 #[.string s] w fun e w' => e = .returned (.bool (smallB s)) ∧ Below w.heap.size w w' := by
  have K := hid (name_any s hs w hm)
  have KG := hid (fun (w1 : World) (hb : Below w.heap.size w w1) => isGreat_any s hs w1 (hm.below hm.lt hb))
  have TR : Hid (∀ {Z x y : World}, Below Z.heap.size Z x → Below x.heap.size x y → Below Z.heap.size Z y) := hid (fun h1 h2 => h1.trans (h2.mono h1.size))
  cases hn : nameB s.data.toList with
  | false =>
    rw [hn] at K
    have hg : smallB s = false := by unfold smallB; rw [hn]; rfl
    rw [hg]
    clear hn hg hm
    go_enter Tryz.func161, Tryz.ntmps161
    go_wp2_with (go_at_call 188; (refine (Hid.out K).mono ?_; rintro e w1 ⟨rfl, hb1⟩))
    go_ret
    exact ⟨rfl, hb1⟩
  | true =>
    rw [hn] at K
    have hg : smallB s = !greatB s := by unfold smallB; rw [hn]; rfl
    rw [hg]
    generalize greatB s = g at *
    clear hn hg hm
    go_enter Tryz.func161, Tryz.ntmps161
    go_wp2_with (first
      | (go_at_call 188; (refine (Hid.out K).mono ?_; rintro e w1 ⟨rfl, hb1⟩; have HB1 := hid hb1; clear hb1))
      | (go_at_call 158; (refine (KG.out w1 HB1.out).mono ?_; rintro e w2 ⟨rfl, hb2⟩; have HB2 := hid (TR.out HB1.out hb2); clear hb2)))
    go_ret
    exact ⟨rfl, HB2.out⟩
def keyB (s : ByteArray) : Bool := s.toList == [105, 110, 116] || s.toList == [116, 101, 120, 116]
def simpB (s : ByteArray) : Bool := keyB s || s.toList == [98, 111, 111, 108]
def typB (s : ByteArray) : Bool := simpB s || greatB s
def labB (s : ByteArray) : Bool := s.toList.isEmpty || smallB s
end Go.Proofs.YtcnohgifihbkdaaGreatDoor.Lx

namespace Go.Proofs.YtcnohgifihbkdaaGreatDoor.Lx
open Go.RowKit Go.Deep
set_option linter.unusedVariables false
set_option linter.unusedSimpArgs false

theorem bne_str {s t : ByteArray} (h : ¬ s = t) : ¬ s.toList = t.toList := fun e => h (by
  rw [ByteArray.toList_eq, ByteArray.toList_eq] at e
  cases s; cases t; simp at e; simp [e])
theorem eq_take {α : Type} {a b : List α} {i : Nat} {x y : α} (hl : a.length = b.length) (hx : a[i]? = some x) (hy : b[i]? = some y) (h : a.take i = b.take i) (e : x = y) : a.take (i + 1) = b.take (i + 1) := by
  rw [List.take_add_one, List.take_add_one, h, hx, hy, e]
theorem bel_drewN {B : Nat} {w0 w : World} (h : Below B w0 w) : ∀ n, Below B w0 (w.drewN n)
  | 0 => h
  | n + 1 => (bel_drewN h n).drew
theorem drewN_more {w wr : World} (h : ∃ m, wr = w.drewN m) : ∃ m, wr.drew = w.drewN m := by
  obtain ⟨m, rfl⟩ := h
  exact ⟨m + 1, rfl⟩
set_option maxRecDepth 100000 in
set_option maxHeartbeats 1000000 in
theorem equalS_any (w : World) (a1 : Option Addr) (n1 c1 : Nat) (l1 : List ByteArray) (h1 : n1 = l1.length) (b1 : n1 ≤ 1000000) (r1 : SLs w a1 l1) (a2 : Option Addr) (n2 c2 : Nat) (l2 : List ByteArray) (h2 : n2 = l2.length) (b2 : n2 ≤ 1000000) (r2 : SLs w a2 l2) :
    Calls Tryz.prog 190 #[.slice a1 n1 c1, .slice a2 n2 c2] w fun e w' => e = .returned (.bool (decide (l1 = l2))) ∧ ∃ m, w' = w.drewN m := by
  have hb1 : (n1 : Int) ≤ 1000000 := by omega
  have hb2 : (n2 : Int) ≤ 1000000 := by omega
  have R1 := hid r1
  have R2 := hid r2
  have H1 := hid h1
  have H2 := hid h2
  clear r1 r2
  by_cases hn : n1 = n2
  · subst hn
    clear h1 h2 b1 b2
    go_enter Tryz.func190, Tryz.ntmps190
    go_wp2
    go_loopg [13] n1 (fun g x wr => ∃ i : Nat, i + g = n1 ∧ x = .int .i64 (i : Int) ∧ (∃ m, wr = w.drewN m) ∧ l1.take i = l2.take i)
    case atStart => exact ⟨0, by omega, rfl, ⟨0, rfl⟩, rfl⟩
    case round =>
      obtain ⟨i, hi, rfl, hb, ht⟩ := hrel
      have HT := hid ht
      have HB0 := hid hb
      have HB : Hid (Below w.heap.size w wr) := hid (by obtain ⟨m, rfl⟩ := HB0.out; exact bel_drewN (Below.refl _ w) m)
      clear ht hb
      cases gk with
      | zero =>
        have hin : i = n1 := by omega
        subst hin
        have he : l1 = l2 := by
          have := HT.out
          rwa [List.take_of_length_le (by rw [← H1.out]; exact Nat.le_refl _), List.take_of_length_le (by rw [← H2.out]; exact Nat.le_refl _)] at this
        clear hi
        go_wp2
        go_ret
        exact ⟨by rw [decide_eq_true he]; rfl, HB0.out⟩
      | succ g =>
        have hil : (i : Int) < (n1 : Int) := by omega
        have hi0 : (0 : Int) ≤ (i : Int) := by omega
        obtain ⟨s, hs⟩ : ∃ s, l1[i]? = some s := ⟨l1[i]'(by rw [← H1.out]; omega), List.getElem?_eq_getElem _⟩
        obtain ⟨t, ht⟩ : ∃ t, l2[i]? = some t := ⟨l2[i]'(by rw [← H2.out]; omega), List.getElem?_eq_getElem _⟩
        obtain ⟨b, off, ea, hc1⟩ := (R1.out.below (Nat.le_refl _) HB.out) i s hs
        obtain ⟨b', off', ea', hc2⟩ := (R2.out.below (Nat.le_refl _) HB.out) i t ht
        subst ea
        subst ea'
        have HSs := hid hs
        have HTs := hid ht
        have Hi := hid hi
        clear hs ht hi
        by_cases hst : s = t
        · subst hst
          have hls : (s.toList == s.toList) = true := by simp
          go_upto_region 6 with fail
          go_region_held3 (fun w2 => w2.cell? ⟨b, off + i, none⟩ = some (.string s) ∧ w2.cell? ⟨b', off' + i, none⟩ = some (.string s)) (first | go_keep) (fail)
          go_wp2
          go_roundg g
          case measure => omega
          case rel => exact ⟨i + 1, by have := Hi.out; omega, by go_num, drewN_more HB0.out, eq_take (by rw [← H1.out, ← H2.out]) HSs.out HTs.out HT.out rfl⟩
        · have hls := bne_str hst
          have hlb : (s.toList == t.toList) = false := by simpa using hls
          have hld : ¬ l1 = l2 := by
            intro e
            have h := HSs.out
            rw [e, HTs.out] at h
            exact hst (by injection h with h; exact h.symm)
          go_upto_region 6 with fail
          go_region_held3 (fun w2 => w2.cell? ⟨b, off + i, none⟩ = some (.string s) ∧ w2.cell? ⟨b', off' + i, none⟩ = some (.string t)) (first | go_keep) (fail)
          go_wp2
          go_ret
          exact ⟨by rw [decide_eq_false hld]; rfl, drewN_more HB0.out⟩
  · have hnI : ¬ (n1 : Int) = (n2 : Int) := by omega
    have hld : ¬ l1 = l2 := by rintro rfl; omega
    rw [decide_eq_false hld]
    clear h1 h2 hn hld
    go_enter Tryz.func190, Tryz.ntmps190
    go_wp2
    go_ret
    exact ⟨rfl, 0, rfl⟩
end Go.Proofs.YtcnohgifihbkdaaGreatDoor.Lx

namespace Go.Proofs.YtcnohgifihbkdaaGreatDoor.Lx
open Go.RowKit Go.Deep
set_option linter.unusedVariables false
set_option linter.unusedSimpArgs false

def fieldsB (l : List ByteArray) : Bool := decide (1 ≤ l.length) && decide (l.length ≤ 12) && l.all smallB
theorem all_take {α : Type} {q : α → Bool} {l : List α} {i : Nat} {x : α} (hx : l[i]? = some x) (h : (l.take i).all q = true) (e : q x = true) : (l.take (i + 1)).all q = true := by
  rw [List.take_add_one, hx, List.all_append, h]; simpa using e
theorem all_not {α : Type} {q : α → Bool} {l : List α} {i : Nat} {x : α} (hx : l[i]? = some x) (e : q x = false) : l.all q = false := by
  rw [List.all_eq_false]; exact ⟨x, List.mem_of_getElem? hx, by simp [e]⟩
set_option maxRecDepth 100000 in
set_option maxHeartbeats 1000000 in
theorem areFields_any (w : World) (a : Option Addr) (n c : Nat) (l : List ByteArray) (hn : n = l.length) (hb : n ≤ 1000000) (hr : SLs w a l) (hz : ∀ s ∈ l, s.size ≤ 9223372036854775807) (hm : MX w) :
    Calls Tryz.prog 167 #[.slice a n c] w fun e w' => e = .returned (.bool (fieldsB l)) ∧ Below w.heap.size w w' := by
  have HN := hid hn
  have HR := hid hr
  have HM := hid hm
  have HZ := hid hz
  have TR : Hid (∀ {Z x y : World}, Below Z.heap.size Z x → Below x.heap.size x y → Below Z.heap.size Z y) := hid (fun h1 h2 => h1.trans (h2.mono h1.size))
  clear hr hm hz
  by_cases h1 : n < 1
  · have h1' : (n : Int) < 1 := by omega
    have hx : fieldsB l = false := by unfold fieldsB; rw [decide_eq_false (show ¬ 1 ≤ l.length by omega)]; rfl
    rw [hx]
    clear hx hn
    go_enter Tryz.func167, Tryz.ntmps167
    go_wp2
    go_ret
    exact ⟨rfl, Below.refl _ _⟩
  · by_cases h2 : 12 < n
    · have h1' : ¬ (n : Int) < 1 := by omega
      have h2' : (12 : Int) < (n : Int) := by omega
      have hnI : (n : Int) ≤ 1000000 := by omega
      have hx : fieldsB l = false := by unfold fieldsB; rw [decide_eq_false (show ¬ l.length ≤ 12 by omega)]; simp
      rw [hx]
      clear hx hn
      go_enter Tryz.func167, Tryz.ntmps167
      go_wp2
      go_ret
      exact ⟨rfl, Below.refl _ _⟩
    · have h1' : ¬ (n : Int) < 1 := by omega
      have h2' : ¬ (12 : Int) < (n : Int) := by omega
      have hnI : (n : Int) ≤ 1000000 := by omega
      have hx : fieldsB l = l.all smallB := by unfold fieldsB; rw [decide_eq_true (show 1 ≤ l.length by omega), decide_eq_true (show l.length ≤ 12 by omega)]; simp
      rw [hx]
      clear hx hn
      go_enter Tryz.func167, Tryz.ntmps167
      go_wp2
      go_loopg [15] n (fun g x wr => ∃ i : Nat, i + g = n ∧ x = .int .i64 (i : Int) ∧ Below w.heap.size w wr ∧ (l.take i).all smallB = true)
      case atStart => exact ⟨0, by omega, rfl, Below.refl _ _, rfl⟩
      case round =>
        obtain ⟨i, hi, rfl, hb, ht⟩ := hrel
        have HT := hid ht
        have HB := hid hb
        clear ht hb
        cases gk with
        | zero =>
          have hin : i = n := by omega
          subst hin
          clear hi
          go_wp2
          go_ret
          have := HT.out
          rw [List.take_of_length_le (by rw [← HN.out]; exact Nat.le_refl _)] at this
          exact ⟨by rw [this]; rfl, HB.out⟩
        | succ g =>
          have hil : (i : Int) < (n : Int) := by omega
          have hi0 : (0 : Int) ≤ (i : Int) := by omega
          obtain ⟨s, hs⟩ : ∃ s, l[i]? = some s := ⟨l[i]'(by rw [← HN.out]; omega), List.getElem?_eq_getElem _⟩
          obtain ⟨b, off, ea, hc1⟩ := (HR.out.below (Nat.le_refl _) HB.out) i s hs
          subst ea
          have K := hid (isSmall_any s (HZ.out s (List.mem_of_getElem? hs)) wr (HM.out.below HM.out.lt HB.out))
          have HS := hid hs
          have Hi := hid hi
          clear hs hi
          cases hq : smallB s with
          | true =>
            rw [hq] at K
            have HQ := hid hq
            clear hq
            go_wp2_with (go_at_call 161; (refine (Hid.out K).mono ?_; rintro e w1 ⟨rfl, hb1⟩))
            go_roundg g
            case measure => omega
            case rel => exact ⟨i + 1, by have := Hi.out; omega, by go_num, TR.out HB.out hb1, all_take HS.out HT.out HQ.out⟩
          | false =>
            rw [hq] at K
            have HQ := hid hq
            clear hq
            go_wp2_with (go_at_call 161; (refine (Hid.out K).mono ?_; rintro e w1 ⟨rfl, hb1⟩))
            go_ret
            exact ⟨by rw [all_not HS.out HQ.out]; rfl, TR.out HB.out hb1⟩
def paramsB (q : ByteArray → Bool) (l : List (ByteArray × ByteArray)) : Bool := decide (l.length ≤ 12) && l.all fun p => smallB p.1 && q p.2
end Go.Proofs.YtcnohgifihbkdaaGreatDoor.Lx

namespace Go.Proofs.YtcnohgifihbkdaaGreatDoor.Lx
open Go.RowKit Go.Deep
set_option linter.unusedVariables false
set_option linter.unusedSimpArgs false

theorem beqL {s t : ByteArray} (h : s = t) : (s.toList == t.toList) = true := by rw [h]; simp
theorem bneL {s t : ByteArray} (h : ¬ s = t) : (s.toList == t.toList) = false := by simpa using bne_str h
theorem SLs.drewN {w : World} {a : Option Addr} {l : List ByteArray} (h : SLs w a l) (n : Nat) : SLs (w.drewN n) a l := h
theorem PLs.drewN {w : World} {a : Option Addr} {l : List (ByteArray × ByteArray)} (h : PLs w a l) (n : Nat) : PLs (w.drewN n) a l := h
end Go.Proofs.YtcnohgifihbkdaaGreatDoor.Lx

namespace Go.Proofs.YtcnohgifihbkdaaGreatDoor.Lx
open Go.RowKit Go.Deep
set_option linter.unusedVariables false
set_option linter.unusedSimpArgs false

def alikeE (a b : EH) : Bool := decide (a.kind = b.kind) && decide (a.op = b.op) && decide (a.int = b.int) && decide (a.text = b.text) && decide (a.name = b.name) && decide (a.names = b.names) && decide (a.an = b.an)
set_option maxRecDepth 100000 in
set_option maxHeartbeats 1000000 in
theorem alikeE_any (w : World) (a b : EH) (da : EHr w a) (db : EHr w b) : Calls Tryz.prog 168 #[.pointer (some ⟨a.b, a.o, none⟩), .pointer (some ⟨b.b, b.o, none⟩)] w fun e w' => e = .returned (.bool (alikeE a b)) ∧ ∃ m, w' = w.drewN m := by
  have x0 := da.c0
  have y0 := db.c0
  have x1 := da.c1
  have y1 := db.c1
  have x2 := da.c2
  have y2 := db.c2
  have x3 := da.c3
  have y3 := db.c3
  have x4 := da.c4
  have y4 := db.c4
  have x5 := da.c5
  have y5 := db.c5
  have x6 := da.c6
  have y6 := db.c6
  have KR := hid (fun (n : Nat) => equalS_any (w.drewN n) a.na a.nn a.nc a.names da.nl da.nb (da.nr.drewN n) b.na b.nn b.nc b.names db.nl db.nb (db.nr.drewN n))
  have z1 : (a.an : Int) ≤ 1000000 := by have := da.ab; omega
  have z2 : (b.an : Int) ≤ 1000000 := by have := db.ab; omega
  unfold alikeE
  clear da db
  go_enter Tryz.func168, Tryz.ntmps168
  go_wp2_with fail
  dsimp only [List.append]
  refine wp_region_quiet_lit (by kernel_rfl) (by kernel_rfl) ?_
  by_cases h0 : a.kind = b.kind
  case neg =>
    have g0 : (a.kind == b.kind) = false := by simpa using h0
    repeat (go_big_quiet_step (first | (go_at_call 190; exact Calls.quiet_of (KR.out _)) | (go_at_call 189; exact Calls.quiet_of (KR.out _))))
    refine wpQuiet_nil ?_
    intro _ hw'
    obtain ⟨nq, rfl⟩ := hw'
    go_wp2_with fail
    go_ret
    exact ⟨ret_bool (by simp_all), nq, rfl⟩
  have g0 : (a.kind == b.kind) = true := by simpa using h0
  by_cases h1 : a.op = b.op
  case neg =>
    have g1 : (a.op == b.op) = false := by simpa using h1
    repeat (go_big_quiet_step (first | (go_at_call 190; exact Calls.quiet_of (KR.out _)) | (go_at_call 189; exact Calls.quiet_of (KR.out _))))
    refine wpQuiet_nil ?_
    intro _ hw'
    obtain ⟨nq, rfl⟩ := hw'
    go_wp2_with fail
    go_ret
    exact ⟨ret_bool (by simp_all), nq, rfl⟩
  have g1 : (a.op == b.op) = true := by simpa using h1
  by_cases h2 : a.int = b.int
  case neg =>
    have g2 : (a.int == b.int) = false := by simpa using h2
    repeat (go_big_quiet_step (first | (go_at_call 190; exact Calls.quiet_of (KR.out _)) | (go_at_call 189; exact Calls.quiet_of (KR.out _))))
    refine wpQuiet_nil ?_
    intro _ hw'
    obtain ⟨nq, rfl⟩ := hw'
    go_wp2_with fail
    go_ret
    exact ⟨ret_bool (by simp_all), nq, rfl⟩
  have g2 : (a.int == b.int) = true := by simpa using h2
  by_cases h3 : a.text = b.text
  case neg =>
    have g3 := bneL h3
    have k3 := bne_str h3
    repeat (go_big_quiet_step (first | (go_at_call 190; exact Calls.quiet_of (KR.out _)) | (go_at_call 189; exact Calls.quiet_of (KR.out _))))
    refine wpQuiet_nil ?_
    intro _ hw'
    obtain ⟨nq, rfl⟩ := hw'
    go_wp2_with fail
    go_ret
    exact ⟨ret_bool (by simp_all), nq, rfl⟩
  have g3 := beqL h3
  by_cases h4 : a.name = b.name
  case neg =>
    have g4 := bneL h4
    have k4 := bne_str h4
    repeat (go_big_quiet_step (first | (go_at_call 190; exact Calls.quiet_of (KR.out _)) | (go_at_call 189; exact Calls.quiet_of (KR.out _))))
    refine wpQuiet_nil ?_
    intro _ hw'
    obtain ⟨nq, rfl⟩ := hw'
    go_wp2_with fail
    go_ret
    exact ⟨ret_bool (by simp_all), nq, rfl⟩
  have g4 := beqL h4
  by_cases h5 : a.names = b.names
  case neg =>
    simp only [decide_eq_false h5] at KR
    repeat (go_big_quiet_step (first | (go_at_call 190; exact Calls.quiet_of (KR.out _)) | (go_at_call 189; exact Calls.quiet_of (KR.out _))))
    refine wpQuiet_nil ?_
    intro _ hw'
    obtain ⟨nq, rfl⟩ := hw'
    go_wp2_with fail
    go_ret
    exact ⟨ret_bool (by simp_all), nq, rfl⟩
  simp only [decide_eq_true h5] at KR
  by_cases h6 : a.an = b.an
  case neg =>
    have g6 : ¬ (a.an : Int) = (b.an : Int) := by omega
    repeat (go_big_quiet_step (first | (go_at_call 190; exact Calls.quiet_of (KR.out _)) | (go_at_call 189; exact Calls.quiet_of (KR.out _))))
    refine wpQuiet_nil ?_
    intro _ hw'
    obtain ⟨nq, rfl⟩ := hw'
    go_wp2_with fail
    go_ret
    exact ⟨ret_bool (by simp_all), nq, rfl⟩
  have g6 : (a.an : Int) = (b.an : Int) := by omega
  repeat (go_big_quiet_step (first | (go_at_call 190; exact Calls.quiet_of (KR.out _)) | (go_at_call 189; exact Calls.quiet_of (KR.out _))))
  refine wpQuiet_nil ?_
  intro _ hw'
  obtain ⟨nq, rfl⟩ := hw'
  go_wp2_with fail
  go_ret
  exact ⟨ret_bool (by simp_all), nq, rfl⟩
end Go.Proofs.YtcnohgifihbkdaaGreatDoor.Lx

namespace Go.Proofs.YtcnohgifihbkdaaGreatDoor.Lx
open Go.RowKit Go.Deep
set_option linter.unusedVariables false
set_option linter.unusedSimpArgs false

def emp : ByteArray := ⟨#[]⟩
def EH.cs (m : EH) : Array Value := #[.int .i64 m.kind, .int .i64 m.op, .int .i64 m.int, .string m.text, .string m.name, .slice m.na m.nn m.nc, .slice m.aa m.an m.ac, .int .i64 m.pos]
/- What e's kind has a meaning for. -/
def meantE (h : EH) : EH := { h with op := if h.kind = 5 ∨ h.kind = 6 then h.op else 0, int := if h.kind = 1 ∨ h.kind = 3 then h.int else 0, text := if h.kind = 2 then h.text else emp, name := if h.kind = 4 ∨ h.kind = 7 ∨ h.kind = 8 ∨ h.kind = 9 ∨ h.kind = 10 ∨ h.kind = 11 ∨ h.kind = 12 then h.name else emp, na := if h.kind = 8 then h.na else none, nn := if h.kind = 8 then h.nn else 0, nc := if h.kind = 8 then h.nc else 0, names := if h.kind = 8 then h.names else [], pos := 0 }
def okE (h : EH) : Bool :=
  if h.kind = 1 then decide (h.an = 0) else
  if h.kind = 2 then decide (h.text.size ≤ 64) && decide (h.an = 0) else
  if h.kind = 3 then (decide (h.int = 0) || decide (h.int = 1)) && decide (h.an = 0) else
  if h.kind = 4 then smallB h.name && decide (h.an = 0) else
  if h.kind = 5 then decide (18 ≤ h.op) && decide (h.op ≤ 21) && decide (h.an = 1) else
  if h.kind = 6 then decide (1 ≤ h.op) && decide (h.op ≤ 17) && decide (h.an = 2) else
  if h.kind = 8 then greatB h.name && fieldsB h.names && decide (h.an = h.nn) else
  if h.kind = 11 then smallB h.name && decide (h.an ≤ 12) else
  if h.kind = 7 ∨ h.kind = 9 ∨ h.kind = 10 ∨ h.kind = 12 then smallB h.name && decide (h.an = 1) else false
def rightE (h : EH) : Bool := okE h && alikeE h (meantE h)
theorem boxE {W : World} {h m : EH} {M : Nat} (d : EHr W h) (hb : W.heap[M]? = some (.cells m.cs 45 (0, 0))) (hi : m.int = h.int ∨ m.int = 0) (ht : m.text = h.text ∨ m.text = emp) (hn : m.name = h.name ∨ m.name = emp) (hr : (m.na = h.na ∧ m.nn = h.nn ∧ m.names = h.names) ∨ (m.nn = 0 ∧ m.names = [])) (ha : m.an = h.an) : EHr W { m with b := M, o := 0 } := by
  have c := cellT hb
  have e0 : emp.size ≤ 9223372036854775807 := by decide
  refine ⟨c 0, c 1, c 2, c 3, c 4, c 5, c 6, c 7, ?_, ?_, ?_, ?_, ?_, ?_, ?_, ?_, ?_⟩
  · rcases hi with e | e
    · show -9223372036854775808 ≤ m.int; rw [e]; exact d.i0
    · show -9223372036854775808 ≤ m.int; rw [e]; decide
  · rcases hi with e | e
    · show m.int ≤ 9223372036854775807; rw [e]; exact d.i1
    · show m.int ≤ 9223372036854775807; rw [e]; decide
  · rcases ht with e | e
    · show m.text.size ≤ _; rw [e]; exact d.t
    · show m.text.size ≤ _; rw [e]; exact e0
  · rcases hn with e | e
    · show m.name.size ≤ _; rw [e]; exact d.n
    · show m.name.size ≤ _; rw [e]; exact e0
  · rcases hr with ⟨e1, e2, e3⟩ | ⟨e2, e3⟩
    · show m.nn = m.names.length; rw [e2, e3]; exact d.nl
    · show m.nn = m.names.length; rw [e2, e3]; rfl
  · rcases hr with ⟨e1, e2, e3⟩ | ⟨e2, e3⟩
    · show m.nn ≤ _; rw [e2]; exact d.nb
    · show m.nn ≤ _; rw [e2]; decide
  · rcases hr with ⟨e1, e2, e3⟩ | ⟨e2, e3⟩
    · show ∀ s ∈ m.names, _; rw [e3]; exact d.ns
    · show ∀ s ∈ m.names, _; rw [e3]; intro s hs; cases hs
  · rcases hr with ⟨e1, e2, e3⟩ | ⟨e2, e3⟩
    · show SLs W m.na m.names; rw [e1, e3]; exact d.nr
    · show SLs W m.na m.names; rw [e3]; intro j s hs; simp at hs
  · show m.an ≤ _; rw [ha]; exact d.ab
end Go.Proofs.YtcnohgifihbkdaaGreatDoor.Lx

