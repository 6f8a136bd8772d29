/- Trees, as they lie in memory. -/
import Derived.Test.YtcnohgifihbkdaaGreatDoorJAW
import Derived.WalkKit
import Derived.WalkSpells
import Derived.WalkLawsBesides
import Derived.Deep.LoopGhost
import Derived.Below
import Derived.RangeFuncNested
import Derived.RangeFuncBound
import Derived.RangeFuncCalls
import Derived.RangeFuncLeaves
import Derived.BigQuiet
import Derived.Deep.AppendLies
import Derived.Deep.OwnRows
import Derived.Deep.RegionHeld3
import Derived.Lib.AppendStr
import Derived.LoopIn
import Derived.LoopNIn
import Derived.Maps.AppendAt
import Derived.OwnWalkIn
import Derived.Shelf.Abstract
import Derived.Shelf.RegionOpen
import Derived.TacticsInMore
import Derived.BigRegionIn
namespace Go.Proofs.YtcnohgifihbkdaaGreatDoor.Lx
open Go.RowKit Go.Deep
set_option linter.unusedVariables false
set_option linter.unusedSimpArgs false

theorem cellT {w : World} {b : Nat} {c : Array Value} {e : TypeId} {f : Nat × Nat} (h : w.heap[b]? = some (.cells c e f)) (i : Nat) : w.cell? ⟨b, i, none⟩ = c[i]? := by
  simp [World.cell?, h]
theorem freeT {w : World} {b : Nat} {c : Array Value} {e : TypeId} (h : w.heap[b]? = some (.cells c e (0, 0))) (i : Nat) : w.frozen? ⟨b, i, none⟩ = false := by
  simp [World.frozen?, h]
theorem belowCell {w w' : World} {B b o : Nat} {v : Value} (h : w.cell? ⟨b, o, none⟩ = some v) (hB : w.heap.size ≤ B) (k : Below B w w') : w'.cell? ⟨b, o, none⟩ = some v := by
  have hb : b < w.heap.size := World.block_lt_of_cell? w _ h
  exact (k.cell (p := ⟨b, o, none⟩) (by show b < B; omega)).trans h

/- A row of texts that a slice reads. -/
def SLs (w : World) (a : Option Addr) (l : List ByteArray) : Prop := ∀ (j : Nat) (s : ByteArray), l[j]? = some s → ∃ b off, a = some ⟨b, off, none⟩ ∧ w.cell? ⟨b, off + j, none⟩ = some (.string s)
theorem SLs.below {w w' : World} {a : Option Addr} {l : List ByteArray} {B : Nat} (h : SLs w a l) (hB : w.heap.size ≤ B) (k : Below B w w') : SLs w' a l := fun j s e => by
  obtain ⟨b, off, ea, hc⟩ := h j s e
  exact ⟨b, off, ea, belowCell hc hB k⟩
/- A row of params: two texts each. -/
def PLs (w : World) (a : Option Addr) (l : List (ByteArray × ByteArray)) : Prop := ∀ (j : Nat) (s : ByteArray × ByteArray), l[j]? = some s → ∃ b off, a = some ⟨b, off, none⟩ ∧ w.cell? ⟨b, off + j * 2, none⟩ = some (.string s.1) ∧ w.cell? ⟨b, off + j * 2 + 1, none⟩ = some (.string s.2)
theorem PLs.below {w w' : World} {a : Option Addr} {l : List (ByteArray × ByteArray)} {B : Nat} (h : PLs w a l) (hB : w.heap.size ≤ B) (k : Below B w w') : PLs w' a l := fun j s e => by
  obtain ⟨b, off, ea, h1, h2⟩ := h j s e
  exact ⟨b, off, ea, belowCell h1 hB k, belowCell h2 hB k⟩

/- An expression's cells, and where they lie. -/
structure EH where
  b : Nat
  o : Nat
  kind : Int
  op : Int
  int : Int
  text : ByteArray
  name : ByteArray
  na : Option Addr
  nn : Nat
  nc : Nat
  aa : Option Addr
  an : Nat
  ac : Nat
  pos : Int
  names : List ByteArray
structure EHr (w : World) (h : EH) : Prop where
  c0 : w.cell? ⟨h.b, h.o, none⟩ = some (.int .i64 h.kind)
  c1 : w.cell? ⟨h.b, h.o + 1, none⟩ = some (.int .i64 h.op)
  c2 : w.cell? ⟨h.b, h.o + 2, none⟩ = some (.int .i64 h.int)
  c3 : w.cell? ⟨h.b, h.o + 3, none⟩ = some (.string h.text)
  c4 : w.cell? ⟨h.b, h.o + 4, none⟩ = some (.string h.name)
  c5 : w.cell? ⟨h.b, h.o + 5, none⟩ = some (.slice h.na h.nn h.nc)
  c6 : w.cell? ⟨h.b, h.o + 6, none⟩ = some (.slice h.aa h.an h.ac)
  c7 : w.cell? ⟨h.b, h.o + 7, none⟩ = some (.int .i64 h.pos)
  i0 : -9223372036854775808 ≤ h.int
  i1 : h.int ≤ 9223372036854775807
  t : h.text.size ≤ 9223372036854775807
  n : h.name.size ≤ 9223372036854775807
  nl : h.nn = h.names.length
  nb : h.nn ≤ 1000000
  ns : ∀ s ∈ h.names, s.size ≤ 9223372036854775807
  nr : SLs w h.na h.names
  ab : h.an ≤ 1000000
theorem EHr.below {w w' : World} {h : EH} {B : Nat} (d : EHr w h) (hB : w.heap.size ≤ B) (k : Below B w w') : EHr w' h :=
  ⟨belowCell d.c0 hB k, belowCell d.c1 hB k, belowCell d.c2 hB k, belowCell d.c3 hB k, belowCell d.c4 hB k, belowCell d.c5 hB k, belowCell d.c6 hB k, belowCell d.c7 hB k, d.i0, d.i1, d.t, d.n, d.nl, d.nb, d.ns, d.nr.below hB k, d.ab⟩
/- A statement's. -/
structure SH where
  b : Nat
  o : Nat
  kind : Int
  name : ByteArray
  label : ByteArray
  var : ByteArray
  aa : Option Addr
  an : Nat
  ac : Nat
  ba : Option Addr
  bn : Nat
  bc : Nat
  ea : Option Addr
  en : Nat
  ec : Nat
  pos : Int
structure SHr (w : World) (h : SH) : Prop where
  c0 : w.cell? ⟨h.b, h.o, none⟩ = some (.int .i64 h.kind)
  c1 : w.cell? ⟨h.b, h.o + 1, none⟩ = some (.string h.name)
  c2 : w.cell? ⟨h.b, h.o + 2, none⟩ = some (.string h.label)
  c3 : w.cell? ⟨h.b, h.o + 3, none⟩ = some (.string h.var)
  c4 : w.cell? ⟨h.b, h.o + 4, none⟩ = some (.slice h.aa h.an h.ac)
  c5 : w.cell? ⟨h.b, h.o + 5, none⟩ = some (.slice h.ba h.bn h.bc)
  c6 : w.cell? ⟨h.b, h.o + 6, none⟩ = some (.slice h.ea h.en h.ec)
  c7 : w.cell? ⟨h.b, h.o + 7, none⟩ = some (.int .i64 h.pos)
  n : h.name.size ≤ 9223372036854775807
  l : h.label.size ≤ 9223372036854775807
  v : h.var.size ≤ 9223372036854775807
  ab : h.an ≤ 1000000
  bb : h.bn ≤ 1000000
  eb : h.en ≤ 1000000
theorem SHr.below {w w' : World} {h : SH} {B : Nat} (d : SHr w h) (hB : w.heap.size ≤ B) (k : Below B w w') : SHr w' h :=
  ⟨belowCell d.c0 hB k, belowCell d.c1 hB k, belowCell d.c2 hB k, belowCell d.c3 hB k, belowCell d.c4 hB k, belowCell d.c5 hB k, belowCell d.c6 hB k, belowCell d.c7 hB k, d.n, d.l, d.v, d.ab, d.bb, d.eb⟩
/- A declaration's, with its sort. -/
structure DH where
  sort : ByteArray
  b : Nat
  o : Nat
  name : ByteArray
  pa : Option Addr
  pn : Nat
  pc : Nat
  key : ByteArray
  value : ByteArray
  result : ByteArray
  ba : Option Addr
  bn : Nat
  bc : Nat
  pos : Int
  params : List (ByteArray × ByteArray)
structure DHr (w : World) (h : DH) : Prop where
  c0 : w.cell? ⟨h.b, h.o, none⟩ = some (.string h.name)
  c1 : w.cell? ⟨h.b, h.o + 1, none⟩ = some (.slice h.pa h.pn h.pc)
  c2 : w.cell? ⟨h.b, h.o + 2, none⟩ = some (.string h.key)
  c3 : w.cell? ⟨h.b, h.o + 3, none⟩ = some (.string h.value)
  c4 : w.cell? ⟨h.b, h.o + 4, none⟩ = some (.string h.result)
  c5 : w.cell? ⟨h.b, h.o + 5, none⟩ = some (.slice h.ba h.bn h.bc)
  c6 : w.cell? ⟨h.b, h.o + 6, none⟩ = some (.int .i64 h.pos)
  n : h.name.size ≤ 9223372036854775807
  k : h.key.size ≤ 9223372036854775807
  v : h.value.size ≤ 9223372036854775807
  r : h.result.size ≤ 9223372036854775807
  pl : h.pn = h.params.length
  pb : h.pn ≤ 1000000
  ps : ∀ s ∈ h.params, s.1.size ≤ 9223372036854775807 ∧ s.2.size ≤ 9223372036854775807
  pr : PLs w h.pa h.params
  bb : h.bn ≤ 1000000
theorem DHr.below {w w' : World} {h : DH} {B : Nat} (d : DHr w h) (hB : w.heap.size ≤ B) (k : Below B w w') : DHr w' h :=
  ⟨belowCell d.c0 hB k, belowCell d.c1 hB k, belowCell d.c2 hB k, belowCell d.c3 hB k, belowCell d.c4 hB k, belowCell d.c5 hB k, belowCell d.c6 hB k, d.n, d.k, d.v, d.r, d.pl, d.pb, d.ps, d.pr.below hB k, d.bb⟩
/- A tree's. -/
structure TH where
  b : Nat
  o : Nat
  ra : Option Addr
  rn : Nat
  rc : Nat
  ma : Option Addr
  mn : Nat
  mc : Nat
  fa : Option Addr
  fn : Nat
  fc : Nat
  ea : Option Addr
  en : Nat
  ec : Nat
structure THr (w : World) (h : TH) : Prop where
  c0 : w.cell? ⟨h.b, h.o, none⟩ = some (.slice h.ra h.rn h.rc)
  c1 : w.cell? ⟨h.b, h.o + 1, none⟩ = some (.slice h.ma h.mn h.mc)
  c2 : w.cell? ⟨h.b, h.o + 2, none⟩ = some (.slice h.fa h.fn h.fc)
  c3 : w.cell? ⟨h.b, h.o + 3, none⟩ = some (.slice h.ea h.en h.ec)
  rb : h.rn ≤ 1000000
  mb : h.mn ≤ 1000000
  fb : h.fn ≤ 1000000
  eb : h.en ≤ 1000000
theorem THr.below {w w' : World} {h : TH} {B : Nat} (d : THr w h) (hB : w.heap.size ≤ B) (k : Below B w w') : THr w' h :=
  ⟨belowCell d.c0 hB k, belowCell d.c1 hB k, belowCell d.c2 hB k, belowCell d.c3 hB k, d.rb, d.mb, d.fb, d.eb⟩

/- Where the elements of a row lie: each of z cells. -/
def LiesAt {α : Type} (z : Nat) (a : Option Addr) (at' : α → Nat × Nat) (ts : List α) : Prop := ∀ (j : Nat) (t : α), ts[j]? = some t → ∃ b off, a = some ⟨b, off, none⟩ ∧ at' t = (b, off + j * z)
def ET : Nat → Type
  | 0 => Empty
  | k + 1 => EH × List (ET k)
def eH : (k : Nat) → ET k → EH
  | 0, t => Empty.elim t
  | _ + 1, t => t.1
def eAt (k : Nat) (t : ET k) : Nat × Nat := ((eH k t).b, (eH k t).o)
def ERd : (k : Nat) → World → ET k → Prop
  | 0, _, _ => False
  | k + 1, w, t => EHr w t.1 ∧ t.1.an = t.2.length ∧ LiesAt 8 t.1.aa (eAt k) t.2 ∧ ∀ u ∈ t.2, ERd k w u
theorem ERd.below : ∀ (k : Nat) {w w' : World} {t : ET k} {B : Nat}, ERd k w t → w.heap.size ≤ B → Below B w w' → ERd k w' t
  | 0, _, _, _, _, d, _, _ => d.elim
  | k + 1, _, _, _, _, d, hB, h => ⟨d.1.below hB h, d.2.1, d.2.2.1, fun u hu => ERd.below k (d.2.2.2 u hu) hB h⟩
theorem ERd.h : ∀ {k : Nat} {w : World} {t : ET k}, ERd k w t → EHr w (eH k t)
  | 0, _, _, d => d.elim
  | _ + 1, _, _, d => d.1
def ST : Nat → Type
  | 0 => Empty
  | k + 1 => SH × List (ET k) × List (ST k) × List (ST k)
def sH : (k : Nat) → ST k → SH
  | 0, t => Empty.elim t
  | _ + 1, t => t.1
def sAt (k : Nat) (t : ST k) : Nat × Nat := ((sH k t).b, (sH k t).o)
def SRds : (k : Nat) → World → ST k → Prop
  | 0, _, _ => False
  | k + 1, w, t => SHr w t.1 ∧ (t.1.an = t.2.1.length ∧ t.1.bn = t.2.2.1.length ∧ t.1.en = t.2.2.2.length) ∧ (LiesAt 8 t.1.aa (eAt k) t.2.1 ∧ LiesAt 8 t.1.ba (sAt k) t.2.2.1 ∧ LiesAt 8 t.1.ea (sAt k) t.2.2.2) ∧ (∀ u ∈ t.2.1, ERd k w u) ∧ (∀ u ∈ t.2.2.1, SRds k w u) ∧ ∀ u ∈ t.2.2.2, SRds k w u
theorem SRds.below : ∀ (k : Nat) {w w' : World} {t : ST k} {B : Nat}, SRds k w t → w.heap.size ≤ B → Below B w w' → SRds k w' t
  | 0, _, _, _, _, d, _, _ => d.elim
  | k + 1, _, _, _, _, d, hB, h => ⟨d.1.below hB h, d.2.1, d.2.2.1, fun u hu => ERd.below k (d.2.2.2.1 u hu) hB h, fun u hu => SRds.below k (d.2.2.2.2.1 u hu) hB h, fun u hu => SRds.below k (d.2.2.2.2.2 u hu) hB h⟩
theorem SRds.h : ∀ {k : Nat} {w : World} {t : ST k}, SRds k w t → SHr w (sH k t)
  | 0, _, _, d => d.elim
  | _ + 1, _, _, d => d.1
def DT (k : Nat) : Type := DH × List (ST k)
def dAt {k : Nat} (t : DT k) : Nat × Nat := (t.1.b, t.1.o)
structure DRds (k : Nat) (w : World) (t : DT k) : Prop where
  h : DHr w t.1
  n : t.1.bn = t.2.length
  l : LiesAt 8 t.1.ba (sAt k) t.2
  e : ∀ u ∈ t.2, SRds k w u
theorem DRds.below {k : Nat} {w w' : World} {t : DT k} {B : Nat} (d : DRds k w t) (hB : w.heap.size ≤ B) (h : Below B w w') : DRds k w' t := ⟨d.h.below hB h, d.n, d.l, fun u hu => SRds.below k (d.e u hu) hB h⟩
def wRec : ByteArray := ⟨#[114, 101, 99, 111, 114, 100]⟩
def wMap : ByteArray := ⟨#[109, 97, 112]⟩
def wFn : ByteArray := ⟨#[102, 110]⟩
def wOn : ByteArray := ⟨#[111, 110]⟩
/- A row of declarations of one sort. -/
structure DLs (k : Nat) (w : World) (s : ByteArray) (a : Option Addr) (n : Nat) (ts : List (DT k)) : Prop where
  n : n = ts.length
  l : LiesAt 7 a dAt ts
  e : ∀ u ∈ ts, DRds k w u
  s : ∀ u ∈ ts, u.1.sort = s
theorem DLs.below {k : Nat} {w w' : World} {s : ByteArray} {a : Option Addr} {n : Nat} {ts : List (DT k)} {B : Nat} (d : DLs k w s a n ts) (hB : w.heap.size ≤ B) (h : Below B w w') : DLs k w' s a n ts := ⟨d.n, d.l, fun u hu => (d.e u hu).below hB h, d.s⟩
structure TT (k : Nat) where
  h : TH
  rs : List (DT k)
  ms : List (DT k)
  fs : List (DT k)
  es : List (DT k)
structure TRds (k : Nat) (w : World) (t : TT k) : Prop where
  h : THr w t.h
  rs : DLs k w wRec t.h.ra t.h.rn t.rs
  ms : DLs k w wMap t.h.ma t.h.mn t.ms
  fs : DLs k w wFn t.h.fa t.h.fn t.fs
  es : DLs k w wOn t.h.ea t.h.en t.es
theorem TRds.below {k : Nat} {w w' : World} {t : TT k} {B : Nat} (d : TRds k w t) (hB : w.heap.size ≤ B) (h : Below B w w') : TRds k w' t := ⟨d.h.below hB h, d.rs.below hB h, d.ms.below hB h, d.fs.below hB h, d.es.below hB h⟩

/- The parts, each ahead of what is within it. -/
abbrev Part := Sum (Sum TH DH) (Sum SH EH)
def labP : Part → Value
  | .inl (.inl h) => .iface 83 (.pointer (some ⟨h.b, h.o, none⟩))
  | .inl (.inr h) => .iface 159 (.agg #[.string h.sort, .pointer (some ⟨h.b, h.o, none⟩)])
  | .inr (.inl h) => .iface 161 (.pointer (some ⟨h.b, h.o, none⟩))
  | .inr (.inr h) => .iface 89 (.pointer (some ⟨h.b, h.o, none⟩))
def PRds (w : World) : Part → Prop
  | .inl (.inl h) => THr w h
  | .inl (.inr h) => DHr w h
  | .inr (.inl h) => SHr w h
  | .inr (.inr h) => EHr w h
def ptE : (k : Nat) → ET k → List Part
  | 0, _ => []
  | k + 1, t => .inr (.inr t.1) :: t.2.flatMap (ptE k)
def ptS : (k : Nat) → ST k → List Part
  | 0, _ => []
  | k + 1, t => .inr (.inl t.1) :: (t.2.1.flatMap (ptE k) ++ (t.2.2.1.flatMap (ptS k) ++ t.2.2.2.flatMap (ptS k)))
def ptD {k : Nat} (t : DT k) : List Part := .inl (.inr t.1) :: t.2.flatMap (ptS k)
def ptT {k : Nat} (t : TT k) : List Part := .inl (.inl t.h) :: (t.rs.flatMap ptD ++ (t.ms.flatMap ptD ++ (t.fs.flatMap ptD ++ t.es.flatMap ptD)))
theorem ptE_rd : ∀ (k : Nat) {w : World} {t : ET k}, ERd k w t → ∀ p ∈ ptE k t, PRds w p
  | 0, _, _, d, _, _ => d.elim
  | k + 1, _, _, d, p, hp => by
    rcases List.mem_cons.1 hp with rfl | hp
    · exact d.1
    · obtain ⟨u, hu, hp⟩ := List.mem_flatMap.1 hp
      exact ptE_rd k (d.2.2.2 u hu) p hp
theorem ptS_rd : ∀ (k : Nat) {w : World} {t : ST k}, SRds k w t → ∀ p ∈ ptS k t, PRds w p
  | 0, _, _, d, _, _ => d.elim
  | k + 1, _, _, d, p, hp => by
    rcases List.mem_cons.1 hp with rfl | hp
    · exact d.1
    · rcases List.mem_append.1 hp with hp | hp
      · obtain ⟨u, hu, hp⟩ := List.mem_flatMap.1 hp
        exact ptE_rd k (d.2.2.2.1 u hu) p hp
      · rcases List.mem_append.1 hp with hp | hp
        · obtain ⟨u, hu, hp⟩ := List.mem_flatMap.1 hp
          exact ptS_rd k (d.2.2.2.2.1 u hu) p hp
        · obtain ⟨u, hu, hp⟩ := List.mem_flatMap.1 hp
          exact ptS_rd k (d.2.2.2.2.2 u hu) p hp
theorem ptD_rd {k : Nat} {w : World} {t : DT k} (d : DRds k w t) : ∀ p ∈ ptD t, PRds w p := fun p hp => by
  rcases List.mem_cons.1 hp with rfl | hp
  · exact d.h
  · obtain ⟨u, hu, hp⟩ := List.mem_flatMap.1 hp
    exact ptS_rd k (d.e u hu) p hp
theorem ptT_rd {k : Nat} {w : World} {t : TT k} (d : TRds k w t) : ∀ p ∈ ptT t, PRds w p := fun p hp => by
  rcases List.mem_cons.1 hp with rfl | hp
  · exact d.h
  · rcases List.mem_append.1 hp with hp | hp
    · obtain ⟨u, hu, hp⟩ := List.mem_flatMap.1 hp
      exact ptD_rd (d.rs.e u hu) p hp
    · rcases List.mem_append.1 hp with hp | hp
      · obtain ⟨u, hu, hp⟩ := List.mem_flatMap.1 hp
        exact ptD_rd (d.ms.e u hu) p hp
      · rcases List.mem_append.1 hp with hp | hp
        · obtain ⟨u, hu, hp⟩ := List.mem_flatMap.1 hp
          exact ptD_rd (d.fs.e u hu) p hp
        · obtain ⟨u, hu, hp⟩ := List.mem_flatMap.1 hp
          exact ptD_rd (d.es.e u hu) p hp
/- Which type an interface holds. -/
theorem as58_58 (v : Value) (w : World) : (Instr.typeAssert (.iface 83 v) 20 83 true).run Tryz.prog w = .ok (.tuple #[v, .bool true]) w := by kernel_rfl
theorem as105_58 (v : Value) (w : World) : (Instr.typeAssert (.iface 159 v) 20 83 true).run Tryz.prog w = .ok (.tuple #[.pointer none, .bool false]) w := by kernel_rfl
theorem as101_58 (v : Value) (w : World) : (Instr.typeAssert (.iface 161 v) 20 83 true).run Tryz.prog w = .ok (.tuple #[.pointer none, .bool false]) w := by kernel_rfl
theorem as67_58 (v : Value) (w : World) : (Instr.typeAssert (.iface 89 v) 20 83 true).run Tryz.prog w = .ok (.tuple #[.pointer none, .bool false]) w := by kernel_rfl
theorem as58_105 (v : Value) (w : World) : (Instr.typeAssert (.iface 83 v) 20 159 true).run Tryz.prog w = .ok (.tuple #[.agg #[.string ⟨#[]⟩, .pointer none], .bool false]) w := by kernel_rfl
theorem as105_105 (v : Value) (w : World) : (Instr.typeAssert (.iface 159 v) 20 159 true).run Tryz.prog w = .ok (.tuple #[v, .bool true]) w := by kernel_rfl
theorem as101_105 (v : Value) (w : World) : (Instr.typeAssert (.iface 161 v) 20 159 true).run Tryz.prog w = .ok (.tuple #[.agg #[.string ⟨#[]⟩, .pointer none], .bool false]) w := by kernel_rfl
theorem as67_105 (v : Value) (w : World) : (Instr.typeAssert (.iface 89 v) 20 159 true).run Tryz.prog w = .ok (.tuple #[.agg #[.string ⟨#[]⟩, .pointer none], .bool false]) w := by kernel_rfl
theorem as58_101 (v : Value) (w : World) : (Instr.typeAssert (.iface 83 v) 20 161 true).run Tryz.prog w = .ok (.tuple #[.pointer none, .bool false]) w := by kernel_rfl
theorem as105_101 (v : Value) (w : World) : (Instr.typeAssert (.iface 159 v) 20 161 true).run Tryz.prog w = .ok (.tuple #[.pointer none, .bool false]) w := by kernel_rfl
theorem as101_101 (v : Value) (w : World) : (Instr.typeAssert (.iface 161 v) 20 161 true).run Tryz.prog w = .ok (.tuple #[v, .bool true]) w := by kernel_rfl
theorem as67_101 (v : Value) (w : World) : (Instr.typeAssert (.iface 89 v) 20 161 true).run Tryz.prog w = .ok (.tuple #[.pointer none, .bool false]) w := by kernel_rfl
theorem as58_67 (v : Value) (w : World) : (Instr.typeAssert (.iface 83 v) 20 89 true).run Tryz.prog w = .ok (.tuple #[.pointer none, .bool false]) w := by kernel_rfl
theorem as105_67 (v : Value) (w : World) : (Instr.typeAssert (.iface 159 v) 20 89 true).run Tryz.prog w = .ok (.tuple #[.pointer none, .bool false]) w := by kernel_rfl
theorem as101_67 (v : Value) (w : World) : (Instr.typeAssert (.iface 161 v) 20 89 true).run Tryz.prog w = .ok (.tuple #[.pointer none, .bool false]) w := by kernel_rfl
theorem as67_67 (v : Value) (w : World) : (Instr.typeAssert (.iface 89 v) 20 89 true).run Tryz.prog w = .ok (.tuple #[v, .bool true]) w := by kernel_rfl
attribute [local go_sem] as58_58 as105_58 as101_58 as67_58 as58_105 as105_105 as101_105 as67_105 as58_101 as105_101 as101_101 as67_101 as58_67 as105_67 as101_67 as67_67
end Go.Proofs.YtcnohgifihbkdaaGreatDoor.Lx

namespace Go.Proofs.YtcnohgifihbkdaaGreatDoor.Lx
open Go.RowKit Go.Deep
set_option linter.unusedVariables false
set_option linter.unusedSimpArgs false
attribute [local go_sem] as58_58 as105_58 as101_58 as67_58 as58_105 as105_105 as101_105 as67_105 as58_101 as105_101 as101_101 as67_101 as58_67 as105_67 as101_67 as67_67
attribute [local go_sem] Oper.semAt_some

/- What is asked of whoever takes the parts. -/
structure Hy (w0 : World) (l : Nat) (N : Nat) (lab : Fin N → Value) (J Jx : List (Fin N) → World → Prop) (B : Nat) : Prop where
  y : ∀ (i : Nat) (hi : i < N) (W : World), J ((List.finRange N).take i) W → YieldAt Fence.wide 0 Tryz.prog l #[lab ⟨i, hi⟩] W fun e W' =>
      (e = .returned (.bool true) ∧ J ((List.finRange N).take (i + 1)) W' ∧ Below w0.heap.size W W') ∨ (e = .returned (.bool false) ∧ Jx ((List.finRange N).take (i + 1)) W')
  a : AbidesFrom B J
def Seg (N : Nat) (lab : Fin N → Value) (i : Nat) (ps : List Part) : Prop := ∀ (j : Nat) (p : Part), ps[j]? = some p → ∃ h : i + j < N, lab ⟨i + j, h⟩ = labP p
theorem Seg.left {N : Nat} {lab : Fin N → Value} {i : Nat} {a b : List Part} (h : Seg N lab i (a ++ b)) : Seg N lab i a := fun j p e => h j p (by
  rw [List.getElem?_append_left (List.getElem?_eq_some_iff.1 e).1]; exact e)
theorem Seg.right {N : Nat} {lab : Fin N → Value} {i : Nat} {a b : List Part} (h : Seg N lab i (a ++ b)) : Seg N lab (i + a.length) b := fun j p e => by
  obtain ⟨h1, h2⟩ := h (a.length + j) p (by rw [List.getElem?_append_right (by omega), Nat.add_sub_cancel_left]; exact e)
  have e2 : i + a.length + j = i + (a.length + j) := by omega
  exact ⟨by omega, by simp only [e2]; exact h2⟩
theorem Seg.head {N : Nat} {lab : Fin N → Value} {i : Nat} {p : Part} {b : List Part} (h : Seg N lab i (p :: b)) : ∃ h : i < N, lab ⟨i, h⟩ = labP p := h 0 p rfl
theorem Seg.tail {N : Nat} {lab : Fin N → Value} {i : Nat} {p : Part} {b : List Part} (h : Seg N lab i (p :: b)) : Seg N lab (i + 1) b := fun j q e => by
  obtain ⟨h1, h2⟩ := h (j + 1) q (by simpa using e)
  have e2 : i + 1 + j = i + (j + 1) := by omega
  exact ⟨by omega, by simp only [e2]; exact h2⟩
/- What is told behind handing on so many parts from place i on. -/
def HoP (w0 : World) (N : Nat) (J Jx : List (Fin N) → World → Prop) (i m : Nat) (e : Ending) (W' : World) : Prop :=
  (e = .returned (.bool true) ∧ J ((List.finRange N).take (i + m)) W' ∧ Below w0.heap.size w0 W') ∨ (e = .returned (.bool false) ∧ ∃ i', i' ≤ N ∧ Jx ((List.finRange N).take i') W')
def HandE (k : Nat) : Prop := ∀ (w0 : World) (l N : Nat) (lab : Fin N → Value) (J Jx : List (Fin N) → World → Prop) (B : Nat) (hy : Hy w0 l N lab J Jx B) (t : ET k) (i : Nat) (W : World), ERd k w0 t → Seg N lab i (ptE k t) → Below w0.heap.size w0 W → J ((List.finRange N).take i) W →
    CallsIn Fence.wide 0 Tryz.prog 123 #[labP (.inr (.inr (eH k t))), .func (.yield l) #[] #[]] W (HoP w0 N J Jx i (ptE k t).length)
def HandEs (k : Nat) : Prop := ∀ (w0 : World) (l N : Nat) (lab : Fin N → Value) (J Jx : List (Fin N) → World → Prop) (B : Nat) (hy : Hy w0 l N lab J Jx B) (a : Option Addr) (n c : Nat) (ts : List (ET k)) (i : Nat) (W : World), n = ts.length → n ≤ 1000000 → LiesAt 8 a (eAt k) ts → (∀ u ∈ ts, ERd k w0 u) → Seg N lab i (ts.flatMap (ptE k)) → Below w0.heap.size w0 W → J ((List.finRange N).take i) W →
    CallsIn Fence.wide 0 Tryz.prog 157 #[.slice a n c, .func (.yield l) #[] #[]] W (HoP w0 N J Jx i (ts.flatMap (ptE k)).length)
def HandS (k : Nat) : Prop := ∀ (w0 : World) (l N : Nat) (lab : Fin N → Value) (J Jx : List (Fin N) → World → Prop) (B : Nat) (hy : Hy w0 l N lab J Jx B) (t : ST k) (i : Nat) (W : World), SRds k w0 t → Seg N lab i (ptS k t) → Below w0.heap.size w0 W → J ((List.finRange N).take i) W →
    CallsIn Fence.wide 0 Tryz.prog 123 #[labP (.inr (.inl (sH k t))), .func (.yield l) #[] #[]] W (HoP w0 N J Jx i (ptS k t).length)
def HandSs (k : Nat) : Prop := ∀ (w0 : World) (l N : Nat) (lab : Fin N → Value) (J Jx : List (Fin N) → World → Prop) (B : Nat) (hy : Hy w0 l N lab J Jx B) (a : Option Addr) (n c : Nat) (ts : List (ST k)) (i : Nat) (W : World), n = ts.length → n ≤ 1000000 → LiesAt 8 a (sAt k) ts → (∀ u ∈ ts, SRds k w0 u) → Seg N lab i (ts.flatMap (ptS k)) → Below w0.heap.size w0 W → J ((List.finRange N).take i) W →
    CallsIn Fence.wide 0 Tryz.prog 156 #[.slice a n c, .func (.yield l) #[] #[]] W (HoP w0 N J Jx i (ts.flatMap (ptS k)).length)
theorem flat_at {α : Type} (f : α → List Part) (ts : List α) (j : Nat) (t : α) (h : ts[j]? = some t) : ts.flatMap f = (ts.take j).flatMap f ++ (f t ++ (ts.drop (j + 1)).flatMap f) := by
  obtain ⟨h1, h2⟩ := List.getElem?_eq_some_iff.1 h
  have e : ts = ts.take j ++ (t :: ts.drop (j + 1)) := by
    rw [← h2, ← List.drop_eq_getElem_cons h1, List.take_append_drop]
  conv => lhs; rw [e]
  rw [List.flatMap_append, List.flatMap_cons]
theorem flat_next {α : Type} (f : α → List Part) (ts : List α) (j : Nat) (t : α) (h : ts[j]? = some t) : ((ts.take (j + 1)).flatMap f).length = ((ts.take j).flatMap f).length + (f t).length := by
  rw [List.take_add_one, h, List.flatMap_append]; simp

set_option maxRecDepth 100000 in
set_option maxHeartbeats 1000000 in
theorem handEs_of (k : Nat) (ih : HandE k) : HandEs k := by
  intro w0 l N lab J Jx B hy a n c ts i W hn hb hl hr hs hW hJ
  refine callsIn_of_wp Tryz.func157 rfl trivial ?_ rfl
  simp only [Tryz.ntmps157, List.size_toArray, List.length_cons, List.length_nil, Nat.reduceAdd, Nat.reduceSub, Array.replicate_succ, Array.replicate_zero, List.push_toArray, List.append_toArray, List.nil_append, List.cons_append]
  have hbI : (n : Int) ≤ 1000000 := by omega
  have HJ := hid hJ
  have HW := hid hW
  have HS := hid hs
  have HN := hid hn
  have HR := hid hr
  have HL := hid hl
  clear hJ hW hs hn hr hl hb
  gi_wp2
  gi_loopw [8] (fun x wr => ∃ j : Nat, j ≤ n ∧ x = .int .i64 j ∧ J ((List.finRange N).take (i + ((ts.take j).flatMap (ptE k)).length)) wr ∧ Below w0.heap.size w0 wr)
    (fun x _ => n - (intOf x).toNat)
  case atStart => exact ⟨0, Nat.zero_le _, rfl, by simpa using HJ.out, HW.out⟩
  case round =>
    obtain ⟨j, hj, rfl, hJs, hbs⟩ := hrel
    by_cases hlt : j < n
    · have hlt' : (j : Int) < (n : Int) := by omega
      have hj0 : (0 : Int) ≤ (j : Int) := by omega
      obtain ⟨t, ht⟩ : ∃ t, ts[j]? = some t := ⟨ts[j]'(by rw [← HN.out]; exact hlt), List.getElem?_eq_getElem _⟩
      obtain ⟨b, off, ea, hat⟩ := HL.out j t ht
      subst ea
      have K := hid (ih w0 l N lab J Jx B hy t (i + ((ts.take j).flatMap (ptE k)).length) wr (HR.out t (List.mem_of_getElem? ht)) (by
        have := HS.out
        rw [flat_at _ _ _ _ ht] at this
        exact this.right.left) hbs hJs)
      simp only [eAt, Prod.mk.injEq] at hat
      simp only [labP, hat.1, hat.2] at K
      have HF := hid (flat_next (ptE k) ts j t ht)
      clear hat ht hJs hbs
      gi_wp2_with (refine ⟨trivial, rfl, ?_⟩; gi_at_call 123; refine (Hid.out K).mono ?_; rintro e w1 (⟨rfl, hj1, hb1⟩ | ⟨rfl, hx1⟩))
      · refine ⟨⟨j + 1, by omega, by go_num, ?_, hb1⟩, by simp [intOf]; omega⟩
        have := HF.out
        rw [this, ← Nat.add_assoc]
        exact hj1
      · go_ret
        exact .inr ⟨rfl, hx1⟩
    · obtain rfl : j = n := by omega
      gi_wp2
      go_ret
      refine .inl ⟨rfl, ?_, hbs⟩
      rw [HN.out, List.take_of_length_le (Nat.le_refl _)] at hJs
      exact hJs
set_option maxRecDepth 100000 in
set_option maxHeartbeats 1000000 in
theorem handSs_of (k : Nat) (ih : HandS k) : HandSs k := by
  intro w0 l N lab J Jx B hy a n c ts i W hn hb hl hr hs hW hJ
  refine callsIn_of_wp Tryz.func156 rfl trivial ?_ rfl
  simp only [Tryz.ntmps156, List.size_toArray, List.length_cons, List.length_nil, Nat.reduceAdd, Nat.reduceSub, Array.replicate_succ, Array.replicate_zero, List.push_toArray, List.append_toArray, List.nil_append, List.cons_append]
  have hbI : (n : Int) ≤ 1000000 := by omega
  have HJ := hid hJ
  have HW := hid hW
  have HS := hid hs
  have HN := hid hn
  have HR := hid hr
  have HL := hid hl
  clear hJ hW hs hn hr hl hb
  gi_wp2
  gi_loopw [8] (fun x wr => ∃ j : Nat, j ≤ n ∧ x = .int .i64 j ∧ J ((List.finRange N).take (i + ((ts.take j).flatMap (ptS k)).length)) wr ∧ Below w0.heap.size w0 wr)
    (fun x _ => n - (intOf x).toNat)
  case atStart => exact ⟨0, Nat.zero_le _, rfl, by simpa using HJ.out, HW.out⟩
  case round =>
    obtain ⟨j, hj, rfl, hJs, hbs⟩ := hrel
    by_cases hlt : j < n
    · have hlt' : (j : Int) < (n : Int) := by omega
      have hj0 : (0 : Int) ≤ (j : Int) := by omega
      obtain ⟨t, ht⟩ : ∃ t, ts[j]? = some t := ⟨ts[j]'(by rw [← HN.out]; exact hlt), List.getElem?_eq_getElem _⟩
      obtain ⟨b, off, ea, hat⟩ := HL.out j t ht
      subst ea
      have K := hid (ih w0 l N lab J Jx B hy t (i + ((ts.take j).flatMap (ptS k)).length) wr (HR.out t (List.mem_of_getElem? ht)) (by
        have := HS.out
        rw [flat_at _ _ _ _ ht] at this
        exact this.right.left) hbs hJs)
      simp only [sAt, Prod.mk.injEq] at hat
      simp only [labP, hat.1, hat.2] at K
      have HF := hid (flat_next (ptS k) ts j t ht)
      clear hat ht hJs hbs
      gi_wp2_with (refine ⟨trivial, rfl, ?_⟩; gi_at_call 123; refine (Hid.out K).mono ?_; rintro e w1 (⟨rfl, hj1, hb1⟩ | ⟨rfl, hx1⟩))
      · refine ⟨⟨j + 1, by omega, by go_num, ?_, hb1⟩, by simp [intOf]; omega⟩
        have := HF.out
        rw [this, ← Nat.add_assoc]
        exact hj1
      · go_ret
        exact .inr ⟨rfl, hx1⟩
    · obtain rfl : j = n := by omega
      gi_wp2
      go_ret
      refine .inl ⟨rfl, ?_, hbs⟩
      rw [HN.out, List.take_of_length_le (Nat.le_refl _)] at hJs
      exact hJs
end Go.Proofs.YtcnohgifihbkdaaGreatDoor.Lx

namespace Go.Proofs.YtcnohgifihbkdaaGreatDoor.Lx
open Go.RowKit Go.Deep
set_option linter.unusedVariables false
set_option linter.unusedSimpArgs false
attribute [local go_sem] as58_58 as105_58 as101_58 as67_58 as58_105 as105_105 as101_105 as67_105 as58_101 as105_101 as101_101 as67_101 as58_67 as105_67 as101_67 as67_67
attribute [local go_sem] Oper.semAt_some

set_option maxRecDepth 100000 in
set_option maxHeartbeats 1000000 in
theorem handE_succ (k : Nat) (ih : HandEs k) : HandE (k + 1) := by
  intro w0 l N lab J Jx B hy t i W hr hs hW hJ
  obtain ⟨h, ts⟩ := t
  obtain ⟨hn, hlb⟩ := Seg.head hs
  obtain ⟨fn', tmps, assign, body, hyr, hRd⟩ := hy.y i hn W hJ
  rw [hlb] at hyr
  obtain ⟨dh, dn, dl, de⟩ := hr
  simp only at dh dn dl de
  have hRd' : RoundIn Fence.wide 0 Tryz.prog l fn' tmps assign body W (fun e W' => ∃ b : Bool, e = .returned (.bool b) ∧ ((b = true → J ((List.finRange N).take (i + 1)) W' ∧ Below w0.heap.size W W') ∧ (b = false → Jx ((List.finRange N).take (i + 1)) W'))) := by
    refine hRd.mono ?_
    rintro e W' (⟨rfl, h1, h2⟩ | ⟨rfl, h1⟩)
    · exact ⟨true, rfl, ⟨fun _ => ⟨h1, h2⟩, fun h => (by cases h)⟩⟩
    · exact ⟨false, rfl, ⟨fun h => (by cases h), fun _ => h1⟩⟩
  have HRd := hid hRd'
  have HW := hid hW
  have HS := hid hs.tail
  have K := hid (fun (W1 : World) (hb1 : Below w0.heap.size w0 W1) (hj1 : J ((List.finRange N).take (i + 1)) W1) => ih w0 l N lab J Jx B hy h.aa h.an h.ac ts (i + 1) W1 dn dh.ab dl de hs.tail hb1 hj1)
  have HD := hid (fun (W1 : World) (hb1 : Below w0.heap.size w0 W1) => (dh.below (Nat.le_refl _) hb1).c6)
  have HN := hid hn
  clear hRd hRd' hs hJ hlb dh dn dl de hW ih
  refine callsIn_of_wp Tryz.func123 rfl trivial ?_ rfl
  simp only [Tryz.ntmps123, List.size_toArray, List.length_cons, List.length_nil, Nat.reduceAdd, Nat.reduceSub, Array.replicate_succ, Array.replicate_zero, List.push_toArray, List.append_toArray, List.nil_append, List.cons_append]
  simp only [labP, eH] at hyr ⊢
  gi_wp2
  refine ⟨rfl, (Hid.out HRd).mono ?_⟩
  rintro e W3 ⟨bb, rfl, hor⟩
  cases bb with
  | true =>
    obtain ⟨hj1, hb1⟩ := hor.1 rfl
    have hb3 := HW.out.trans hb1
    have K3 := hid (Hid.out K W3 hb3 hj1)
    have c6 := Hid.out HD W3 hb3
    clear hor hj1 hb1
    gi_wp2_with (refine ⟨trivial, rfl, ?_⟩; gi_at_call 157; refine (Hid.out K3).mono ?_; rintro e w1 (⟨rfl, hj1, hb1⟩ | ⟨rfl, hx1⟩))
    · go_ret
      refine .inl ⟨rfl, ?_, hb1⟩
      show J ((List.finRange N).take (i + ((ts.flatMap (ptE k)).length + 1))) _
      rw [Nat.add_comm _ 1, ← Nat.add_assoc]
      exact hj1
    · go_ret
      exact .inr ⟨rfl, hx1⟩
  | false =>
    have hx1 := hor.2 rfl
    gi_wp2
    go_ret
    exact .inr ⟨rfl, i + 1, HN.out, hx1⟩
set_option maxRecDepth 100000 in
set_option maxHeartbeats 1000000 in
theorem handS_succ (k : Nat) (ihe : HandEs k) (ih : HandSs k) : HandS (k + 1) := by
  intro w0 l N lab J Jx B hy t i W hr hs hW hJ
  obtain ⟨h, xs, bs, es⟩ := t
  obtain ⟨hn, hlb⟩ := Seg.head hs
  obtain ⟨fn', tmps, assign, body, hyr, hRd⟩ := hy.y i hn W hJ
  rw [hlb] at hyr
  obtain ⟨dh, ⟨dn1, dn2, dn3⟩, ⟨dl1, dl2, dl3⟩, de1, de2, de3⟩ := hr
  simp only at dh dn1 dn2 dn3 dl1 dl2 dl3 de1 de2 de3
  have hRd' : RoundIn Fence.wide 0 Tryz.prog l fn' tmps assign body W (fun e W' => ∃ b : Bool, e = .returned (.bool b) ∧ ((b = true → J ((List.finRange N).take (i + 1)) W' ∧ Below w0.heap.size W W') ∧ (b = false → Jx ((List.finRange N).take (i + 1)) W'))) := by
    refine hRd.mono ?_
    rintro e W' (⟨rfl, h1, h2⟩ | ⟨rfl, h1⟩)
    · exact ⟨true, rfl, ⟨fun _ => ⟨h1, h2⟩, fun h => (by cases h)⟩⟩
    · exact ⟨false, rfl, ⟨fun h => (by cases h), fun _ => h1⟩⟩
  have HRd := hid hRd'
  have HW := hid hW
  have hs1 : Seg N lab (i + 1) (xs.flatMap (ptE k) ++ (bs.flatMap (ptS k) ++ es.flatMap (ptS k))) := hs.tail
  have KA := hid (fun (W1 : World) (hb1 : Below w0.heap.size w0 W1) (hj1 : J ((List.finRange N).take (i + 1)) W1) => ihe w0 l N lab J Jx B hy h.aa h.an h.ac xs (i + 1) W1 dn1 dh.ab dl1 de1 hs1.left hb1 hj1)
  have KB := hid (fun (W1 : World) (hb1 : Below w0.heap.size w0 W1) (hj1 : J ((List.finRange N).take (i + 1 + (xs.flatMap (ptE k)).length)) W1) => ih w0 l N lab J Jx B hy h.ba h.bn h.bc bs _ W1 dn2 dh.bb dl2 de2 hs1.right.left hb1 hj1)
  have KC := hid (fun (W1 : World) (hb1 : Below w0.heap.size w0 W1) (hj1 : J ((List.finRange N).take (i + 1 + (xs.flatMap (ptE k)).length + (bs.flatMap (ptS k)).length)) W1) => ih w0 l N lab J Jx B hy h.ea h.en h.ec es _ W1 dn3 dh.eb dl3 de3 hs1.right.right hb1 hj1)
  have HD := hid (fun (W1 : World) (hb1 : Below w0.heap.size w0 W1) => dh.below (Nat.le_refl _) hb1)
  have HN := hid hn
  clear hRd hRd' hs hs1 hJ hlb dh dn1 dn2 dn3 dl1 dl2 dl3 de1 de2 de3 hW ih ihe
  refine callsIn_of_wp Tryz.func123 rfl trivial ?_ rfl
  simp only [Tryz.ntmps123, List.size_toArray, List.length_cons, List.length_nil, Nat.reduceAdd, Nat.reduceSub, Array.replicate_succ, Array.replicate_zero, List.push_toArray, List.append_toArray, List.nil_append, List.cons_append]
  simp only [labP, sH] at hyr ⊢
  gi_wp2
  refine ⟨rfl, (Hid.out HRd).mono ?_⟩
  rintro e W3 ⟨bb, rfl, hor⟩
  cases bb with
  | true =>
    obtain ⟨hj1, hb1⟩ := hor.1 rfl
    have hb3 := HW.out.trans hb1
    have KA3 := hid (Hid.out KA W3 hb3 hj1)
    have c4 := (Hid.out HD W3 hb3).c4
    have c5 := (Hid.out HD W3 hb3).c5
    have c6 := (Hid.out HD W3 hb3).c6
    have HZ := hid (show i + ((xs.flatMap (ptE k) ++ (bs.flatMap (ptS k) ++ es.flatMap (ptS k))).length + 1) = i + 1 + (xs.flatMap (ptE k)).length + (bs.flatMap (ptS k)).length + (es.flatMap (ptS k)).length by simp; omega)
    clear hor hj1 hb1
    gi_wp2_with (first
      | (refine ⟨trivial, rfl, ?_⟩; gi_at_call 157; refine (Hid.out KA3).mono ?_; rintro e w1 (⟨rfl, hj1, hb1⟩ | ⟨rfl, hx1⟩); all_goals (try (have KB3 := hid (Hid.out KB w1 hb1 hj1); have d4 := (Hid.out HD w1 hb1).c5; have HB1 := hid hb1; clear c4 c5 c6 hj1 hb1)))
      | (refine ⟨trivial, rfl, ?_⟩; gi_at_call 156; have hno := KC3; refine (Hid.out KC3).mono ?_; rintro e w3 (⟨rfl, hj3, hb3⟩ | ⟨rfl, hx1⟩))
      | (refine ⟨trivial, rfl, ?_⟩; gi_at_call 156; refine (Hid.out KB3).mono ?_; rintro e w2 (⟨rfl, hj2, hb2⟩ | ⟨rfl, hx1⟩); all_goals (try (have KC3 := hid (Hid.out KC w2 hb2 hj2); have d5 := (Hid.out HD w2 hb2).c6; have HB2 := hid hb2; clear hj2 hb2 d4))))
    all_goals (try (refine ⟨trivial, ?_⟩; gi_wp2))
    all_goals (try (refine ⟨trivial, ?_⟩; gi_wp2))
    all_goals go_ret
    all_goals first
      | exact .inr ⟨rfl, hx1⟩
      | (refine .inl ⟨rfl, ?_, hb3⟩; show J ((List.finRange N).take (i + ((xs.flatMap (ptE k) ++ (bs.flatMap (ptS k) ++ es.flatMap (ptS k))).length + 1))) _; rw [HZ.out]; exact hj3)
  | false =>
    have hx1 := hor.2 rfl
    gi_wp2
    go_ret
    exact .inr ⟨rfl, i + 1, HN.out, hx1⟩
end Go.Proofs.YtcnohgifihbkdaaGreatDoor.Lx

namespace Go.Proofs.YtcnohgifihbkdaaGreatDoor.Lx
open Go.RowKit Go.Deep
set_option linter.unusedVariables false
set_option linter.unusedSimpArgs false
attribute [local go_sem] as58_58 as105_58 as101_58 as67_58 as58_105 as105_105 as101_105 as67_105 as58_101 as105_101 as101_101 as67_101 as58_67 as105_67 as101_67 as67_67
attribute [local go_sem] Oper.semAt_some


theorem hand_all : ∀ k, HandE k
  | 0 => fun w0 l N lab J Jx B hy t => Empty.elim t
  | k + 1 => handE_succ k (handEs_of k (hand_all k))
theorem hands_all : ∀ k, HandS k
  | 0 => fun w0 l N lab J Jx B hy t => Empty.elim t
  | k + 1 => handS_succ k (handEs_of k (hand_all k)) (handSs_of k (hands_all k))
def HandD (k : Nat) : Prop := ∀ (w0 : World) (l N : Nat) (lab : Fin N → Value) (J Jx : List (Fin N) → World → Prop) (B : Nat) (hy : Hy w0 l N lab J Jx B) (t : DT k) (i : Nat) (W : World), DRds k w0 t → Seg N lab i (ptD t) → Below w0.heap.size w0 W → J ((List.finRange N).take i) W →
    CallsIn Fence.wide 0 Tryz.prog 123 #[labP (.inl (.inr t.1)), .func (.yield l) #[] #[]] W (HoP w0 N J Jx i (ptD t).length)
def HandDs (k : Nat) : Prop := ∀ (w0 : World) (l N : Nat) (lab : Fin N → Value) (J Jx : List (Fin N) → World → Prop) (B : Nat) (hy : Hy w0 l N lab J Jx B) (s : ByteArray) (a : Option Addr) (n c : Nat) (ts : List (DT k)) (i : Nat) (W : World), n ≤ 1000000 → DLs k w0 s a n ts → Seg N lab i (ts.flatMap ptD) → Below w0.heap.size w0 W → J ((List.finRange N).take i) W →
    CallsIn Fence.wide 0 Tryz.prog 155 #[.string s, .slice a n c, .func (.yield l) #[] #[]] W (HoP w0 N J Jx i (ts.flatMap ptD).length)
set_option maxRecDepth 100000 in
set_option maxHeartbeats 1000000 in
theorem handD_of (k : Nat) (ih : HandSs k) : HandD k := by
  intro w0 l N lab J Jx B hy t i W hr hs hW hJ
  obtain ⟨h, ts⟩ := t
  obtain ⟨hn, hlb⟩ := Seg.head hs
  obtain ⟨fn', tmps, assign, body, hyr, hRd⟩ := hy.y i hn W hJ
  rw [hlb] at hyr
  obtain ⟨dh, dn, dl, de⟩ := hr
  simp only at dh dn dl de
  have hRd' : RoundIn Fence.wide 0 Tryz.prog l fn' tmps assign body W (fun e W' => ∃ b : Bool, e = .returned (.bool b) ∧ ((b = true → J ((List.finRange N).take (i + 1)) W' ∧ Below w0.heap.size W W') ∧ (b = false → Jx ((List.finRange N).take (i + 1)) W'))) := by
    refine hRd.mono ?_
    rintro e W' (⟨rfl, h1, h2⟩ | ⟨rfl, h1⟩)
    · exact ⟨true, rfl, ⟨fun _ => ⟨h1, h2⟩, fun h => (by cases h)⟩⟩
    · exact ⟨false, rfl, ⟨fun h => (by cases h), fun _ => h1⟩⟩
  have HRd := hid hRd'
  have HW := hid hW
  have HS := hid hs.tail
  have K := hid (fun (W1 : World) (hb1 : Below w0.heap.size w0 W1) (hj1 : J ((List.finRange N).take (i + 1)) W1) => ih w0 l N lab J Jx B hy h.ba h.bn h.bc ts (i + 1) W1 dn dh.bb dl de hs.tail hb1 hj1)
  have HD := hid (fun (W1 : World) (hb1 : Below w0.heap.size w0 W1) => (dh.below (Nat.le_refl _) hb1).c5)
  have HN := hid hn
  clear hRd hRd' hs hJ hlb dh dn dl de hW ih
  refine callsIn_of_wp Tryz.func123 rfl trivial ?_ rfl
  simp only [Tryz.ntmps123, List.size_toArray, List.length_cons, List.length_nil, Nat.reduceAdd, Nat.reduceSub, Array.replicate_succ, Array.replicate_zero, List.push_toArray, List.append_toArray, List.nil_append, List.cons_append]
  simp only [labP] at hyr ⊢
  gi_wp2
  refine ⟨rfl, (Hid.out HRd).mono ?_⟩
  rintro e W3 ⟨bb, rfl, hor⟩
  cases bb with
  | true =>
    obtain ⟨hj1, hb1⟩ := hor.1 rfl
    have hb3 := HW.out.trans hb1
    have hb4 := hb3.alloc hb3.size (.cells #[.string h.sort, .pointer (some ⟨h.b, h.o, none⟩)] 159)
    have K3 := hid (Hid.out K (W3.alloc (.cells #[.string h.sort, .pointer (some ⟨h.b, h.o, none⟩)] 159)) hb4 (hy.a _ _ _ none hj1 (World.grownBy_alloc _ _ _) (by simp)))
    have c6 := Hid.out HD _ hb4
    have HB4 := hid hb4
    clear hb4 hb3
    clear hor hj1 hb1
    gi_wp2_with (refine ⟨trivial, rfl, ?_⟩; gi_at_call 156; refine (Hid.out K3).mono ?_; rintro e w1 (⟨rfl, hj1, hb1⟩ | ⟨rfl, hx1⟩))
    · go_ret
      refine .inl ⟨rfl, ?_, hb1⟩
      show J ((List.finRange N).take (i + ((ts.flatMap (ptS k)).length + 1))) _
      rw [Nat.add_comm _ 1, ← Nat.add_assoc]
      exact hj1
    · go_ret
      exact .inr ⟨rfl, hx1⟩
  | false =>
    have hx1 := hor.2 rfl
    gi_wp2
    go_ret
    exact .inr ⟨rfl, i + 1, HN.out, hx1⟩
set_option maxRecDepth 100000 in
set_option maxHeartbeats 1000000 in
theorem handDs_of (k : Nat) (ih : HandD k) : HandDs k := by
  intro w0 l N lab J Jx B hy s a n c ts i W hb hd hs hW hJ
  obtain ⟨hn, hl, hr, hss⟩ := hd
  refine callsIn_of_wp Tryz.func155 rfl trivial ?_ rfl
  simp only [Tryz.ntmps155, List.size_toArray, List.length_cons, List.length_nil, Nat.reduceAdd, Nat.reduceSub, Array.replicate_succ, Array.replicate_zero, List.push_toArray, List.append_toArray, List.nil_append, List.cons_append]
  have hbI : (n : Int) ≤ 1000000 := by omega
  have HJ := hid hJ
  have HW := hid hW
  have HS := hid hs
  have HN := hid hn
  have HR := hid hr
  have HL := hid hl
  have HSS := hid hss
  clear hJ hW hs hn hr hl hb hss
  gi_wp2
  gi_loopw [10] (fun x wr => ∃ j : Nat, j ≤ n ∧ x = .int .i64 j ∧ J ((List.finRange N).take (i + ((ts.take j).flatMap (ptD)).length)) wr ∧ Below w0.heap.size w0 wr)
    (fun x _ => n - (intOf x).toNat)
  case atStart => exact ⟨0, Nat.zero_le _, rfl, by simpa using HJ.out, HW.out⟩
  case round =>
    obtain ⟨j, hj, rfl, hJs, hbs⟩ := hrel
    by_cases hlt : j < n
    · have hlt' : (j : Int) < (n : Int) := by omega
      have hj0 : (0 : Int) ≤ (j : Int) := by omega
      obtain ⟨t, ht⟩ : ∃ t, ts[j]? = some t := ⟨ts[j]'(by rw [← HN.out]; exact hlt), List.getElem?_eq_getElem _⟩
      obtain ⟨b, off, ea, hat⟩ := HL.out j t ht
      subst ea
      have K := hid (ih w0 l N lab J Jx B hy t (i + ((ts.take j).flatMap (ptD)).length) wr (HR.out t (List.mem_of_getElem? ht)) (by
        have := HS.out
        rw [flat_at _ _ _ _ ht] at this
        exact this.right.left) hbs hJs)
      simp only [dAt, Prod.mk.injEq] at hat
      simp only [labP, hat.1, hat.2, HSS.out t (List.mem_of_getElem? ht)] at K
      have HF := hid (flat_next (ptD) ts j t ht)
      clear hat ht hJs hbs
      gi_wp2_with (refine ⟨trivial, rfl, ?_⟩; gi_at_call 123; refine (Hid.out K).mono ?_; rintro e w1 (⟨rfl, hj1, hb1⟩ | ⟨rfl, hx1⟩))
      · refine ⟨⟨j + 1, by omega, by go_num, ?_, hb1⟩, by simp [intOf]; omega⟩
        have := HF.out
        rw [this, ← Nat.add_assoc]
        exact hj1
      · go_ret
        exact .inr ⟨rfl, hx1⟩
    · obtain rfl : j = n := by omega
      gi_wp2
      go_ret
      refine .inl ⟨rfl, ?_, hbs⟩
      rw [HN.out, List.take_of_length_le (Nat.le_refl _)] at hJs
      exact hJs
end Go.Proofs.YtcnohgifihbkdaaGreatDoor.Lx

namespace Go.Proofs.YtcnohgifihbkdaaGreatDoor.Lx
open Go.RowKit Go.Deep
set_option linter.unusedVariables false
set_option linter.unusedSimpArgs false
attribute [local go_sem] as58_58 as105_58 as101_58 as67_58 as58_105 as105_105 as101_105 as67_105 as58_101 as105_101 as101_101 as67_101 as58_67 as105_67 as101_67 as67_67
attribute [local go_sem] Oper.semAt_some

set_option maxRecDepth 100000 in
set_option maxHeartbeats 1000000 in
theorem handT (k : Nat) (w0 : World) (l N : Nat) (lab : Fin N → Value) (J Jx : List (Fin N) → World → Prop) (B : Nat) (hy : Hy w0 l N lab J Jx B) (t : TT k) (i : Nat) (W : World) (hr : TRds k w0 t) (hs : Seg N lab i (ptT t)) (hW : Below w0.heap.size w0 W) (hJ : J ((List.finRange N).take i) W) :
    CallsIn Fence.wide 0 Tryz.prog 123 #[labP (.inl (.inl t.h)), .func (.yield l) #[] #[]] W (HoP w0 N J Jx i (ptT t).length) := by
  have ih := handDs_of k (handD_of k (handSs_of k (hands_all k)))
  obtain ⟨h, rs, ms, fs, es⟩ := t
  obtain ⟨hn, hlb⟩ := Seg.head hs
  obtain ⟨fn', tmps, assign, body, hyr, hRd⟩ := hy.y i hn W hJ
  rw [hlb] at hyr
  obtain ⟨dh, d1, d2, d3, d4⟩ := hr
  simp only at dh d1 d2 d3 d4
  have hRd' : RoundIn Fence.wide 0 Tryz.prog l fn' tmps assign body W (fun e W' => ∃ b : Bool, e = .returned (.bool b) ∧ ((b = true → J ((List.finRange N).take (i + 1)) W' ∧ Below w0.heap.size W W') ∧ (b = false → Jx ((List.finRange N).take (i + 1)) W'))) := by
    refine hRd.mono ?_
    rintro e W' (⟨rfl, h1, h2⟩ | ⟨rfl, h1⟩)
    · exact ⟨true, rfl, ⟨fun _ => ⟨h1, h2⟩, fun h => (by cases h)⟩⟩
    · exact ⟨false, rfl, ⟨fun h => (by cases h), fun _ => h1⟩⟩
  have HRd := hid hRd'
  have HW := hid hW
  have hs1 : Seg N lab (i + 1) (rs.flatMap ptD ++ (ms.flatMap ptD ++ (fs.flatMap ptD ++ es.flatMap ptD))) := hs.tail
  have KA := hid (fun (W1 : World) (hb1 : Below w0.heap.size w0 W1) (hj1 : J ((List.finRange N).take (i + 1)) W1) => ih w0 l N lab J Jx B hy wRec h.ra h.rn h.rc rs (i + 1) W1 dh.rb d1 hs1.left hb1 hj1)
  have KB := hid (fun (W1 : World) (hb1 : Below w0.heap.size w0 W1) (hj1 : J ((List.finRange N).take (i + 1 + (rs.flatMap ptD).length)) W1) => ih w0 l N lab J Jx B hy wMap h.ma h.mn h.mc ms _ W1 dh.mb d2 hs1.right.left hb1 hj1)
  have KC := hid (fun (W1 : World) (hb1 : Below w0.heap.size w0 W1) (hj1 : J ((List.finRange N).take (i + 1 + (rs.flatMap ptD).length + (ms.flatMap ptD).length)) W1) => ih w0 l N lab J Jx B hy wFn h.fa h.fn h.fc fs _ W1 dh.fb d3 hs1.right.right.left hb1 hj1)
  have KE := hid (fun (W1 : World) (hb1 : Below w0.heap.size w0 W1) (hj1 : J ((List.finRange N).take (i + 1 + (rs.flatMap ptD).length + (ms.flatMap ptD).length + (fs.flatMap ptD).length)) W1) => ih w0 l N lab J Jx B hy wOn h.ea h.en h.ec es _ W1 dh.eb d4 hs1.right.right.right hb1 hj1)
  simp only [wRec, wMap, wFn, wOn] at KA KB KC KE
  have HD := hid (fun (W1 : World) (hb1 : Below w0.heap.size w0 W1) => dh.below (Nat.le_refl _) hb1)
  have HN := hid hn
  clear hRd hRd' hs hs1 hJ hlb dh d1 d2 d3 d4 hW ih
  refine callsIn_of_wp Tryz.func123 rfl trivial ?_ rfl
  simp only [Tryz.ntmps123, List.size_toArray, List.length_cons, List.length_nil, Nat.reduceAdd, Nat.reduceSub, Array.replicate_succ, Array.replicate_zero, List.push_toArray, List.append_toArray, List.nil_append, List.cons_append]
  simp only [labP] at hyr ⊢
  gi_wp2
  refine ⟨rfl, (Hid.out HRd).mono ?_⟩
  rintro e W3 ⟨bb, rfl, hor⟩
  cases bb with
  | true =>
    obtain ⟨hj1, hb1⟩ := hor.1 rfl
    have hb3 := HW.out.trans hb1
    have KA3 := hid (Hid.out KA W3 hb3 hj1)
    have e0 := (Hid.out HD W3 hb3).c0
    have e1 := (Hid.out HD W3 hb3).c1
    have e2 := (Hid.out HD W3 hb3).c2
    have e3 := (Hid.out HD W3 hb3).c3
    have HZ := hid (show i + ((rs.flatMap ptD ++ (ms.flatMap ptD ++ (fs.flatMap ptD ++ es.flatMap ptD))).length + 1) = i + 1 + (rs.flatMap ptD).length + (ms.flatMap ptD).length + (fs.flatMap ptD).length + (es.flatMap ptD).length by simp; omega)
    clear hor hj1 hb1
    gi_wp2_with (first
      | (refine ⟨trivial, rfl, ?_⟩; gi_at_call 155; have hno := KE4; refine (Hid.out KE4).mono ?_; rintro e w4 (⟨rfl, hj4, hb4⟩ | ⟨rfl, hx1⟩))
      | (refine ⟨trivial, rfl, ?_⟩; gi_at_call 155; have hno := KC3; refine (Hid.out KC3).mono ?_; rintro e w3 (⟨rfl, hj3, hb3⟩ | ⟨rfl, hx1⟩); all_goals (try (have KE4 := hid (Hid.out KE w3 hb3 hj3); have d6 := (Hid.out HD w3 hb3).c3; have HB3 := hid hb3; clear hj3 hb3 d5)))
      | (refine ⟨trivial, rfl, ?_⟩; gi_at_call 155; have hno := KB3; refine (Hid.out KB3).mono ?_; rintro e w2 (⟨rfl, hj2, hb2⟩ | ⟨rfl, hx1⟩); all_goals (try (have KC3 := hid (Hid.out KC w2 hb2 hj2); have d5 := (Hid.out HD w2 hb2).c2; have HB2 := hid hb2; clear hj2 hb2 d4)))
      | (refine ⟨trivial, rfl, ?_⟩; gi_at_call 155; refine (Hid.out KA3).mono ?_; rintro e w1 (⟨rfl, hj1, hb1⟩ | ⟨rfl, hx1⟩); all_goals (try (have KB3 := hid (Hid.out KB w1 hb1 hj1); have d4 := (Hid.out HD w1 hb1).c1; have HB1 := hid hb1; clear e0 e1 e2 e3 hj1 hb1))))
    all_goals (try (refine ⟨trivial, ?_⟩; gi_wp2))
    all_goals (try (refine ⟨trivial, ?_⟩; gi_wp2))
    all_goals (try (refine ⟨trivial, ?_⟩; gi_wp2))
    all_goals go_ret
    all_goals first
      | exact .inr ⟨rfl, hx1⟩
      | (refine .inl ⟨rfl, ?_, hb4⟩; show J ((List.finRange N).take (i + ((rs.flatMap ptD ++ (ms.flatMap ptD ++ (fs.flatMap ptD ++ es.flatMap ptD))).length + 1))) _; rw [HZ.out]; exact hj4)
  | false =>
    have hx1 := hor.2 rfl
    gi_wp2
    go_ret
    exact .inr ⟨rfl, i + 1, HN.out, hx1⟩

/- A whole: a tree, or an expression. -/
structure Whole (w0 : World) (root : Part) (ps : List Part) : Prop where
  rd : ∀ p ∈ ps, PRds w0 p
  hand : ∀ (l : Nat) (lab : Fin ps.length → Value) (J Jx : List (Fin ps.length) → World → Prop) (B : Nat) (hy : Hy w0 l ps.length lab J Jx B) (W : World), Seg ps.length lab 0 ps → Below w0.heap.size w0 W → J [] W →
    CallsIn Fence.wide 0 Tryz.prog 123 #[labP root, .func (.yield l) #[] #[]] W (HoP w0 ps.length J Jx 0 ps.length)
theorem whole_tree {k : Nat} {w : World} {t : TT k} (h : TRds k w t) : Whole w (.inl (.inl t.h)) (ptT t) := ⟨ptT_rd h, fun l lab J Jx B hy W hs hW hJ => handT k w l _ lab J Jx B hy t 0 W h hs hW hJ⟩
def encP (ps : List Part) (x : Fin ps.length) : Array Value := #[labP ps[x]]
theorem roundIn_wide {n m : Nat} {P : Program} {l f : Nat} {tmps : Array Value} {assign body : Code} {w : World} {R : Ending → World → Prop} (h : RoundIn Fence.wide n P l f tmps assign body w R) : RoundIn Fence.wide m P l f tmps assign body w R := ⟨h.1, fun c cs _ => h.2 c cs (room_wide _)⟩
theorem callsIn_n {n m : Nat} {P : Program} {f : Nat} {args : Array Value} {w : World} {R : Ending → World → Prop} (h : CallsIn Fence.wide n P f args w R) : CallsIn Fence.wide m P f args w R := callsIn_wide.2 (callsIn_wide.1 h)
theorem take_snoc (N i : Nat) (h : i < N) : (List.finRange N).take i ++ [⟨i, h⟩] = (List.finRange N).take (i + 1) := by
  rw [List.take_add_one, List.getElem?_eq_getElem (by simpa using h)]
  simp
set_option maxRecDepth 100000 in
theorem parts_stops {w0 : World} {root : Part} {ps : List Part} (h : Whole w0 root ps) (n Bx : Nat) (w : World) (hb : Below w0.heap.size w0 w) (hBx : w.heap[Bx]? = some (.cells #[labP root] 20 (0, 0))) :
    SeqStopsK Fence.wide n Tryz.prog 122 #[.pointer (some ⟨Bx, 0, none⟩)] (encP ps) (Below w0.heap.size) (fun ys => ys = List.finRange ps.length) (fun pre => ∃ i, i ≤ ps.length ∧ pre = (List.finRange ps.length).take i) ps.length w := by
  intro l J Jx W hW hJa _ hY h0
  have K := hid (h.hand l (fun x => labP ps[x]) J Jx W.heap.size ⟨fun i hi W1 hj => by
      obtain ⟨fn, tmps, assign, body, hy, hr⟩ := hY ((List.finRange ps.length).take i) ⟨i, hi⟩ W1 hj (by simp; omega)
      refine ⟨fn, tmps, assign, body, hy, roundIn_wide (hr.mono ?_)⟩
      rw [take_snoc]
      exact fun e w' h => h, hJa⟩ W (fun j p e => by
        obtain ⟨h1, h2⟩ := List.getElem?_eq_some_iff.1 e
        exact ⟨by omega, by simp [h2]⟩) (hb.trans (hW.mono hb.size)) h0)
  have c0 := cellT ((hW.block Bx (Array.getElem?_eq_some_iff.1 hBx).1).trans hBx) 0
  simp only [List.getElem?_toArray, List.getElem?_cons_zero] at c0
  clear hY hBx
  refine callsIn_n (n := 0) ?_
  refine callsIn_of_wp Tryz.func122 rfl trivial ?_ rfl
  simp only [Tryz.ntmps122, List.size_toArray, List.length_cons, List.length_nil, Nat.reduceAdd, Nat.reduceSub, Array.replicate_succ, Array.replicate_zero, List.push_toArray, List.append_toArray, List.nil_append, List.cons_append]
  gi_wp2_with (refine ⟨trivial, rfl, ?_⟩; gi_at_call 123; refine (Hid.out K).mono ?_; rintro e w1 (⟨rfl, hj1, hb1⟩ | ⟨rfl, i', hi', hx1⟩))
  · go_end0
    refine ⟨⟨_, rfl⟩, .inl ⟨_, rfl, ?_⟩⟩
    rw [Nat.zero_add, List.take_of_length_le (by simp)] at hj1
    exact hj1
  · go_end0
    exact ⟨⟨_, rfl⟩, .inr ⟨_, ⟨i', hi', rfl⟩, hx1⟩⟩
set_option maxRecDepth 100000 in
theorem parts_in (F : Fence) (n : Nat) (h38 : F.fn 94) (hro : F.round = none) (p : Part) (w : World) :
    CallsIn F n Tryz.prog 94 #[labP p] w fun e w' => e = .returned (.func (.func 122) #[] #[.pointer (some ⟨w.heap.size, 0, none⟩)]) ∧ w' = w.alloc (.cells #[labP p] 20) := by
  refine callsIn_of_wp Tryz.func94 rfl h38 ?_ hro
  simp only [Tryz.ntmps94, List.size_toArray, List.length_cons, List.length_nil, Nat.reduceAdd, Nat.reduceSub, Array.replicate_succ, Array.replicate_zero, List.push_toArray, List.append_toArray, List.nil_append, List.cons_append]
  rcases p with (h | h) | (h | h) <;> simp only [labP]
  all_goals
    gi_wp2
    go_ret
    exact ⟨rfl, rfl⟩
end Go.Proofs.YtcnohgifihbkdaaGreatDoor.Lx

namespace Go.Proofs.YtcnohgifihbkdaaGreatDoor.Lx
open Go.RowKit Go.Deep
set_option linter.unusedVariables false
set_option linter.unusedSimpArgs false

def greatB (s : ByteArray) : Bool := nameB s.data.toList && decide (65 ≤ (s.data.toList.headD 0).toNat) && decide ((s.data.toList.headD 0).toNat ≤ 90)
def smallB (s : ByteArray) : Bool := nameB s.data.toList && !greatB s
theorem lexT_nil : lexT [] = .ok [⟨0, [], 0⟩] := by kernel_rfl
theorem name_ne {s : ByteArray} (h : nameB s.data.toList = true) : 1 ≤ s.size := by
  rw [Lib.size_eq]
  cases e : s.data.toList with
  | nil =>
    rw [e] at h
    unfold nameB at h
    rw [lexT_nil] at h
    simp at h
  | cons c t => simp
theorem get_zero (s : ByteArray) (h : 0 < s.size) : s[0]'h = s.data.toList.headD 0 := by
  have hl : 0 < s.data.toList.length := by rw [← Lib.size_eq]; exact h
  cases e : s.data.toList with
  | nil => rw [e] at hl; simp at hl
  | cons c t => exact get_of_list s 0 h c (by rw [e]; rfl)
set_option maxRecDepth 100000 in
theorem isGreat_any (s : ByteArray) (hs : s.size ≤ 9223372036854775807) (w : World) (hm : MX w) : Calls Tryz.prog 158 #[.string s] w fun e w' => e = .returned (.bool (greatB s)) ∧ Below w.heap.size w w' := by
  have K := hid (name_any s hs w hm)
  cases hn : nameB s.data.toList with
  | false =>
    rw [hn] at K
    have hg : greatB s = false := by unfold greatB; rw [hn]; rfl
    rw [hg]
    clear hn hg
    go_enter Tryz.func158, Tryz.ntmps158
    go_wp2_with (go_at_call 188; (refine (Hid.out K).mono ?_; rintro e w1 ⟨rfl, hb1⟩))
    go_ret
    exact ⟨rfl, hb1⟩
  | true =>
    have h1 := name_ne hn
    have hsI : (0 : Int) < (s.size : Int) := by omega
    have hz := get_zero s (by omega)
    obtain ⟨c, hc⟩ : ∃ c, c = s.data.toList.headD 0 := ⟨_, rfl⟩
    have hg : greatB s = (decide ((65 : Int) ≤ (c.toNat : Int)) && decide ((c.toNat : Int) ≤ 90)) := by
      unfold greatB; rw [hn, ← hc, Bool.true_and]
      congr 1 <;> (apply decide_eq_decide.2; omega)
    rw [hn] at K
    rw [hg]
    rw [← hc] at hz
    clear hn hg hc
    by_cases h65 : (65 : Int) ≤ (c.toNat : Int)
    · go_enter Tryz.func158, Tryz.ntmps158
      go_wp2_with (go_at_call 188; (refine (Hid.out K).mono ?_; rintro e w1 ⟨rfl, hb1⟩))
      go_ret
      exact ⟨ret_bool (by simp [h65]), hb1⟩
    · go_enter Tryz.func158, Tryz.ntmps158
      go_wp2_with (go_at_call 188; (refine (Hid.out K).mono ?_; rintro e w1 ⟨rfl, hb1⟩))
      go_ret
      exact ⟨ret_bool (by simp; omega), hb1⟩
set_option maxRecDepth 100000 in
theorem isSmall_any (s : ByteArray) (hs : s.size ≤ 9223372036854775807) (w : World) (hm : MX w) : Calls Tryz.prog 161 #[.string s] w fun e w' => e = .returned (.bool (smallB s)) ∧ Below w.heap.size w w' := by
  have K := hid (name_any s hs w hm)
  have KG := hid (fun (w1 : World) (hb : Below w.heap.size w w1) => isGreat_any s hs w1 (hm.below hm.lt hb))
  have TR : Hid (∀ {Z x y : World}, Below Z.heap.size Z x → Below x.heap.size x y → Below Z.heap.size Z y) := hid (fun h1 h2 => h1.trans (h2.mono h1.size))
  cases hn : nameB s.data.toList with
  | false =>
    rw [hn] at K
    have hg : smallB s = false := by unfold smallB; rw [hn]; rfl
    rw [hg]
    clear hn hg hm
    go_enter Tryz.func161, Tryz.ntmps161
    go_wp2_with (go_at_call 188; (refine (Hid.out K).mono ?_; rintro e w1 ⟨rfl, hb1⟩))
    go_ret
    exact ⟨rfl, hb1⟩
  | true =>
    rw [hn] at K
    have hg : smallB s = !greatB s := by unfold smallB; rw [hn]; rfl
    rw [hg]
    generalize greatB s = g at *
    clear hn hg hm
    go_enter Tryz.func161, Tryz.ntmps161
    go_wp2_with (first
      | (go_at_call 188; (refine (Hid.out K).mono ?_; rintro e w1 ⟨rfl, hb1⟩; have HB1 := hid hb1; clear hb1))
      | (go_at_call 158; (refine (KG.out w1 HB1.out).mono ?_; rintro e w2 ⟨rfl, hb2⟩; have HB2 := hid (TR.out HB1.out hb2); clear hb2)))
    go_ret
    exact ⟨rfl, HB2.out⟩
def keyB (s : ByteArray) : Bool := s.toList == [105, 110, 116] || s.toList == [116, 101, 120, 116]
def simpB (s : ByteArray) : Bool := keyB s || s.toList == [98, 111, 111, 108]
def typB (s : ByteArray) : Bool := simpB s || greatB s
def labB (s : ByteArray) : Bool := s.toList.isEmpty || smallB s
set_option maxRecDepth 100000 in
theorem isKey_any (s : ByteArray) (w : World) : Calls Tryz.prog 162 #[.string s] w fun e w' => e = .returned (.bool (keyB s)) ∧ w' = w := by
  go_enter Tryz.func162, Tryz.ntmps162
  go_wp2
  all_goals
    go_ret
    exact ⟨ret_bool (by simp_all [keyB]), rfl⟩
set_option maxRecDepth 100000 in
theorem isSimple_any (s : ByteArray) (w : World) : Calls Tryz.prog 160 #[.string s] w fun e w' => e = .returned (.bool (simpB s)) ∧ w' = w := by
  have K := hid (isKey_any s w)
  unfold simpB
  cases hk : keyB s with
  | true =>
    rw [hk] at K
    go_enter Tryz.func160, Tryz.ntmps160
    go_wp2_with (go_at_call 162; (refine (Hid.out K).mono ?_; rintro e w1 ⟨rfl, rfl⟩))
    go_ret
    exact ⟨rfl, rfl⟩
  | false =>
    rw [hk] at K
    go_enter Tryz.func160, Tryz.ntmps160
    go_wp2_with (go_at_call 162; (refine (Hid.out K).mono ?_; rintro e w1 ⟨rfl, rfl⟩))
    all_goals
      go_ret
      exact ⟨ret_bool (by simp_all), rfl⟩
set_option maxRecDepth 100000 in
theorem isType_any (s : ByteArray) (hs : s.size ≤ 9223372036854775807) (w : World) (hm : MX w) : Calls Tryz.prog 163 #[.string s] w fun e w' => e = .returned (.bool (typB s)) ∧ Below w.heap.size w w' := by
  have K := hid (isSimple_any s w)
  have KG := hid (isGreat_any s hs w hm)
  unfold typB
  clear hs hm
  generalize greatB s = g at *
  cases hk : simpB s with
  | true =>
    rw [hk] at K
    clear hk
    go_enter Tryz.func163, Tryz.ntmps163
    go_wp2_with (go_at_call 160; (refine (Hid.out K).mono ?_; rintro e w1 ⟨rfl, rfl⟩))
    go_ret
    exact ⟨rfl, Below.refl _ _⟩
  | false =>
    rw [hk] at K
    clear hk
    go_enter Tryz.func163, Tryz.ntmps163
    go_wp2_with (first
      | (go_at_call 160; (refine (Hid.out K).mono ?_; rintro e w1 ⟨rfl, rfl⟩))
      | (go_at_call 158; (refine (Hid.out KG).mono ?_; rintro e w2 ⟨rfl, hb2⟩)))
    go_ret
    exact ⟨rfl, hb2⟩
set_option maxRecDepth 100000 in
theorem isLabel_any (s : ByteArray) (hs : s.size ≤ 9223372036854775807) (w : World) (hm : MX w) : Calls Tryz.prog 165 #[.string s] w fun e w' => e = .returned (.bool (labB s)) ∧ Below w.heap.size w w' := by
  have KG := hid (isSmall_any s hs w hm)
  unfold labB
  clear hs hm
  generalize smallB s = g at *
  cases hk : s.toList.isEmpty with
  | true =>
    have hk' : s.toList = [] := by simpa using hk
    go_enter Tryz.func165, Tryz.ntmps165
    go_wp2
    go_ret
    exact ⟨rfl, Below.refl _ _⟩
  | false =>
    have hk' : ¬ s.toList = [] := by simpa using hk
    go_enter Tryz.func165, Tryz.ntmps165
    go_wp2_with (go_at_call 161; (refine (Hid.out KG).mono ?_; rintro e w2 ⟨rfl, hb2⟩))
    go_ret
    exact ⟨rfl, hb2⟩
end Go.Proofs.YtcnohgifihbkdaaGreatDoor.Lx

