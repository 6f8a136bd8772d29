/- tree.handOn, of a tree; tree.parts, and what a range over it hands on. -/
import Derived.Test.YtdfambocenohgaaGreatDoorJAA
import Derived.Shelf.Strings.Builder1
import Derived.Shelf.Strings.Builder2
import Derived.Shelf.Strings.Trim
import Derived.Shelf.Small.Utf8
import Derived.Shelf.Small.Strs
import Derived.Shelf.Strings.BuilderF
import Derived.Shelf.Strings.BuilderK
import Derived.Shelf.LaysM
import Derived.Shelf.Strconv.Clone
import Derived.Shelf.Strings.Search1
import Derived.Shelf.Strings.Search2
import Derived.Shelf.Strings.Search3
import Derived.Shelf.Strings.Count
import Derived.Shelf.Strings.Shaped
import Derived.Shelf.Strings.Prefix
import Derived.Shelf.Strings.Split
import Derived.Shelf.Strings.Replace
import Derived.Shelf.Strings.SplitShaped
import Derived.Shelf.Strings.Runes
import Derived.Shelf.Strings.AsciiSet
import Derived.Shelf.Unicode.DecodeSlow
import Derived.Shelf.Unicode.DecodeAny
import Derived.Shelf.Slices.Turned
import Derived.Test.YtdfambocenohgaaGreatDoorProg
import Derived.Laws.AppendOwn
import Derived.Deep.RegionHeld3
namespace Go.Proofs.YtdfambocenohgaaGreatDoor
open Go.RowKit Go.Deep
set_option linter.unusedVariables false
set_option linter.unusedSimpArgs false
attribute [local go_sem] as58_58 as105_58 as101_58 as67_58 as58_105 as105_105 as101_105 as67_105 as58_101 as105_101 as101_101 as67_101 as58_67 as105_67 as101_67 as67_67
attribute [local go_sem] Oper.semAt_some

set_option maxRecDepth 100000 in
set_option maxHeartbeats 1000000 in
theorem handT (k : Nat) (w0 : World) (l N : Nat) (lab : Fin N → Value) (J Jx : List (Fin N) → World → Prop) (B : Nat) (hy : Hy w0 l N lab J Jx B) (t : TT k) (i : Nat) (W : World) (hr : TRds k w0 t) (hs : Seg N lab i (ptT t)) (hW : Below w0.heap.size w0 W) (hJ : J ((List.finRange N).take i) W) :
    CallsIn Fence.wide 0 Tryz.prog 62 #[labP (.inl (.inl t.h)), .func (.yield l) #[] #[]] W (HoP w0 N J Jx i (ptT t).length) := by
  have ih := handDs_of k (handD_of k (handSs_of k (hands_all k)))
  obtain ⟨h, rs, ms, fs, es⟩ := t
  obtain ⟨hn, hlb⟩ := Seg.head hs
  obtain ⟨fn', tmps, assign, body, hyr, hRd⟩ := hy.y i hn W hJ
  rw [hlb] at hyr
  obtain ⟨dh, d1, d2, d3, d4⟩ := hr
  simp only at dh d1 d2 d3 d4
  have hRd' : RoundIn Fence.wide 0 Tryz.prog l fn' tmps assign body W (fun e W' => ∃ b : Bool, e = .returned (.bool b) ∧ ((b = true → J ((List.finRange N).take (i + 1)) W' ∧ Below w0.heap.size W W') ∧ (b = false → Jx ((List.finRange N).take (i + 1)) W'))) := by
    refine hRd.mono ?_
    rintro e W' (⟨rfl, h1, h2⟩ | ⟨rfl, h1⟩)
    · exact ⟨true, rfl, ⟨fun _ => ⟨h1, h2⟩, fun h => (by cases h)⟩⟩
    · exact ⟨false, rfl, ⟨fun h => (by cases h), fun _ => h1⟩⟩
  have HRd := hid hRd'
  have HW := hid hW
  have hs1 : Seg N lab (i + 1) (rs.flatMap ptD ++ (ms.flatMap ptD ++ (fs.flatMap ptD ++ es.flatMap ptD))) := hs.tail
  have KA := hid (fun (W1 : World) (hb1 : Below w0.heap.size w0 W1) (hj1 : J ((List.finRange N).take (i + 1)) W1) => ih w0 l N lab J Jx B hy wRec h.ra h.rn h.rc rs (i + 1) W1 dh.rb d1 hs1.left hb1 hj1)
  have KB := hid (fun (W1 : World) (hb1 : Below w0.heap.size w0 W1) (hj1 : J ((List.finRange N).take (i + 1 + (rs.flatMap ptD).length)) W1) => ih w0 l N lab J Jx B hy wMap h.ma h.mn h.mc ms _ W1 dh.mb d2 hs1.right.left hb1 hj1)
  have KC := hid (fun (W1 : World) (hb1 : Below w0.heap.size w0 W1) (hj1 : J ((List.finRange N).take (i + 1 + (rs.flatMap ptD).length + (ms.flatMap ptD).length)) W1) => ih w0 l N lab J Jx B hy wFn h.fa h.fn h.fc fs _ W1 dh.fb d3 hs1.right.right.left hb1 hj1)
  have KE := hid (fun (W1 : World) (hb1 : Below w0.heap.size w0 W1) (hj1 : J ((List.finRange N).take (i + 1 + (rs.flatMap ptD).length + (ms.flatMap ptD).length + (fs.flatMap ptD).length)) W1) => ih w0 l N lab J Jx B hy wOn h.ea h.en h.ec es _ W1 dh.eb d4 hs1.right.right.right hb1 hj1)
  simp only [wRec, wMap, wFn, wOn] at KA KB KC KE
  have HD := hid (fun (W1 : World) (hb1 : Below w0.heap.size w0 W1) => dh.below (Nat.le_refl _) hb1)
  have HN := hid hn
  clear hRd hRd' hs hs1 hJ hlb dh d1 d2 d3 d4 hW ih
  refine callsIn_of_wp Tryz.func62 rfl trivial ?_ rfl
  simp only [Tryz.ntmps62, List.size_toArray, List.length_cons, List.length_nil, Nat.reduceAdd, Nat.reduceSub, Array.replicate_succ, Array.replicate_zero, List.push_toArray, List.append_toArray, List.nil_append, List.cons_append]
  simp only [labP] at hyr ⊢
  gi_wp2
  refine ⟨rfl, (Hid.out HRd).mono ?_⟩
  rintro e W3 ⟨bb, rfl, hor⟩
  cases bb with
  | true =>
    obtain ⟨hj1, hb1⟩ := hor.1 rfl
    have hb3 := HW.out.trans hb1
    have KA3 := hid (Hid.out KA W3 hb3 hj1)
    have e0 := (Hid.out HD W3 hb3).c0
    have e1 := (Hid.out HD W3 hb3).c1
    have e2 := (Hid.out HD W3 hb3).c2
    have e3 := (Hid.out HD W3 hb3).c3
    have HZ := hid (show i + ((rs.flatMap ptD ++ (ms.flatMap ptD ++ (fs.flatMap ptD ++ es.flatMap ptD))).length + 1) = i + 1 + (rs.flatMap ptD).length + (ms.flatMap ptD).length + (fs.flatMap ptD).length + (es.flatMap ptD).length by simp; omega)
    clear hor hj1 hb1
    gi_wp2_with (first
      | (refine ⟨trivial, rfl, ?_⟩; gi_at_call 89; have hno := KE4; refine (Hid.out KE4).mono ?_; rintro e w4 (⟨rfl, hj4, hb4⟩ | ⟨rfl, hx1⟩))
      | (refine ⟨trivial, rfl, ?_⟩; gi_at_call 89; have hno := KC3; refine (Hid.out KC3).mono ?_; rintro e w3 (⟨rfl, hj3, hb3⟩ | ⟨rfl, hx1⟩); all_goals (try (have KE4 := hid (Hid.out KE w3 hb3 hj3); have d6 := (Hid.out HD w3 hb3).c3; have HB3 := hid hb3; clear hj3 hb3 d5)))
      | (refine ⟨trivial, rfl, ?_⟩; gi_at_call 89; have hno := KB3; refine (Hid.out KB3).mono ?_; rintro e w2 (⟨rfl, hj2, hb2⟩ | ⟨rfl, hx1⟩); all_goals (try (have KC3 := hid (Hid.out KC w2 hb2 hj2); have d5 := (Hid.out HD w2 hb2).c2; have HB2 := hid hb2; clear hj2 hb2 d4)))
      | (refine ⟨trivial, rfl, ?_⟩; gi_at_call 89; refine (Hid.out KA3).mono ?_; rintro e w1 (⟨rfl, hj1, hb1⟩ | ⟨rfl, hx1⟩); all_goals (try (have KB3 := hid (Hid.out KB w1 hb1 hj1); have d4 := (Hid.out HD w1 hb1).c1; have HB1 := hid hb1; clear e0 e1 e2 e3 hj1 hb1))))
    all_goals (try (refine ⟨trivial, ?_⟩; gi_wp2))
    all_goals (try (refine ⟨trivial, ?_⟩; gi_wp2))
    all_goals (try (refine ⟨trivial, ?_⟩; gi_wp2))
    all_goals go_ret
    all_goals first
      | exact .inr ⟨rfl, hx1⟩
      | (refine .inl ⟨rfl, ?_, hb4⟩; show J ((List.finRange N).take (i + ((rs.flatMap ptD ++ (ms.flatMap ptD ++ (fs.flatMap ptD ++ es.flatMap ptD))).length + 1))) _; rw [HZ.out]; exact hj4)
  | false =>
    have hx1 := hor.2 rfl
    gi_wp2
    go_ret
    exact .inr ⟨rfl, i + 1, HN.out, hx1⟩

/- A whole: a tree, or an expression. -/
structure Whole (w0 : World) (root : Part) (ps : List Part) : Prop where
  rd : ∀ p ∈ ps, PRds w0 p
  hand : ∀ (l : Nat) (lab : Fin ps.length → Value) (J Jx : List (Fin ps.length) → World → Prop) (B : Nat) (hy : Hy w0 l ps.length lab J Jx B) (W : World), Seg ps.length lab 0 ps → Below w0.heap.size w0 W → J [] W →
    CallsIn Fence.wide 0 Tryz.prog 62 #[labP root, .func (.yield l) #[] #[]] W (HoP w0 ps.length J Jx 0 ps.length)
theorem whole_tree {k : Nat} {w : World} {t : TT k} (h : TRds k w t) : Whole w (.inl (.inl t.h)) (ptT t) := ⟨ptT_rd h, fun l lab J Jx B hy W hs hW hJ => handT k w l _ lab J Jx B hy t 0 W h hs hW hJ⟩
theorem whole_expr {k : Nat} {w : World} {t : ET k} (h : ERd k w t) : Whole w (.inr (.inr (eH k t))) (ptE k t) := ⟨ptE_rd k h, fun l lab J Jx B hy W hs hW hJ => hand_all k w l _ lab J Jx B hy t 0 W h hs hW hJ⟩
def encP (ps : List Part) (x : Fin ps.length) : Array Value := #[labP ps[x]]
theorem roundIn_wide {n m : Nat} {P : Program} {l f : Nat} {tmps : Array Value} {assign body : Code} {w : World} {R : Ending → World → Prop} (h : RoundIn Fence.wide n P l f tmps assign body w R) : RoundIn Fence.wide m P l f tmps assign body w R := ⟨h.1, fun c cs _ => h.2 c cs (room_wide _)⟩
theorem callsIn_n {n m : Nat} {P : Program} {f : Nat} {args : Array Value} {w : World} {R : Ending → World → Prop} (h : CallsIn Fence.wide n P f args w R) : CallsIn Fence.wide m P f args w R := callsIn_wide.2 (callsIn_wide.1 h)
theorem take_snoc (N i : Nat) (h : i < N) : (List.finRange N).take i ++ [⟨i, h⟩] = (List.finRange N).take (i + 1) := by
  rw [List.take_add_one, List.getElem?_eq_getElem (by simpa using h)]
  simp
set_option maxRecDepth 100000 in
theorem parts_stops {w0 : World} {root : Part} {ps : List Part} (h : Whole w0 root ps) (n Bx : Nat) (w : World) (hb : Below w0.heap.size w0 w) (hBx : w.heap[Bx]? = some (.cells #[labP root] 20 (0, 0))) :
    SeqStopsK Fence.wide n Tryz.prog 61 #[.pointer (some ⟨Bx, 0, none⟩)] (encP ps) (Below w0.heap.size) (fun ys => ys = List.finRange ps.length) (fun pre => ∃ i, i ≤ ps.length ∧ pre = (List.finRange ps.length).take i) ps.length w := by
  intro l J Jx W hW hJa _ hY h0
  have K := hid (h.hand l (fun x => labP ps[x]) J Jx W.heap.size ⟨fun i hi W1 hj => by
      obtain ⟨fn, tmps, assign, body, hy, hr⟩ := hY ((List.finRange ps.length).take i) ⟨i, hi⟩ W1 hj (by simp; omega)
      refine ⟨fn, tmps, assign, body, hy, roundIn_wide (hr.mono ?_)⟩
      rw [take_snoc]
      exact fun e w' h => h, hJa⟩ W (fun j p e => by
        obtain ⟨h1, h2⟩ := List.getElem?_eq_some_iff.1 e
        exact ⟨by omega, by simp [h2]⟩) (hb.trans (hW.mono hb.size)) h0)
  have c0 := cellT ((hW.block Bx (Array.getElem?_eq_some_iff.1 hBx).1).trans hBx) 0
  simp only [List.getElem?_toArray, List.getElem?_cons_zero] at c0
  clear hY hBx
  refine callsIn_n (n := 0) ?_
  refine callsIn_of_wp Tryz.func61 rfl trivial ?_ rfl
  simp only [Tryz.ntmps61, List.size_toArray, List.length_cons, List.length_nil, Nat.reduceAdd, Nat.reduceSub, Array.replicate_succ, Array.replicate_zero, List.push_toArray, List.append_toArray, List.nil_append, List.cons_append]
  gi_wp2_with (refine ⟨trivial, rfl, ?_⟩; gi_at_call 62; refine (Hid.out K).mono ?_; rintro e w1 (⟨rfl, hj1, hb1⟩ | ⟨rfl, i', hi', hx1⟩))
  · go_end0
    refine ⟨⟨_, rfl⟩, .inl ⟨_, rfl, ?_⟩⟩
    rw [Nat.zero_add, List.take_of_length_le (by simp)] at hj1
    exact hj1
  · go_end0
    exact ⟨⟨_, rfl⟩, .inr ⟨_, ⟨i', hi', rfl⟩, hx1⟩⟩
set_option maxRecDepth 100000 in
theorem parts_in (F : Fence) (n : Nat) (h38 : F.fn 38) (hro : F.round = none) (p : Part) (w : World) :
    CallsIn F n Tryz.prog 38 #[labP p] w fun e w' => e = .returned (.func (.func 61) #[] #[.pointer (some ⟨w.heap.size, 0, none⟩)]) ∧ w' = w.alloc (.cells #[labP p] 20) := by
  refine callsIn_of_wp Tryz.func38 rfl h38 ?_ hro
  simp only [Tryz.ntmps38, List.size_toArray, List.length_cons, List.length_nil, Nat.reduceAdd, Nat.reduceSub, Array.replicate_succ, Array.replicate_zero, List.push_toArray, List.append_toArray, List.nil_append, List.cons_append]
  rcases p with (h | h) | (h | h) <;> simp only [labP]
  all_goals
    gi_wp2
    go_ret
    exact ⟨rfl, rfl⟩
end Go.Proofs.YtdfambocenohgaaGreatDoor

namespace Go.Proofs.YtdfambocenohgaaGreatDoor
open Go.RowKit Go.Deep
set_option linter.unusedVariables false
set_option linter.unusedSimpArgs false

structure EW (w : World) (h : EH) : Prop where
  c0 : w.cell? ⟨h.b, h.o, none⟩ = some (.int .i64 h.kind)
  c1 : w.cell? ⟨h.b, h.o + 1, none⟩ = some (.int .i64 h.op)
  c2 : w.cell? ⟨h.b, h.o + 2, none⟩ = some (.int .i64 h.int)
  c3 : w.cell? ⟨h.b, h.o + 3, none⟩ = some (.string h.text)
  c4 : w.cell? ⟨h.b, h.o + 4, none⟩ = some (.string h.name)
  c5 : w.cell? ⟨h.b, h.o + 5, none⟩ = some (.slice h.na h.nn h.nc)
  c6 : w.cell? ⟨h.b, h.o + 6, none⟩ = some (.slice h.aa h.an h.ac)
  c7 : w.cell? ⟨h.b, h.o + 7, none⟩ = some (.int .i64 h.pos)
  i0 : -9223372036854775808 ≤ h.int
  i1 : h.int ≤ 9223372036854775807
  t : h.text.size ≤ 9223372036854775807
  n : h.name.size ≤ 9223372036854775807
  nl : h.nn = h.names.length
  nb : h.nn ≤ 9223372036854775807
  ns : ∀ s ∈ h.names, s.size ≤ 9223372036854775807
  nr : SLs w h.na h.names
  ab : h.an ≤ 9223372036854775807
theorem EW.r {w : World} {h : EH} (d : EW w h) (h1 : h.nn ≤ 1000000) (h2 : h.an ≤ 1000000) : EHr w h :=
  ⟨d.c0, d.c1, d.c2, d.c3, d.c4, d.c5, d.c6, d.c7, d.i0, d.i1, d.t, d.n, d.nl, h1, d.ns, d.nr, h2⟩
structure SW (w : World) (h : SH) : Prop where
  c0 : w.cell? ⟨h.b, h.o, none⟩ = some (.int .i64 h.kind)
  c1 : w.cell? ⟨h.b, h.o + 1, none⟩ = some (.string h.name)
  c2 : w.cell? ⟨h.b, h.o + 2, none⟩ = some (.string h.label)
  c3 : w.cell? ⟨h.b, h.o + 3, none⟩ = some (.string h.var)
  c4 : w.cell? ⟨h.b, h.o + 4, none⟩ = some (.slice h.aa h.an h.ac)
  c5 : w.cell? ⟨h.b, h.o + 5, none⟩ = some (.slice h.ba h.bn h.bc)
  c6 : w.cell? ⟨h.b, h.o + 6, none⟩ = some (.slice h.ea h.en h.ec)
  c7 : w.cell? ⟨h.b, h.o + 7, none⟩ = some (.int .i64 h.pos)
  n : h.name.size ≤ 9223372036854775807
  l : h.label.size ≤ 9223372036854775807
  v : h.var.size ≤ 9223372036854775807
  ab : h.an ≤ 9223372036854775807
  bb : h.bn ≤ 9223372036854775807
  eb : h.en ≤ 9223372036854775807
theorem SW.r {w : World} {h : SH} (d : SW w h) (h1 : h.an ≤ 1000000) (h2 : h.bn ≤ 1000000) (h3 : h.en ≤ 1000000) : SHr w h :=
  ⟨d.c0, d.c1, d.c2, d.c3, d.c4, d.c5, d.c6, d.c7, d.n, d.l, d.v, h1, h2, h3⟩
structure DW (w : World) (h : DH) : Prop where
  c0 : w.cell? ⟨h.b, h.o, none⟩ = some (.string h.name)
  c1 : w.cell? ⟨h.b, h.o + 1, none⟩ = some (.slice h.pa h.pn h.pc)
  c2 : w.cell? ⟨h.b, h.o + 2, none⟩ = some (.string h.key)
  c3 : w.cell? ⟨h.b, h.o + 3, none⟩ = some (.string h.value)
  c4 : w.cell? ⟨h.b, h.o + 4, none⟩ = some (.string h.result)
  c5 : w.cell? ⟨h.b, h.o + 5, none⟩ = some (.slice h.ba h.bn h.bc)
  c6 : w.cell? ⟨h.b, h.o + 6, none⟩ = some (.int .i64 h.pos)
  n : h.name.size ≤ 9223372036854775807
  k : h.key.size ≤ 9223372036854775807
  v : h.value.size ≤ 9223372036854775807
  r : h.result.size ≤ 9223372036854775807
  pl : h.pn = h.params.length
  pb : h.pn ≤ 9223372036854775807
  ps : ∀ s ∈ h.params, s.1.size ≤ 9223372036854775807 ∧ s.2.size ≤ 9223372036854775807
  pr : PLs w h.pa h.params
  bb : h.bn ≤ 9223372036854775807
theorem DW.rr {w : World} {h : DH} (d : DW w h) (h1 : h.pn ≤ 1000000) (h2 : h.bn ≤ 1000000) : DHr w h :=
  ⟨d.c0, d.c1, d.c2, d.c3, d.c4, d.c5, d.c6, d.n, d.k, d.v, d.r, d.pl, h1, d.ps, d.pr, h2⟩
def EWd : (k : Nat) → World → ET k → Prop
  | 0, _, _ => False
  | k + 1, w, t => EW w t.1 ∧ t.1.an = t.2.length ∧ LiesAt 8 t.1.aa (eAt k) t.2 ∧ ∀ u ∈ t.2, EWd k w u
def SWd : (k : Nat) → World → ST k → Prop
  | 0, _, _ => False
  | k + 1, w, t => SW w t.1 ∧ (t.1.an = t.2.1.length ∧ t.1.bn = t.2.2.1.length ∧ t.1.en = t.2.2.2.length) ∧ (LiesAt 8 t.1.aa (eAt k) t.2.1 ∧ LiesAt 8 t.1.ba (sAt k) t.2.2.1 ∧ LiesAt 8 t.1.ea (sAt k) t.2.2.2) ∧ (∀ u ∈ t.2.1, EWd k w u) ∧ (∀ u ∈ t.2.2.1, SWd k w u) ∧ ∀ u ∈ t.2.2.2, SWd k w u
structure DWd (k : Nat) (w : World) (t : DT k) : Prop where
  h : DW w t.1
  n : t.1.bn = t.2.length
  l : LiesAt 8 t.1.ba (sAt k) t.2
  e : ∀ u ∈ t.2, SWd k w u
structure LWs (k : Nat) (w : World) (s : ByteArray) (a : Option Addr) (n : Nat) (ts : List (DT k)) : Prop where
  b : n ≤ 9223372036854775807
  n : n = ts.length
  l : LiesAt 7 a dAt ts
  e : ∀ u ∈ ts, DWd k w u
  s : ∀ u ∈ ts, u.1.sort = s
structure TWs (k : Nat) (w : World) (t : TT k) : Prop where
  rs : LWs k w wRec t.h.ra t.h.rn t.rs
  ms : LWs k w wMap t.h.ma t.h.mn t.ms
  fs : LWs k w wFn t.h.fa t.h.fn t.fs
  es : LWs k w wOn t.h.ea t.h.en t.es
theorem EWd.h : ∀ {k : Nat} {w : World} {t : ET k}, EWd k w t → EW w (eH k t)
  | 0, _, _, d => d.elim
  | _ + 1, _, _, d => d.1
theorem SWd.h : ∀ {k : Nat} {w : World} {t : ST k}, SWd k w t → SW w (sH k t)
  | 0, _, _, d => d.elim
  | _ + 1, _, _, d => d.1
/- How many, with all within them. -/
def sumL {α : Type} (f : α → Nat) (l : List α) : Nat := (l.map f).sum
theorem sumL_cons {α : Type} (f : α → Nat) (x : α) (l : List α) : sumL f (x :: l) = f x + sumL f l := by simp [sumL]
theorem sumL_take {α : Type} (f : α → Nat) (l : List α) (i : Nat) (x : α) (h : l[i]? = some x) : sumL f (l.take (i + 1)) = sumL f (l.take i) + f x := by
  rw [List.take_add_one, h]; simp [sumL]
theorem sumL_mem {α : Type} (f : α → Nat) : ∀ (l : List α) (x : α), x ∈ l → f x ≤ sumL f l
  | y :: l, x, h => by
    rw [sumL_cons]
    rcases List.mem_cons.1 h with rfl | h
    · omega
    · have := sumL_mem f l x h; omega
theorem sumL_len {α : Type} (f : α → Nat) (hf : ∀ x, 1 ≤ f x) : ∀ l : List α, l.length ≤ sumL f l
  | [] => by simp
  | x :: l => by rw [sumL_cons, List.length_cons]; have := sumL_len f hf l; have := hf x; omega
theorem flat_len {α : Type} (f : α → Nat) (g : α → List Part) (h : ∀ x, (g x).length ≤ f x) : ∀ l : List α, (l.flatMap g).length ≤ sumL f l
  | [] => by simp
  | x :: l => by rw [sumL_cons, List.flatMap_cons, List.length_append]; have := flat_len f g h l; have := h x; omega
def szE : (k : Nat) → ET k → Nat
  | 0, t => Empty.elim t
  | k + 1, t => 1 + t.1.names.length + sumL (szE k) t.2
def szS : (k : Nat) → ST k → Nat
  | 0, t => Empty.elim t
  | k + 1, t => 1 + sumL (szE k) t.2.1 + sumL (szS k) t.2.2.1 + sumL (szS k) t.2.2.2
def szD {k : Nat} (t : DT k) : Nat := 1 + t.1.params.length + sumL (szS k) t.2
theorem szE_1 : ∀ (k : Nat) (t : ET k), 1 ≤ szE k t
  | 0, t => Empty.elim t
  | k + 1, t => by show 1 ≤ 1 + _ + _; omega
theorem szS_1 : ∀ (k : Nat) (t : ST k), 1 ≤ szS k t
  | 0, t => Empty.elim t
  | k + 1, t => by show 1 ≤ 1 + _ + _ + _; omega
theorem szD_1 {k : Nat} (t : DT k) : 1 ≤ szD t := by show 1 ≤ 1 + _ + _; omega
theorem ptE_len : ∀ (k : Nat) (t : ET k), (ptE k t).length ≤ szE k t
  | 0, t => Empty.elim t
  | k + 1, t => by
    show (_ :: t.2.flatMap (ptE k)).length ≤ 1 + t.1.names.length + sumL (szE k) t.2
    have := flat_len (szE k) (ptE k) (ptE_len k) t.2
    rw [List.length_cons]; omega
theorem ptS_len : ∀ (k : Nat) (t : ST k), (ptS k t).length ≤ szS k t
  | 0, t => Empty.elim t
  | k + 1, t => by
    show (_ :: (t.2.1.flatMap (ptE k) ++ (t.2.2.1.flatMap (ptS k) ++ t.2.2.2.flatMap (ptS k)))).length ≤ 1 + sumL (szE k) t.2.1 + sumL (szS k) t.2.2.1 + sumL (szS k) t.2.2.2
    have h1 := flat_len (szE k) (ptE k) (ptE_len k) t.2.1
    have h2 := flat_len (szS k) (ptS k) (ptS_len k) t.2.2.1
    have h3 := flat_len (szS k) (ptS k) (ptS_len k) t.2.2.2
    simp only [List.length_cons, List.length_append]; omega
theorem ptD_len {k : Nat} (t : DT k) : (ptD t).length ≤ szD t := by
  show (_ :: t.2.flatMap (ptS k)).length ≤ 1 + t.1.params.length + sumL (szS k) t.2
  have := flat_len (szS k) (ptS k) (ptS_len k) t.2
  rw [List.length_cons]; omega
theorem erd_of : ∀ (k : Nat) {w : World} {t : ET k}, EWd k w t → szE k t ≤ 1000000 → ERd k w t
  | 0, _, _, d, _ => d.elim
  | k + 1, w, t, d, hz => by
    have hz' : 1 + t.1.names.length + sumL (szE k) t.2 ≤ 1000000 := hz
    have hl := sumL_len (szE k) (szE_1 k) t.2
    have h1 := d.1.nl
    have h2 := d.2.1
    exact ⟨d.1.r (by omega) (by omega), d.2.1, d.2.2.1, fun u hu => erd_of k (d.2.2.2 u hu) (by have := sumL_mem (szE k) t.2 u hu; omega)⟩
theorem srd_of : ∀ (k : Nat) {w : World} {t : ST k}, SWd k w t → szS k t ≤ 1000000 → SRds k w t
  | 0, _, _, d, _ => d.elim
  | k + 1, w, t, d, hz => by
    have hz' : 1 + sumL (szE k) t.2.1 + sumL (szS k) t.2.2.1 + sumL (szS k) t.2.2.2 ≤ 1000000 := hz
    have l1 := sumL_len (szE k) (szE_1 k) t.2.1
    have l2 := sumL_len (szS k) (szS_1 k) t.2.2.1
    have l3 := sumL_len (szS k) (szS_1 k) t.2.2.2
    obtain ⟨d1, ⟨n1, n2, n3⟩, d3, d4, d5, d6⟩ := d
    exact ⟨d1.r (by omega) (by omega) (by omega), ⟨n1, n2, n3⟩, d3, fun u hu => erd_of k (d4 u hu) (by have := sumL_mem (szE k) t.2.1 u hu; omega), fun u hu => srd_of k (d5 u hu) (by have := sumL_mem (szS k) t.2.2.1 u hu; omega), fun u hu => srd_of k (d6 u hu) (by have := sumL_mem (szS k) t.2.2.2 u hu; omega)⟩
theorem drd_of {k : Nat} {w : World} {t : DT k} (d : DWd k w t) (hz : szD t ≤ 1000000) : DRds k w t := by
  have hz' : 1 + t.1.params.length + sumL (szS k) t.2 ≤ 1000000 := hz
  have l := sumL_len (szS k) (szS_1 k) t.2
  have h1 := d.h.pl
  have h2 := d.n
  exact ⟨d.h.rr (by omega) (by omega), d.n, d.l, fun u hu => srd_of k (d.e u hu) (by have := sumL_mem (szS k) t.2 u hu; omega)⟩
theorem dls_of {k : Nat} {w : World} {s : ByteArray} {a : Option Addr} {n : Nat} {ts : List (DT k)} (d : LWs k w s a n ts) (hz : sumL szD ts ≤ 1000000) : DLs k w s a n ts :=
  ⟨d.n, d.l, fun u hu => drd_of (d.e u hu) (by have := sumL_mem szD ts u hu; omega), d.s⟩
def SzT {k : Nat} (t : TT k) : Prop := sumL szD t.rs ≤ 600 ∧ sumL szD t.ms ≤ 600 ∧ sumL szD t.fs ≤ 600 ∧ sumL szD t.es ≤ 600
end Go.Proofs.YtdfambocenohgaaGreatDoor

namespace Go.Proofs
set_option linter.unusedVariables false
set_option linter.unusedSimpArgs false
set_option maxRecDepth 100000
open Go.Shelf
def Tryz.lays161_ren : Go.Shelf.Ren := ⟨fun | 161 => 169 | 231 => 178 | 227 => 179 | 233 => 180 | 235 => 181 | 228 => 185 | 197 => 147 | 151 => 186 | 260 => 159 | 152 => 187 | 137 => 177 | 119 => 188 | 224 => 173 | 225 => 172 | 217 => 171 | 266 => 182 | n => n, fun | 9 => 9 | 4 => 4 | 3 => 3 | 5 => 5 | 117 => 209 | 116 => 208 | 0 => 0 | 124 => 212 | 105 => 183 | 21 => 21 | 119 => 200 | 46 => 180 | 139 => 203 | 138 => 202 | n => n, fun | 3 => 4 | 4 => 5 | n => n⟩
theorem Tryz.lays161 : Go.Proofs.Lays.n161 Tryz.prog Tryz.lays161_ren := {
  mixed := by kernel_rfl
  f119 := Tryz.func188.trans (congrArg some (by kernel_rfl))
  f137 := Tryz.func177.trans (congrArg some (by kernel_rfl))
  f151 := Tryz.func186.trans (congrArg some (by kernel_rfl))
  f152 := Tryz.func187.trans (congrArg some (by kernel_rfl))
  f161 := Tryz.func169.trans (congrArg some (by kernel_rfl))
  f197 := Tryz.func147.trans (congrArg some (by kernel_rfl))
  f217 := Tryz.func171.trans (congrArg some (by kernel_rfl))
  f224 := Tryz.func173.trans (congrArg some (by kernel_rfl))
  f225 := Tryz.func172.trans (congrArg some (by kernel_rfl))
  f227 := Tryz.func179.trans (congrArg some (by kernel_rfl))
  f228 := Tryz.func185.trans (congrArg some (by kernel_rfl))
  f231 := Tryz.func178.trans (congrArg some (by kernel_rfl))
  f233 := Tryz.func180.trans (congrArg some (by kernel_rfl))
  f235 := Tryz.func181.trans (congrArg some (by kernel_rfl))
  f260 := Tryz.func159.trans (congrArg some (by kernel_rfl))
  f266 := Tryz.func182.trans (congrArg some (by kernel_rfl))
  t0 := Tryz.underlying0
  a0 := Tryz.isAgg0
  z0 := Tryz.sizeOf0
  v0 := Tryz.zeroValue0
  t3 := Tryz.underlying3
  a3 := Tryz.isAgg3
  z3 := Tryz.sizeOf3
  v3 := Tryz.zeroValue3
  t4 := Tryz.underlying4
  a4 := Tryz.isAgg4
  z4 := Tryz.sizeOf4
  v4 := Tryz.zeroValue4
  t5 := Tryz.underlying5
  a5 := Tryz.isAgg5
  z5 := Tryz.sizeOf5
  v5 := Tryz.zeroValue5
  t9 := Tryz.underlying9
  a9 := Tryz.isAgg9
  z9 := Tryz.sizeOf9
  v9 := Tryz.zeroValue9
  t21 := Tryz.underlying21
  a21 := Tryz.isAgg21
  z21 := Tryz.sizeOf21
  v21 := Tryz.zeroValue21
  t46 := Tryz.underlying180
  a46 := Tryz.isAgg180
  z46 := Tryz.sizeOf180
  v46 := Tryz.zeroValue180
  t105 := Tryz.underlying183
  a105 := Tryz.isAgg183
  z105 := Tryz.sizeOf183
  v105 := Tryz.zeroValue183
  t116 := Tryz.underlying208
  a116 := Tryz.isAgg208
  z116 := Tryz.sizeOf208
  t117 := Tryz.underlying209
  a117 := Tryz.isAgg209
  z117 := Tryz.sizeOf209
  v117 := Tryz.zeroValue209
  t119 := Tryz.underlying200
  a119 := Tryz.isAgg200
  z119 := Tryz.sizeOf200
  t124 := Tryz.underlying212
  a124 := Tryz.isAgg212
  z124 := Tryz.sizeOf212
  v124 := Tryz.zeroValue212
  t138 := Tryz.underlying202
  a138 := Tryz.isAgg202
  z138 := Tryz.sizeOf202
  v138 := Tryz.zeroValue202
  t139 := Tryz.underlying203
  a139 := Tryz.isAgg203
  z139 := Tryz.sizeOf203
  v139 := Tryz.zeroValue203
  g3 := by kernel_rfl
  g4 := by kernel_rfl }
open Go.RowKit in
theorem Tryz.strings_TrimLeft_one (s : ByteArray) (c : UInt8) (hc : c.toNat < 128) (w : World) :
    Calls Tryz.prog 169 #[.string s, .string ⟨#[c]⟩] w fun e w' => e = .returned (.string ⟨(Lib.trimLeftB s.data.toList c).toArray⟩) ∧ w' = w := Any.strings_TrimLeft_one Tryz.lays161 s c hc w
def Tryz.lays137_ren : Go.Shelf.Ren := ⟨fun | 137 => 177 | 217 => 171 | 266 => 182 | n => n, fun | 9 => 9 | 5 => 5 | 3 => 3 | n => n, fun | n => n⟩
theorem Tryz.lays137 : Go.Proofs.Lays.n137 Tryz.prog Tryz.lays137_ren := {
  mixed := by kernel_rfl
  f137 := Tryz.func177.trans (congrArg some (by kernel_rfl))
  f217 := Tryz.func171.trans (congrArg some (by kernel_rfl))
  f266 := Tryz.func182.trans (congrArg some (by kernel_rfl))
  t3 := Tryz.underlying3
  a3 := Tryz.isAgg3
  z3 := Tryz.sizeOf3
  v3 := Tryz.zeroValue3
  t5 := Tryz.underlying5
  a5 := Tryz.isAgg5
  z5 := Tryz.sizeOf5
  v5 := Tryz.zeroValue5
  t9 := Tryz.underlying9
  a9 := Tryz.isAgg9
  z9 := Tryz.sizeOf9
  v9 := Tryz.zeroValue9 }
open Go.RowKit in
theorem Tryz.strings_IndexByte (s : ByteArray) (c : Int) (w : World) :
    Calls Tryz.prog 177 #[.string s, .int .u8 c] w fun e w' => e = .returned (.int .i64 (Lib.indexByte s.data.toList c.toNat.toUInt8)) ∧ w' = w := Any.strings_IndexByte Tryz.lays137 s c w
def Tryz.laysM316_ren : Go.Shelf.Ren := ⟨fun | 316 => 119 | n => n, fun | 9 => 9 | 3 => 3 | 4 => 4 | 37 => 44 | 0 => 0 | 127 => 86 | 5 => 5 | n => n, fun | n => n⟩
theorem Tryz.laysM316 : Go.Proofs.LaysM.n316 Tryz.prog Tryz.laysM316_ren := {
  mixed := by kernel_rfl
  f316 := Tryz.func119.trans (congrArg some (by kernel_rfl))
  t0 := Tryz.underlying0
  a0 := Tryz.isAgg0
  z0 := Tryz.sizeOf0
  v0 := Tryz.zeroValue0
  t3 := Tryz.underlying3
  a3 := Tryz.isAgg3
  z3 := Tryz.sizeOf3
  v3 := Tryz.zeroValue3
  t4 := Tryz.underlying4
  a4 := Tryz.isAgg4
  z4 := Tryz.sizeOf4
  v4 := Tryz.zeroValue4
  t9 := Tryz.underlying9
  a9 := Tryz.isAgg9
  z9 := Tryz.sizeOf9
  v9 := Tryz.zeroValue9
  t37 := Tryz.underlying44
  a37 := Tryz.isAgg44
  z37 := Tryz.sizeOf44
  v37 := Tryz.zeroValue44
  t127 := Tryz.underlying86
  a127 := Tryz.isAgg86
  z127 := Tryz.sizeOf86
  v127 := Tryz.zeroValue86
  t5 := Tryz.underlying5
  a5 := Tryz.isAgg5
  z5 := Tryz.sizeOf5
  v5 := Tryz.zeroValue5
  i0 := by kernel_rfl
  i3 := by kernel_rfl
  i4 := by kernel_rfl
  i5 := by kernel_rfl
  i9 := by kernel_rfl
  i37 := by kernel_rfl
  i127 := by kernel_rfl }
open Go.RowKit in
theorem Tryz.stringslite_Clone (s : ByteArray) (w : World) (hlim : s.size ≤ 281474976710656) :
    Calls Tryz.prog 119 #[.string s] w fun e w' => e = .returned (.string s) ∧ Below w.heap.size w w' := Any.stringslite_Clone Tryz.laysM316 s w hlim
def Tryz.lays99_ren : Go.Shelf.Ren := ⟨fun | 99 => 176 | 206 => 184 | n => n, fun | 9 => 9 | 4 => 4 | 3 => 3 | n => n, fun | n => n⟩
theorem Tryz.lays99 : Go.Proofs.Lays.n99 Tryz.prog Tryz.lays99_ren := {
  mixed := by kernel_rfl
  f99 := Tryz.func176.trans (congrArg some (by kernel_rfl))
  f206 := Tryz.func184.trans (congrArg some (by kernel_rfl))
  t3 := Tryz.underlying3
  a3 := Tryz.isAgg3
  z3 := Tryz.sizeOf3
  v3 := Tryz.zeroValue3
  t4 := Tryz.underlying4
  a4 := Tryz.isAgg4
  z4 := Tryz.sizeOf4
  v4 := Tryz.zeroValue4
  t9 := Tryz.underlying9
  a9 := Tryz.isAgg9
  z9 := Tryz.sizeOf9
  v9 := Tryz.zeroValue9 }
open Go.RowKit Go.Lib in
theorem Tryz.strings_HasPrefix (s p : ByteArray) (w : World) :
    Calls Tryz.prog 176 #[.string s, .string p] w fun e w' => e = .returned (.bool (Lib.hasPrefix s.data.toList p.data.toList)) ∧ w' = w := Any.strings_HasPrefix Tryz.lays99 s p w
def Tryz.lays155_ren : Go.Shelf.Ren := ⟨fun | 155 => 124 | 154 => 134 | 138 => 144 | 165 => 145 | 143 => 146 | 166 => 122 | 197 => 147 | 169 => 26 | 195 => 155 | 218 => 156 | 240 => 129 | 241 => 157 | 219 => 158 | 260 => 159 | 276 => 138 | 277 => 170 | 217 => 171 | 225 => 172 | 224 => 173 | 267 => 174 | 266 => 182 | 314 => 183 | n => n, fun | 9 => 9 | 3 => 3 | 4 => 4 | 72 => 61 | 0 => 0 | 76 => 156 | 105 => 183 | 21 => 21 | 5 => 5 | 70 => 59 | 20 => 20 | 37 => 44 | 75 => 155 | 127 => 86 | 164 => 172 | 46 => 180 | 119 => 200 | 139 => 203 | 138 => 202 | 146 => 213 | 51 => 177 | 80 => 64 | n => n, fun | 1 => 3 | 3 => 4 | 4 => 5 | n => n⟩
theorem Tryz.lays155 : Go.Proofs.Lays.n155 Tryz.prog Tryz.lays155_ren := {
  mixed := by kernel_rfl
  f138 := Tryz.func144.trans (congrArg some (by kernel_rfl))
  f143 := Tryz.func146.trans (congrArg some (by kernel_rfl))
  f154 := Tryz.func134.trans (congrArg some (by kernel_rfl))
  f155 := Tryz.func124.trans (congrArg some (by kernel_rfl))
  f165 := Tryz.func145.trans (congrArg some (by kernel_rfl))
  f166 := Tryz.func122.trans (congrArg some (by kernel_rfl))
  f169 := Tryz.func26.trans (congrArg some (by kernel_rfl))
  f195 := Tryz.func155.trans (congrArg some (by kernel_rfl))
  f197 := Tryz.func147.trans (congrArg some (by kernel_rfl))
  f217 := Tryz.func171.trans (congrArg some (by kernel_rfl))
  f218 := Tryz.func156.trans (congrArg some (by kernel_rfl))
  f219 := Tryz.func158.trans (congrArg some (by kernel_rfl))
  f224 := Tryz.func173.trans (congrArg some (by kernel_rfl))
  f225 := Tryz.func172.trans (congrArg some (by kernel_rfl))
  f240 := Tryz.func129.trans (congrArg some (by kernel_rfl))
  f241 := Tryz.func157.trans (congrArg some (by kernel_rfl))
  f260 := Tryz.func159.trans (congrArg some (by kernel_rfl))
  f266 := Tryz.func182.trans (congrArg some (by kernel_rfl))
  f267 := Tryz.func174.trans (congrArg some (by kernel_rfl))
  f276 := Tryz.func138.trans (congrArg some (by kernel_rfl))
  f277 := Tryz.func170.trans (congrArg some (by kernel_rfl))
  f314 := Tryz.func183.trans (congrArg some (by kernel_rfl))
  t0 := Tryz.underlying0
  a0 := Tryz.isAgg0
  z0 := Tryz.sizeOf0
  v0 := Tryz.zeroValue0
  t3 := Tryz.underlying3
  a3 := Tryz.isAgg3
  z3 := Tryz.sizeOf3
  v3 := Tryz.zeroValue3
  t4 := Tryz.underlying4
  a4 := Tryz.isAgg4
  z4 := Tryz.sizeOf4
  v4 := Tryz.zeroValue4
  t5 := Tryz.underlying5
  a5 := Tryz.isAgg5
  z5 := Tryz.sizeOf5
  v5 := Tryz.zeroValue5
  t9 := Tryz.underlying9
  a9 := Tryz.isAgg9
  z9 := Tryz.sizeOf9
  v9 := Tryz.zeroValue9
  t20 := Tryz.underlying20
  a20 := Tryz.isAgg20
  z20 := Tryz.sizeOf20
  v20 := Tryz.zeroValue20
  t21 := Tryz.underlying21
  a21 := Tryz.isAgg21
  z21 := Tryz.sizeOf21
  v21 := Tryz.zeroValue21
  t37 := Tryz.underlying44
  a37 := Tryz.isAgg44
  z37 := Tryz.sizeOf44
  v37 := Tryz.zeroValue44
  t46 := Tryz.underlying180
  a46 := Tryz.isAgg180
  z46 := Tryz.sizeOf180
  v46 := Tryz.zeroValue180
  t51 := Tryz.underlying177
  a51 := Tryz.isAgg177
  z51 := Tryz.sizeOf177
  v51 := Tryz.zeroValue177
  t70 := Tryz.underlying59
  a70 := Tryz.isAgg59
  z70 := Tryz.sizeOf59
  v70 := Tryz.zeroValue59
  t72 := Tryz.underlying61
  a72 := Tryz.isAgg61
  z72 := Tryz.sizeOf61
  v72 := Tryz.zeroValue61
  t75 := Tryz.underlying155
  a75 := Tryz.isAgg155
  z75 := Tryz.sizeOf155
  v75 := Tryz.zeroValue155
  t76 := Tryz.underlying156
  a76 := Tryz.isAgg156
  z76 := Tryz.sizeOf156
  v76 := Tryz.zeroValue156
  t105 := Tryz.underlying183
  a105 := Tryz.isAgg183
  z105 := Tryz.sizeOf183
  v105 := Tryz.zeroValue183
  t119 := Tryz.underlying200
  a119 := Tryz.isAgg200
  z119 := Tryz.sizeOf200
  t127 := Tryz.underlying86
  a127 := Tryz.isAgg86
  z127 := Tryz.sizeOf86
  v127 := Tryz.zeroValue86
  t138 := Tryz.underlying202
  a138 := Tryz.isAgg202
  z138 := Tryz.sizeOf202
  v138 := Tryz.zeroValue202
  t139 := Tryz.underlying203
  a139 := Tryz.isAgg203
  z139 := Tryz.sizeOf203
  v139 := Tryz.zeroValue203
  t146 := Tryz.underlying213
  a146 := Tryz.isAgg213
  z146 := Tryz.sizeOf213
  v146 := Tryz.zeroValue213
  t164 := Tryz.underlying172
  a164 := Tryz.isAgg172
  z164 := Tryz.sizeOf172
  v164 := Tryz.zeroValue172
  g1 := by kernel_rfl
  g3 := by kernel_rfl
  g4 := by kernel_rfl }
theorem Tryz.Builder_Extra_155 : Builder.Extra Tryz.prog Tryz.lays155_ren := {
  sizeBuilder := by kernel_rfl
  liesBuilder := by kernel_rfl
  t5 := Tryz.underlying5
  a5 := Tryz.isAgg5
  z5 := Tryz.sizeOf5
  v5 := Tryz.zeroValue5
  infoByte := by kernel_rfl
  cellsByte := by kernel_rfl
  sizeByte := by kernel_rfl
  neB5 := by decide }
open Go.RowKit Go.Lib in
theorem Tryz.strings_ReplaceAll (s old new : ByteArray) (m : Int) (w : World) (hs : s.size < 4294967281) (hm : w.cell? ⟨3, 0, none⟩ = some (.int .i64 m)) (h1 : 1 ≤ old.size) (hlen : s.size + Lib.countB s old * new.size ≤ 140737488355328) :
    Calls Tryz.prog 124 #[.string s, .string old, .string new] w fun e w' =>
      e = .returned (.string ⟨(Lib.replaceAll s.data.toList old.data.toList new.data.toList).toArray⟩) ∧ Below w.heap.size w w' := Any.strings_ReplaceAll Tryz.lays155 Tryz.Builder_Extra_155 s old new m w hs hm h1 hlen
def Tryz.lays110_ren : Go.Shelf.Ren := ⟨fun | 110 => 164 | 109 => 175 | n => n, fun | 31 => 25 | 9 => 9 | 4 => 4 | 3 => 3 | 0 => 0 | n => n, fun | n => n⟩
theorem Tryz.lays110 : Go.Proofs.Lays.n110 Tryz.prog Tryz.lays110_ren := {
  mixed := by kernel_rfl
  f109 := Tryz.func175.trans (congrArg some (by kernel_rfl))
  f110 := Tryz.func164.trans (congrArg some (by kernel_rfl))
  t0 := Tryz.underlying0
  a0 := Tryz.isAgg0
  z0 := Tryz.sizeOf0
  v0 := Tryz.zeroValue0
  t3 := Tryz.underlying3
  a3 := Tryz.isAgg3
  z3 := Tryz.sizeOf3
  v3 := Tryz.zeroValue3
  t4 := Tryz.underlying4
  a4 := Tryz.isAgg4
  z4 := Tryz.sizeOf4
  v4 := Tryz.zeroValue4
  t9 := Tryz.underlying9
  a9 := Tryz.isAgg9
  z9 := Tryz.sizeOf9
  v9 := Tryz.zeroValue9
  t31 := Tryz.underlying25
  a31 := Tryz.isAgg25
  z31 := Tryz.sizeOf25
  v31 := Tryz.zeroValue25 }
open Go.Lib in
theorem Tryz.slices_Contains_string (b off n c : Nat) (zs : List ByteArray) (x : ByteArray) (w : World) (hz : n ≤ zs.length) (hbig : n ≤ 9223372036854775807) (hc : ∀ j, j < zs.length → w.cell? ⟨b, off + j, none⟩ = some (.string (zs.getD j ByteArray.empty))) :
    Calls Tryz.prog 164 #[.slice (some ⟨b, off, none⟩) n c, .string x] w fun e w' => e = .returned (.bool (Lib.containsS (zs.take n) x)) ∧ w' = w := Any.slices_Contains_string Tryz.lays110 b off n c zs x w hz hbig hc
end Go.Proofs

namespace Go.Proofs.YtdfambocenohgaaGreatDoor
open Go.RowKit Go.Deep Go.Shelf
set_option linter.unusedVariables false
set_option linter.unusedSimpArgs false
set_option maxRecDepth 100000 in
theorem cloneX_any (w : World) (s : ByteArray) (hlim : s.size ≤ 281474976710656) : Calls Tryz.prog 94 #[.string s] w fun e w' => e = .returned (.string s) ∧ Below w.heap.size w w' := by
  have K := hid (Tryz.stringslite_Clone s w hlim)
  clear hlim
  go_enter Tryz.func94, Tryz.ntmps94
  go_wp2_with (go_at_call 119; (refine (Hid.out K).mono ?_; rintro e w1 ⟨rfl, hb⟩; have HB := hid hb; clear hb))
  go_ret
  exact ⟨rfl, HB.out⟩
theorem heap_lt {W : World} {b : Nat} {o : Obj} (h : W.heap[b]? = some o) : b < W.heap.size := (Array.getElem?_eq_some_iff.1 h).1
theorem set_at {W : World} {b : Nat} {c : Array Value} {T : TypeId} (h : W.heap[b]? = some (.cells c T (0, 0))) (o : Nat) (v : Value) : (W.setCell ⟨b, o, none⟩ v).heap[b]? = some (.cells (c.setIfInBounds o v) T (0, 0)) := by
  simp [World.setCell, Array.getElem?_modify, h]
theorem set_same {W : World} {b o : Nat} {c : Array Value} {T : TypeId} {v : Value} (h : W.heap[b]? = some (.cells c T (0, 0))) (hv : c[o]? = some v) : Below W.heap.size W (W.setCell ⟨b, o, none⟩ v) := by
  refine ⟨rfl, rfl, rfl, by simp [World.setCell], fun k hk => ?_⟩
  by_cases hkb : k = b
  · subst hkb
    rw [set_at h, h]
    congr 2
    apply Array.ext_getElem?
    intro i
    by_cases hio : i = o
    · subst hio
      have := (Array.getElem?_eq_some_iff.1 hv).1
      rw [Array.getElem?_setIfInBounds_self_of_lt this, hv]
    · rw [Array.getElem?_setIfInBounds_ne (by omega)]
  · exact Below.heap_setCell _ _ _ _ hkb
/- A pointer to a text, in the cell j of block P. -/
def Ptr (w : World) (P j : Nat) : Prop := ∃ (b o : Nat) (s : ByteArray) (c : Array Value) (T : TypeId), w.cell? ⟨P, j, none⟩ = some (.pointer (some ⟨b, o, none⟩)) ∧ w.heap[b]? = some (.cells c T (0, 0)) ∧ c[o]? = some (.string s) ∧ s.size ≤ 140737488351232
set_option maxRecDepth 100000 in
set_option maxHeartbeats 1000000 in
theorem copyTexts_any (w : World) (P n c : Nat) (hn : n ≤ 4) (hp : ∀ j, j < n → Ptr w P j) : Calls Tryz.prog 66 #[.slice (some ⟨P, 0, none⟩) n c] w fun e w' => (∃ v, e = .returned v) ∧ Below w.heap.size w w' := by
  have HP := hid hp
  have nI : (n : Int) ≤ 4 := by omega
  clear hp
  go_enter Tryz.func66, Tryz.ntmps66
  go_wp2
  go_loopg [6] n (fun g x wr => ∃ i : Nat, i + g = n ∧ x = .int .i64 (i : Int) ∧ Below w.heap.size w wr)
  case atStart => exact ⟨0, by omega, rfl, Below.refl _ _⟩
  case round =>
    obtain ⟨i, hi, rfl, hb⟩ := hrel
    have HB := hid hb
    have HI := hid hi
    clear hb
    cases gk with
    | zero =>
      have hin : i = n := by omega
      subst hin
      clear hi
      go_wp2
      go_end0
      exact ⟨⟨_, rfl⟩, HB.out⟩
    | succ g =>
      have hil : (i : Int) < (n : Int) := by omega
      have hi0 : (0 : Int) ≤ (i : Int) := by omega
      obtain ⟨b, o, s, cs, T, h1, h2, h3, h4⟩ := HP.out i (by omega)
      have h1' := belowCell h1 (Nat.le_refl _) HB.out
      have h2' := (HB.out.block b (heap_lt h2)).trans h2
      have c1 := cellT h2' o
      rw [h3] at c1
      have K := hid (cloneX_any wr s (by omega))
      have H2 := hid h2'
      have H3 := hid h3
      clear hi h1 h2 h2' h3 h4
      go_wp2_with (go_at_call 94; (refine (Hid.out K).mono ?_; rintro e w1 ⟨rfl, hb1⟩; have H4 := hid ((hb1.block b (heap_lt H2.out)).trans H2.out); have HB1 := hid hb1; have c2 := cellT H4.out o; rw [H3.out] at c2; have f2 := freeT H4.out o; clear hb1))
      go_roundg g
      case measure => omega
      case rel => exact ⟨i + 1, by have := HI.out; omega, by go_num, (HB.out.trans (HB1.out.mono HB.out.size)).trans ((set_same H4.out H3.out).mono (Nat.le_trans HB.out.size HB1.out.size))⟩
/- A row copied. -/
def Cpd (w : World) (n : Nat) (E : TypeId) (news : List Value) (v : Value) (w' : World) : Prop :=
  (n = 0 ∧ v = .slice none 0 0 ∧ w' = w) ∨ (0 < n ∧ ∃ (cap : Nat) (cs : Array Value), v = .slice (some ⟨w.heap.size, 0, none⟩) n cap ∧ w' = w.drew.alloc (.cells cs E) ∧ ∀ (j : Nat) (u : Value), news[j]? = some u → cs[j]? = some u)
def NRd (w : World) (a : Option Addr) (news : List Value) : Prop := ∀ j v, news[j]? = some v → ∃ b off, a = some ⟨b, off, none⟩ ∧ w.cell? ⟨b, off + j, none⟩ = some v
theorem run_cp {T E : TypeId} {k bytes : Nat} {z : Value} (hU : Tryz.prog.underlying T = some (.slice E)) (hI : (Tryz.prog.info? E).map (fun i => (i.zero, i.size, i.bytes)) = some (some z, k, bytes)) (hz : z.cells.size = k) (k0 : 0 < k) (hby : bytes ≤ 1000)
    (w : World) (ty : TypeId) (a : Option Addr) (n c : Nat) (news : List Value) (hl : news.length = n * k) (hr : NRd w a news) (hn : n ≤ 1000000) :
    ∃ v w', (Builtin.append_ #[T, T] ty #[.slice none 0 0, .slice a n c]).run Tryz.prog w = .ok v w' ∧ Cpd w n E news v w' := by
  obtain ⟨i0, hi, hz0, hz1, hz2⟩ := info_parts hI
  rcases Nat.eq_zero_or_pos n with h0 | h0
  · subst h0
    refine ⟨_, _, ?_, .inl ⟨rfl, rfl, rfl⟩⟩
    cases a <;> simp [Builtin.append_, run_underlying hU, sizeOf, typeInfo, hi, Builtin.lenOf, Builtin.firstCells, loadCells, loadCellsFrom]
  · have hlen : 0 < news.length := by rw [hl]; exact Nat.mul_pos h0 k0
    obtain ⟨b, off, rfl, _⟩ := hr 0 news[0] (List.getElem?_eq_getElem hlen)
    have hr' : ∀ j v, news[j]? = some v → w.cell? ((⟨b, off, none⟩ : Addr).add j) = some v := fun j v e => by
      obtain ⟨b', off', e', hc⟩ := hr j v e
      cases e'
      rw [Addr.add_lit]; exact hc
    have hrun := run_append_nil (P := Tryz.prog) w T ty E i0 z hU hi hz0 ⟨b, off, none⟩ n c news (by rw [hl, hz1]) hr' h0 (by omega) (by
      have : n * i0.bytes ≤ 1000000 * 1000 := Nat.mul_le_mul hn (by rw [hz2]; exact hby)
      omega)
    refine ⟨_, _, hrun, .inr ⟨h0, _, _, rfl, rfl, fun j u e => ?_⟩⟩
    have hj := (List.getElem?_eq_some_iff.1 e).1
    rw [Array.getElem?_append_left (by simpa using hj)]
    simpa using e
theorem wpList_cp {T E : TypeId} {k bytes : Nat} {z : Value} (hU : Tryz.prog.underlying T = some (.slice E)) (hI : (Tryz.prog.info? E).map (fun i => (i.zero, i.size, i.bytes)) = some (some z, k, bytes)) (hz : z.cells.size = k) (k0 : 0 < k) (hby : bytes ≤ 1000)
    {ops : Array Oper} {rest : List Oper} {o : Oper} {act : Act} {Q : Exit → Act → World → Prop} (w : World) (hgd : o.guard = none) (s x : Operand)
    (ho : o.op = .call { callee := .builtin .append, args := #[s, x], argTypes := #[T, T] }) (a : Option Addr) (n c : Nat) (hs : act.eval s = .slice none 0 0) (hx : act.eval x = .slice a n c) (news : List Value) (hl : news.length = n * k) (hr : NRd w a news) (hn : n ≤ 1000000)
    (kk : ∀ v w', Cpd w n E news v w' → wpList Tryz.prog ops Q rest (act.put o.dst v) w') :
    wpList Tryz.prog ops Q (o :: rest) act w := by
  refine wpList_plain hgd fun K hK => ?_
  obtain ⟨v', w', hrun, h2⟩ := run_cp hU hI hz k0 hby w o.type a n c news hl hr hn
  unfold Oper.wp execOp
  simp only [ho, resolve, invoke, builtin, Sem.run_bind, Sem.run_pure, Result.andThen_ok, List.map_toArray, List.map_cons, List.map_nil, hs, hx, hrun]
  exact hK _ _ (kk v' w' h2)
theorem infoE52 : (Tryz.prog.info? 52).map (fun i => (i.zero, i.size, i.bytes)) = some (some (.agg #[.string ⟨#[]⟩, .slice none 0 0, .string ⟨#[]⟩, .string ⟨#[]⟩, .string ⟨#[]⟩, .slice none 0 0, .int .i64 0]), 7, 120) := by kernel_rfl
set_option maxRecDepth 100000 in
theorem copied65_any (w : World) (a : Option Addr) (n c : Nat) (news : List Value) (hl : news.length = n * 7) (hr : NRd w a news) (hn : n ≤ 1000000) : Calls Tryz.prog 65 #[.slice a n c] w fun e w' => ∃ v, e = .returned v ∧ Cpd w n 52 news v w' := by
  have HL := hid hl
  have HR := hid hr
  clear hl hr
  go_enter Tryz.func65, Tryz.ntmps65
  go_wp2_with (at_builtin; refine wpList_cp Tryz.underlying22 infoE52 rfl (by decide) (by decide) w rfl _ _ rfl a n c (by rfl) (by rfl) news HL.out HR.out hn ?_; intro v' w' H1)
  go_ret
  exact ⟨v', rfl, H1⟩
theorem infoE88 : (Tryz.prog.info? 88).map (fun i => (i.zero, i.size, i.bytes)) = some (some (.agg #[.string ⟨#[]⟩, .string ⟨#[]⟩]), 2, 32) := by kernel_rfl
set_option maxRecDepth 100000 in
theorem copied67_any (w : World) (a : Option Addr) (n c : Nat) (news : List Value) (hl : news.length = n * 2) (hr : NRd w a news) (hn : n ≤ 1000000) : Calls Tryz.prog 67 #[.slice a n c] w fun e w' => ∃ v, e = .returned v ∧ Cpd w n 88 news v w' := by
  have HL := hid hl
  have HR := hid hr
  clear hl hr
  go_enter Tryz.func67, Tryz.ntmps67
  go_wp2_with (at_builtin; refine wpList_cp Tryz.underlying50 infoE88 rfl (by decide) (by decide) w rfl _ _ rfl a n c (by rfl) (by rfl) news HL.out HR.out hn ?_; intro v' w' H1)
  go_ret
  exact ⟨v', rfl, H1⟩
theorem infoE49 : (Tryz.prog.info? 49).map (fun i => (i.zero, i.size, i.bytes)) = some (some (.agg #[.int .i64 0, .string ⟨#[]⟩, .string ⟨#[]⟩, .string ⟨#[]⟩, .slice none 0 0, .slice none 0 0, .slice none 0 0, .int .i64 0]), 8, 136) := by kernel_rfl
set_option maxRecDepth 100000 in
theorem copied68_any (w : World) (a : Option Addr) (n c : Nat) (news : List Value) (hl : news.length = n * 8) (hr : NRd w a news) (hn : n ≤ 1000000) : Calls Tryz.prog 68 #[.slice a n c] w fun e w' => ∃ v, e = .returned v ∧ Cpd w n 49 news v w' := by
  have HL := hid hl
  have HR := hid hr
  clear hl hr
  go_enter Tryz.func68, Tryz.ntmps68
  go_wp2_with (at_builtin; refine wpList_cp Tryz.underlying47 infoE49 rfl (by decide) (by decide) w rfl _ _ rfl a n c (by rfl) (by rfl) news HL.out HR.out hn ?_; intro v' w' H1)
  go_ret
  exact ⟨v', rfl, H1⟩
theorem infoE28 : (Tryz.prog.info? 28).map (fun i => (i.zero, i.size, i.bytes)) = some (some (.agg #[.int .i64 0, .int .i64 0, .int .i64 0, .string ⟨#[]⟩, .string ⟨#[]⟩, .slice none 0 0, .slice none 0 0, .int .i64 0]), 8, 112) := by kernel_rfl
set_option maxRecDepth 100000 in
theorem copied69_any (w : World) (a : Option Addr) (n c : Nat) (news : List Value) (hl : news.length = n * 8) (hr : NRd w a news) (hn : n ≤ 1000000) : Calls Tryz.prog 69 #[.slice a n c] w fun e w' => ∃ v, e = .returned v ∧ Cpd w n 28 news v w' := by
  have HL := hid hl
  have HR := hid hr
  clear hl hr
  go_enter Tryz.func69, Tryz.ntmps69
  go_wp2_with (at_builtin; refine wpList_cp Tryz.underlying26 infoE28 rfl (by decide) (by decide) w rfl _ _ rfl a n c (by rfl) (by rfl) news HL.out HR.out hn ?_; intro v' w' H1)
  go_ret
  exact ⟨v', rfl, H1⟩
theorem infoE9 : (Tryz.prog.info? 9).map (fun i => (i.zero, i.size, i.bytes)) = some (some (.string ⟨#[]⟩), 1, 16) := by kernel_rfl
set_option maxRecDepth 100000 in
theorem copied70_any (w : World) (a : Option Addr) (n c : Nat) (news : List Value) (hl : news.length = n * 1) (hr : NRd w a news) (hn : n ≤ 1000000) : Calls Tryz.prog 70 #[.slice a n c] w fun e w' => ∃ v, e = .returned v ∧ Cpd w n 9 news v w' := by
  have HL := hid hl
  have HR := hid hr
  clear hl hr
  go_enter Tryz.func70, Tryz.ntmps70
  go_wp2_with (at_builtin; refine wpList_cp Tryz.underlying25 infoE9 rfl (by decide) (by decide) w rfl _ _ rfl a n c (by rfl) (by rfl) news HL.out HR.out hn ?_; intro v' w' H1)
  go_ret
  exact ⟨v', rfl, H1⟩
end Go.Proofs.YtdfambocenohgaaGreatDoor

namespace Go.Proofs.YtdfambocenohgaaGreatDoor
set_option linter.unusedSimpArgs false
open Go
set_option linter.unusedVariables false
section
variable {P : Program} {ops : Array Oper} {Q : Exit → Act → World → Prop} {md : Region.Mode} {S : World → Prop} {L : Nat}
/- Whatever order is picked; S holds behind every operation up to number L. -/
def wpAnyJ (P : Program) (md : Region.Mode) (ops : Array Oper) (Q : Exit → Act → World → Prop) (L : Nat) (S : World → Prop) : Nat → Array Bool → Act → World → Prop
  | 0, listed, a, w => Region.ready md ops listed = [] ∧ Q .normal a w
  | fuel + 1, listed, a, w =>
    (Region.ready md ops listed = [] → Q .normal a w) ∧
    ∀ i ∈ Region.ready md ops listed, wpOp P ops Q i (fun a' w' => (i = L ∨ listed.getD L true = true ∨ S w') ∧ wpAnyJ P md ops Q L S fuel (listed.setIfInBounds i true) a' w') a w
theorem wpAny_of_J : ∀ (fuel : Nat) (listed : Array Bool) (a : Act) (w : World), wpAnyJ P md ops Q L S fuel listed a w → wpAny P md ops Q fuel listed a w
  | 0, _, _, _, h => h
  | fuel + 1, _, _, _, h => ⟨h.1, fun i hi => wpOp_mono (fun a' w' h' => wpAny_of_J fuel _ a' w' h'.2) (h.2 i hi)⟩
/- A row of operations, each waiting for the one ahead of it, none of them done. -/
def chainOk (md : Region.Mode) (ops : Array Oper) (listed : Array Bool) : List Nat → Bool
  | [] => false
  | c :: r => !listed.getD c true && (match r with
    | [] => true
    | d :: _ => ((ops[d]?).map (fun o => o.after.any fun e => Region.binds md e && e.on == c)).getD false && chainOk md ops listed r)
theorem chainOk_ne {listed : Array Bool} {j : Nat} : ∀ {c : Nat} {r : List Nat}, chainOk md ops listed (c :: r) = true → j ∈ Region.ready md ops listed → j ∉ r
  | c, [], _, _ => by simp
  | c, d :: r, h, hj => by
    unfold chainOk at h
    simp only [Bool.and_eq_true, Bool.not_eq_true'] at h
    obtain ⟨h0, h1, h2⟩ := h
    intro hm
    rcases List.mem_cons.1 hm with rfl | hm
    · obtain ⟨_, o, ho, hall⟩ := mem_ready.1 hj
      rw [ho] at h1
      simp only [Option.map_some, Option.getD_some, Array.any_eq_true] at h1
      obtain ⟨q, hq, he⟩ := h1
      simp only [Bool.and_eq_true, beq_iff_eq] at he
      have h3 := hall _ (Array.getElem_mem hq) he.1
      rw [he.2] at h3
      rcases Nat.lt_or_ge c listed.size with h' | h'
      · simp [h'] at h0 h3; rw [h0] at h3; cases h3
      · simp [Array.getElem?_eq_none h'] at h0
    · exact chainOk_ne h2 hj hm
theorem chainOk_set {listed : Array Bool} {j : Nat} : ∀ {l : List Nat}, chainOk md ops listed l = true → j ∉ l → chainOk md ops (listed.setIfInBounds j true) l = true
  | [], h, _ => h
  | [c], h, hj => by
    unfold chainOk at h ⊢
    rw [getD_set_ne true (by intro e; exact hj (by rw [e]; exact List.mem_cons_self ..))]
    exact h
  | c :: d :: r, h, hj => by
    unfold chainOk at h ⊢
    simp only [Bool.and_eq_true] at h ⊢
    rw [getD_set_ne true (by intro e; exact hj (by rw [e]; exact List.mem_cons_self ..))]
    exact ⟨h.1, h.2.1, chainOk_set h.2.2 (fun hm => hj (List.mem_cons_of_mem _ hm))⟩

theorem chainOk_un {listed : Array Bool} {x : Nat} : ∀ {l : List Nat}, chainOk md ops listed l = true → x ∈ l → listed.getD x true = false
  | [c], h, hx => by
    unfold chainOk at h
    rw [List.mem_singleton.1 hx]
    simpa using h
  | c :: d :: r, h, hx => by
    unfold chainOk at h
    simp only [Bool.and_eq_true, Bool.not_eq_true'] at h
    rcases List.mem_cons.1 hx with rfl | hx
    · exact h.1
    · exact chainOk_un h.2.2 hx
theorem wpAnyJ_first {i : Nat} {oi : Oper} {v : Value} {r : List Nat} (hi : ops[i]? = some oi) (hsel : ∀ (j : Nat) (o : Oper) cs b, ops[j]? = some o → o.op ≠ .select cs b)
    (hQ : ∀ c a w, Q (.panic c) (a.put oi.dst v) w → Q (.panic c) a w) (hLr : L ∈ r) :
    ∀ (fuel : Nat) (listed : Array Bool) (a : Act) (w : World),
      (∀ j oj, ops[j]? = some oj → j ≠ i → listed.getD j true = false → (∀ e ∈ oj.after, Region.binds md e = true → e.on ≠ i) → oi.apart ops oj = true) →
      i ∈ Region.ready md ops listed → chainOk md ops listed (i :: r) = true → YieldsIf P ops S oi v a → S w →
      wpAnyJ P md ops Q L S fuel (listed.setIfInBounds i true) (a.put oi.dst v) w → wpAnyJ P md ops Q L S (fuel + 1) listed a w := by
  intro fuel
  induction fuel with
  | zero =>
    intro listed a w _ hr _ hy hS H
    refine ⟨fun h => (by rw [h] at hr; cases hr), fun j hj => ?_⟩
    by_cases hji : j = i
    · subst hji; exact hy.wpOp hi hS ⟨.inr (.inr hS), H⟩
    · have := ready_mono hj hji
      rw [H.1] at this
      cases this
  | succ fuel ih =>
    intro listed a w hfree hr hch hy hS H
    refine ⟨fun h => (by rw [h] at hr; cases hr), fun j hj => ?_⟩
    by_cases hji : j = i
    · subst hji; exact hy.wpOp hi hS ⟨.inr (.inr hS), H⟩
    · have h1 := H.2 j (ready_mono hj hji)
      obtain ⟨hjun, oj, hoj, hall⟩ := mem_ready.1 hj
      have hnot : ∀ e ∈ oj.after, Region.binds md e = true → e.on ≠ i := fun e he hb heq => by
        have h1 := hall e he hb
        have h0 := (mem_ready.1 hr).1
        rw [heq] at h1
        rcases Nat.lt_or_ge i listed.size with h' | h'
        · simp [h'] at h0 h1; rw [h0] at h1; cases h1
        · simp [Array.getElem?_eq_none h'] at h1
      have hjr : j ∉ r := chainOk_ne hch hj
      have hjL : j ≠ L := fun e => hjr (by rw [e]; exact hLr)
      have hun := chainOk_un hch (List.mem_cons_of_mem _ hLr)
      have hiL : i ≠ L := fun e => by
        subst e
        cases r with
        | nil => cases hLr
        | cons d r => exact (chainOk_ne hch hr) hLr
      have h2 := wpOp_putIf hoj (hfree j oj hoj hji hjun hnot) (fun cs b => hsel i oi cs b hi) (fun cs b => hsel j oj cs b hoj) hQ hy h1
      have hfree' : ∀ k ok, ops[k]? = some ok → k ≠ i → (listed.setIfInBounds j true).getD k true = false →
          (∀ e ∈ ok.after, Region.binds md e = true → e.on ≠ i) → oi.apart ops ok = true := fun k ok hk hki hun hno => by
        refine hfree k ok hk hki ?_ hno
        by_cases hjk : j = k
        · subst hjk; exact hjun
        · rw [getD_set_ne true hjk] at hun; exact hun
      refine wpOp_mono (fun a' w' h3 => ?_) h2
      have hs' : S w' := by
        rcases h3.2.1 with h4 | h4 | h4
        · exact absurd h4 hjL
        · rw [getD_set_ne true hiL, hun] at h4; cases h4
        · exact h4
      refine ⟨.inr (.inr hs'), ih (listed.setIfInBounds j true) a' w' hfree' (ready_mono hr (Ne.symm hji)) (chainOk_set hch (fun hm => (List.mem_cons.1 hm).elim hji hjr)) h3.1 hs' ?_⟩
      rw [Array.setIfInBounds_comm _ _ hji]
      exact h3.2.2
theorem wpAnyJ_take {i : Nat} {oi : Oper} {v : Value} {fuel : Nat} {listed : Array Bool} {a : Act} {w : World} (r : List Nat) (hi : ops[i]? = some oi)
    (hs : Region.noSelect ops = true) (hf : Region.free md ops listed i = true) (hr : (Region.ready md ops listed).contains i = true) (hc : (chainOk md ops listed (i :: r) && r.contains L) = true)
    (hQ : ∀ c a w, Q (.panic c) (a.put oi.dst v) w → Q (.panic c) a w) (hy : YieldsIf P ops S oi v a) (hS : S w)
    (h : wpAnyJ P md ops Q L S fuel (listed.setIfInBounds i true) (a.put oi.dst v) w) : wpAnyJ P md ops Q L S (fuel + 1) listed a w := by
  simp only [Bool.and_eq_true] at hc
  exact wpAnyJ_first hi (Region.noSelect_spec hs) hQ (by simpa using hc.2) fuel listed a w (Region.free_spec hi hf) (by simpa using hr) hc.1 hy hS h
/- What yields in whatever world is taken at any time. -/
theorem wpAnyJ_firstW {i : Nat} {oi : Oper} {v : Value} (hi : ops[i]? = some oi) (hsel : ∀ (j : Nat) (o : Oper) cs b, ops[j]? = some o → o.op ≠ .select cs b)
    (hQ : ∀ c a w, Q (.panic c) (a.put oi.dst v) w → Q (.panic c) a w) (hiL : i ≠ L) :
    ∀ (fuel : Nat) (listed : Array Bool) (a : Act) (w : World),
      (∀ j oj, ops[j]? = some oj → j ≠ i → listed.getD j true = false → (∀ e ∈ oj.after, Region.binds md e = true → e.on ≠ i) → oi.apart ops oj = true) →
      i ∈ Region.ready md ops listed → YieldsIf P ops (fun _ => True) oi v a → (listed.getD L true = true ∨ S w) →
      wpAnyJ P md ops Q L S fuel (listed.setIfInBounds i true) (a.put oi.dst v) w → wpAnyJ P md ops Q L S (fuel + 1) listed a w := by
  intro fuel
  induction fuel with
  | zero =>
    intro listed a w _ hr hy hS H
    refine ⟨fun h => (by rw [h] at hr; cases hr), fun j hj => ?_⟩
    by_cases hji : j = i
    · subst hji; exact hy.wpOp hi trivial ⟨.inr hS, H⟩
    · have := ready_mono hj hji
      rw [H.1] at this
      cases this
  | succ fuel ih =>
    intro listed a w hfree hr hy hS H
    refine ⟨fun h => (by rw [h] at hr; cases hr), fun j hj => ?_⟩
    by_cases hji : j = i
    · subst hji; exact hy.wpOp hi trivial ⟨.inr hS, H⟩
    · have h1 := H.2 j (ready_mono hj hji)
      obtain ⟨hjun, oj, hoj, hall⟩ := mem_ready.1 hj
      have hnot : ∀ e ∈ oj.after, Region.binds md e = true → e.on ≠ i := fun e he hb heq => by
        have h1 := hall e he hb
        have h0 := (mem_ready.1 hr).1
        rw [heq] at h1
        rcases Nat.lt_or_ge i listed.size with h' | h'
        · simp [h'] at h0 h1; rw [h0] at h1; cases h1
        · simp [Array.getElem?_eq_none h'] at h1
      have h2 := wpOp_putIf hoj (hfree j oj hoj hji hjun hnot) (fun cs b => hsel i oi cs b hi) (fun cs b => hsel j oj cs b hoj) hQ hy h1
      have hfree' : ∀ k ok, ops[k]? = some ok → k ≠ i → (listed.setIfInBounds j true).getD k true = false →
          (∀ e ∈ ok.after, Region.binds md e = true → e.on ≠ i) → oi.apart ops ok = true := fun k ok hk hki hun hno => by
        refine hfree k ok hk hki ?_ hno
        by_cases hjk : j = k
        · subst hjk; exact hjun
        · rw [getD_set_ne true hjk] at hun; exact hun
      refine wpOp_mono (fun a' w' h3 => ?_) h2
      have hk : j = L ∨ listed.getD L true = true ∨ S w' := by
        rcases h3.2.1 with h4 | h4 | h4
        · exact .inl h4
        · rw [getD_set_ne true hiL] at h4; exact .inr (.inl h4)
        · exact .inr (.inr h4)
      have hk' : (listed.setIfInBounds j true).getD L true = true ∨ S w' := by
        rcases hk with rfl | h4 | h4
        · left
          rcases Nat.lt_or_ge j listed.size with h' | h'
          · simp [h']
          · simp [Array.getElem?_eq_none h']
        · left
          by_cases hjL : j = L
          · subst hjL
            rcases Nat.lt_or_ge j listed.size with h' | h'
            · simp [h']
            · simp [Array.getElem?_eq_none h']
          · rw [getD_set_ne true hjL]; exact h4
        · exact .inr h4
      refine ⟨hk, ih (listed.setIfInBounds j true) a' w' hfree' (ready_mono hr (Ne.symm hji)) h3.1 hk' ?_⟩
      rw [Array.setIfInBounds_comm _ _ hji]
      exact h3.2.2
theorem wpAnyJ_takeW {i : Nat} {oi : Oper} {v : Value} {fuel : Nat} {listed : Array Bool} {a : Act} {w : World} (hi : ops[i]? = some oi)
    (hs : Region.noSelect ops = true) (hf : Region.free md ops listed i = true) (hr : (Region.ready md ops listed).contains i = true) (hc : (i == L) = false)
    (hQ : ∀ c a w, Q (.panic c) (a.put oi.dst v) w → Q (.panic c) a w) (hy : YieldsIf P ops (fun _ => True) oi v a) (hS : listed.getD L true = true ∨ S w)
    (h : wpAnyJ P md ops Q L S fuel (listed.setIfInBounds i true) (a.put oi.dst v) w) : wpAnyJ P md ops Q L S (fuel + 1) listed a w :=
  wpAnyJ_firstW hi (Region.noSelect_spec hs) hQ (by simpa using hc) fuel listed a w (Region.free_spec hi hf) (by simpa using hr) hy hS h
/- One operation alone may come up, ahead of L. -/
theorem wpAnyJ_one {i : Nat} {o : Oper} {fuel : Nat} {listed : Array Bool} {a : Act} {w : World} (hr : Region.ready md ops listed = [i]) (ho : ops[i]? = some o)
    (h : ∀ K' : Act → World → Prop, Shut (∀ a w, S w → (S w → wpAnyJ P md ops Q L S fuel (listed.setIfInBounds i true) a w) → K' a w) → if Region.wanted o (yielded ops a.tmps) = true then Oper.wp P o a w K' Q else K' (a.put o.dst undef) w) :
    wpAnyJ P md ops Q L S (fuel + 1) listed a w :=
  ⟨fun h0 => (by rw [hr] at h0; cases h0), fun j hj => by
    rw [hr] at hj
    have hji : j = i := by simpa using hj
    subst hji
    exact wpOp_step ho (fun K' hK => h K' (fun a w hS hW => hK a w ⟨.inr (.inr hS), hW hS⟩))⟩
/- L itself, or one behind it. -/
theorem wpAnyJ_oneL {i : Nat} {o : Oper} {fuel : Nat} {listed : Array Bool} {a : Act} {w : World} (hr : Region.ready md ops listed = [i]) (hc : (i == L || listed.getD L true) = true) (ho : ops[i]? = some o)
    (h : ∀ K' : Act → World → Prop, Shut (∀ a w, wpAnyJ P md ops Q L S fuel (listed.setIfInBounds i true) a w → K' a w) → if Region.wanted o (yielded ops a.tmps) = true then Oper.wp P o a w K' Q else K' (a.put o.dst undef) w) :
    wpAnyJ P md ops Q L S (fuel + 1) listed a w :=
  ⟨fun h0 => (by rw [hr] at h0; cases h0), fun j hj => by
    rw [hr] at hj
    have hji : j = i := by simpa using hj
    subst hji
    refine wpOp_step ho (fun K' hK => h K' (fun a w hW => hK a w ⟨?_, hW⟩))
    simp only [Bool.or_eq_true, beq_iff_eq] at hc
    rcases hc with h4 | h4
    · exact .inl h4
    · exact .inr (.inl h4)⟩
theorem wpAnyJ_done {fuel : Nat} {listed : Array Bool} {a : Act} {w : World} (hr : Region.ready md ops listed = []) (h : Q .normal a w) : wpAnyJ P md ops Q L S fuel listed a w := by
  cases fuel with
  | zero => exact ⟨hr, h⟩
  | succ f => exact ⟨fun _ => h, by rw [hr]; simp⟩
theorem wp_region_J {id : Nat} {a : Act} {w : World} (L : Nat) (S : World → Prop) (hm : P.follows .mixedOrders = true) (hS : S w.drew)
    (h : S w.drew → wpAnyJ P .any ops Q L S ops.size (Array.replicate ops.size false) a w.drew) : (Code.region id ops true).wp P Q a w :=
  wp_region_any hm (wpAny_of_J _ _ _ _ (h hS))
end
end Go.Proofs.YtdfambocenohgaaGreatDoor

