/- handOn of statements, declarations and trees, each part made bare. -/
import Derived.Test.YtdfambocenohgaaGreatDoorJAQ
namespace Go.Proofs.YtdfambocenohgaaGreatDoor
open Go.RowKit Go.Deep Go.Shelf
set_option linter.unusedVariables false
set_option linter.unusedSimpArgs false
attribute [local go_sem] as58_58 as105_58 as101_58 as67_58 as58_105 as105_105 as101_105 as67_105 as58_101 as105_101 as101_101 as67_101 as58_67 as105_67 as101_67 as67_67
attribute [local go_sem] Oper.semAt_some
theorem RowN.nb {V V' W W' : World} {n : Nat} {E : TypeId} {news : List Value} {a c : Option Addr} (h : RowN V W n E news c) (g : Nb V' W W' a) (hc : Apart a c) : RowN V W' n E news c :=
  ⟨fun x e => ⟨(h.1 x e).1, Nat.lt_of_lt_of_le (h.1 x e).2 g.b.size⟩, fun h0 => by
    obtain ⟨A, cs, h1, h2, h3, h4⟩ := h.2 h0
    exact ⟨A, cs, h1, h2, (g.k A (heap_lt h3) (fun x e => Ne.symm (hc x _ e h1))).trans h3, h4⟩⟩
theorem Apart.symm {a c : Option Addr} (h : Apart a c) : Apart c a := fun x y e1 e2 => Ne.symm (h y x e2 e1)
theorem RsE.keep {k : Nat} {s : ByteArray} {V W W' W2 : World} {a c : Option Addr} {ts us : List (ET k)} (h : RsE k s W W' a ts us) (g : Nb V W' W2 c) (hc : ∀ x, c = some x → x.block < W.heap.size) (ha : Apart a c) : RsE k s W W2 a ts us := by
  obtain ⟨h1, h2, h3, h4⟩ := h
  refine ⟨h1, h2, fun u hu => ⟨keepE k (h3 u hu).1 (h3 u hu).2 (fun j hj1 hj2 => g.k j hj2 (fun x e => by have := hc x e; omega)) (fun i _ => ?_), (h3 u hu).2⟩, h4⟩
  obtain ⟨x, e1, e2⟩ := lies_blk h2 hu
  refine World.cell?_of_block (w := W') (w' := W2) (a := ⟨(eAt k u).1, (eAt k u).2 + i, none⟩) (g.k _ (lt_of_ERd (h3 u hu).1) (fun y e => ?_))
  show (eAt k u).1 ≠ y.block
  rw [e2]
  exact ha x y e1 e
theorem RsS.keep {k : Nat} {s : ByteArray} {V W W' W2 : World} {a c : Option Addr} {ts us : List (ST k)} (h : RsS k s W W' a ts us) (g : Nb V W' W2 c) (hc : ∀ x, c = some x → x.block < W.heap.size) (ha : Apart a c) : RsS k s W W2 a ts us := by
  obtain ⟨h1, h2, h3, h4⟩ := h
  refine ⟨h1, h2, fun u hu => ⟨keepS k (h3 u hu).1 (h3 u hu).2 (fun j hj1 hj2 => g.k j hj2 (fun x e => by have := hc x e; omega)) (fun i _ => ?_), (h3 u hu).2⟩, h4⟩
  obtain ⟨x, e1, e2⟩ := lies_blk h2 hu
  refine World.cell?_of_block (w := W') (w' := W2) (a := ⟨(sAt k u).1, (sAt k u).2 + i, none⟩) (g.k _ (lt_of_SRd (h3 u hu).1) (fun y e => ?_))
  show (sAt k u).1 ≠ y.block
  rw [e2]
  exact ha x y e1 e
theorem RsD.keep {k : Nat} {s : ByteArray} {V W W' W2 : World} {a c : Option Addr} {ts us : List (DT k)} (h : RsD k s W W' a ts us) (g : Nb V W' W2 c) (hc : ∀ x, c = some x → x.block < W.heap.size) (ha : Apart a c) : RsD k s W W2 a ts us := by
  obtain ⟨h1, h2, h3, h4⟩ := h
  refine ⟨h1, h2, fun u hu => ⟨keepD (h3 u hu).1 (h3 u hu).2.1 (fun j hj1 hj2 => g.k j hj2 (fun x e => by have := hc x e; omega)) (fun i _ => ?_), (h3 u hu).2.1, (h3 u hu).2.2⟩, h4⟩
  obtain ⟨x, e1, e2⟩ := lies_blk h2 hu
  refine World.cell?_of_block (w := W') (w' := W2) (a := ⟨(dAt u).1, (dAt u).2 + i, none⟩) (g.k _ (show u.1.b < W'.heap.size from World.block_lt_of_cell? W' ⟨u.1.b, u.1.o, none⟩ (h3 u hu).1.h.c0) (fun y e => ?_))
  show (dAt u).1 ≠ y.block
  rw [e2]
  exact ha x y e1 e
set_option maxRecDepth 100000 in
set_option maxHeartbeats 2000000 in
theorem hbS_succ (k : Nat) (ihe : HBE k) (ih : HBS k) : HBS (k + 1) := by
  intro w0 l D rdy hy hD hDl s t W b o c T hr hsm hg hw hbn b1 b2 hc hcl
  obtain ⟨h, xs, bs, es⟩ := t
  obtain ⟨dh, ⟨dn1, dn2, dn3⟩, ⟨dl1, dl2, dl3⟩, de1, de2, de3⟩ := hr
  obtain ⟨sm, se1, se2, se3⟩ := hsm
  simp only at dh dn1 dn2 dn3 dl1 dl2 dl3 de1 de2 de3 sm se1 se2 se3
  have hyr := yS hy w0 W h b o c T hg hD b2 b1 hDl hw hbn hc hcl sm dh.ab dh.bb dh.eb (xs.flatMap (fun t : ET k => (eH k t).cl)) (bs.flatMap (fun t : ST k => (sH k t).cl)) (es.flatMap (fun t : ST k => (sH k t).cl)) (by rw [fl_len (z := 8) (fun _ => rfl), dn1]) (nrd_fl (z := 8) (f := (fun t : ET k => (eH k t).cl)) (by omega) (fun _ => rfl) dl1 (fun t ht => (de1 t ht).h.cls)) (by rw [fl_len (z := 8) (fun _ => rfl), dn2]) (nrd_fl (z := 8) (f := (fun t : ST k => (sH k t).cl)) (by omega) (fun _ => rfl) dl2 (fun t ht => (de2 t ht).h.cls)) (by rw [fl_len (z := 8) (fun _ => rfl), dn3]) (nrd_fl (z := 8) (f := (fun t : ST k => (sH k t).cl)) (by omega) (fun _ => rfl) dl3 (fun t ht => (de3 t ht).h.cls))
  obtain ⟨fn', tmps, assign, body, hyr, hRd⟩ := hyr
  have HRd := hid hRd
  have hDW := heap_lt hg.d
  have hlW := heap_lt hg.l
  have hbW := heap_lt hc
  have KA := hid (fun (V1 : World) (g1 : Gl l D rdy V1) (B1 : Below b W V1) (z1 : W.heap.size ≤ V1.heap.size) (a1 : Option Addr) (cap : Nat) (r1 : RowN W V1 h.an 28 (xs.flatMap (fun t : ET k => (eH k t).cl)) a1) => rowsE k ihe w0 l D rdy hy hD hDl s W V1 a1 h.an cap xs dn1 dh.ab (fun u hu => ⟨de1 u hu, se1 u hu⟩) g1 (hw.trans (B1.mono hbn)) hw.size hDW hlW z1 r1)
  have KB := hid (fun (V1 : World) (g1 : Gl l D rdy V1) (B1 : Below b W V1) (z1 : W.heap.size ≤ V1.heap.size) (a1 : Option Addr) (cap : Nat) (r1 : RowN W V1 h.bn 49 (bs.flatMap (fun t : ST k => (sH k t).cl)) a1) => rowsS k ih w0 l D rdy hy hD hDl s W V1 a1 h.bn cap bs dn2 dh.bb (fun u hu => ⟨de2 u hu, se2 u hu⟩) g1 (hw.trans (B1.mono hbn)) hw.size hDW hlW z1 r1)
  have KC := hid (fun (V1 : World) (g1 : Gl l D rdy V1) (B1 : Below b W V1) (z1 : W.heap.size ≤ V1.heap.size) (a1 : Option Addr) (cap : Nat) (r1 : RowN W V1 h.en 49 (es.flatMap (fun t : ST k => (sH k t).cl)) a1) => rowsS k ih w0 l D rdy hy hD hDl s W V1 a1 h.en cap es dn3 dh.eb (fun u hu => ⟨de3 u hu, se3 u hu⟩) g1 (hw.trans (B1.mono hbn)) hw.size hDW hlW z1 r1)
  have DH := hid dh
  have DN := hid (And.intro dn1 (And.intro dn2 dn3))
  clear hRd hg dh dn1 dn2 dn3 dl1 dl2 dl3 de1 de2 de3 hw ih ihe hc hcl sm se1 se2 se3
  refine callsIn_of_wp Tryz.func62 rfl trivial ?_ rfl
  simp only [Tryz.ntmps62, List.size_toArray, List.length_cons, List.length_nil, Nat.reduceAdd, Nat.reduceSub, Array.replicate_succ, Array.replicate_zero, List.push_toArray, List.append_toArray, List.nil_append, List.cons_append]
  gi_wp2
  refine ⟨rfl, (Hid.out HRd).mono ?_⟩
  rintro e W3 ⟨rfl, g3, B3⟩
  obtain ⟨aa2, ba2, ea2, ac2, bc2, ec2, c3, T3, hb3, hc3, hA, hB, hC, hN1, hN2, hN3⟩ := B3.r
  have K3 := hid (Hid.out KA W3 g3 B3.fr.bel B3.fr.size aa2 ac2 hA)
  have C4 := hid (fun (V : World) (hV : Below W.heap.size W3 V) => (show V.cell? ⟨b, o + 4, none⟩ = some (.slice aa2 h.an ac2) ∧ V.cell? ⟨b, o + 5, none⟩ = some (.slice ba2 h.bn bc2) ∧ V.cell? ⟨b, o + 6, none⟩ = some (.slice ea2 h.en ec2) from by
    have h0 := (hV.block b hbW).trans hb3
    exact ⟨by rw [cellT h0, hc3 4 _ rfl], by rw [cellT h0, hc3 5 _ rfl], by rw [cellT h0, hc3 6 _ rfl]⟩))
  have c4 := (C4.out W3 (Below.refl _ _)).1
  have HB3 := hid hb3
  have HC3 := hid hc3
  have HA := hid hA
  have HB := hid hB
  have HC := hid hC
  have N1 := hid hN1
  have N2 := hid hN2
  have N3 := hid hN3
  have HBE := hid B3
  clear hb3 hc3 hA hB hC hN1 hN2 hN3 B3 g3
  gi_wp2_with (first
    | (refine ⟨trivial, rfl, ?_⟩; gi_at_call 91; refine (Hid.out K3).mono ?_; rintro e W4 ⟨rfl, g4, n4, us1, r4⟩; have c5 := (C4.out W4 n4.b).2.1; have B4 := hid (HBE.out.fr.bel.trans (n4.b.mono (Nat.le_of_lt hbW))); have Z4 := hid (Nat.le_trans HBE.out.fr.size n4.b.size); have HB4 := hid (HB.out.nb n4 N1.out); have HC4 := hid (HC.out.nb n4 N2.out); have K4 := hid (Hid.out KB W4 g4 B4.out Z4.out ba2 bc2 HB4.out); have R4 := hid r4; have NB4 := hid n4; clear g4 n4 r4 c4 K3)
    | (refine ⟨trivial, rfl, ?_⟩; gi_at_call 90; have hno := K5; refine (Hid.out K5).mono ?_; rintro e W6 ⟨rfl, g6, n6, us3, r6⟩)
    | (refine ⟨trivial, rfl, ?_⟩; gi_at_call 90; refine (Hid.out K4).mono ?_; rintro e W5 ⟨rfl, g5, n5, us2, r5⟩; have NB5 := hid (NB4.out.b.trans n5.b); have c6 := (C4.out W5 NB5.out).2.2; have B5 := hid (B4.out.trans (n5.b.mono (Nat.le_of_lt hbW))); have Z5 := hid (Nat.le_trans Z4.out n5.b.size); have HC5 := hid (HC4.out.nb n5 N3.out); have K5 := hid (Hid.out KC W5 g5 B5.out Z5.out ea2 ec2 HC5.out); have R45 := hid (R4.out.keep n5 (fun x e => (HB.out.1 x e).2) N1.out); have R5 := hid r5; clear g5 n5 r5 c5 K4))
  all_goals (try (refine ⟨trivial, ?_⟩; gi_wp2))
  all_goals (try (refine ⟨trivial, ?_⟩; gi_wp2))
  all_goals go_ret
  have dh := DH.out
  obtain ⟨dn1, dn2, dn3⟩ := DN.out
  have q1 := R45.out.keep n6 (fun x e => (HC.out.1 x e).2) N2.out
  have q2 := R5.out.keep n6 (fun x e => (HC4.out.1 x e).2) N3.out
  have h36 : Below W.heap.size W3 W6 := NB5.out.trans n6.b
  have hb6 := (h36.block b hbW).trans HB3.out
  obtain ⟨a1, a2, a3, a4⟩ := q1
  obtain ⟨b1, b2, b3, b4⟩ := q2
  obtain ⟨e1, e2, e3, e4⟩ := r6
  have z3 := HBE.out.fr.size
  have z4 := Z4.out
  have z5 := Z5.out
  refine ⟨rfl, g6, HBE.out.fr.trans (Fr.of h36 hbW (Nat.le_refl _)), (({ h with b := b, o := o, aa := aa2, ac := ac2, ba := ba2, bc := bc2, ea := ea2, ec := ec2, pos := 0 } : SH), us1, us2, us3), rfl, ⟨⟨?_, ?_, ?_, ?_, ?_, ?_, ?_, ?_, dh.n, dh.l, dh.v, dh.ab, dh.bb, dh.eb⟩, ⟨by show h.an = us1.length; rw [a1]; exact dn1, by show h.bn = us2.length; rw [b1]; exact dn2, by show h.en = us3.length; rw [e1]; exact dn3⟩, ⟨a2, b2, e2⟩, fun u hu => (a3 u hu).1, fun u hu => (b3 u hu).1, fun u hu => (e3 u hu).1⟩, ⟨⟨fun x e => (HA.out.1 x e).1, fun x e => (HB.out.1 x e).1, fun x e => (HC.out.1 x e).1⟩, fun u hu => (a3 u hu).2.mono z3, fun u hu => (b3 u hu).2.mono z4, fun u hu => (e3 u hu).2.mono z5⟩, ?_, rfl, a4, b4, e4⟩
  · rw [cellT hb6]; exact HC3.out 0 _ rfl
  · rw [cellT hb6]; exact HC3.out 1 _ rfl
  · rw [cellT hb6]; exact HC3.out 2 _ rfl
  · rw [cellT hb6]; exact HC3.out 3 _ rfl
  · rw [cellT hb6]; exact HC3.out 4 _ rfl
  · rw [cellT hb6]; exact HC3.out 5 _ rfl
  · rw [cellT hb6]; exact HC3.out 6 _ rfl
  · rw [cellT hb6]; exact HC3.out 7 _ rfl
  · simp [alikeS]
theorem hbS_all : ∀ k, HBS k
  | 0 => fun w0 l D rdy hy hD hDl s t => Empty.elim t
  | k + 1 => hbS_succ k (hbE_all k) (hbS_all k)
set_option maxRecDepth 100000 in
set_option maxHeartbeats 2000000 in
theorem hbD_all (k : Nat) : HBD k := by
  have ih := hbS_all k
  intro w0 l D rdy hy hD hDl s t W b o c T hr hsm hsrt hg hw hbn b1 b2 hc hcl
  obtain ⟨h, ts⟩ := t
  obtain ⟨dh, dn, dl, de⟩ := hr
  obtain ⟨sm, se⟩ := hsm
  simp only at dh dn dl de sm se hsrt
  have hyr := yD hy w0 W h b o c T hg hD b2 b1 hDl hw hbn hc hcl sm dh.pl dh.pb dh.pr dh.bb (ts.flatMap (fun t : ST k => (sH k t).cl)) (by rw [fl_len (z := 8) (fun _ => rfl), dn]) (nrd_fl (z := 8) (f := (fun t : ST k => (sH k t).cl)) (by omega) (fun _ => rfl) dl (fun t ht => (de t ht).h.cls))
  rw [hsrt] at hyr
  obtain ⟨fn', tmps, assign, body, hyr, hRd⟩ := hyr
  have HRd := hid hRd
  have hDW := heap_lt hg.d
  have hlW := heap_lt hg.l
  have hbW := heap_lt hc
  have KA := hid (fun (V1 : World) (g1 : Gl l D rdy V1) (B1 : Below b W V1) (z1 : W.heap.size ≤ V1.heap.size) (a1 : Option Addr) (cap : Nat) (r1 : RowN W V1 h.bn 49 (ts.flatMap (fun t : ST k => (sH k t).cl)) a1) => rowsS k ih w0 l D rdy hy hD hDl s W V1 a1 h.bn cap ts dn dh.bb (fun u hu => ⟨de u hu, se u hu⟩) g1 (hw.trans (B1.mono hbn)) hw.size hDW hlW z1 r1)
  have DHH := hid dh
  have DN := hid dn
  have HS := hid hsrt
  clear hRd hg dh dn dl de hw ih hc hcl sm se hsrt
  refine callsIn_of_wp Tryz.func62 rfl trivial ?_ rfl
  simp only [Tryz.ntmps62, List.size_toArray, List.length_cons, List.length_nil, Nat.reduceAdd, Nat.reduceSub, Array.replicate_succ, Array.replicate_zero, List.push_toArray, List.append_toArray, List.nil_append, List.cons_append]
  gi_wp2
  refine ⟨rfl, (Hid.out HRd).mono ?_⟩
  rintro e W3 ⟨rfl, g3, B3⟩
  obtain ⟨pa2, ba2, pc2, bc2, c3, T3, hb3, hc3, hP, hA, hN⟩ := B3.r
  have bA : Below W3.heap.size W3 (W3.alloc (.cells #[.string s, .pointer (some ⟨b, o, none⟩)] 105)) := (Below.refl _ _).alloc (Nat.le_refl _) _
  have K3 := hid (Hid.out KA (W3.alloc (.cells #[.string s, .pointer (some ⟨b, o, none⟩)] 105)) (g3.below bA) (B3.fr.bel.trans (bA.mono (Nat.le_of_lt (heap_lt hb3)))) (Nat.le_trans B3.fr.size bA.size) ba2 bc2 (hA.below bA))
  have BA := hid bA
  have c5 := cellT ((bA.block b (heap_lt hb3)).trans hb3) (o + 5)
  rw [hc3 5 _ rfl] at c5
  have HB3 := hid hb3
  have HC3 := hid hc3
  have HP := hid hP
  have HA := hid hA
  have HNA := hid hN
  have HBE := hid B3
  clear hb3 hc3 hP hA hN B3 g3 bA
  gi_wp2_with (refine ⟨trivial, rfl, ?_⟩; gi_at_call 90; refine (Hid.out K3).mono ?_; rintro e W4 ⟨rfl, g4, n4, us, hl4, hli, hus, hal⟩)
  go_ret
  have dh := DHH.out
  have h34 : Below W.heap.size W3 W4 := (BA.out.mono HBE.out.fr.size).trans n4.b
  have hb4 := (h34.block b hbW).trans HB3.out
  have hpls : PLs W4 pa2 h.params := by
    have h1 := HP.out.pls dh.pl
    intro j q e
    obtain ⟨pb, off, ea, x1, x2⟩ := h1 j q e
    have hlt := World.block_lt_of_cell? _ _ x1
    have hk : W4.heap[pb]? = W3.heap[pb]? := (n4.k pb (Nat.lt_of_lt_of_le hlt BA.out.size) (fun x e2 => HNA.out _ x ea e2)).trans (BA.out.block pb hlt)
    exact ⟨pb, off, ea, (World.cell?_of_block (w := W3) (w' := W4) (a := ⟨pb, off + j * 2, none⟩) hk).trans x1, (World.cell?_of_block (w := W3) (w' := W4) (a := ⟨pb, off + j * 2 + 1, none⟩) hk).trans x2⟩
  refine ⟨rfl, g4, HBE.out.fr.trans (Fr.of h34 hbW (Nat.le_refl _)), (({ h with b := b, o := o, pa := pa2, pc := pc2, ba := ba2, bc := bc2, pos := 0 } : DH), us), rfl, ⟨⟨?_, ?_, ?_, ?_, ?_, ?_, ?_, dh.n, dh.k, dh.v, dh.r, dh.pl, dh.pb, dh.ps, hpls, dh.bb⟩, by show h.bn = us.length; rw [hl4]; exact DN.out, hli, fun u hu => (hus u hu).1⟩, ⟨fun x e => (HP.out.1 x e).1, fun x e => (HA.out.1 x e).1, fun u hu => (hus u hu).2.mono (Nat.le_trans HBE.out.fr.size BA.out.size)⟩, ⟨?_, rfl, hal⟩, HS.out⟩
  · rw [cellT hb4]; exact HC3.out 0 _ rfl
  · rw [cellT hb4]; exact HC3.out 1 _ rfl
  · rw [cellT hb4]; exact HC3.out 2 _ rfl
  · rw [cellT hb4]; exact HC3.out 3 _ rfl
  · rw [cellT hb4]; exact HC3.out 4 _ rfl
  · rw [cellT hb4]; exact HC3.out 5 _ rfl
  · rw [cellT hb4]; exact HC3.out 6 _ rfl
  · simp [alikeD]
end Go.Proofs.YtdfambocenohgaaGreatDoor

namespace Go.Proofs.YtdfambocenohgaaGreatDoor
open Go.RowKit Go.Deep Go.Shelf
set_option linter.unusedVariables false
set_option linter.unusedSimpArgs false
attribute [local go_sem] as58_58 as105_58 as101_58 as67_58 as58_105 as105_105 as101_105 as67_105 as58_101 as105_101 as101_101 as67_101 as58_67 as105_67 as101_67 as67_67
attribute [local go_sem] Oper.semAt_some
structure BarT {k : Nat} (t u : TT k) : Prop where
  rn : u.h.rn = t.h.rn
  mn : u.h.mn = t.h.mn
  fn : u.h.fn = t.h.fn
  en : u.h.en = t.h.en
  rs : AllP BarD t.rs u.rs
  ms : AllP BarD t.ms u.ms
  fs : AllP BarD t.fs u.fs
  es : AllP BarD t.es u.es
structure SmT {k : Nat} (t : TT k) : Prop where
  rs : ∀ u ∈ t.rs, SmD u
  ms : ∀ u ∈ t.ms, SmD u
  fs : ∀ u ∈ t.fs, SmD u
  es : ∀ u ∈ t.es, SmD u
structure LoT {k : Nat} (lo : Nat) (t : TT k) : Prop where
  ra : ∀ x, t.h.ra = some x → lo ≤ x.block
  ma : ∀ x, t.h.ma = some x → lo ≤ x.block
  fa : ∀ x, t.h.fa = some x → lo ≤ x.block
  ea : ∀ x, t.h.ea = some x → lo ≤ x.block
  rs : ∀ u ∈ t.rs, LoD lo u
  ms : ∀ u ∈ t.ms, LoD lo u
  fs : ∀ u ∈ t.fs, LoD lo u
  es : ∀ u ∈ t.es, LoD lo u
theorem keepL {k : Nat} {s : ByteArray} {a : Option Addr} {n : Nat} {ts : List (DT k)} {lo : Nat} {W W' : World} (d : DLs k W s a n ts) (ha : ∀ x, a = some x → lo ≤ x.block) (hl : ∀ u ∈ ts, LoD lo u) (hk : Kp lo W W') : DLs k W' s a n ts :=
  ⟨d.n, d.l, fun u hu => keepD (d.e u hu) (hl u hu) hk (by
      obtain ⟨x, e1, e2⟩ := lies_blk d.l hu
      exact kp_hs hk (by rw [e2]; exact ha x e1) (show u.1.b < W.heap.size from World.block_lt_of_cell? W ⟨u.1.b, u.1.o, none⟩ (d.e u hu).h.c0)), d.s⟩
theorem keepT {k : Nat} {t : TT k} {lo : Nat} {W W' : World} (d : TVs k W t) (h : LoT lo t) (hk : Kp lo W W') : TVs k W' t :=
  ⟨keepL d.rs h.ra h.rs hk, keepL d.ms h.ma h.ms hk, keepL d.fs h.fa h.fs hk, keepL d.es h.ea h.es hk, d.rb, d.mb, d.fb, d.eb⟩
/- What is told of a tree made bare. -/
def PT (k : Nat) (t : TT k) (b lo : Nat) (T : TypeId) (W : World) : Prop := ∃ (u : TT k) (c : Array Value), W.heap[b]? = some (.cells c T (0, 0)) ∧ Cl c 0 u.h.cl ∧ TVs k W u ∧ LoT lo u ∧ BarT t u
set_option maxRecDepth 100000 in
set_option maxHeartbeats 2000000 in
theorem handT_bare (k : Nat) (w0 : World) (l D : Nat) (rdy : Obj) (hy : YB l D rdy) (hD : w0.heap.size ≤ l) (hDl : D ≠ l) (t : TT k) (W : World) (b : Nat) (c : Array Value) (T : TypeId) (hr : TVs k w0 t) (hsm : SmT t) (hg : Gl l D rdy W) (hw : Below w0.heap.size w0 W) (hbn : w0.heap.size ≤ b) (b1 : b ≠ D) (b2 : b ≠ l) (hc : W.heap[b]? = some (.cells c T (0, 0))) (hcl : Cl c 0 t.h.cl) :
    CallsIn Fence.wide 0 Tryz.prog 62 #[.iface 58 (.pointer (some ⟨b, 0, none⟩)), .func (.yield l) #[] #[]] W fun e W' => e = .returned (.bool true) ∧ Gl l D rdy W' ∧ Fr W.heap.size b 0 4 W W' ∧ PT k t b W.heap.size T W' := by
  have ih := hbD_all k
  obtain ⟨h, rs, ms, fs, es⟩ := t
  obtain ⟨d1, d2, d3, d4, e1, e2, e3, e4⟩ := hr
  simp only at d1 d2 d3 d4 e1 e2 e3 e4 hcl
  have hyr := yT hy w0 W h b 0 c T hg hD b2 b1 hDl hw hbn hc hcl e1 e2 e3 e4 (rs.flatMap (fun t : DT k => (Prod.fst t).cl)) (ms.flatMap (fun t : DT k => (Prod.fst t).cl)) (fs.flatMap (fun t : DT k => (Prod.fst t).cl)) (es.flatMap (fun t : DT k => (Prod.fst t).cl)) (by rw [fl_len (z := 7) (fun _ => rfl), d1.n]) (nrd_fl (z := 7) (f := (fun t : DT k => (Prod.fst t).cl)) (by omega) (fun _ => rfl) d1.l (fun t ht => (d1.e t ht).h.cls)) (by rw [fl_len (z := 7) (fun _ => rfl), d2.n]) (nrd_fl (z := 7) (f := (fun t : DT k => (Prod.fst t).cl)) (by omega) (fun _ => rfl) d2.l (fun t ht => (d2.e t ht).h.cls)) (by rw [fl_len (z := 7) (fun _ => rfl), d3.n]) (nrd_fl (z := 7) (f := (fun t : DT k => (Prod.fst t).cl)) (by omega) (fun _ => rfl) d3.l (fun t ht => (d3.e t ht).h.cls)) (by rw [fl_len (z := 7) (fun _ => rfl), d4.n]) (nrd_fl (z := 7) (f := (fun t : DT k => (Prod.fst t).cl)) (by omega) (fun _ => rfl) d4.l (fun t ht => (d4.e t ht).h.cls))
  obtain ⟨fn', tmps, assign, body, hyr, hRd⟩ := hyr
  have HRd := hid hRd
  have hDW := heap_lt hg.d
  have hlW := heap_lt hg.l
  have hbW := heap_lt hc
  have KA := hid (fun (V1 : World) (g1 : Gl l D rdy V1) (B1 : Below b W V1) (z1 : W.heap.size ≤ V1.heap.size) (a1 : Option Addr) (cap : Nat) (r1 : RowN W V1 h.rn 52 (rs.flatMap (fun t : DT k => (Prod.fst t).cl)) a1) => rowsD k ih w0 l D rdy hy hD hDl wRec W V1 a1 h.rn cap rs d1.n e1 (fun u hu => ⟨d1.e u hu, hsm.rs u hu, d1.s u hu⟩) g1 (hw.trans (B1.mono hbn)) hw.size hDW hlW z1 r1)
  have KB := hid (fun (V1 : World) (g1 : Gl l D rdy V1) (B1 : Below b W V1) (z1 : W.heap.size ≤ V1.heap.size) (a1 : Option Addr) (cap : Nat) (r1 : RowN W V1 h.mn 52 (ms.flatMap (fun t : DT k => (Prod.fst t).cl)) a1) => rowsD k ih w0 l D rdy hy hD hDl wMap W V1 a1 h.mn cap ms d2.n e2 (fun u hu => ⟨d2.e u hu, hsm.ms u hu, d2.s u hu⟩) g1 (hw.trans (B1.mono hbn)) hw.size hDW hlW z1 r1)
  have KC := hid (fun (V1 : World) (g1 : Gl l D rdy V1) (B1 : Below b W V1) (z1 : W.heap.size ≤ V1.heap.size) (a1 : Option Addr) (cap : Nat) (r1 : RowN W V1 h.fn 52 (fs.flatMap (fun t : DT k => (Prod.fst t).cl)) a1) => rowsD k ih w0 l D rdy hy hD hDl wFn W V1 a1 h.fn cap fs d3.n e3 (fun u hu => ⟨d3.e u hu, hsm.fs u hu, d3.s u hu⟩) g1 (hw.trans (B1.mono hbn)) hw.size hDW hlW z1 r1)
  have KE := hid (fun (V1 : World) (g1 : Gl l D rdy V1) (B1 : Below b W V1) (z1 : W.heap.size ≤ V1.heap.size) (a1 : Option Addr) (cap : Nat) (r1 : RowN W V1 h.en 52 (es.flatMap (fun t : DT k => (Prod.fst t).cl)) a1) => rowsD k ih w0 l D rdy hy hD hDl wOn W V1 a1 h.en cap es d4.n e4 (fun u hu => ⟨d4.e u hu, hsm.es u hu, d4.s u hu⟩) g1 (hw.trans (B1.mono hbn)) hw.size hDW hlW z1 r1)
  have HCC := hid hc
  have DN := hid (And.intro d1.n (And.intro d2.n (And.intro d3.n d4.n)))
  have EN := hid (And.intro e1 (And.intro e2 (And.intro e3 e4)))
  clear hRd hg d1 d2 d3 d4 e1 e2 e3 e4 hw ih hc hcl hsm
  refine callsIn_of_wp Tryz.func62 rfl trivial ?_ rfl
  simp only [Tryz.ntmps62, List.size_toArray, List.length_cons, List.length_nil, Nat.reduceAdd, Nat.reduceSub, Array.replicate_succ, Array.replicate_zero, List.push_toArray, List.append_toArray, List.nil_append, List.cons_append]
  gi_wp2
  refine ⟨rfl, (Hid.out HRd).mono ?_⟩
  rintro e W3 ⟨rfl, g3, B3⟩
  obtain ⟨ra2, ma2, fa2, ea2, rc2, mc2, fc2, ec2, c3, T3, hb3, hc3, hA, hB, hC, hE, ⟨hN1, hN2, hN4⟩, ⟨hN3, hN5⟩, hN6⟩ := B3.r
  have K3 := hid (Hid.out KA W3 g3 B3.fr.bel B3.fr.size ra2 rc2 hA)
  simp only [wRec] at K3
  have C4 := hid (fun (V : World) (hV : Below W.heap.size W3 V) => (show V.cell? ⟨b, 0, none⟩ = some (.slice ra2 h.rn rc2) ∧ V.cell? ⟨b, 1, none⟩ = some (.slice ma2 h.mn mc2) ∧ V.cell? ⟨b, 2, none⟩ = some (.slice fa2 h.fn fc2) ∧ V.cell? ⟨b, 3, none⟩ = some (.slice ea2 h.en ec2) from by
    have h0 := (hV.block b hbW).trans hb3
    exact ⟨by rw [cellT h0]; exact hc3 0 _ rfl, by rw [cellT h0]; exact hc3 1 _ rfl, by rw [cellT h0]; exact hc3 2 _ rfl, by rw [cellT h0]; exact hc3 3 _ rfl⟩))
  have c4 := (C4.out W3 (Below.refl _ _)).1
  have HB3 := hid hb3
  have HC3 := hid hc3
  have HA := hid hA
  have HB := hid hB
  have HC := hid hC
  have HE := hid hE
  have N1 := hid hN1
  have N2 := hid hN2
  have N3 := hid hN3
  have N4 := hid hN4
  have N5 := hid hN5
  have N6 := hid hN6
  have HBE := hid B3
  clear hb3 hc3 hA hB hC hE hN1 hN2 hN3 hN4 hN5 hN6 B3 g3
  gi_wp2_with (first
    | (refine ⟨trivial, rfl, ?_⟩; gi_at_call 89; have hno := K6; refine (Hid.out K6).mono ?_; rintro e W7 ⟨rfl, g7, n7, us4, r7⟩)
    | (refine ⟨trivial, rfl, ?_⟩; gi_at_call 89; have hno := K5; refine (Hid.out K5).mono ?_; rintro e W6 ⟨rfl, g6, n6, us3, r6⟩; have NB6 := hid (NB5.out.trans n6.b); have c7 := (C4.out W6 NB6.out).2.2.2; have B6 := hid (B5.out.trans (n6.b.mono (Nat.le_of_lt hbW))); have Z6 := hid (Nat.le_trans Z5.out n6.b.size); have HE6 := hid (HE5.out.nb n6 N6.out); have K6 := hid (Hid.out KE W6 g6 B6.out Z6.out ea2 ec2 HE6.out); simp only [wOn] at K6; have R46 := hid (R45.out.keep n6 (fun x e => (HC.out.1 x e).2) N2.out); have R56 := hid (R5.out.keep n6 (fun x e => (HC4.out.1 x e).2) N3.out); have R6 := hid r6; clear g6 n6 r6 c6 K5)
    | (refine ⟨trivial, rfl, ?_⟩; gi_at_call 89; have hno := K4; refine (Hid.out K4).mono ?_; rintro e W5 ⟨rfl, g5, n5, us2, r5⟩; have NB5 := hid (NB4.out.b.trans n5.b); have c6 := (C4.out W5 NB5.out).2.2.1; have B5 := hid (B4.out.trans (n5.b.mono (Nat.le_of_lt hbW))); have Z5 := hid (Nat.le_trans Z4.out n5.b.size); have HC5 := hid (HC4.out.nb n5 N3.out); have HE5 := hid (HE4.out.nb n5 N5.out); have K5 := hid (Hid.out KC W5 g5 B5.out Z5.out fa2 fc2 HC5.out); simp only [wFn] at K5; have R45 := hid (R4.out.keep n5 (fun x e => (HB.out.1 x e).2) N1.out); have R5 := hid r5; clear g5 n5 r5 c5 K4)
    | (refine ⟨trivial, rfl, ?_⟩; gi_at_call 89; refine (Hid.out K3).mono ?_; rintro e W4 ⟨rfl, g4, n4, us1, r4⟩; have c5 := (C4.out W4 n4.b).2.1; have B4 := hid (HBE.out.fr.bel.trans (n4.b.mono (Nat.le_of_lt hbW))); have Z4 := hid (Nat.le_trans HBE.out.fr.size n4.b.size); have HB4 := hid (HB.out.nb n4 N1.out); have HC4 := hid (HC.out.nb n4 N2.out); have HE4 := hid (HE.out.nb n4 N4.out); have K4 := hid (Hid.out KB W4 g4 B4.out Z4.out ma2 mc2 HB4.out); simp only [wMap] at K4; have R4 := hid r4; have NB4 := hid n4; clear g4 n4 r4 c4 K3))
  all_goals (try (refine ⟨trivial, ?_⟩; gi_wp2))
  all_goals (try (refine ⟨trivial, ?_⟩; gi_wp2))
  all_goals (try (refine ⟨trivial, ?_⟩; gi_wp2))
  all_goals go_ret
  obtain ⟨dn1, dn2, dn3, dn4⟩ := DN.out
  obtain ⟨en1, en2, en3, en4⟩ := EN.out
  have q1 := R46.out.keep n7 (fun x e => (HE.out.1 x e).2) N4.out
  have q2 := R56.out.keep n7 (fun x e => (HE4.out.1 x e).2) N5.out
  have q3 := R6.out.keep n7 (fun x e => (HE5.out.1 x e).2) N6.out
  have h37 : Below W.heap.size W3 W7 := NB6.out.trans n7.b
  have hb7 := (h37.block b hbW).trans HB3.out
  obtain ⟨a1, a2, a3, a4⟩ := q1
  obtain ⟨b1, b2, b3, b4⟩ := q2
  obtain ⟨f1, f2, f3, f4⟩ := q3
  obtain ⟨e1, e2, e3, e4⟩ := r7
  have z3 := HBE.out.fr.size
  have z4 := Z4.out
  have z5 := Z5.out
  have z6 := Z6.out
  have fr7 := HBE.out.fr.trans (Fr.of (n := W.heap.size) (o := 0) (k := 4) h37 hbW (Nat.le_refl _))
  have hT : T3 = T := by
    obtain ⟨c', q1, _⟩ := fr7.at' c T HCC.out
    rw [hb7] at q1
    injection q1 with q1
    injection q1
  subst hT
  refine ⟨rfl, g7, fr7, ⟨{ h with ra := ra2, rc := rc2, ma := ma2, mc := mc2, fa := fa2, fc := fc2, ea := ea2, ec := ec2 }, us1, us2, us3, us4⟩, c3, hb7, HC3.out, ⟨⟨by show h.rn = us1.length; rw [a1]; exact dn1, a2, fun u hu => (a3 u hu).1, fun u hu => (a3 u hu).2.2⟩, ⟨by show h.mn = us2.length; rw [b1]; exact dn2, b2, fun u hu => (b3 u hu).1, fun u hu => (b3 u hu).2.2⟩, ⟨by show h.fn = us3.length; rw [f1]; exact dn3, f2, fun u hu => (f3 u hu).1, fun u hu => (f3 u hu).2.2⟩, ⟨by show h.en = us4.length; rw [e1]; exact dn4, e2, fun u hu => (e3 u hu).1, fun u hu => (e3 u hu).2.2⟩, en1, en2, en3, en4⟩, ⟨fun x e => (HA.out.1 x e).1, fun x e => (HB.out.1 x e).1, fun x e => (HC.out.1 x e).1, fun x e => (HE.out.1 x e).1, fun u hu => (a3 u hu).2.1.mono z3, fun u hu => (b3 u hu).2.1.mono z4, fun u hu => (f3 u hu).2.1.mono z5, fun u hu => (e3 u hu).2.1.mono z6⟩, ⟨rfl, rfl, rfl, rfl, a4, b4, f4, e4⟩⟩
end Go.Proofs.YtdfambocenohgaaGreatDoor

namespace Go.Proofs.YtdfambocenohgaaGreatDoor
open Go.RowKit Go.Deep
set_option linter.unusedVariables false
set_option linter.unusedSimpArgs false
theorem allP_cons {α β : Type} {R : α → β → Prop} {x : α} {y : β} {l : List α} {m : List β} : AllP R (x :: l) (y :: m) ↔ R x y ∧ AllP R l m := by
  constructor
  · intro h
    refine ⟨h.2 0 x y rfl rfl, by have := h.1; simpa using this, fun j a b e1 e2 => h.2 (j + 1) a b (by simpa using e1) (by simpa using e2)⟩
  · intro h
    refine ⟨by have := h.2.1; simp [this], fun j a b e1 e2 => ?_⟩
    cases j with
    | zero => simp at e1 e2; subst e1; subst e2; exact h.1
    | succ j => exact h.2.2 j a b (by simpa using e1) (by simpa using e2)
theorem allP_nil {α β : Type} {R : α → β → Prop} : AllP R ([] : List α) ([] : List β) := ⟨rfl, fun j x y e => by simp at e⟩
theorem allP_mono {α β : Type} {R Q : α → β → Prop} {l : List α} {m : List β} (h : AllP R l m) (f : ∀ x ∈ l, ∀ y ∈ m, R x y → Q x y) : AllP Q l m := ⟨h.1, fun j x y e1 e2 => f x (List.mem_of_getElem? e1) y (List.mem_of_getElem? e2) (h.2 j x y e1 e2)⟩
theorem allP_self {α : Type} {R : α → α → Prop} {l : List α} (h : ∀ x ∈ l, R x x) : AllP R l l := ⟨rfl, fun j x y e1 e2 => by
  rw [e1] at e2; cases e2
  exact h x (List.mem_of_getElem? e1)⟩
theorem es_iff {α β : Type} (f : α → List Part) (g : β → List Part) (R : α → β → Prop) : ∀ (ts : List α) (us : List β), ts.length = us.length → (∀ t ∈ ts, ∀ u ∈ us, ∀ r s, AlkL (f t ++ r) (g u ++ s) ↔ R t u ∧ AlkL r s) → ∀ r s, AlkL (ts.flatMap f ++ r) (us.flatMap g ++ s) ↔ AllP R ts us ∧ AlkL r s
  | [], [], _, _, r, s => by simp [allP_nil]
  | [], _ :: _, h, _, _, _ => by simp at h
  | _ :: _, [], h, _, _, _ => by simp at h
  | t :: ts, u :: us, h, H, r, s => by
    rw [List.flatMap_cons, List.flatMap_cons, List.append_assoc, List.append_assoc, H t (by simp) u (by simp), es_iff f g R ts us (by simpa using h) (fun x hx y hy => H x (by simp [hx]) y (by simp [hy])), allP_cons, and_assoc]
theorem alk_cons {p q : Part} {l m : List Part} : AlkL (p :: l) (q :: m) ↔ alikeP p q = true ∧ AlkL l m := allP_cons
theorem alkE_iff : ∀ (k1 k2 : Nat) (w1 w2 : World) (t : ET k1) (u : ET k2), ERd k1 w1 t → ERd k2 w2 u → ∀ r s, AlkL (ptE k1 t ++ r) (ptE k2 u ++ s) ↔ SamE k1 k2 t u ∧ AlkL r s
  | 0, _, _, _, t, _, _, _, _, _ => Empty.elim t
  | _ + 1, 0, _, _, _, u, _, _, _, _ => Empty.elim u
  | k1 + 1, k2 + 1, w1, w2, t, u, d, e, r, s => by
    show AlkL (.inr (.inr t.1) :: t.2.flatMap (ptE k1) ++ r) (.inr (.inr u.1) :: u.2.flatMap (ptE k2) ++ s) ↔ (alikeE t.1 u.1 = true ∧ AllP (SamE k1 k2) t.2 u.2) ∧ AlkL r s
    rw [List.cons_append, List.cons_append, alk_cons, and_assoc]
    refine and_congr_right fun h => ?_
    have h' : alikeE t.1 u.1 = true := h
    have hl : t.2.length = u.2.length := by
      rw [← d.2.1, ← e.2.1]
      simp only [alikeE, Bool.and_eq_true, decide_eq_true_eq] at h'
      exact h'.2
    exact es_iff _ _ _ _ _ hl (fun x hx y hy r s => alkE_iff k1 k2 w1 w2 x y (d.2.2.2 x hx) (e.2.2.2 y hy) r s) r s
theorem alkS_iff : ∀ (k1 k2 : Nat) (w1 w2 : World) (t : ST k1) (u : ST k2), SRds k1 w1 t → SRds k2 w2 u → ∀ r s, AlkL (ptS k1 t ++ r) (ptS k2 u ++ s) ↔ SamS k1 k2 t u ∧ AlkL r s
  | 0, _, _, _, t, _, _, _, _, _ => Empty.elim t
  | _ + 1, 0, _, _, _, u, _, _, _, _ => Empty.elim u
  | k1 + 1, k2 + 1, w1, w2, t, u, d, e, r, s => by
    show AlkL (.inr (.inl t.1) :: (t.2.1.flatMap (ptE k1) ++ (t.2.2.1.flatMap (ptS k1) ++ t.2.2.2.flatMap (ptS k1))) ++ r) (.inr (.inl u.1) :: (u.2.1.flatMap (ptE k2) ++ (u.2.2.1.flatMap (ptS k2) ++ u.2.2.2.flatMap (ptS k2))) ++ s) ↔ (alikeS t.1 u.1 = true ∧ AllP (SamE k1 k2) t.2.1 u.2.1 ∧ AllP (SamS k1 k2) t.2.2.1 u.2.2.1 ∧ AllP (SamS k1 k2) t.2.2.2 u.2.2.2) ∧ AlkL r s
    rw [List.cons_append, List.cons_append, alk_cons, and_assoc]
    refine and_congr_right fun h => ?_
    have h' : alikeS t.1 u.1 = true := h
    obtain ⟨d1, ⟨dn1, dn2, dn3⟩, _, d4, d5, d6⟩ := d
    obtain ⟨e1, ⟨en1, en2, en3⟩, _, e4, e5, e6⟩ := e
    simp only [alikeS, Bool.and_eq_true, decide_eq_true_eq] at h'
    obtain ⟨⟨⟨_, h1⟩, h2⟩, h3⟩ := h'
    rw [List.append_assoc, List.append_assoc, List.append_assoc, List.append_assoc]
    rw [es_iff _ _ _ _ _ (by rw [← dn1, ← en1]; exact h1) (fun x hx y hy r s => alkE_iff k1 k2 w1 w2 x y (d4 x hx) (e4 y hy) r s), es_iff _ _ _ _ _ (by rw [← dn2, ← en2]; exact h2) (fun x hx y hy r s => alkS_iff k1 k2 w1 w2 x y (d5 x hx) (e5 y hy) r s), es_iff _ _ _ _ _ (by rw [← dn3, ← en3]; exact h3) (fun x hx y hy r s => alkS_iff k1 k2 w1 w2 x y (d6 x hx) (e6 y hy) r s), and_assoc, and_assoc]
theorem alkD_iff (k1 k2 : Nat) (w1 w2 : World) (t : DT k1) (u : DT k2) (d : DRds k1 w1 t) (e : DRds k2 w2 u) (r s : List Part) : AlkL (ptD t ++ r) (ptD u ++ s) ↔ SamD k1 k2 t u ∧ AlkL r s := by
  show AlkL (.inl (.inr t.1) :: t.2.flatMap (ptS k1) ++ r) (.inl (.inr u.1) :: u.2.flatMap (ptS k2) ++ s) ↔ (alikeD t.1 u.1 = true ∧ AllP (SamS k1 k2) t.2 u.2) ∧ AlkL r s
  rw [List.cons_append, List.cons_append, alk_cons, and_assoc]
  refine and_congr_right fun h => ?_
  have h' : alikeD t.1 u.1 = true := h
  have hl : t.2.length = u.2.length := by
    rw [← d.n, ← e.n]
    simp only [alikeD, Bool.and_eq_true, decide_eq_true_eq] at h'
    exact h'.2
  exact es_iff _ _ _ _ _ hl (fun x hx y hy r s => alkS_iff k1 k2 w1 w2 x y (d.e x hx) (e.e y hy) r s) r s
theorem alkT_iff {k1 k2 : Nat} {w1 w2 : World} {t : TT k1} {u : TT k2} (d : TVs k1 w1 t) (e : TVs k2 w2 u) (X1 X2 : Nat) : AlkL (ptT (t.atB X1)) (ptT (u.atB X2)) ↔ SamT t u := by
  rw [ptT_at, ptT_at, alk_cons]
  have hA : ∀ r s : List Part, True := fun _ _ => trivial
  have lr : t.h.rn = t.rs.length ∧ u.h.rn = u.rs.length := ⟨d.rs.n, e.rs.n⟩
  have lm : t.h.mn = t.ms.length ∧ u.h.mn = u.ms.length := ⟨d.ms.n, e.ms.n⟩
  have lf : t.h.fn = t.fs.length ∧ u.h.fn = u.fs.length := ⟨d.fs.n, e.fs.n⟩
  have le : t.h.en = t.es.length ∧ u.h.en = u.es.length := ⟨d.es.n, e.es.n⟩
  have hT : alikeP (.inl (.inl { t.h with b := X1, o := 0 })) (.inl (.inl { u.h with b := X2, o := 0 })) = true ↔ t.rs.length = u.rs.length ∧ t.ms.length = u.ms.length ∧ t.fs.length = u.fs.length ∧ t.es.length = u.es.length := by
    show alikeT _ _ = true ↔ _
    simp only [alikeT, Bool.and_eq_true, decide_eq_true_eq]
    rw [lr.1, lr.2, lm.1, lm.2, lf.1, lf.2, le.1, le.2]
    constructor
    · rintro ⟨⟨⟨a, b⟩, c⟩, d⟩; exact ⟨a, b, c, d⟩
    · rintro ⟨a, b, c, d⟩; exact ⟨⟨⟨a, b⟩, c⟩, d⟩
  rw [hT]
  have step : t.rs.length = u.rs.length → t.ms.length = u.ms.length → t.fs.length = u.fs.length → t.es.length = u.es.length → (AlkL (inT t) (inT u) ↔ SamT t u) := fun h1 h2 h3 h4 => by
    have q1 := es_iff ptD ptD (SamD k1 k2) t.rs u.rs h1 (fun x hx y hy r s => alkD_iff k1 k2 w1 w2 x y (d.rs.e x hx) (e.rs.e y hy) r s)
    have q2 := es_iff ptD ptD (SamD k1 k2) t.ms u.ms h2 (fun x hx y hy r s => alkD_iff k1 k2 w1 w2 x y (d.ms.e x hx) (e.ms.e y hy) r s)
    have q3 := es_iff ptD ptD (SamD k1 k2) t.fs u.fs h3 (fun x hx y hy r s => alkD_iff k1 k2 w1 w2 x y (d.fs.e x hx) (e.fs.e y hy) r s)
    have q4 := es_iff ptD ptD (SamD k1 k2) t.es u.es h4 (fun x hx y hy r s => alkD_iff k1 k2 w1 w2 x y (d.es.e x hx) (e.es.e y hy) r s) [] []
    rw [List.append_nil, List.append_nil] at q4
    unfold inT SamT
    rw [q1, q2, q3, q4]
    have : AlkL [] [] := allP_nil
    simp [this]
  constructor
  · rintro ⟨⟨h1, h2, h3, h4⟩, h⟩
    exact (step h1 h2 h3 h4).1 h
  · intro h
    have h' := h
    obtain ⟨a, b, c, d'⟩ := h
    exact ⟨⟨a.1, b.1, c.1, d'.1⟩, (step a.1 b.1 c.1 d'.1).2 h'⟩
theorem samE_bar : ∀ (k : Nat) (t u : ET k), BarE k t u → SamE k k t u
  | 0, _, _, h => h.elim
  | k + 1, t, u, h => ⟨h.1, allP_mono h.2.2 (fun x _ y _ h => samE_bar k x y h)⟩
theorem samS_bar : ∀ (k : Nat) (t u : ST k), BarS k t u → SamS k k t u
  | 0, _, _, h => h.elim
  | k + 1, t, u, h => ⟨h.1, allP_mono h.2.2.1 (fun x _ y _ h => samE_bar k x y h), allP_mono h.2.2.2.1 (fun x _ y _ h => samS_bar k x y h), allP_mono h.2.2.2.2 (fun x _ y _ h => samS_bar k x y h)⟩
theorem samD_bar {k : Nat} {t u : DT k} (h : BarD t u) : SamD k k t u := ⟨h.1, allP_mono h.2.2 (fun x _ y _ h => samS_bar k x y h)⟩
theorem samT_bar {k : Nat} {t u : TT k} (h : BarT t u) : SamT t u :=
  ⟨allP_mono h.rs (fun x _ y _ h => samD_bar h), allP_mono h.ms (fun x _ y _ h => samD_bar h), allP_mono h.fs (fun x _ y _ h => samD_bar h), allP_mono h.es (fun x _ y _ h => samD_bar h)⟩
theorem samE_self : ∀ (k : Nat) (w : World) (t : ET k), ERd k w t → SamE k k t t
  | 0, _, t, _ => Empty.elim t
  | k + 1, w, t, d => ⟨by simp [alikeE], allP_self fun x hx => samE_self k w x (d.2.2.2 x hx)⟩
theorem samS_self : ∀ (k : Nat) (w : World) (t : ST k), SRds k w t → SamS k k t t
  | 0, _, t, _ => Empty.elim t
  | k + 1, w, t, d => ⟨by simp [alikeS], allP_self fun x hx => samE_self k w x (d.2.2.2.1 x hx), allP_self fun x hx => samS_self k w x (d.2.2.2.2.1 x hx), allP_self fun x hx => samS_self k w x (d.2.2.2.2.2 x hx)⟩
theorem samD_self {k : Nat} {w : World} {t : DT k} (d : DRds k w t) : SamD k k t t := ⟨by simp [alikeD], allP_self fun x hx => samS_self k w x (d.e x hx)⟩
theorem samT_self {k : Nat} {w : World} {t : TT k} (d : TVs k w t) : SamT t t :=
  ⟨allP_self fun x hx => samD_self (d.rs.e x hx), allP_self fun x hx => samD_self (d.ms.e x hx), allP_self fun x hx => samD_self (d.fs.e x hx), allP_self fun x hx => samD_self (d.es.e x hx)⟩
theorem sameT_any (k1 k2 : Nat) (w : World) (t : TT k1) (u : TT k2) (d : TVs k1 w t) (e : TVs k2 w u) (hl1 : (inT t).length ≤ 100000) (hl2 : (inT u).length ≤ 100000) :
    Calls Tryz.prog 22 #[.agg t.h.cs, .agg u.h.cs] w (DcP w (SamT t u)) := by
  obtain ⟨X1, X2, h⟩ := same_any k1 k2 w t u d e hl1 hl2
  rw [show SamT t u = AlkL (ptT (t.atB X1)) (ptT (u.atB X2)) from propext (alkT_iff d e X1 X2).symm]
  exact h
end Go.Proofs.YtdfambocenohgaaGreatDoor

namespace Go.Proofs.YtdfambocenohgaaGreatDoor
open Go.RowKit Go.Deep Go.Shelf
set_option linter.unusedVariables false
set_option linter.unusedSimpArgs false
attribute [local go_sem] as58_58 as105_58 as101_58 as67_58 as58_105 as105_105 as101_105 as67_105 as58_101 as105_101 as101_101 as67_101 as58_67 as105_67 as101_67 as67_67
attribute [local go_sem] Oper.semAt_some
theorem range_yb {n gf : Nat} {g : Operand} {p : Tmp} {assign body : Code} {Q : Exit → Act → World → Prop} {a : Act} {w : World} {lb : Array Value} (h1 : 1 ≤ n)
    (hg : a.eval g = .func (.func gf) #[] lb) (eg : ∀ args w, (callFunc gf args).run Tryz.prog w = .ok (.enter gf args) w)
    (Post : World → Prop)
    (hcall : ∀ (rdy : Obj) (hy : YB (w.heap.size + 1) w.heap.size rdy) (V : World), Below w.heap.size w V → V.heap.size = w.heap.size + 2 → Gl (w.heap.size + 1) w.heap.size rdy V → CallsIn Fence.wide 0 Tryz.prog gf (#[.func (.yield (w.heap.size + 1)) #[] #[]] ++ lb) V fun e W' => (∃ v, e = .returned v) ∧ Gl (w.heap.size + 1) w.heap.size rdy W' ∧ Post W')
    (aft : Value → Act)
    (hassign : ∀ (l : Nat) (v : Value) (W : World) (K : Act → World → Prop), K (aft v) W → assign.wpIn (Fence.wide.inRound l) (n - 1 - 1) Tryz.prog (Exit.then K (fun _ _ _ => False)) { tmps := a.tmps.setIfInBounds p v, defers := [] } W)
    (hbody : ∀ (l : Nat) (v : Value) (Y : World) (P : World → Prop), Calls Tryz.prog 42 #[v] Y (fun e Z => (∃ u, e = .returned u) ∧ P Z) → body.wpIn (Fence.wide.inRound l) (n - 1 - 1) Tryz.prog (fun e _ Z => match e with | .normal => P Z | _ => False) (aft v) Y)
    (hdone : ∀ (W : World) (o : Obj), Post W → W.heap[w.heap.size]? = some (.deferred (some [])) → w.heap.size + 1 < W.heap.size → Q .normal { a with defers := { target := .collected w.heap.size, args := #[] } :: a.defers } (W.putObj (w.heap.size + 1) o)) :
    (Code.rangeFunc g #[p] assign body).wpIn Fence.wide n Tryz.prog Q a w := by
  refine wpIn_rangeFunc fun fn hfn => ?_
  obtain ⟨R, hR⟩ : ∃ R : LoopState → Option Code → Loop, R = fun st pe => { state := st, pending := pe, fn := fn, tmps := a.tmps, params := #[p], assign := assign, body := body, defers := w.heap.size } := ⟨_, rfl⟩
  obtain ⟨V, hV⟩ : ∃ V, V = (w.alloc (.deferred (some []))).alloc (.loop (R .ready none)) := ⟨_, rfl⟩
  have bV : Below w.heap.size w V := by rw [hV]; exact ((Below.refl _ _).alloc (Nat.le_refl _) _).alloc (by rw [World.size_alloc]; omega) _
  have zV : V.heap.size = w.heap.size + 2 := by rw [hV]; simp
  have lV : V.heap[w.heap.size + 1]? = some (.loop (R .ready none)) := by
    have := heap_alloc_new (w.alloc (.deferred (some []))) (.loop (R .ready none))
    rw [World.size_alloc] at this
    rw [hV]; exact this
  have dV : V.heap[w.heap.size]? = some (.deferred (some [])) := by
    rw [hV, Below.heap_alloc _ _ _ (by simp)]; exact heap_alloc_new w _
  have hy : YB (w.heap.size + 1) w.heap.size (.loop (R .ready none)) := by
    refine ⟨fun X v P hG hcalls => ?_⟩
    have i2 := hG.d
    have i3 := hG.l
    have hy' := run_yield (P := Tryz.prog) (args := #[v]) i3 (by rw [hR]; rfl)
    rw [hR] at hy'
    refine ⟨fn, _, assign, body, hy', roundIn_wide (n := n - 1 - 1) (roundIn_of_wpIn hfn ?_)⟩
    have et : (#[p].zip #[v]).foldl (fun (tmps : Array Value) (y : Tmp × Value) => match y with | (t, b) => tmps.setIfInBounds t b) a.tmps = a.tmps.setIfInBounds p v := by simp
    show Code.wpIn _ _ _ _ _ { tmps := (#[p].zip #[v]).foldl (fun (tmps : Array Value) (y : Tmp × Value) => match y with | (t, b) => tmps.setIfInBounds t b) a.tmps, defers := [] } X
    rw [et]
    refine hassign _ v X _ ?_
    refine ⟨_, run_beginRound i3 (by rw [hR]), ?_⟩
    obtain ⟨Y, hY⟩ : ∃ Y, Y = X.putObj (w.heap.size + 1) (.loop { R .ready none with state := .busy }) := ⟨_, rfl⟩
    have hcy := hcalls (.loop { R .ready none with state := .busy })
    have yl : Y.heap[w.heap.size + 1]? = some (.loop { R .ready none with state := .busy }) := by rw [hY]; exact World.putObj_heap_same (heap_lt i3)
    have yd : Y.heap[w.heap.size]? = some (.deferred (some [])) := by rw [hY]; exact (World.putObj_heap_other (by omega)).trans i2
    rw [← hY] at hcy ⊢
    refine wpIn_mono (hbody _ v Y _ hcy) ?_
    intro e b Z hp
    cases e with
    | normal =>
      obtain ⟨z1, z2, hP⟩ := hp
      have z3 := z1.trans yl
      have hrun := run_endRound (P := Tryz.prog) none z3
      refine ⟨_, _, ?_, rfl, ⟨(World.putObj_heap_other (by omega)).trans (z2.trans yd), World.putObj_heap_same (heap_lt z3)⟩, hP⟩
      rw [hR] at hrun ⊢
      exact hrun
    | exit id => exact hp.elim
    | ret => exact hp.elim
    | goto t => exact hp.elim
    | panic c => exact hp.elim
    | outgrown => exact hp.elim
  refine ⟨w.heap.size + 1, [{ target := .collected w.heap.size, args := #[] }], V, { target := .fn (.func gf) lb, args := #[.func (.yield (w.heap.size + 1)) #[] #[]] }, V, gf, #[.func (.yield (w.heap.size + 1)) #[] #[]] ++ lb, V, ?_, ?_, fun _ _ => trivial, ?_, fun _ => h1, ?_⟩
  · rw [hV, hR]; exact run_enterLoop_outer fn a.tmps #[p] assign body
  · simp only [resolve, hg]; simp [go_sem]
  · simp [invoke, go_sem, eg]
  refine callsIn_n ((hcall _ hy V bV zV ⟨dV, lV⟩).mono ?_)
  rintro e Z ⟨⟨v, rfl⟩, g, hp⟩
  have i3 := g.l
  refine ⟨none, _, by have := run_endLoop (P := Tryz.prog) i3 (by rw [hR]; simp); rw [hR] at this; exact this, ?_⟩
  exact hdone Z _ hp g.d (heap_lt i3)

set_option maxRecDepth 100000 in
set_option maxHeartbeats 2000000 in
theorem bare_any (k : Nat) (w : World) (t : TT k) (d : TVs k w t) (sm : SmT t) : Calls Tryz.prog 20 #[.agg t.h.cs] w fun e w' => ∃ u : TT k, e = .returned (.agg u.h.cs) ∧ TVs k w' u ∧ BarT t u ∧ Below w.heap.size w w' := by
  have hro : Fence.wide.round = none := rfl
  obtain ⟨Wa, hWa⟩ : ∃ Wa, Wa = w.alloc (.cells t.h.cs 24) := ⟨_, rfl⟩
  obtain ⟨W0, hW0⟩ : ∃ W0, W0 = Wa.alloc (.cells #[.slice none 0 0, .slice none 0 0, .slice none 0 0, .slice none 0 0] 24) := ⟨_, rfl⟩
  obtain ⟨W1, hW1⟩ : ∃ W1, W1 = W0.alloc (.cells #[.iface 58 (.pointer (some ⟨w.heap.size, 0, none⟩))] 20) := ⟨_, rfl⟩
  obtain ⟨X, hX⟩ : ∃ X, X = w.heap.size := ⟨_, rfl⟩
  have hza : Wa.heap.size = X + 1 := by rw [hWa, hX]; simp
  have hz0 : W0.heap.size = X + 2 := by rw [hW0]; simp [hza]
  have hz1 : W1.heap.size = X + 3 := by rw [hW1]; simp [hz0]
  have ba : Below w.heap.size w Wa := by rw [hWa]; exact (Below.refl _ w).alloc (Nat.le_refl _) _
  have b0 : Below Wa.heap.size Wa W0 := by rw [hW0]; exact (Below.refl _ _).alloc (Nat.le_refl _) _
  have b1 : Below W0.heap.size W0 W1 := by rw [hW1]; exact (Below.refl _ _).alloc (Nat.le_refl _) _
  have b01 : Below Wa.heap.size Wa W1 := b0.trans (b1.mono b0.size)
  have bw : Below w.heap.size w W1 := ba.trans (b01.mono ba.size)
  have m0 : W1.heap[X]? = some (.cells t.h.cs 24 (0, 0)) := (b01.block X (by omega)).trans (by rw [hX, hWa]; exact heap_alloc_new w _)
  have m1 : W1.heap[X + 1]? = some (.cells #[.slice none 0 0, .slice none 0 0, .slice none 0 0, .slice none 0 0] 24 (0, 0)) := (b1.block (X + 1) (by omega)).trans (by rw [← hza, hW0]; exact heap_alloc_new Wa _)
  have m2 : W1.heap[X + 2]? = some (.cells #[.iface 58 (.pointer (some ⟨X, 0, none⟩))] 20 (0, 0)) := by rw [← hz0, hW1, hX]; exact heap_alloc_new W0 _
  have POST : ∀ (rdy : Obj) (hy : YB (W1.heap.size + 1) W1.heap.size rdy) (V : World), Below W1.heap.size W1 V → V.heap.size = W1.heap.size + 2 → Gl (W1.heap.size + 1) W1.heap.size rdy V → CallsIn Fence.wide 0 Tryz.prog 61 (#[.func (.yield (W1.heap.size + 1)) #[] #[]] ++ #[.pointer (some ⟨X + 2, 0, none⟩)]) V fun e W' => (∃ v, e = .returned v) ∧ Gl (W1.heap.size + 1) W1.heap.size rdy W' ∧ (Below w.heap.size w W' ∧ X + 5 ≤ W'.heap.size ∧ W'.heap[X + 1]? = some (.cells #[.slice none 0 0, .slice none 0 0, .slice none 0 0, .slice none 0 0] 24 (0, 0)) ∧ PT k t X (X + 5) 24 W') := by
    intro rdy hy V hV hzV hG
    have hwV : Below w.heap.size w V := bw.trans (hV.mono bw.size)
    have K := hid (handT_bare k w _ _ rdy hy (by omega) (by omega) t V X t.h.cs 24 d sm hG hwV (by omega) (by omega) (by omega) ((hV.block X (by omega)).trans m0) (fun i v e => by rw [Nat.zero_add]; simpa [TH.cs, TH.cl] using e))
    have c0 := cellT ((hV.block (X + 2) (by omega)).trans m2) 0
    simp only [List.getElem?_toArray, List.getElem?_cons_zero] at c0
    have HV := hid hwV
    have H1 := hid ((hV.block (X + 1) (by omega)).trans m1)
    have HZ := hid hzV
    have HZ1 := hid hz1
    have HX := hid hX
    clear hy hV hzV hG d sm hwV m0 m1 m2 hX hza hz0 hz1 hWa hW0 hW1 ba b0 b1 b01 bw
    refine callsIn_of_wp Tryz.func61 rfl trivial ?_ rfl
    simp only [Tryz.ntmps61, List.size_toArray, List.length_cons, List.length_nil, Nat.reduceAdd, Nat.reduceSub, Array.replicate_succ, Array.replicate_zero, List.push_toArray, List.append_toArray, List.nil_append, List.cons_append]
    gi_wp2_with (refine ⟨trivial, rfl, ?_⟩; gi_at_call 62; refine (Hid.out K).mono ?_; rintro e w1 ⟨rfl, g1, f1, p1⟩)
    go_end0
    have z0 := HX.out
    have z1 := HZ.out
    have z2 := HZ1.out
    refine ⟨⟨_, rfl⟩, g1, HV.out.trans (f1.bel.mono (by omega)), by have := f1.size; omega, (f1.ne (by omega) (by omega)).trans H1.out, ?_⟩
    rw [show X + 5 = V.heap.size by omega]
    exact p1
  have HD := hid d
  have HW1 := hid bw
  have HP := hid POST
  simp only [TH.cs] at hWa ⊢
  subst hX
  clear d sm ba b0 b1 b01 bw m0 m1 m2 POST
  refine (callsIn_wide (n := 6)).1 ?_
  refine callsIn_of_wp_marks Tryz.func20 rfl trivial ?_ hro
  simp only [Tryz.ntmps20, List.size_toArray, List.length_cons, List.length_nil, Nat.reduceAdd, Nat.reduceSub, Array.replicate_succ, Array.replicate_zero, List.push_toArray, List.append_toArray, List.nil_append, List.cons_append]
  gi_wp2_with (refine ⟨trivial, ?_⟩; gi_at_call 38; refine (parts_in _ _ trivial hro (.inl (.inl { t.h with b := w.heap.size, o := 0 })) _).mono ?_; simp only [labP]; rintro e w7 ⟨rfl, rfl⟩)
  rw [← hWa, ← hW0, ← hW1]
  clear hWa hW0 hW1
  generalize Value.agg #[.slice t.h.ra t.h.rn t.h.rc, .slice t.h.ma t.h.mn t.h.mc, .slice t.h.fa t.h.fn t.h.fc, .slice t.h.ea t.h.en t.h.ec] = tv at *
  refine range_yb (by omega) (gf := 61) (lb := #[.pointer (some ⟨w.heap.size + 1 + 1, 0, none⟩)]) rfl (enters_of Tryz.func61 (by kernel_rfl) rfl) _ HP.out
      (fun v => { tmps := #[tv, .pointer (some ⟨w.heap.size, 0, none⟩), .pointer (some ⟨w.heap.size + 1, 0, none⟩), v, .iface 58 (.pointer (some ⟨w.heap.size, 0, none⟩)), .func (.func 61) #[] #[.pointer (some ⟨w.heap.size + 1 + 1, 0, none⟩)], v, undef, undef, undef], defers := [] })
      ?assign ?body ?done
  case assign =>
    intro ll v W K hK
    gi_wp2
    exact hK
  case body =>
    intro ll v Y P hc
    have K := hid hc
    clear hc
    gi_wp2_with (refine ⟨trivial, ?_⟩; gi_at_call 42; refine (CallsIn.inRound ll (callsIn_wide.2 (Hid.out K))).mono ?_; rintro e w8 ⟨⟨u, rfl⟩, hp⟩)
    exact hp
  case done =>
    rintro W oo ⟨hbW, hzW, hm, u, c, hc, hcl, hT, hL, hB⟩ hdf hsz
    obtain ⟨V, hV⟩ : ∃ V, V = W.putObj (W1.heap.size + 1) oo := ⟨_, rfl⟩
    have hcV : V.heap[w.heap.size]? = some (.cells c 24 (0, 0)) := by rw [hV]; exact (World.putObj_heap_other (by omega)).trans hc
    have hmV : V.heap[w.heap.size + 1]? = some (.cells #[.slice none 0 0, .slice none 0 0, .slice none 0 0, .slice none 0 0] 24 (0, 0)) := by rw [hV]; exact (World.putObj_heap_other (by omega)).trans hm
    have hdV : V.heap[W1.heap.size]? = some (.deferred (some [])) := by rw [hV]; exact (World.putObj_heap_other (by omega)).trans hdf
    have hbV : Below w.heap.size w V := by rw [hV]; exact below_put hbW (by omega) oo
    have hTV : TVs k V u := keepT hT hL (fun j h1 h2 => by rw [hV]; exact World.putObj_heap_other (by omega))
    rw [← hV]
    have x0 := cellT hcV 0
    have x1 := cellT hcV 1
    have x2 := cellT hcV 2
    have x3 := cellT hcV 3
    rw [show c[0]? = some (.slice u.h.ra u.h.rn u.h.rc) from hcl 0 _ rfl] at x0
    rw [show c[1]? = some (.slice u.h.ma u.h.mn u.h.mc) from hcl 1 _ rfl] at x1
    rw [show c[2]? = some (.slice u.h.fa u.h.fn u.h.fc) from hcl 2 _ rfl] at x2
    rw [show c[3]? = some (.slice u.h.ea u.h.en u.h.ec) from hcl 3 _ rfl] at x3
    have y0 := cellT hmV 0
    have y1 := cellT hmV 1
    have y2 := cellT hmV 2
    have y3 := cellT hmV 3
    have f0 := freeT hmV 0
    have f1 := freeT hmV 1
    have f2 := freeT hmV 2
    have f3 := freeT hmV 3
    simp only [List.getElem?_toArray, List.getElem?_cons_zero, List.getElem?_cons_succ] at y0 y1 y2 y3
    have HT := hid hTV
    have HL := hid hL
    have HBT := hid hB
    have HV := hid hbV
    have HM := hid hmV
    have HDV := hid hdV
    have HZ := hid hzW
    have HZ1 := hid hz1
    clear hV hcV hmV hdV hbV hTV hcl hT hL hB hbW hzW hm hc hdf hsz HP HW1 hza hz0 hz1
    gi_wp2
    obtain ⟨V4, hV4⟩ : ∃ V4, V4 = ((((V.setCell ⟨w.heap.size + 1, 0, none⟩ (.slice u.h.ra u.h.rn u.h.rc)).setCell ⟨w.heap.size + 1, 1, none⟩ (.slice u.h.ma u.h.mn u.h.mc)).setCell ⟨w.heap.size + 1, 2, none⟩ (.slice u.h.fa u.h.fn u.h.fc)).setCell ⟨w.heap.size + 1, 3, none⟩ (.slice u.h.ea u.h.en u.h.ec)) := ⟨_, rfl⟩
    have hm4 : V4.heap[w.heap.size + 1]? = some (.cells #[.slice u.h.ra u.h.rn u.h.rc, .slice u.h.ma u.h.mn u.h.mc, .slice u.h.fa u.h.fn u.h.fc, .slice u.h.ea u.h.en u.h.ec] 24 (0, 0)) := by
      rw [hV4]
      exact set_at (set_at (set_at (set_at HM.out 0 _) 1 _) 2 _) 3 _
    have hk4 : ∀ j, j ≠ w.heap.size + 1 → V4.heap[j]? = V.heap[j]? := fun j hj => by
      rw [hV4, Below.heap_setCell _ _ _ _ hj, Below.heap_setCell _ _ _ _ hj, Below.heap_setCell _ _ _ _ hj, Below.heap_setCell _ _ _ _ hj]
    have hb4 : Below w.heap.size w V4 := by
      rw [hV4]
      exact (((HV.out.setCell (p := ⟨w.heap.size + 1, 0, none⟩) (by show _ ≤ w.heap.size + 1; omega) _).setCell (p := ⟨w.heap.size + 1, 1, none⟩) (by show _ ≤ w.heap.size + 1; omega) _).setCell (p := ⟨w.heap.size + 1, 2, none⟩) (by show _ ≤ w.heap.size + 1; omega) _).setCell (p := ⟨w.heap.size + 1, 3, none⟩) (by show _ ≤ w.heap.size + 1; omega) _
    rw [← hV4]
    have hz := HZ1.out
    have hd4 : V4.heap[W1.heap.size]? = some (.deferred (some [])) := (hk4 _ (by omega)).trans HDV.out
    have hm5 : (V4.putObj W1.heap.size (.deferred none)).heap[w.heap.size + 1]? = _ := (World.putObj_heap_other (by omega)).trans hm4
    have q0 := cellT hm5 0
    have q1 := cellT hm5 1
    have q2 := cellT hm5 2
    have q3 := cellT hm5 3
    simp only [List.getElem?_toArray, List.getElem?_cons_zero, List.getElem?_cons_succ] at q0 q1 q2 q3
    have hT5 : TVs k (V4.putObj W1.heap.size (.deferred none)) u := keepT HT.out HL.out (fun j h1 h2 => (World.putObj_heap_other (by omega)).trans (hk4 j (by omega)))
    have hB5 : Below w.heap.size w (V4.putObj W1.heap.size (.deferred none)) := below_put hb4 (by omega) _
    refine ⟨by simp, .inl ⟨_, _, rfl, run_takeDeferred hd4, ?_⟩⟩
    clear hV4 hm4 hk4 hb4 hd4 hm5 hz
    exact ⟨.agg #[.slice u.h.ra u.h.rn u.h.rc, .slice u.h.ma u.h.mn u.h.mc, .slice u.h.fa u.h.fn u.h.fc, .slice u.h.ea u.h.en u.h.ec], by simp [results, Tryz.results20, go_sem, q0, q1, q2, q3], u, rfl, hT5, HBT.out, hB5⟩
end Go.Proofs.YtdfambocenohgaaGreatDoor

