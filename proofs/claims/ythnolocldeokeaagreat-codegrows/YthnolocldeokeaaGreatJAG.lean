/- newSigs. -/
import Derived.Test.YthnolocldeokeaaGreatJAF
import Derived.Deep.RegionHeld3
namespace Go.Proofs.YthnolocldeokeaaGreat
open Go.RowKit Go.Deep Go.Shelf
set_option linter.unusedVariables false
set_option linter.unusedSimpArgs false
/- Another row is left as it was, if its elements are of another type. -/
theorem KR.other {E F : TypeId} (hne : E ≠ F) {k q : Nat} {w w' : World} {B C : Nat} {v r : Value} {l m : List (List Value)} (h : KR E k w B v l) (g : KR F q w C r m) (hg : w.grownBy w' r.ownBlock) : KR E k w' B v l := h.keep fun b e => by
  rcases h.1.2 with ⟨rfl, _⟩ | ⟨b', cap, cur, rfl, h3, h4, _⟩
  · cases e
  · cases e
    refine hg.block b' (lt_of_heap h4) fun e2 => ?_
    rcases g.1.2 with ⟨rfl, _⟩ | ⟨c', cap', cur', rfl, g3, g4, _⟩
    · cases e2
    · cases e2
      rw [h4] at g4
      cases g4
      exact hne rfl
/- A signature laid anew. -/
structure GNew (w : World) (B : Nat) (p : GH × Sg) : Prop where
  nm : p.1.name = p.2.name
  ns : p.1.name.size ≤ 1000000
  pr : KR 46 2 w B (.slice p.1.pa p.1.pn p.1.pc) (p.2.params.map tyc)
  rs : (p.1.k, p.1.r) = p.2.res
theorem GNew.rd {w : World} {B : Nat} {p : GH × Sg} (h : GNew w B p) (hl : p.2.params.length ≤ 1000000) : SgRd w p.1 p.2 := by
  obtain ⟨⟨nm, pa, pn, pc, kd, rr⟩, s⟩ := p
  obtain ⟨a, cap, e, hc, hr, _, _⟩ := h.pr.rd
  have h2 := h.ns
  have h3 := h.nm
  have h4 := h.rs
  simp only at h2 h3 h4 hl e
  rw [List.length_map] at e
  cases e
  exact ⟨h3, by show nm.size ≤ _; omega, rfl, by show s.params.length ≤ _; omega, CRd.trd hr, h4⟩
theorem GNew.below {w w' : World} {B C : Nat} {p : GH × Sg} (h : GNew w B p) (hC : w.heap.size ≤ C) (q : Below C w w') : GNew w' B p := ⟨h.nm, h.ns, h.pr.below hC q, h.rs⟩
theorem GNew.other {F : TypeId} (hne : 46 ≠ F) {q : Nat} {w w' : World} {B C : Nat} {r : Value} {m : List (List Value)} {p : GH × Sg} (h : GNew w B p) (g : KR F q w C r m) (hg : w.grownBy w' r.ownBlock) : GNew w' B p := ⟨h.nm, h.ns, h.pr.other hne g hg, h.rs⟩
theorem rk_gh (g : GH) : Rk 4 [g.cs] := ⟨fun r hr => by simp at hr; subst hr; rfl, fun r hr u hu => by
  simp at hr; subst hr
  simp [GH.cs] at hu
  rcases hu with rfl | rfl | rfl | rfl <;> rfl⟩
/- What newSigs answers. -/
def SgsN (w : World) (B : Nat) (v : Value) (ss : List Sg) : Prop := ∃ gs : List (GH × Sg), gs.map (·.2) = ss ∧ KR 49 4 w B v (gs.map fun p => p.1.cs) ∧ ∀ p ∈ gs, GNew w B p
end Go.Proofs.YthnolocldeokeaaGreat

namespace Go.Proofs.YthnolocldeokeaaGreat
open Go.RowKit Go.Deep Go.Shelf
set_option linter.unusedVariables false
set_option linter.unusedSimpArgs false
set_option maxRecDepth 100000 in
set_option maxHeartbeats 1000000 in
theorem sameTypes_yes (w : World) (a b : Option Addr) (n c1 c2 : Nat) (ts : List TyP) (hn : n = ts.length) (hnb : n ≤ 9223372036854775807) (h1 : TRd w a ts) (h2 : TRd w b ts) :
    Calls Tryz.prog 81 #[.slice a n c1, .slice b n c2] w fun e w' => e = .returned (.bool true) ∧ Below w.heap.size w w' := by
  have hnI : (n : Int) ≤ 9223372036854775807 := by omega
  have HN := hid hn
  have H1 := hid h1
  have H2 := hid h2
  have nb : ((n : Int) != (n : Int)) = false := by simp
  clear hn h1 h2
  go_enter Tryz.func81, Tryz.ntmps81
  go_wp2
  go_loopg [5] n (fun g x wr => ∃ j : Nat, j + g = n ∧ x = .int .i64 (j : Int) ∧ Below w.heap.size w wr)
  case atStart => exact ⟨0, by omega, rfl, Below.refl _ _⟩
  case round =>
    obtain ⟨j, hj, rfl, hb⟩ := hrel
    cases gk with
    | zero =>
      have hjn : j = n := by omega
      subst hjn
      have HB := hid hb
      clear hb
      go_wp2
      go_ret
      exact ⟨rfl, HB.out⟩
    | succ g =>
      obtain ⟨t, ht⟩ : ∃ t, ts[j]? = some t := ⟨ts[j]'(by have := HN.out; omega), List.getElem?_eq_getElem _⟩
      obtain ⟨b1, o1, rfl, x0, x1⟩ := (H1.out.below (Nat.le_refl _) hb) j t ht
      obtain ⟨b2, o2, rfl, y0, y1⟩ := (H2.out.below (Nat.le_refl _) hb) j t ht
      obtain ⟨tk, tr⟩ := t
      simp only at x0 x1 y0 y1
      have hjI : (j : Int) < (n : Int) := by omega
      have hj0 : (0 : Int) ≤ (j : Int) := by omega
      have HB := hid hb
      clear hb ht
      go_wp2
      go_quiet (fail)
      go_wp2
      go_roundg g
      case measure => omega
      exact ⟨j + 1, by omega, by go_num, bel_dN HB.out _⟩
set_option maxRecDepth 100000 in
set_option maxHeartbeats 4000000 in
theorem sameSigs_yes (w : World) (a b : Option Addr) (n c1 c2 : Nat) (g1 g2 : List (GH × Sg)) (d1 : GRd w a n g1) (d2 : GRd w b n g2) (he : g1.map (·.2) = g2.map (·.2)) :
    Calls Tryz.prog 80 #[.slice a n c1, .slice b n c2] w fun e w' => e = .returned (.bool true) ∧ Below w.heap.size w w' := by
  have hnI : (n : Int) ≤ 9223372036854775807 := by have := d1.n2; omega
  have D1 := hid d1
  have D2 := hid d2
  have HE := hid he
  have nb : ((n : Int) != (n : Int)) = false := by simp
  clear d1 d2 he
  go_enter Tryz.func80, Tryz.ntmps80
  go_wp2
  go_loopg [5] n (fun g x wr => ∃ j : Nat, j + g = n ∧ x = .int .i64 (j : Int) ∧ Below w.heap.size w wr)
  case atStart => exact ⟨0, by omega, rfl, Below.refl _ _⟩
  case round =>
    obtain ⟨j, hj, rfl, hb⟩ := hrel
    cases gk with
    | zero =>
      have hjn : j = n := by omega
      subst hjn
      have HB := hid hb
      clear hb
      go_wp2
      go_ret
      exact ⟨rfl, HB.out⟩
    | succ g =>
      have dA := D1.out.below (Nat.le_refl _) hb
      have dB := D2.out.below (Nat.le_refl _) hb
      have l1 : j < g1.length := by rw [← dA.n1]; omega
      have l2 : j < g2.length := by rw [← dB.n1]; omega
      have e1 : g1[j]? = some g1[j] := List.getElem?_eq_getElem l1
      have e2 : g2[j]? = some g2[j] := List.getElem?_eq_getElem l2
      have hss : (g1[j]).2 = (g2[j]).2 := by
        have h1 : (g1.map (·.2))[j]? = some (g1[j]).2 := by rw [List.getElem?_map, e1]; rfl
        have h2 : (g2.map (·.2))[j]? = some (g2[j]).2 := by rw [List.getElem?_map, e2]; rfl
        rw [HE.out, h2] at h1
        exact (Option.some.inj h1).symm
      obtain ⟨b1, o1, rfl, _, hc1⟩ := dA.rd j (g1[j]).1.cs (by simp [e1])
      obtain ⟨b2, o2, rfl, _, hc2⟩ := dB.rd j (g2[j]).1.cs (by simp [e2])
      have s1 := dA.el _ (List.getElem_mem l1)
      have s2 := dB.el _ (List.getElem_mem l2)
      generalize g1[j] = p1 at hss hc1 s1
      generalize g2[j] = p2 at hss hc2 s2
      obtain ⟨⟨nm1, pa1, pn1, pc1, k1, r1⟩, sg1⟩ := p1
      obtain ⟨⟨nm2, pa2, pn2, pc2, k2, r2⟩, sg2⟩ := p2
      simp only at hss
      subst hss
      obtain rfl : nm1 = nm2 := (show nm1 = _ from s1.nm).trans (show nm2 = _ from s2.nm).symm
      obtain rfl : pn1 = pn2 := (show pn1 = _ from s1.pn).trans (show pn2 = _ from s2.pn).symm
      have hres := (show (k1, r1) = _ from s1.rs).trans (show (k2, r2) = _ from s2.rs).symm
      obtain rfl : k1 = k2 := congrArg Prod.fst hres
      obtain rfl : r1 = r2 := congrArg Prod.snd hres
      have x0 := hc1 0 (by omega)
      have x1 := hc1 1 (by omega)
      have x2 := hc1 2 (by omega)
      have x3 := hc1 3 (by omega)
      have y0 := hc2 0 (by omega)
      have y1 := hc2 1 (by omega)
      have y2 := hc2 2 (by omega)
      have y3 := hc2 3 (by omega)
      simp only [GH.cs, List.getElem?_cons_zero, List.getElem?_cons_succ, Nat.add_zero] at x0 x1 x2 x3 y0 y1 y2 y3
      have hjI : (j : Int) < (n : Int) := by omega
      have hj0 : (0 : Int) ≤ (j : Int) := by omega
      have K := hid (sameTypes_yes wr.drew pa1 pa2 pn1 pc1 pc2 sg1.params s1.pn s1.p2 (s1.pr.below (Nat.le_refl _) (Below.refl _ wr).drew) (s2.pr.below (Nat.le_refl _) (Below.refl _ wr).drew))
      have HB := hid hb
      have ST : Hid (∀ v : World, Below wr.heap.size wr v → v.cell? ⟨b1, o1 + j * 4, none⟩ = some (.string nm1) ∧ v.cell? ⟨b1, o1 + j * 4 + 1, none⟩ = some (.slice pa1 pn1 pc1) ∧ v.cell? ⟨b1, o1 + j * 4 + 2, none⟩ = some (.int .i64 k1) ∧ v.cell? ⟨b1, o1 + j * 4 + 3, none⟩ = some (.int .i64 r1) ∧ v.cell? ⟨b2, o2 + j * 4, none⟩ = some (.string nm1) ∧ v.cell? ⟨b2, o2 + j * 4 + 1, none⟩ = some (.slice pa2 pn1 pc2) ∧ v.cell? ⟨b2, o2 + j * 4 + 2, none⟩ = some (.int .i64 k1) ∧ v.cell? ⟨b2, o2 + j * 4 + 3, none⟩ = some (.int .i64 r1)) := hid (fun v hv => by
        have k : ∀ (p : Addr) (x : Value), wr.cell? p = some x → v.cell? p = some x := fun p x h => (hv.cell (p := p) (World.block_lt_of_cell? wr p h)).trans h
        exact ⟨k _ _ x0, k _ _ x1, k _ _ x2, k _ _ x3, k _ _ y0, k _ _ y1, k _ _ y2, k _ _ y3⟩)
      clear hb dA dB l1 l2 e1 e2 hc1 hc2 s1 s2 hres
      go_upto_region 6 with fail
      go_region_held3 (fun v => v.cell? ⟨b1, o1 + j * 4, none⟩ = some (.string nm1) ∧ v.cell? ⟨b1, o1 + j * 4 + 1, none⟩ = some (.slice pa1 pn1 pc1) ∧ v.cell? ⟨b1, o1 + j * 4 + 2, none⟩ = some (.int .i64 k1) ∧ v.cell? ⟨b1, o1 + j * 4 + 3, none⟩ = some (.int .i64 r1) ∧ v.cell? ⟨b2, o2 + j * 4, none⟩ = some (.string nm1) ∧ v.cell? ⟨b2, o2 + j * 4 + 1, none⟩ = some (.slice pa2 pn1 pc2) ∧ v.cell? ⟨b2, o2 + j * 4 + 2, none⟩ = some (.int .i64 k1) ∧ v.cell? ⟨b2, o2 + j * 4 + 3, none⟩ = some (.int .i64 r1)) (first | exact s8 | go_keep) (first
        | (go_at_call 81; (refine (Hid.out K).mono ?_; rintro e w8 ⟨rfl, hb8⟩; have h8 : Below wr.heap.size wr w8 := (Below.refl _ wr).drew.trans hb8; have s8 := ST.out w8 h8)))
      go_wp2
      go_roundg g
      case measure => omega
      exact ⟨j + 1, by omega, by go_num, HB.out.trans (h8.mono HB.out.size)⟩
end Go.Proofs.YthnolocldeokeaaGreat

namespace Go.Proofs.YthnolocldeokeaaGreat
open Go.RowKit Go.Deep Go.Shelf
set_option linter.unusedVariables false
set_option linter.unusedSimpArgs false
set_option maxRecDepth 100000 in
set_option maxHeartbeats 4000000 in
theorem sameFns_yes (w : World) (a b : Option Addr) (n c1 c2 : Nat) (g1 g2 : List (FH × Fx)) (d1 : FRd w a n g1) (d2 : FRd w b n g2) (he : g1.map (·.2) = g2.map (·.2)) :
    Calls Tryz.prog 48 #[.slice a n c1, .slice b n c2] w fun e w' => e = .returned (.bool true) ∧ Below w.heap.size w w' := by
  have hnI : (n : Int) ≤ 9223372036854775807 := by have := d1.n2; omega
  have D1 := hid d1
  have D2 := hid d2
  have HE := hid he
  have nb : ((n : Int) != (n : Int)) = false := by simp
  clear d1 d2 he
  go_enter Tryz.func48, Tryz.ntmps48
  go_wp2
  go_loopg [5] n (fun g x wr => ∃ j : Nat, j + g = n ∧ x = .int .i64 (j : Int) ∧ Below w.heap.size w wr)
  case atStart => exact ⟨0, by omega, rfl, Below.refl _ _⟩
  case round =>
    obtain ⟨j, hj, rfl, hb⟩ := hrel
    cases gk with
    | zero =>
      have hjn : j = n := by omega
      subst hjn
      have HB := hid hb
      clear hb
      go_wp2
      go_ret
      exact ⟨rfl, HB.out⟩
    | succ g =>
      obtain ⟨wo, hwo⟩ : ∃ wo, wo = wr := ⟨_, rfl⟩
      subst hwo
      have dA := D1.out.below (Nat.le_refl _) hb
      have dB := D2.out.below (Nat.le_refl _) hb
      have l1 : j < g1.length := by rw [← dA.n1]; omega
      have l2 : j < g2.length := by rw [← dB.n1]; omega
      have e1 : g1[j]? = some g1[j] := List.getElem?_eq_getElem l1
      have e2 : g2[j]? = some g2[j] := List.getElem?_eq_getElem l2
      have hss : (g1[j]).2 = (g2[j]).2 := by
        have h1 : (g1.map (·.2))[j]? = some (g1[j]).2 := by rw [List.getElem?_map, e1]; rfl
        have h2 : (g2.map (·.2))[j]? = some (g2[j]).2 := by rw [List.getElem?_map, e2]; rfl
        rw [HE.out, h2] at h1
        exact (Option.some.inj h1).symm
      obtain ⟨b1, o1, rfl, _, hc1⟩ := dA.rd j (g1[j]).1.cs (by simp [e1])
      obtain ⟨b2, o2, rfl, _, hc2⟩ := dB.rd j (g2[j]).1.cs (by simp [e2])
      have s1 := dA.el _ (List.getElem_mem l1)
      have s2 := dB.el _ (List.getElem_mem l2)
      generalize g1[j] = p1 at hss hc1 s1
      generalize g2[j] = p2 at hss hc2 s2
      obtain ⟨⟨r1, oa1, on1, oc1⟩, f1⟩ := p1
      obtain ⟨⟨r2, oa2, on2, oc2⟩, f2⟩ := p2
      simp only at hss
      subst hss
      obtain rfl : r1 = r2 := (show r1 = _ from s1.rg).trans (show r2 = _ from s2.rg).symm
      obtain rfl : on1 = on2 := (show on1 = _ from s1.on).trans (show on2 = _ from s2.on).symm
      have x0 := hc1 0 (by omega)
      have x1 := hc1 1 (by omega)
      have y0 := hc2 0 (by omega)
      have y1 := hc2 1 (by omega)
      simp only [FH.cs, List.getElem?_cons_zero, List.getElem?_cons_succ, Nat.add_zero] at x0 x1 y0 y1
      have hjI : (j : Int) < (n : Int) := by omega
      have hj0 : (0 : Int) ≤ (j : Int) := by omega
      have hon2 : (on1 : Int) ≤ 9223372036854775807 := by have : on1 ≤ _ := s1.o2; omega
      have HON : Hid (on1 = f1.ops.length) := hid s1.on
      have R1 : Hid (ORd wo oa1 f1.ops) := hid s1.or
      have R2 : Hid (ORd wo oa2 f1.ops) := hid s2.or
      have nb2 : ((on1 : Int) != (on1 : Int)) = false := by simp
      have nb3 : (r1 != r1) = false := by simp
      have HB := hid hb
      have ST : Hid (∀ v : World, Below wo.heap.size wo v → v.cell? ⟨b1, o1 + j * 2, none⟩ = some (.int .i64 r1) ∧ v.cell? ⟨b1, o1 + j * 2 + 1, none⟩ = some (.slice oa1 on1 oc1) ∧ v.cell? ⟨b2, o2 + j * 2, none⟩ = some (.int .i64 r1) ∧ v.cell? ⟨b2, o2 + j * 2 + 1, none⟩ = some (.slice oa2 on1 oc2)) := hid (fun v hv => by
        have k : ∀ (p : Addr) (x : Value), wo.cell? p = some x → v.cell? p = some x := fun p x h => (hv.cell (p := p) (World.block_lt_of_cell? wo p h)).trans h
        exact ⟨k _ _ x0, k _ _ x1, k _ _ y0, k _ _ y1⟩)
      clear hb dA dB l1 l2 e1 e2 hc1 hc2 s1 s2
      go_upto_region 6 with fail
      go_quiet (fail)
      obtain ⟨A, hA⟩ : ∃ A, A = wo.drewN nq := ⟨_, rfl⟩
      have bA : Below wo.heap.size wo A := by rw [hA]; exact bel_dN (Below.refl _ _) _
      rw [← hA]
      clear hA x0 x1 y0 y1
      obtain ⟨x0, x1, y0, y1⟩ := ST.out A bA
      have BA := hid bA
      clear bA
      go_wp2
      go_loopg [6] on1 (fun g2 x wr2 => ∃ i : Nat, i + g2 = on1 ∧ x = .int .i64 (i : Int) ∧ Below wo.heap.size wo wr2)
      case atStart => exact ⟨0, by omega, rfl, BA.out⟩
      case round =>
        obtain ⟨i, hi, rfl, hb2⟩ := hrel
        clear x0 x1 y0 y1
        obtain ⟨x0, x1, y0, y1⟩ := ST.out wr hb2
        cases gk with
        | zero =>
          have hin : i = on1 := by omega
          subst hin
          have HB2 := hid hb2
          clear hb2
          go_wp2
          go_roundg g
          case measure => omega
          exact ⟨j + 1, by omega, by go_num, HB.out.trans (HB2.out.mono HB.out.size)⟩
        | succ g2 =>
          obtain ⟨o, ho⟩ : ∃ o, f1.ops[i]? = some o := ⟨f1.ops[i]'(by have := HON.out; omega), List.getElem?_eq_getElem _⟩
          obtain ⟨p1, q1, rfl, hcl1⟩ := (R1.out.below hb2) i o ho
          obtain ⟨p2, q2, rfl, hcl2⟩ := (R2.out.below hb2) i o ho
          have hiI : (i : Int) < (on1 : Int) := by omega
          have hi0 : (0 : Int) ≤ (i : Int) := by omega
          obtain ⟨xc, xd, xa, xb, xk⟩ := o
          have i0 := hcl1 0 (by omega)
          have i1 := hcl1 1 (by omega)
          have i2 := hcl1 2 (by omega)
          have i3 := hcl1 3 (by omega)
          have i4 := hcl1 4 (by omega)
          have k0 := hcl2 0 (by omega)
          have k1 := hcl2 1 (by omega)
          have k2 := hcl2 2 (by omega)
          have k3 := hcl2 3 (by omega)
          have k4 := hcl2 4 (by omega)
          simp only [Opx.cs, List.getElem?_toArray, List.getElem?_cons_zero, List.getElem?_cons_succ, Nat.add_zero] at i0 i1 i2 i3 i4 k0 k1 k2 k3 k4
          have HB2 := hid hb2
          clear hb2 hcl1 hcl2 ho
          go_wp2
          go_quiet (fail)
          go_wp2
          go_roundg g2
          case measure => omega
          exact ⟨i + 1, by omega, by go_num, bel_dN HB2.out _⟩
end Go.Proofs.YthnolocldeokeaaGreat

namespace Go.Proofs.YthnolocldeokeaaGreat
open Go.RowKit Go.Deep Go.Shelf
set_option linter.unusedVariables false
set_option linter.unusedSimpArgs false
structure PEq (p q : Pg) : Prop where
  r : p.recs.map (·.2) = q.recs.map (·.2)
  m : p.maps = q.maps
  f : p.funcs.map (·.2) = q.funcs.map (·.2)
  e : p.events.map (·.2) = q.events.map (·.2)
theorem bel_cell {w v : World} (hv : Below w.heap.size w v) {p : Addr} {x : Value} (h : w.cell? p = some x) : v.cell? p = some x := (hv.cell (p := p) (World.block_lt_of_cell? w p h)).trans h
theorem two_al (w : World) (a b : Obj) : ((w.alloc a).alloc b).drew.heap[w.heap.size]? = some a ∧ ((w.alloc a).alloc b).drew.heap[w.heap.size + 1]? = some b ∧ Below w.heap.size w ((w.alloc a).alloc b).drew := by
  refine ⟨(Below.heap_alloc _ _ _ (by simp)).trans (heap_alloc_new w _), ?_, (((Below.refl _ w).alloc (Nat.le_refl _) _).alloc (by simp) _).drew⟩
  have := heap_alloc_new (w.alloc a) b
  rw [World.size_alloc] at this; exact this
set_option maxRecDepth 100000 in
set_option maxHeartbeats 8000000 in
theorem sameProgram_yes (w : World) (h k : PH) (p q : Pg) (d1 : PRd w h p) (d2 : PRd w k q) (he : PEq p q) :
    Calls Tryz.prog 47 #[h.v, k.v] w fun e w' => e = .returned (.bool true) ∧ Below w.heap.size w w' := by
  have er : h.rn = k.rn := by rw [d1.r.n1, d2.r.n1]; have := congrArg List.length he.r; rw [List.length_map, List.length_map] at this; exact this
  have em : h.mn = k.mn := by rw [d1.m.n1, d2.m.n1, he.m]
  have ef : h.fn = k.fn := by rw [d1.f.n1, d2.f.n1]; have := congrArg List.length he.f; rw [List.length_map, List.length_map] at this; exact this
  have ee : h.en = k.en := by rw [d1.e.n1, d2.e.n1]; have := congrArg List.length he.e; rw [List.length_map, List.length_map] at this; exact this
  have r1 := d1.r
  have r2 := d2.r
  have m1 := d1.m
  have m2 := d2.m
  have f1 := d1.f
  have f2 := d2.f
  have e1 := d1.e
  have e2 := d2.e
  obtain ⟨ra, rn, rc, ma, mn, mc, fa, fn, fc, ea, en, ec⟩ := h
  obtain ⟨ra2, rn2, rc2, ma2, mn2, mc2, fa2, fn2, fc2, ea2, en2, ec2⟩ := k
  simp only at er em ef ee r1 r2 m1 m2 f1 f2 e1 e2
  subst er em ef ee
  simp only [PH.v]
  obtain ⟨W0, hW0⟩ : ∃ W0, W0 = (w.alloc (.cells #[.slice ra rn rc, .slice ma mn mc, .slice fa fn fc, .slice ea en ec] 26)).alloc (.cells #[.slice ra2 rn rc2, .slice ma2 mn mc2, .slice fa2 fn fc2, .slice ea2 en ec2] 26) := ⟨_, rfl⟩
  have bw : Below w.heap.size w W0 := by rw [hW0]; exact ((Below.refl _ _).alloc (Nat.le_refl _) _).alloc (by simp) _
  have q0 : W0.heap[w.heap.size]? = some (.cells #[.slice ra rn rc, .slice ma mn mc, .slice fa fn fc, .slice ea en ec] 26 (0, 0)) := by rw [hW0]; exact (Below.heap_alloc _ _ _ (by simp)).trans (heap_alloc_new w _)
  have q1 : W0.heap[w.heap.size + 1]? = some (.cells #[.slice ra2 rn rc2, .slice ma2 mn mc2, .slice fa2 fn fc2, .slice ea2 en ec2] 26 (0, 0)) := by
    have := heap_alloc_new (w.alloc (.cells #[.slice ra rn rc, .slice ma mn mc, .slice fa fn fc, .slice ea en ec] 26)) (.cells #[.slice ra2 rn rc2, .slice ma2 mn mc2, .slice fa2 fn fc2, .slice ea2 en ec2] 26)
    rw [World.size_alloc] at this
    rw [hW0]; exact this
  have GT : Hid (∀ V : World, Below W0.heap.size W0 V → ((V.cell? ⟨w.heap.size, 0, none⟩ = some (.slice ra rn rc) ∧ V.cell? ⟨w.heap.size, 1, none⟩ = some (.slice ma mn mc) ∧ V.cell? ⟨w.heap.size, 2, none⟩ = some (.slice fa fn fc) ∧ V.cell? ⟨w.heap.size, 3, none⟩ = some (.slice ea en ec)) ∧ V.cell? ⟨w.heap.size + 1, 0, none⟩ = some (.slice ra2 rn rc2) ∧ V.cell? ⟨w.heap.size + 1, 1, none⟩ = some (.slice ma2 mn mc2) ∧ V.cell? ⟨w.heap.size + 1, 2, none⟩ = some (.slice fa2 fn fc2) ∧ V.cell? ⟨w.heap.size + 1, 3, none⟩ = some (.slice ea2 en ec2)) ∧ Below w.heap.size w V) := hid (fun V hV => by
    have g0 := (hV.block _ (lt_of_heap q0)).trans q0
    have g1 := (hV.block _ (lt_of_heap q1)).trans q1
    exact ⟨⟨⟨cellOf g0 0, cellOf g0 1, cellOf g0 2, cellOf g0 3⟩, cellOf g1 0, cellOf g1 1, cellOf g1 2, cellOf g1 3⟩, bw.trans (hV.mono bw.size)⟩)
  have KF := hid (fun (V : World) (hV : Below w.heap.size w V) => sameSigs_yes V fa fa2 fn fc fc2 p.funcs q.funcs (f1.below (Nat.le_refl _) hV) (f2.below (Nat.le_refl _) hV) he.f)
  have KE := hid (fun (V : World) (hV : Below w.heap.size w V) => sameSigs_yes V ea ea2 en ec ec2 p.events q.events (e1.below (Nat.le_refl _) hV) (e2.below (Nat.le_refl _) hV) he.e)
  have R1 := hid r1
  have R2 := hid r2
  have M1 := hid m1
  have M2 := hid m2
  have HER := hid he.r
  have HEM := hid he.m
  have rnI : (rn : Int) ≤ 9223372036854775807 := by have := r1.n2; omega
  have mnI : (mn : Int) ≤ 9223372036854775807 := by have := m1.n2; omega
  have fnI : (fn : Int) ≤ 9223372036854775807 := by have := f1.n2; omega
  have enI : (en : Int) ≤ 9223372036854775807 := by have := e1.n2; omega
  have nb1 : ((rn : Int) != (rn : Int)) = false := by simp
  have nb2 : ((mn : Int) != (mn : Int)) = false := by simp
  have TR : Hid (∀ {x y : World}, Below W0.heap.size W0 x → Below x.heap.size x y → Below W0.heap.size W0 y) := hid (fun h1 h2 => h1.trans (h2.mono h1.size))
  obtain ⟨⟨⟨c0, c1, c2, c3⟩, d0, d1', d2', d3⟩, _⟩ := GT.out W0 (Below.refl _ _)
  clear d1 d2 he r1 r2 m1 m2 f1 f2 e1 e2 q0 q1
  have KF0 := hid (KF.out W0 bw)
  clear bw KF
  go_enter Tryz.func47, Tryz.ntmps47
  go_upto_region 1 with fail
  rw [← hW0]
  clear hW0
  go_upto_region 3 with (first
    | (have hno := hfirst; (go_at_call 80; (refine (KE.out w1 (GT.out w1 hb1).2).mono ?_; rintro e w2 ⟨rfl, hb2⟩; have HB2 := hid (TR.out hb1 hb2); clear c0 c1 c2 c3 d0 d1' d2' d3; obtain ⟨⟨⟨c0, c1, c2, c3⟩, d0, d1', d2', d3⟩, _⟩ := GT.out w2 HB2.out)))
    | (go_at_call 80; (refine (Hid.out KF0).mono ?_; rintro e w1 ⟨rfl, hb1⟩; clear c0 c1 c2 c3 d0 d1' d2' d3; obtain ⟨⟨⟨c0, c1, c2, c3⟩, d0, d1', d2', d3⟩, _⟩ := GT.out w1 hb1; have hfirst : True := trivial)))
  clear hb1 hb2 hfirst KF0 KE
  go_wp2
  go_loopg [5] rn (fun g x wr => ∃ j : Nat, j + g = rn ∧ x = .int .i64 (j : Int) ∧ Below W0.heap.size W0 wr)
  case atStart => exact ⟨0, by omega, rfl, HB2.out⟩
  case round =>
    obtain ⟨j, hj, rfl, hb⟩ := hrel
    clear c0 c1 c2 c3 d0 d1' d2' d3
    obtain ⟨⟨⟨c0, c1, c2, c3⟩, d0, d1', d2', d3⟩, gb⟩ := GT.out wr hb
    cases gk with
    | zero =>
      have hjn : j = rn := by omega
      subst hjn
      have HB := hid hb
      clear hb gb
      go_wp2
      go_loopg [9] mn (fun g2 x wr2 => ∃ i : Nat, i + g2 = mn ∧ x = .int .i64 (i : Int) ∧ Below W0.heap.size W0 wr2)
      case atStart => exact ⟨0, by omega, rfl, HB.out⟩
      case round =>
        obtain ⟨i, hi, rfl, hb⟩ := hrel
        clear c0 c1 c2 c3 d0 d1' d2' d3
        obtain ⟨⟨⟨c0, c1, c2, c3⟩, d0, d1', d2', d3⟩, gb⟩ := GT.out wr hb
        cases gk with
        | zero =>
          have hin : i = mn := by omega
          subst hin
          have GB := hid gb
          clear gb hb
          go_wp2
          go_ret
          exact ⟨rfl, GB.out⟩
        | succ g2 =>
          have mA := M1.out.below (Nat.le_refl _) gb
          have mB := M2.out.below (Nat.le_refl _) gb
          have l1 : i < p.maps.length := by rw [← mA.n1]; omega
          have e1 : p.maps[i]? = some p.maps[i] := List.getElem?_eq_getElem l1
          have e2 : q.maps[i]? = some p.maps[i] := by rw [← HEM.out]; exact e1
          obtain ⟨b1, o1, rfl, _, hc1⟩ := mA.rd i (p.maps[i]).cs (by simp [e1])
          obtain ⟨b2, o2, rfl, _, hc2⟩ := mB.rd i (p.maps[i]).cs (by rw [List.getElem?_map, e2]; rfl)
          generalize p.maps[i] = mm at hc1 hc2
          obtain ⟨nm, ⟨k1, k2⟩, ⟨v1, v2⟩⟩ := mm
          have x0 := hc1 0 (by omega)
          have x1 := hc1 1 (by omega)
          have x2 := hc1 2 (by omega)
          have x3 := hc1 3 (by omega)
          have x4 := hc1 4 (by omega)
          have y0 := hc2 0 (by omega)
          have y1 := hc2 1 (by omega)
          have y2 := hc2 2 (by omega)
          have y3 := hc2 3 (by omega)
          have y4 := hc2 4 (by omega)
          simp only [Mp.cs, List.getElem?_cons_zero, List.getElem?_cons_succ, Nat.add_zero] at x0 x1 x2 x3 x4 y0 y1 y2 y3 y4
          have hiI : (i : Int) < (mn : Int) := by omega
          have hi0 : (0 : Int) ≤ (i : Int) := by omega
          have HB := hid hb
          clear hb gb mA mB l1 e1 e2 hc1 hc2
          go_wp2
          go_quiet (fail)
          go_wp2
          go_roundg g2
          case measure => omega
          exact ⟨i + 1, by omega, by go_num, bel_dN HB.out _⟩
    | succ g =>
      have rA := R1.out.below (Nat.le_refl _) gb
      have rB := R2.out.below (Nat.le_refl _) gb
      have l1 : j < p.recs.length := by rw [← rA.n1]; omega
      have l2 : j < q.recs.length := by rw [← rB.n1]; omega
      have e1 : p.recs[j]? = some p.recs[j] := List.getElem?_eq_getElem l1
      have e2 : q.recs[j]? = some q.recs[j] := List.getElem?_eq_getElem l2
      have hss : (p.recs[j]).2 = (q.recs[j]).2 := by
        have h1 : (p.recs.map (·.2))[j]? = some (p.recs[j]).2 := by rw [List.getElem?_map, e1]; rfl
        have h2 : (q.recs.map (·.2))[j]? = some (q.recs[j]).2 := by rw [List.getElem?_map, e2]; rfl
        rw [HER.out, h2] at h1
        exact (Option.some.inj h1).symm
      obtain ⟨b1, o1, rfl, _, hc1⟩ := rA.rd j (p.recs[j]).1.cs (by simp [e1])
      obtain ⟨b2, o2, rfl, _, hc2⟩ := rB.rd j (q.recs[j]).1.cs (by simp [e2])
      have s1 := rA.el _ (List.getElem_mem l1)
      have s2 := rB.el _ (List.getElem_mem l2)
      generalize p.recs[j] = p1 at hss hc1 s1
      generalize q.recs[j] = p2 at hss hc2 s2
      obtain ⟨⟨nm1, xa1, xn1, xc1, ya1, yn1, yc1⟩, rx1⟩ := p1
      obtain ⟨⟨nm2, xa2, xn2, xc2, ya2, yn2, yc2⟩, rx2⟩ := p2
      simp only at hss
      subst hss
      obtain rfl : nm1 = nm2 := (show nm1 = _ from s1.nm).trans (show nm2 = _ from s2.nm).symm
      obtain rfl : xn1 = xn2 := (show xn1 = _ from s1.fn).trans (show xn2 = _ from s2.fn).symm
      obtain rfl : yn1 = yn2 := (show yn1 = _ from s1.tn).trans (show yn2 = _ from s2.tn).symm
      have x0 := hc1 0 (by omega)
      have x1 := hc1 1 (by omega)
      have x2 := hc1 2 (by omega)
      have y0 := hc2 0 (by omega)
      have y1 := hc2 1 (by omega)
      have y2 := hc2 2 (by omega)
      simp only [RH.cs, List.getElem?_cons_zero, List.getElem?_cons_succ, Nat.add_zero] at x0 x1 x2 y0 y1 y2
      have hjI : (j : Int) < (rn : Int) := by omega
      have hj0 : (0 : Int) ≤ (j : Int) := by omega
      have S1 := hid s1
      have S2 := hid s2
      have HB := hid hb
      have GB := hid gb
      obtain ⟨wo, hwo⟩ : ∃ wo, wo = wr := ⟨_, rfl⟩
      subst hwo
      clear hb gb rA rB l1 l2 e1 e2 hc1 hc2 s1 s2
      go_upto_region 6 with fail
      go_cut [6, 7] from 49 to 58 (fun s6 s7 wx => ∃ X Y : Nat, s6 = .pointer (some ⟨X, 0, none⟩) ∧ s7 = .pointer (some ⟨Y, 0, none⟩) ∧ wx.heap[X]? = some (.cells #[.string nm1, .slice xa1 xn1 xc1, .slice ya1 yn1 yc1] 63 (0, 0)) ∧ wx.heap[Y]? = some (.cells #[.string nm1, .slice xa2 xn1 xc2, .slice ya2 yn1 yc2] 63 (0, 0)) ∧ Below wo.heap.size wo wx)
      case first =>
        go_region_held3 (fun v => v.cell? ⟨w.heap.size, 0, none⟩ = some (.slice (some ⟨b1, o1, none⟩) rn rc) ∧ v.cell? ⟨w.heap.size + 1, 0, none⟩ = some (.slice (some ⟨b2, o2, none⟩) rn rc2) ∧ v.cell? ⟨b1, o1 + j * 3, none⟩ = some (.string nm1) ∧ v.cell? ⟨b1, o1 + j * 3 + 1, none⟩ = some (.slice xa1 xn1 xc1) ∧ v.cell? ⟨b1, o1 + j * 3 + 2, none⟩ = some (.slice ya1 yn1 yc1) ∧ v.cell? ⟨b2, o2 + j * 3, none⟩ = some (.string nm1) ∧ v.cell? ⟨b2, o2 + j * 3 + 1, none⟩ = some (.slice xa2 xn1 xc2) ∧ v.cell? ⟨b2, o2 + j * 3 + 2, none⟩ = some (.slice ya2 yn1 yc2)) (first | go_keep) (fail)
        all_goals (go_wp2_with fail)
        all_goals go_meet
        · exact ⟨_, _, rfl, rfl, (two_al _ _ _).1, (two_al _ _ _).2.1, (two_al _ _ _).2.2⟩
        · exact ⟨_, _, rfl, rfl, (two_al _ _ _).2.1, (two_al _ _ _).1, (two_al _ _ _).2.2⟩
      case rest =>
        obtain ⟨X, Y, rfl, rfl, mX, mY, bx⟩ := hcut
        have BX := hid (HB.out.trans (bx.mono HB.out.size))
        have gwc := GB.out.trans (bx.mono GB.out.size)
        have CB := hid (fun (V : World) (hV : Below wc.heap.size wc V) => (by
          have g1 := (hV.block _ (lt_of_heap mX)).trans mX
          have g2 := (hV.block _ (lt_of_heap mY)).trans mY
          exact ⟨⟨cellOf g1 0, cellOf g1 1, cellOf g1 2⟩, cellOf g2 0, cellOf g2 1, cellOf g2 2⟩ : (V.cell? ⟨X, 0, none⟩ = some (.string nm1) ∧ V.cell? ⟨X, 1, none⟩ = some (.slice xa1 xn1 xc1) ∧ V.cell? ⟨X, 2, none⟩ = some (.slice ya1 yn1 yc1)) ∧ V.cell? ⟨Y, 0, none⟩ = some (.string nm1) ∧ V.cell? ⟨Y, 1, none⟩ = some (.slice xa2 xn1 xc2) ∧ V.cell? ⟨Y, 2, none⟩ = some (.slice ya2 yn1 yc2)))
        have T1 := S1.out.below (Nat.le_refl _) bx
        have T2 := S2.out.below (Nat.le_refl _) bx
        have K := hid (sameTypes_yes wc ya1 ya2 yn1 yc1 yc2 rx1.types T1.tn T1.t2 T1.tr T2.tr)
        have xnI : (xn1 : Int) ≤ 9223372036854775807 := by have : xn1 ≤ _ := T1.f2; omega
        have HXN : Hid (xn1 = rx1.fields.length) := hid T1.fn
        have F1 := hid T1.fr
        have F2 := hid T2.fr
        have nbx : ((xn1 : Int) != (xn1 : Int)) = false := by simp
        clear x0 x1 x2 y0 y1 y2 mX mY T1 T2
        obtain ⟨⟨x0, x1, x2⟩, y0, y1, y2⟩ := CB.out wc (Below.refl _ _)
        go_upto_region 9 with (go_at_call 81; (refine (Hid.out K).mono ?_; rintro e w2 ⟨rfl, hb2⟩; have HC := hid hb2; clear x0 x1 x2 y0 y1 y2 hb2))
        obtain ⟨⟨x0, x1, x2⟩, y0, y1, y2⟩ := CB.out w2 HC.out
        go_wp2
        go_loopg [8] xn1 (fun g2 x wr2 => ∃ i : Nat, i + g2 = xn1 ∧ x = .int .i64 (i : Int) ∧ Below wc.heap.size wc wr2)
        case atStart => exact ⟨0, by omega, rfl, HC.out⟩
        case round =>
          obtain ⟨i, hi, rfl, hb3⟩ := hrel
          clear x0 x1 x2 y0 y1 y2
          obtain ⟨⟨x0, x1, x2⟩, y0, y1, y2⟩ := CB.out wr hb3
          cases gk with
          | zero =>
            have hin : i = xn1 := by omega
            subst hin
            have H3 := hid hb3
            clear hb3
            go_wp2
            go_roundg g
            case measure => omega
            exact ⟨j + 1, by omega, by go_num, BX.out.trans (H3.out.mono BX.out.size)⟩
          | succ g2 =>
            obtain ⟨s, hs⟩ : ∃ s, rx1.fields[i]? = some s := ⟨rx1.fields[i]'(by have := HXN.out; omega), List.getElem?_eq_getElem _⟩
            obtain ⟨_, p1, u1, rfl, z1⟩ := (F1.out.below (Nat.le_refl _) hb3) i s hs
            obtain ⟨_, p2, u2, rfl, z2⟩ := (F2.out.below (Nat.le_refl _) hb3) i s hs
            have hiI : (i : Int) < (xn1 : Int) := by omega
            have hi0 : (0 : Int) ≤ (i : Int) := by omega
            have H3 := hid hb3
            clear hb3 hs
            go_wp2
            go_quiet (fail)
            go_wp2
            go_roundg g2
            case measure => omega
            exact ⟨i + 1, by omega, by go_num, bel_dN H3.out _⟩
end Go.Proofs.YthnolocldeokeaaGreat

namespace Go.Proofs.YthnolocldeokeaaGreat
open Go
set_option linter.unusedVariables false
section
variable {P : Program} {ops : Array Oper} {Q : Exit → Act → World → Prop} {md : Region.Mode} {S : World → Prop} {L : Nat}
/- Whatever order is picked; S holds behind every operation but number L. -/
def wpAnyI (P : Program) (md : Region.Mode) (ops : Array Oper) (Q : Exit → Act → World → Prop) (L : Nat) (S : World → Prop) : Nat → Array Bool → Act → World → Prop
  | 0, listed, a, w => Region.ready md ops listed = [] ∧ Q .normal a w
  | fuel + 1, listed, a, w =>
    (Region.ready md ops listed = [] → Q .normal a w) ∧
    ∀ i ∈ Region.ready md ops listed, wpOp P ops Q i (fun a' w' => (i = L ∨ S w') ∧ wpAnyI P md ops Q L S fuel (listed.setIfInBounds i true) a' w') a w
theorem wpAny_of_I : ∀ (fuel : Nat) (listed : Array Bool) (a : Act) (w : World), wpAnyI P md ops Q L S fuel listed a w → wpAny P md ops Q fuel listed a w
  | 0, _, _, _, h => h
  | fuel + 1, _, _, _, h => ⟨h.1, fun i hi => wpOp_mono (fun a' w' h' => wpAny_of_I fuel _ a' w' h'.2) (h.2 i hi)⟩
/- A row of operations, each waiting for the one ahead of it, none of them done. -/
def chainOk (md : Region.Mode) (ops : Array Oper) (listed : Array Bool) : List Nat → Bool
  | [] => false
  | c :: r => !listed.getD c true && (match r with
    | [] => true
    | d :: _ => ((ops[d]?).map (fun o => o.after.any fun e => Region.binds md e && e.on == c)).getD false && chainOk md ops listed r)
theorem chainOk_ne {listed : Array Bool} {j : Nat} : ∀ {c : Nat} {r : List Nat}, chainOk md ops listed (c :: r) = true → j ∈ Region.ready md ops listed → j ∉ r
  | c, [], _, _ => by simp
  | c, d :: r, h, hj => by
    unfold chainOk at h
    simp only [Bool.and_eq_true, Bool.not_eq_true'] at h
    obtain ⟨h0, h1, h2⟩ := h
    intro hm
    rcases List.mem_cons.1 hm with rfl | hm
    · obtain ⟨_, o, ho, hall⟩ := mem_ready.1 hj
      rw [ho] at h1
      simp only [Option.map_some, Option.getD_some, Array.any_eq_true] at h1
      obtain ⟨q, hq, he⟩ := h1
      simp only [Bool.and_eq_true, beq_iff_eq] at he
      have h3 := hall _ (Array.getElem_mem hq) he.1
      rw [he.2] at h3
      rcases Nat.lt_or_ge c listed.size with h' | h'
      · simp [h'] at h0 h3; rw [h0] at h3; cases h3
      · simp [Array.getElem?_eq_none h'] at h0
    · exact chainOk_ne h2 hj hm
theorem chainOk_set {listed : Array Bool} {j : Nat} : ∀ {l : List Nat}, chainOk md ops listed l = true → j ∉ l → chainOk md ops (listed.setIfInBounds j true) l = true
  | [], h, _ => h
  | [c], h, hj => by
    unfold chainOk at h ⊢
    rw [getD_set_ne true (by intro e; exact hj (by rw [e]; exact List.mem_cons_self ..))]
    exact h
  | c :: d :: r, h, hj => by
    unfold chainOk at h ⊢
    simp only [Bool.and_eq_true] at h ⊢
    rw [getD_set_ne true (by intro e; exact hj (by rw [e]; exact List.mem_cons_self ..))]
    exact ⟨h.1, h.2.1, chainOk_set h.2.2 (fun hm => hj (List.mem_cons_of_mem _ hm))⟩
theorem wpAnyI_first {i : Nat} {oi : Oper} {v : Value} {r : List Nat} (hi : ops[i]? = some oi) (hsel : ∀ (j : Nat) (o : Oper) cs b, ops[j]? = some o → o.op ≠ .select cs b)
    (hQ : ∀ c a w, Q (.panic c) (a.put oi.dst v) w → Q (.panic c) a w) (hLr : L ∈ r) :
    ∀ (fuel : Nat) (listed : Array Bool) (a : Act) (w : World),
      (∀ j oj, ops[j]? = some oj → j ≠ i → listed.getD j true = false → (∀ e ∈ oj.after, Region.binds md e = true → e.on ≠ i) → oi.apart ops oj = true) →
      i ∈ Region.ready md ops listed → chainOk md ops listed (i :: r) = true → YieldsIf P ops S oi v a → S w →
      wpAnyI P md ops Q L S fuel (listed.setIfInBounds i true) (a.put oi.dst v) w → wpAnyI P md ops Q L S (fuel + 1) listed a w := by
  intro fuel
  induction fuel with
  | zero =>
    intro listed a w _ hr _ hy hS H
    refine ⟨fun h => (by rw [h] at hr; cases hr), fun j hj => ?_⟩
    by_cases hji : j = i
    · subst hji; exact hy.wpOp hi hS ⟨.inr hS, H⟩
    · have := ready_mono hj hji
      rw [H.1] at this
      cases this
  | succ fuel ih =>
    intro listed a w hfree hr hch hy hS H
    refine ⟨fun h => (by rw [h] at hr; cases hr), fun j hj => ?_⟩
    by_cases hji : j = i
    · subst hji; exact hy.wpOp hi hS ⟨.inr hS, H⟩
    · have h1 := H.2 j (ready_mono hj hji)
      obtain ⟨hjun, oj, hoj, hall⟩ := mem_ready.1 hj
      have hnot : ∀ e ∈ oj.after, Region.binds md e = true → e.on ≠ i := fun e he hb heq => by
        have h1 := hall e he hb
        have h0 := (mem_ready.1 hr).1
        rw [heq] at h1
        rcases Nat.lt_or_ge i listed.size with h' | h'
        · simp [h'] at h0 h1; rw [h0] at h1; cases h1
        · simp [Array.getElem?_eq_none h'] at h1
      have hjr : j ∉ r := chainOk_ne hch hj
      have hjL : j ≠ L := fun e => hjr (by rw [e]; exact hLr)
      have h2 := wpOp_putIf hoj (hfree j oj hoj hji hjun hnot) (fun cs b => hsel i oi cs b hi) (fun cs b => hsel j oj cs b hoj) hQ hy h1
      have hfree' : ∀ k ok, ops[k]? = some ok → k ≠ i → (listed.setIfInBounds j true).getD k true = false →
          (∀ e ∈ ok.after, Region.binds md e = true → e.on ≠ i) → oi.apart ops ok = true := fun k ok hk hki hun hno => by
        refine hfree k ok hk hki ?_ hno
        by_cases hjk : j = k
        · subst hjk; exact hjun
        · rw [getD_set_ne true hjk] at hun; exact hun
      refine wpOp_mono (fun a' w' h3 => ⟨h3.2.1, ih (listed.setIfInBounds j true) a' w' hfree' (ready_mono hr (Ne.symm hji)) (chainOk_set hch (fun hm => (List.mem_cons.1 hm).elim hji hjr)) h3.1 (h3.2.1.resolve_left hjL) ?_⟩) h2
      rw [Array.setIfInBounds_comm _ _ hji]
      exact h3.2.2
theorem wpAnyI_take {i : Nat} {oi : Oper} {v : Value} {fuel : Nat} {listed : Array Bool} {a : Act} {w : World} (r : List Nat) (hi : ops[i]? = some oi)
    (hs : Region.noSelect ops = true) (hf : Region.free md ops listed i = true) (hr : (Region.ready md ops listed).contains i = true) (hc : (chainOk md ops listed (i :: r) && r.contains L) = true)
    (hQ : ∀ c a w, Q (.panic c) (a.put oi.dst v) w → Q (.panic c) a w) (hy : YieldsIf P ops S oi v a) (hS : S w)
    (h : wpAnyI P md ops Q L S fuel (listed.setIfInBounds i true) (a.put oi.dst v) w) : wpAnyI P md ops Q L S (fuel + 1) listed a w := by
  simp only [Bool.and_eq_true] at hc
  exact wpAnyI_first hi (Region.noSelect_spec hs) hQ (by simpa using hc.2) fuel listed a w (Region.free_spec hi hf) (by simpa using hr) hc.1 hy hS h
/- One operation alone may come up, and it is not the last. -/
theorem wpAnyI_one {i : Nat} {o : Oper} {fuel : Nat} {listed : Array Bool} {a : Act} {w : World} (hr : Region.ready md ops listed = [i]) (ho : ops[i]? = some o)
    (h : ∀ K' : Act → World → Prop, Shut (∀ a w, S w → (S w → wpAnyI P md ops Q L S fuel (listed.setIfInBounds i true) a w) → K' a w) → if Region.wanted o (yielded ops a.tmps) = true then Oper.wp P o a w K' Q else K' (a.put o.dst undef) w) :
    wpAnyI P md ops Q L S (fuel + 1) listed a w :=
  ⟨fun h0 => (by rw [hr] at h0; cases h0), fun j hj => by
    rw [hr] at hj
    have hji : j = i := by simpa using hj
    subst hji
    exact wpOp_step ho (fun K' hK => h K' (fun a w hS hW => hK a w ⟨.inr hS, hW hS⟩))⟩
/- The last operation. -/
theorem wpAnyI_last {o : Oper} {fuel : Nat} {listed : Array Bool} {a : Act} {w : World} (hr : Region.ready md ops listed = [L]) (ho : ops[L]? = some o) (he : Region.ready md ops (listed.setIfInBounds L true) = [])
    (h : ∀ K' : Act → World → Prop, Shut (∀ a w, Q .normal a w → K' a w) → if Region.wanted o (yielded ops a.tmps) = true then Oper.wp P o a w K' Q else K' (a.put o.dst undef) w) :
    wpAnyI P md ops Q L S (fuel + 1) listed a w :=
  ⟨fun h0 => (by rw [hr] at h0; cases h0), fun j hj => by
    rw [hr] at hj
    have hji : j = L := by simpa using hj
    subst hji
    refine wpOp_step ho (fun K' hK => h K' (fun a w hq => hK a w ⟨.inl rfl, ?_⟩))
    cases fuel with
    | zero => exact ⟨he, hq⟩
    | succ f => exact ⟨fun _ => hq, by rw [he]; simp⟩⟩
end
end Go.Proofs.YthnolocldeokeaaGreat

namespace Go.Proofs.YthnolocldeokeaaGreat
open Go.RowKit Go.Deep Go.Shelf
set_option linter.unusedVariables false
set_option linter.unusedSimpArgs false
/- What stands in the blocks from B on holds still. -/
def Kp (B : Nat) (w : World) (P : World → Prop) : Prop := ∀ X : World, (∀ g, B ≤ g → g < w.heap.size → X.heap[g]? = w.heap[g]?) → P X
theorem KR.above {E : TypeId} {k : Nat} {w w' : World} {B : Nat} {v : Value} {l : List (List Value)} (h : KR E k w B v l) (e : ∀ g, B ≤ g → g < w.heap.size → w'.heap[g]? = w.heap[g]?) : KR E k w' B v l := h.keep fun g q => e g (h.own q).1 (h.own q).2
theorem KR.srd {w : World} {B : Nat} {a : Option Addr} {n c : Nat} {ss : List ByteArray} (h : KR 9 1 w B (.slice a n c) (ss.map stc)) (hs : ∀ s ∈ ss, s.size ≤ 1000000) : SRd w a ss := by
  obtain ⟨a', c', e, _, hr, _, _⟩ := h.rd
  cases e
  intro j s hj
  obtain ⟨b, off, rfl, hbl, hc⟩ := hr j (stc s) (by simp [hj])
  have h0 := hc 0 (by omega)
  simp only [stc, List.getElem?_cons_zero, Nat.add_zero, Nat.mul_one] at h0
  exact ⟨by have := hs s (List.mem_of_getElem? hj); omega, b, off, rfl, h0⟩
theorem KR.jrd {w : World} {B : Nat} {a : Option Addr} {n c : Nat} {xs : List Int} (h : KR 2 1 w B (.slice a n c) (xs.map inc)) : JRd w a xs := by
  obtain ⟨a', c', e, _, hr, _, _⟩ := h.rd
  cases e
  exact hr
/- Sizes of what is right. -/
theorem names_sm {f : Int → Bool} {ss : List ByteArray} (h : namesB f ss = true) : ∀ s ∈ ss, s.size ≤ 20 := fun s hs => by
  obtain ⟨i, hi⟩ := List.getElem?_of_mem hs
  unfold namesB at h
  have h1 := List.all_eq_true.1 h i (List.mem_range.2 (List.getElem?_eq_some_iff.1 hi).1)
  rw [okAt_some hi] at h1
  simp only [nameB, Bool.and_eq_true, decide_eq_true_eq] at h1
  exact h1.1.1.1.2
structure RcSm (r : Rc) : Prop where
  nm : r.name.size ≤ 20
  fl : r.fields.length ≤ 12
  tl : r.types.length ≤ 12
  fs : ∀ s ∈ r.fields, s.size ≤ 20
structure PgSm (p : Pg) : Prop where
  rl : p.recs.length ≤ 16
  r : ∀ x ∈ p.recs, RcSm x.2
  ml : p.maps.length ≤ 16
  m : ∀ x ∈ p.maps, x.name.size ≤ 20
  fl : p.funcs.length ≤ 16
  f : ∀ x ∈ p.funcs, x.2.name.size ≤ 20 ∧ x.2.params.length ≤ 12
  el : p.events.length ≤ 16
  e : ∀ x ∈ p.events, x.2.name.size ≤ 20 ∧ x.2.params.length ≤ 12
theorem sigs_sm {n : Nat} {l : List (GH × Sg)} (h : sigsB n (l.map (·.2)) = true) : l.length ≤ 16 ∧ ∀ x ∈ l, x.2.name.size ≤ 20 ∧ x.2.params.length ≤ 12 := by
  unfold sigsB at h
  simp only [Bool.and_eq_true, decide_eq_true_eq, List.length_map] at h
  refine ⟨h.1.1, fun x hx => ⟨names_sm h.2 _ (List.mem_map.2 ⟨x.2, List.mem_map.2 ⟨x, hx, rfl⟩, rfl⟩), ?_⟩⟩
  have h2 := List.all_eq_true.1 h.1.2 x.2 (List.mem_map.2 ⟨x, hx, rfl⟩)
  unfold sigB at h2
  simp only [Bool.and_eq_true, decide_eq_true_eq] at h2
  exact h2.1.1
theorem right_sm {p : Pg} (h : rightB p = true) : PgSm p := by
  unfold rightB at h
  simp only [Bool.and_eq_true] at h
  obtain ⟨⟨⟨⟨h1, h2⟩, h3⟩, h4⟩, _⟩ := h
  unfold recordsB at h1
  simp only [Bool.and_eq_true, decide_eq_true_eq, List.length_map] at h1
  unfold mapsB at h2
  simp only [Bool.and_eq_true, decide_eq_true_eq] at h2
  refine ⟨h1.1.1, fun x hx => ?_, h2.1.1, fun x hx => names_sm h2.2 _ (List.mem_map.2 ⟨x, hx, rfl⟩), (sigs_sm h3).1, (sigs_sm h3).2, (sigs_sm h4).1, (sigs_sm h4).2⟩
  have q := List.all_eq_true.1 h1.1.2 x.2 (List.mem_map.2 ⟨x, hx, rfl⟩)
  unfold fieldsB at q
  simp only [Bool.and_eq_true, decide_eq_true_eq] at q
  exact ⟨names_sm h1.2 _ (List.mem_map.2 ⟨x.2, List.mem_map.2 ⟨x, hx, rfl⟩, rfl⟩), q.1.1.1.2, by have := q.1.1.2; have := q.1.1.1.2; omega, names_sm q.2⟩
/- A record laid anew. -/
structure RNew (w : World) (B : Nat) (p : RH × Rc) : Prop where
  nm : p.1.name = p.2.name
  sm : RcSm p.2
  fr : KR 9 1 w B (.slice p.1.fa p.1.fn p.1.fc) (p.2.fields.map stc)
  tr : KR 46 2 w B (.slice p.1.ta p.1.tn p.1.tc) (p.2.types.map tyc)
theorem RNew.rd {w : World} {B : Nat} {p : RH × Rc} (h : RNew w B p) : RcRd w p.1 p.2 := by
  obtain ⟨⟨nm, fa, fn, fc, ta, tn, tc⟩, s⟩ := p
  obtain ⟨a1, cap1, e1, hc1, hr1, _, _⟩ := h.fr.rd
  obtain ⟨a2, cap2, e2, hc2, hr2, _, _⟩ := h.tr.rd
  have hs := h.fr.srd (fun s hs => by have := h.sm.fs s hs; omega)
  have h3 := h.nm
  have h4 := h.sm
  simp only at h3 h4 e1 e2 hs
  rw [List.length_map] at e1 e2 hc1
  cases e1
  cases e2
  exact ⟨h3, by show nm.size ≤ _; rw [h3]; have := h4.nm; omega, rfl, hc1, by show s.fields.length ≤ _; have := h4.fl; omega, hs, rfl, by show s.types.length ≤ _; have := h4.tl; omega, CRd.trd hr2⟩
theorem RNew.above {w w' : World} {B : Nat} {p : RH × Rc} (h : RNew w B p) (e : ∀ g, B ≤ g → g < w.heap.size → w'.heap[g]? = w.heap[g]?) : RNew w' B p := ⟨h.nm, h.sm, h.fr.above e, h.tr.above e⟩
theorem RNew.other {F : TypeId} (h1 : 9 ≠ F) (h2 : 46 ≠ F) {q : Nat} {w w' : World} {B C : Nat} {r : Value} {m : List (List Value)} {p : RH × Rc} (h : RNew w B p) (g : KR F q w C r m) (hg : w.grownBy w' r.ownBlock) : RNew w' B p := ⟨h.nm, h.sm, h.fr.other h1 g hg, h.tr.other h2 g hg⟩
theorem rk_rh (g : RH) : Rk 3 [g.cs] := ⟨fun r hr => by simp at hr; subst hr; rfl, fun r hr u hu => by
  simp at hr; subst hr
  simp [RH.cs] at hu
  rcases hu with rfl | rfl | rfl <;> rfl⟩
theorem rk_mp (g : Mp) : Rk 5 [g.cs] := ⟨fun r hr => by simp at hr; subst hr; rfl, fun r hr u hu => by
  simp at hr; subst hr
  simp [Mp.cs] at hu
  rcases hu with rfl | rfl | rfl | rfl | rfl <;> rfl⟩
def RcsN (w : World) (B : Nat) (v : Value) (rs : List Rc) : Prop := ∃ l : List (RH × Rc), l.map (·.2) = rs ∧ KR 63 3 w B v (l.map fun p => p.1.cs) ∧ ∀ p ∈ l, RNew w B p
theorem RcsN.above {w w' : World} {B : Nat} {v : Value} {rs : List Rc} (h : RcsN w B v rs) (e : ∀ g, B ≤ g → g < w.heap.size → w'.heap[g]? = w.heap[g]?) : RcsN w' B v rs := by
  obtain ⟨l, h1, h2, h3⟩ := h
  exact ⟨l, h1, h2.above e, fun p hp => (h3 p hp).above e⟩
theorem RcsN.below {w w' : World} {B : Nat} {v : Value} {rs : List Rc} (h : RcsN w B v rs) (e : Below w.heap.size w w') : RcsN w' B v rs := h.above fun g _ hg => e.block g hg
theorem RcsN.rd {w : World} {B : Nat} {v : Value} {rs : List Rc} (h : RcsN w B v rs) (hl : rs.length ≤ 1000000) : ∃ a n c l, v = .slice a n c ∧ l.map (·.2) = rs ∧ RRd w a n l := by
  obtain ⟨l, h1, h2, h3⟩ := h
  obtain ⟨a, cap, e, _, hr, _, _⟩ := h2.rd
  rw [List.length_map] at e
  have : l.length = rs.length := by rw [← h1, List.length_map]
  exact ⟨a, l.length, cap, l, e, h1, ⟨rfl, by omega, hr, fun p hp => (h3 p hp).rd⟩⟩
theorem RcsN.grown {F : TypeId} (h1 : 63 ≠ F) (h2 : 9 ≠ F) (h3 : 46 ≠ F) {q : Nat} {w w' : World} {B C : Nat} {r v : Value} {m : List (List Value)} {rs : List Rc} (h : RcsN w B v rs) (g : KR F q w C r m) (hg : w.grownBy w' r.ownBlock) : RcsN w' B v rs := by
  obtain ⟨l, k1, k2, k3⟩ := h
  exact ⟨l, k1, k2.other h1 g hg, fun p hp => (k3 p hp).other h2 h3 g hg⟩
def MpsN (w : World) (B : Nat) (v : Value) (ms : List Mp) : Prop := KR 67 5 w B v (ms.map Mp.cs)
theorem MpsN.above {w w' : World} {B : Nat} {v : Value} {ms : List Mp} (h : MpsN w B v ms) (e : ∀ g, B ≤ g → g < w.heap.size → w'.heap[g]? = w.heap[g]?) : MpsN w' B v ms := KR.above h e
theorem MpsN.below {w w' : World} {B : Nat} {v : Value} {ms : List Mp} (h : MpsN w B v ms) (e : Below w.heap.size w w') : MpsN w' B v ms := h.above fun g _ hg => e.block g hg
theorem MpsN.rd {w : World} {B : Nat} {v : Value} {ms : List Mp} (h : MpsN w B v ms) (hl : ms.length ≤ 1000000) (hs : ∀ m ∈ ms, m.name.size ≤ 20) : ∃ a n c, v = .slice a n c ∧ MRd w a n ms := by
  obtain ⟨a, cap, e, _, hr, _, _⟩ := KR.rd h
  rw [List.length_map] at e
  exact ⟨a, ms.length, cap, e, ⟨rfl, by omega, hr, fun m hm => by have := hs m hm; omega⟩⟩
theorem SgsN.above {w w' : World} {B : Nat} {v : Value} {ss : List Sg} (h : SgsN w B v ss) (e : ∀ g, B ≤ g → g < w.heap.size → w'.heap[g]? = w.heap[g]?) : SgsN w' B v ss := by
  obtain ⟨l, h1, h2, h3⟩ := h
  exact ⟨l, h1, h2.above e, fun p hp => ⟨(h3 p hp).nm, (h3 p hp).ns, (h3 p hp).pr.above e, (h3 p hp).rs⟩⟩
theorem SgsN.lower {w : World} {B C : Nat} {v : Value} {ss : List Sg} (h : SgsN w B v ss) (hC : C ≤ B) : SgsN w C v ss := by
  obtain ⟨l, h1, h2, h3⟩ := h
  exact ⟨l, h1, h2.lower hC, fun p hp => ⟨(h3 p hp).nm, (h3 p hp).ns, (h3 p hp).pr.lower hC, (h3 p hp).rs⟩⟩
theorem SgsN.rd {w : World} {B : Nat} {v : Value} {ss : List Sg} (h : SgsN w B v ss) (hl : ss.length ≤ 1000000) (hp : ∀ s ∈ ss, s.params.length ≤ 1000000) : ∃ a n c l, v = .slice a n c ∧ l.map (·.2) = ss ∧ GRd w a n l := by
  obtain ⟨l, h1, h2, h3⟩ := h
  obtain ⟨a, cap, e, _, hr, _, _⟩ := h2.rd
  rw [List.length_map] at e
  have : l.length = ss.length := by rw [← h1, List.length_map]
  exact ⟨a, l.length, cap, l, e, h1, ⟨rfl, by omega, hr, fun p hp' => (h3 p hp').rd (hp p.2 (by rw [← h1]; exact List.mem_map.2 ⟨p, hp', rfl⟩))⟩⟩
theorem sgs_rd {w : World} {B : Nat} {a : Option Addr} {n c : Nat} {l : List (GH × Sg)} (k : KR 49 4 w B (.slice a n c) (l.map fun p => p.1.cs)) (h : ∀ p ∈ l, GNew w B p) (hl : l.length ≤ 1000000) (hp : ∀ p ∈ l, p.2.params.length ≤ 1000000) : GRd w a n l := by
  obtain ⟨a', cap, e, _, hr, _, _⟩ := k.rd
  rw [List.length_map] at e
  cases e
  exact ⟨rfl, by omega, hr, fun p hq => (h p hq).rd (hp p hq)⟩
end Go.Proofs.YthnolocldeokeaaGreat

