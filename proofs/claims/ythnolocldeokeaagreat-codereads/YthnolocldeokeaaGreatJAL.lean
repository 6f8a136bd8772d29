/- The document's Same, of what is alike: programs. -/
import Derived.Test.YthnolocldeokeaaGreatJAK
import Derived.Deep.RegionHeld3
import Derived.WalkKit
import Derived.WalkSpells
import Derived.WalkLawsBesides
import Derived.Deep.OwnRows
import Derived.Maps.AppendAt
import Derived.Deep.AppendLies
import Derived.Lib.AppendStr
import Derived.Below
import Derived.Laws.Bits64b
import Derived.Laws.BitsLemmas
namespace Go.Proofs.YthnolocldeokeaaGreat
open Go.RowKit Go.Deep Go.Shelf
set_option linter.unusedVariables false
set_option linter.unusedSimpArgs false
structure PEq (p q : Pg) : Prop where
  r : p.recs.map (·.2) = q.recs.map (·.2)
  m : p.maps = q.maps
  f : p.funcs.map (·.2) = q.funcs.map (·.2)
  e : p.events.map (·.2) = q.events.map (·.2)
theorem bel_cell {w v : World} (hv : Below w.heap.size w v) {p : Addr} {x : Value} (h : w.cell? p = some x) : v.cell? p = some x := (hv.cell (p := p) (World.block_lt_of_cell? w p h)).trans h
theorem two_al (w : World) (a b : Obj) : ((w.alloc a).alloc b).drew.heap[w.heap.size]? = some a ∧ ((w.alloc a).alloc b).drew.heap[w.heap.size + 1]? = some b ∧ Below w.heap.size w ((w.alloc a).alloc b).drew := by
  refine ⟨(Below.heap_alloc _ _ _ (by simp)).trans (heap_alloc_new w _), ?_, (((Below.refl _ w).alloc (Nat.le_refl _) _).alloc (by simp) _).drew⟩
  have := heap_alloc_new (w.alloc a) b
  rw [World.size_alloc] at this; exact this
set_option maxRecDepth 100000 in
set_option maxHeartbeats 8000000 in
theorem sameProgram_yes (w : World) (h k : PH) (p q : Pg) (d1 : PRd w h p) (d2 : PRd w k q) (he : PEq p q) :
    Calls Tryz.prog 47 #[h.v, k.v] w fun e w' => e = .returned (.bool true) ∧ Below w.heap.size w w' := by
  have er : h.rn = k.rn := by rw [d1.r.n1, d2.r.n1]; have := congrArg List.length he.r; rw [List.length_map, List.length_map] at this; exact this
  have em : h.mn = k.mn := by rw [d1.m.n1, d2.m.n1, he.m]
  have ef : h.fn = k.fn := by rw [d1.f.n1, d2.f.n1]; have := congrArg List.length he.f; rw [List.length_map, List.length_map] at this; exact this
  have ee : h.en = k.en := by rw [d1.e.n1, d2.e.n1]; have := congrArg List.length he.e; rw [List.length_map, List.length_map] at this; exact this
  have r1 := d1.r
  have r2 := d2.r
  have m1 := d1.m
  have m2 := d2.m
  have f1 := d1.f
  have f2 := d2.f
  have e1 := d1.e
  have e2 := d2.e
  obtain ⟨ra, rn, rc, ma, mn, mc, fa, fn, fc, ea, en, ec⟩ := h
  obtain ⟨ra2, rn2, rc2, ma2, mn2, mc2, fa2, fn2, fc2, ea2, en2, ec2⟩ := k
  simp only at er em ef ee r1 r2 m1 m2 f1 f2 e1 e2
  subst er em ef ee
  simp only [PH.v]
  obtain ⟨W0, hW0⟩ : ∃ W0, W0 = (w.alloc (.cells #[.slice ra rn rc, .slice ma mn mc, .slice fa fn fc, .slice ea en ec] 26)).alloc (.cells #[.slice ra2 rn rc2, .slice ma2 mn mc2, .slice fa2 fn fc2, .slice ea2 en ec2] 26) := ⟨_, rfl⟩
  have bw : Below w.heap.size w W0 := by rw [hW0]; exact ((Below.refl _ _).alloc (Nat.le_refl _) _).alloc (by simp) _
  have q0 : W0.heap[w.heap.size]? = some (.cells #[.slice ra rn rc, .slice ma mn mc, .slice fa fn fc, .slice ea en ec] 26 (0, 0)) := by rw [hW0]; exact (Below.heap_alloc _ _ _ (by simp)).trans (heap_alloc_new w _)
  have q1 : W0.heap[w.heap.size + 1]? = some (.cells #[.slice ra2 rn rc2, .slice ma2 mn mc2, .slice fa2 fn fc2, .slice ea2 en ec2] 26 (0, 0)) := by
    have := heap_alloc_new (w.alloc (.cells #[.slice ra rn rc, .slice ma mn mc, .slice fa fn fc, .slice ea en ec] 26)) (.cells #[.slice ra2 rn rc2, .slice ma2 mn mc2, .slice fa2 fn fc2, .slice ea2 en ec2] 26)
    rw [World.size_alloc] at this
    rw [hW0]; exact this
  have GT : Hid (∀ V : World, Below W0.heap.size W0 V → ((V.cell? ⟨w.heap.size, 0, none⟩ = some (.slice ra rn rc) ∧ V.cell? ⟨w.heap.size, 1, none⟩ = some (.slice ma mn mc) ∧ V.cell? ⟨w.heap.size, 2, none⟩ = some (.slice fa fn fc) ∧ V.cell? ⟨w.heap.size, 3, none⟩ = some (.slice ea en ec)) ∧ V.cell? ⟨w.heap.size + 1, 0, none⟩ = some (.slice ra2 rn rc2) ∧ V.cell? ⟨w.heap.size + 1, 1, none⟩ = some (.slice ma2 mn mc2) ∧ V.cell? ⟨w.heap.size + 1, 2, none⟩ = some (.slice fa2 fn fc2) ∧ V.cell? ⟨w.heap.size + 1, 3, none⟩ = some (.slice ea2 en ec2)) ∧ Below w.heap.size w V) := hid (fun V hV => by
    have g0 := (hV.block _ (lt_of_heap q0)).trans q0
    have g1 := (hV.block _ (lt_of_heap q1)).trans q1
    exact ⟨⟨⟨cellOf g0 0, cellOf g0 1, cellOf g0 2, cellOf g0 3⟩, cellOf g1 0, cellOf g1 1, cellOf g1 2, cellOf g1 3⟩, bw.trans (hV.mono bw.size)⟩)
  have KF := hid (fun (V : World) (hV : Below w.heap.size w V) => sameSigs_yes V fa fa2 fn fc fc2 p.funcs q.funcs (f1.below (Nat.le_refl _) hV) (f2.below (Nat.le_refl _) hV) he.f)
  have KE := hid (fun (V : World) (hV : Below w.heap.size w V) => sameSigs_yes V ea ea2 en ec ec2 p.events q.events (e1.below (Nat.le_refl _) hV) (e2.below (Nat.le_refl _) hV) he.e)
  have R1 := hid r1
  have R2 := hid r2
  have M1 := hid m1
  have M2 := hid m2
  have HER := hid he.r
  have HEM := hid he.m
  have rnI : (rn : Int) ≤ 9223372036854775807 := by have := r1.n2; omega
  have mnI : (mn : Int) ≤ 9223372036854775807 := by have := m1.n2; omega
  have fnI : (fn : Int) ≤ 9223372036854775807 := by have := f1.n2; omega
  have enI : (en : Int) ≤ 9223372036854775807 := by have := e1.n2; omega
  have nb1 : ((rn : Int) != (rn : Int)) = false := by simp
  have nb2 : ((mn : Int) != (mn : Int)) = false := by simp
  have TR : Hid (∀ {x y : World}, Below W0.heap.size W0 x → Below x.heap.size x y → Below W0.heap.size W0 y) := hid (fun h1 h2 => h1.trans (h2.mono h1.size))
  obtain ⟨⟨⟨c0, c1, c2, c3⟩, d0, d1', d2', d3⟩, _⟩ := GT.out W0 (Below.refl _ _)
  clear d1 d2 he r1 r2 m1 m2 f1 f2 e1 e2 q0 q1
  have KF0 := hid (KF.out W0 bw)
  clear bw KF
  go_enter Tryz.func47, Tryz.ntmps47
  go_upto_region 1 with fail
  rw [← hW0]
  clear hW0
  go_upto_region 3 with (first
    | (have hno := hfirst; (go_at_call 80; (refine (KE.out w1 (GT.out w1 hb1).2).mono ?_; rintro e w2 ⟨rfl, hb2⟩; have HB2 := hid (TR.out hb1 hb2); clear c0 c1 c2 c3 d0 d1' d2' d3; obtain ⟨⟨⟨c0, c1, c2, c3⟩, d0, d1', d2', d3⟩, _⟩ := GT.out w2 HB2.out)))
    | (go_at_call 80; (refine (Hid.out KF0).mono ?_; rintro e w1 ⟨rfl, hb1⟩; clear c0 c1 c2 c3 d0 d1' d2' d3; obtain ⟨⟨⟨c0, c1, c2, c3⟩, d0, d1', d2', d3⟩, _⟩ := GT.out w1 hb1; have hfirst : True := trivial)))
  clear hb1 hb2 hfirst KF0 KE
  go_wp2
  go_loopg [5] rn (fun g x wr => ∃ j : Nat, j + g = rn ∧ x = .int .i64 (j : Int) ∧ Below W0.heap.size W0 wr)
  case atStart => exact ⟨0, by omega, rfl, HB2.out⟩
  case round =>
    obtain ⟨j, hj, rfl, hb⟩ := hrel
    clear c0 c1 c2 c3 d0 d1' d2' d3
    obtain ⟨⟨⟨c0, c1, c2, c3⟩, d0, d1', d2', d3⟩, gb⟩ := GT.out wr hb
    cases gk with
    | zero =>
      have hjn : j = rn := by omega
      subst hjn
      have HB := hid hb
      clear hb gb
      go_wp2
      go_loopg [9] mn (fun g2 x wr2 => ∃ i : Nat, i + g2 = mn ∧ x = .int .i64 (i : Int) ∧ Below W0.heap.size W0 wr2)
      case atStart => exact ⟨0, by omega, rfl, HB.out⟩
      case round =>
        obtain ⟨i, hi, rfl, hb⟩ := hrel
        clear c0 c1 c2 c3 d0 d1' d2' d3
        obtain ⟨⟨⟨c0, c1, c2, c3⟩, d0, d1', d2', d3⟩, gb⟩ := GT.out wr hb
        cases gk with
        | zero =>
          have hin : i = mn := by omega
          subst hin
          have GB := hid gb
          clear gb hb
          go_wp2
          go_ret
          exact ⟨rfl, GB.out⟩
        | succ g2 =>
          have mA := M1.out.below (Nat.le_refl _) gb
          have mB := M2.out.below (Nat.le_refl _) gb
          have l1 : i < p.maps.length := by rw [← mA.n1]; omega
          have e1 : p.maps[i]? = some p.maps[i] := List.getElem?_eq_getElem l1
          have e2 : q.maps[i]? = some p.maps[i] := by rw [← HEM.out]; exact e1
          obtain ⟨b1, o1, rfl, _, hc1⟩ := mA.rd i (p.maps[i]).cs (by simp [e1])
          obtain ⟨b2, o2, rfl, _, hc2⟩ := mB.rd i (p.maps[i]).cs (by rw [List.getElem?_map, e2]; rfl)
          generalize p.maps[i] = mm at hc1 hc2
          obtain ⟨nm, ⟨k1, k2⟩, ⟨v1, v2⟩⟩ := mm
          have x0 := hc1 0 (by omega)
          have x1 := hc1 1 (by omega)
          have x2 := hc1 2 (by omega)
          have x3 := hc1 3 (by omega)
          have x4 := hc1 4 (by omega)
          have y0 := hc2 0 (by omega)
          have y1 := hc2 1 (by omega)
          have y2 := hc2 2 (by omega)
          have y3 := hc2 3 (by omega)
          have y4 := hc2 4 (by omega)
          simp only [Mp.cs, List.getElem?_cons_zero, List.getElem?_cons_succ, Nat.add_zero] at x0 x1 x2 x3 x4 y0 y1 y2 y3 y4
          have hiI : (i : Int) < (mn : Int) := by omega
          have hi0 : (0 : Int) ≤ (i : Int) := by omega
          have HB := hid hb
          clear hb gb mA mB l1 e1 e2 hc1 hc2
          go_wp2
          go_quiet (fail)
          go_wp2
          go_roundg g2
          case measure => omega
          exact ⟨i + 1, by omega, by go_num, bel_dN HB.out _⟩
    | succ g =>
      have rA := R1.out.below (Nat.le_refl _) gb
      have rB := R2.out.below (Nat.le_refl _) gb
      have l1 : j < p.recs.length := by rw [← rA.n1]; omega
      have l2 : j < q.recs.length := by rw [← rB.n1]; omega
      have e1 : p.recs[j]? = some p.recs[j] := List.getElem?_eq_getElem l1
      have e2 : q.recs[j]? = some q.recs[j] := List.getElem?_eq_getElem l2
      have hss : (p.recs[j]).2 = (q.recs[j]).2 := by
        have h1 : (p.recs.map (·.2))[j]? = some (p.recs[j]).2 := by rw [List.getElem?_map, e1]; rfl
        have h2 : (q.recs.map (·.2))[j]? = some (q.recs[j]).2 := by rw [List.getElem?_map, e2]; rfl
        rw [HER.out, h2] at h1
        exact (Option.some.inj h1).symm
      obtain ⟨b1, o1, rfl, _, hc1⟩ := rA.rd j (p.recs[j]).1.cs (by simp [e1])
      obtain ⟨b2, o2, rfl, _, hc2⟩ := rB.rd j (q.recs[j]).1.cs (by simp [e2])
      have s1 := rA.el _ (List.getElem_mem l1)
      have s2 := rB.el _ (List.getElem_mem l2)
      generalize p.recs[j] = p1 at hss hc1 s1
      generalize q.recs[j] = p2 at hss hc2 s2
      obtain ⟨⟨nm1, xa1, xn1, xc1, ya1, yn1, yc1⟩, rx1⟩ := p1
      obtain ⟨⟨nm2, xa2, xn2, xc2, ya2, yn2, yc2⟩, rx2⟩ := p2
      simp only at hss
      subst hss
      obtain rfl : nm1 = nm2 := (show nm1 = _ from s1.nm).trans (show nm2 = _ from s2.nm).symm
      obtain rfl : xn1 = xn2 := (show xn1 = _ from s1.fn).trans (show xn2 = _ from s2.fn).symm
      obtain rfl : yn1 = yn2 := (show yn1 = _ from s1.tn).trans (show yn2 = _ from s2.tn).symm
      have x0 := hc1 0 (by omega)
      have x1 := hc1 1 (by omega)
      have x2 := hc1 2 (by omega)
      have y0 := hc2 0 (by omega)
      have y1 := hc2 1 (by omega)
      have y2 := hc2 2 (by omega)
      simp only [RH.cs, List.getElem?_cons_zero, List.getElem?_cons_succ, Nat.add_zero] at x0 x1 x2 y0 y1 y2
      have hjI : (j : Int) < (rn : Int) := by omega
      have hj0 : (0 : Int) ≤ (j : Int) := by omega
      have S1 := hid s1
      have S2 := hid s2
      have HB := hid hb
      have GB := hid gb
      obtain ⟨wo, hwo⟩ : ∃ wo, wo = wr := ⟨_, rfl⟩
      subst hwo
      clear hb gb rA rB l1 l2 e1 e2 hc1 hc2 s1 s2
      go_upto_region 6 with fail
      go_cut [6, 7] from 49 to 58 (fun s6 s7 wx => ∃ X Y : Nat, s6 = .pointer (some ⟨X, 0, none⟩) ∧ s7 = .pointer (some ⟨Y, 0, none⟩) ∧ wx.heap[X]? = some (.cells #[.string nm1, .slice xa1 xn1 xc1, .slice ya1 yn1 yc1] 63 (0, 0)) ∧ wx.heap[Y]? = some (.cells #[.string nm1, .slice xa2 xn1 xc2, .slice ya2 yn1 yc2] 63 (0, 0)) ∧ Below wo.heap.size wo wx)
      case first =>
        go_region_held3 (fun v => v.cell? ⟨w.heap.size, 0, none⟩ = some (.slice (some ⟨b1, o1, none⟩) rn rc) ∧ v.cell? ⟨w.heap.size + 1, 0, none⟩ = some (.slice (some ⟨b2, o2, none⟩) rn rc2) ∧ v.cell? ⟨b1, o1 + j * 3, none⟩ = some (.string nm1) ∧ v.cell? ⟨b1, o1 + j * 3 + 1, none⟩ = some (.slice xa1 xn1 xc1) ∧ v.cell? ⟨b1, o1 + j * 3 + 2, none⟩ = some (.slice ya1 yn1 yc1) ∧ v.cell? ⟨b2, o2 + j * 3, none⟩ = some (.string nm1) ∧ v.cell? ⟨b2, o2 + j * 3 + 1, none⟩ = some (.slice xa2 xn1 xc2) ∧ v.cell? ⟨b2, o2 + j * 3 + 2, none⟩ = some (.slice ya2 yn1 yc2)) (first | go_keep) (fail)
        all_goals (go_wp2_with fail)
        all_goals go_meet
        · exact ⟨_, _, rfl, rfl, (two_al _ _ _).1, (two_al _ _ _).2.1, (two_al _ _ _).2.2⟩
        · exact ⟨_, _, rfl, rfl, (two_al _ _ _).2.1, (two_al _ _ _).1, (two_al _ _ _).2.2⟩
      case rest =>
        obtain ⟨X, Y, rfl, rfl, mX, mY, bx⟩ := hcut
        have BX := hid (HB.out.trans (bx.mono HB.out.size))
        have gwc := GB.out.trans (bx.mono GB.out.size)
        have CB := hid (fun (V : World) (hV : Below wc.heap.size wc V) => (by
          have g1 := (hV.block _ (lt_of_heap mX)).trans mX
          have g2 := (hV.block _ (lt_of_heap mY)).trans mY
          exact ⟨⟨cellOf g1 0, cellOf g1 1, cellOf g1 2⟩, cellOf g2 0, cellOf g2 1, cellOf g2 2⟩ : (V.cell? ⟨X, 0, none⟩ = some (.string nm1) ∧ V.cell? ⟨X, 1, none⟩ = some (.slice xa1 xn1 xc1) ∧ V.cell? ⟨X, 2, none⟩ = some (.slice ya1 yn1 yc1)) ∧ V.cell? ⟨Y, 0, none⟩ = some (.string nm1) ∧ V.cell? ⟨Y, 1, none⟩ = some (.slice xa2 xn1 xc2) ∧ V.cell? ⟨Y, 2, none⟩ = some (.slice ya2 yn1 yc2)))
        have T1 := S1.out.below (Nat.le_refl _) bx
        have T2 := S2.out.below (Nat.le_refl _) bx
        have K := hid (sameTypes_yes wc ya1 ya2 yn1 yc1 yc2 rx1.types T1.tn T1.t2 T1.tr T2.tr)
        have xnI : (xn1 : Int) ≤ 9223372036854775807 := by have : xn1 ≤ _ := T1.f2; omega
        have HXN : Hid (xn1 = rx1.fields.length) := hid T1.fn
        have F1 := hid T1.fr
        have F2 := hid T2.fr
        have nbx : ((xn1 : Int) != (xn1 : Int)) = false := by simp
        clear x0 x1 x2 y0 y1 y2 mX mY T1 T2
        obtain ⟨⟨x0, x1, x2⟩, y0, y1, y2⟩ := CB.out wc (Below.refl _ _)
        go_upto_region 9 with (go_at_call 81; (refine (Hid.out K).mono ?_; rintro e w2 ⟨rfl, hb2⟩; have HC := hid hb2; clear x0 x1 x2 y0 y1 y2 hb2))
        obtain ⟨⟨x0, x1, x2⟩, y0, y1, y2⟩ := CB.out w2 HC.out
        go_wp2
        go_loopg [8] xn1 (fun g2 x wr2 => ∃ i : Nat, i + g2 = xn1 ∧ x = .int .i64 (i : Int) ∧ Below wc.heap.size wc wr2)
        case atStart => exact ⟨0, by omega, rfl, HC.out⟩
        case round =>
          obtain ⟨i, hi, rfl, hb3⟩ := hrel
          clear x0 x1 x2 y0 y1 y2
          obtain ⟨⟨x0, x1, x2⟩, y0, y1, y2⟩ := CB.out wr hb3
          cases gk with
          | zero =>
            have hin : i = xn1 := by omega
            subst hin
            have H3 := hid hb3
            clear hb3
            go_wp2
            go_roundg g
            case measure => omega
            exact ⟨j + 1, by omega, by go_num, BX.out.trans (H3.out.mono BX.out.size)⟩
          | succ g2 =>
            obtain ⟨s, hs⟩ : ∃ s, rx1.fields[i]? = some s := ⟨rx1.fields[i]'(by have := HXN.out; omega), List.getElem?_eq_getElem _⟩
            obtain ⟨_, p1, u1, rfl, z1⟩ := (F1.out.below (Nat.le_refl _) hb3) i s hs
            obtain ⟨_, p2, u2, rfl, z2⟩ := (F2.out.below (Nat.le_refl _) hb3) i s hs
            have hiI : (i : Int) < (xn1 : Int) := by omega
            have hi0 : (0 : Int) ≤ (i : Int) := by omega
            have H3 := hid hb3
            clear hb3 hs
            go_wp2
            go_quiet (fail)
            go_wp2
            go_roundg g2
            case measure => omega
            exact ⟨i + 1, by omega, by go_num, bel_dN H3.out _⟩
end Go.Proofs.YthnolocldeokeaaGreat

namespace Go.Proofs.YthnolocldeokeaaGreat
open Go
set_option linter.unusedVariables false
section
variable {P : Program} {ops : Array Oper} {Q : Exit → Act → World → Prop} {md : Region.Mode} {S : World → Prop} {L : Nat}
/- Whatever order is picked; S holds behind every operation but number L. -/
def wpAnyI (P : Program) (md : Region.Mode) (ops : Array Oper) (Q : Exit → Act → World → Prop) (L : Nat) (S : World → Prop) : Nat → Array Bool → Act → World → Prop
  | 0, listed, a, w => Region.ready md ops listed = [] ∧ Q .normal a w
  | fuel + 1, listed, a, w =>
    (Region.ready md ops listed = [] → Q .normal a w) ∧
    ∀ i ∈ Region.ready md ops listed, wpOp P ops Q i (fun a' w' => (i = L ∨ S w') ∧ wpAnyI P md ops Q L S fuel (listed.setIfInBounds i true) a' w') a w
theorem wpAny_of_I : ∀ (fuel : Nat) (listed : Array Bool) (a : Act) (w : World), wpAnyI P md ops Q L S fuel listed a w → wpAny P md ops Q fuel listed a w
  | 0, _, _, _, h => h
  | fuel + 1, _, _, _, h => ⟨h.1, fun i hi => wpOp_mono (fun a' w' h' => wpAny_of_I fuel _ a' w' h'.2) (h.2 i hi)⟩
/- A row of operations, each waiting for the one ahead of it, none of them done. -/
def chainOk (md : Region.Mode) (ops : Array Oper) (listed : Array Bool) : List Nat → Bool
  | [] => false
  | c :: r => !listed.getD c true && (match r with
    | [] => true
    | d :: _ => ((ops[d]?).map (fun o => o.after.any fun e => Region.binds md e && e.on == c)).getD false && chainOk md ops listed r)
theorem chainOk_ne {listed : Array Bool} {j : Nat} : ∀ {c : Nat} {r : List Nat}, chainOk md ops listed (c :: r) = true → j ∈ Region.ready md ops listed → j ∉ r
  | c, [], _, _ => by simp
  | c, d :: r, h, hj => by
    unfold chainOk at h
    simp only [Bool.and_eq_true, Bool.not_eq_true'] at h
    obtain ⟨h0, h1, h2⟩ := h
    intro hm
    rcases List.mem_cons.1 hm with rfl | hm
    · obtain ⟨_, o, ho, hall⟩ := mem_ready.1 hj
      rw [ho] at h1
      simp only [Option.map_some, Option.getD_some, Array.any_eq_true] at h1
      obtain ⟨q, hq, he⟩ := h1
      simp only [Bool.and_eq_true, beq_iff_eq] at he
      have h3 := hall _ (Array.getElem_mem hq) he.1
      rw [he.2] at h3
      rcases Nat.lt_or_ge c listed.size with h' | h'
      · simp [h'] at h0 h3; rw [h0] at h3; cases h3
      · simp [Array.getElem?_eq_none h'] at h0
    · exact chainOk_ne h2 hj hm
theorem chainOk_set {listed : Array Bool} {j : Nat} : ∀ {l : List Nat}, chainOk md ops listed l = true → j ∉ l → chainOk md ops (listed.setIfInBounds j true) l = true
  | [], h, _ => h
  | [c], h, hj => by
    unfold chainOk at h ⊢
    rw [getD_set_ne true (by intro e; exact hj (by rw [e]; exact List.mem_cons_self ..))]
    exact h
  | c :: d :: r, h, hj => by
    unfold chainOk at h ⊢
    simp only [Bool.and_eq_true] at h ⊢
    rw [getD_set_ne true (by intro e; exact hj (by rw [e]; exact List.mem_cons_self ..))]
    exact ⟨h.1, h.2.1, chainOk_set h.2.2 (fun hm => hj (List.mem_cons_of_mem _ hm))⟩
theorem wpAnyI_first {i : Nat} {oi : Oper} {v : Value} {r : List Nat} (hi : ops[i]? = some oi) (hsel : ∀ (j : Nat) (o : Oper) cs b, ops[j]? = some o → o.op ≠ .select cs b)
    (hQ : ∀ c a w, Q (.panic c) (a.put oi.dst v) w → Q (.panic c) a w) (hLr : L ∈ r) :
    ∀ (fuel : Nat) (listed : Array Bool) (a : Act) (w : World),
      (∀ j oj, ops[j]? = some oj → j ≠ i → listed.getD j true = false → (∀ e ∈ oj.after, Region.binds md e = true → e.on ≠ i) → oi.apart ops oj = true) →
      i ∈ Region.ready md ops listed → chainOk md ops listed (i :: r) = true → YieldsIf P ops S oi v a → S w →
      wpAnyI P md ops Q L S fuel (listed.setIfInBounds i true) (a.put oi.dst v) w → wpAnyI P md ops Q L S (fuel + 1) listed a w := by
  intro fuel
  induction fuel with
  | zero =>
    intro listed a w _ hr _ hy hS H
    refine ⟨fun h => (by rw [h] at hr; cases hr), fun j hj => ?_⟩
    by_cases hji : j = i
    · subst hji; exact hy.wpOp hi hS ⟨.inr hS, H⟩
    · have := ready_mono hj hji
      rw [H.1] at this
      cases this
  | succ fuel ih =>
    intro listed a w hfree hr hch hy hS H
    refine ⟨fun h => (by rw [h] at hr; cases hr), fun j hj => ?_⟩
    by_cases hji : j = i
    · subst hji; exact hy.wpOp hi hS ⟨.inr hS, H⟩
    · have h1 := H.2 j (ready_mono hj hji)
      obtain ⟨hjun, oj, hoj, hall⟩ := mem_ready.1 hj
      have hnot : ∀ e ∈ oj.after, Region.binds md e = true → e.on ≠ i := fun e he hb heq => by
        have h1 := hall e he hb
        have h0 := (mem_ready.1 hr).1
        rw [heq] at h1
        rcases Nat.lt_or_ge i listed.size with h' | h'
        · simp [h'] at h0 h1; rw [h0] at h1; cases h1
        · simp [Array.getElem?_eq_none h'] at h1
      have hjr : j ∉ r := chainOk_ne hch hj
      have hjL : j ≠ L := fun e => hjr (by rw [e]; exact hLr)
      have h2 := wpOp_putIf hoj (hfree j oj hoj hji hjun hnot) (fun cs b => hsel i oi cs b hi) (fun cs b => hsel j oj cs b hoj) hQ hy h1
      have hfree' : ∀ k ok, ops[k]? = some ok → k ≠ i → (listed.setIfInBounds j true).getD k true = false →
          (∀ e ∈ ok.after, Region.binds md e = true → e.on ≠ i) → oi.apart ops ok = true := fun k ok hk hki hun hno => by
        refine hfree k ok hk hki ?_ hno
        by_cases hjk : j = k
        · subst hjk; exact hjun
        · rw [getD_set_ne true hjk] at hun; exact hun
      refine wpOp_mono (fun a' w' h3 => ⟨h3.2.1, ih (listed.setIfInBounds j true) a' w' hfree' (ready_mono hr (Ne.symm hji)) (chainOk_set hch (fun hm => (List.mem_cons.1 hm).elim hji hjr)) h3.1 (h3.2.1.resolve_left hjL) ?_⟩) h2
      rw [Array.setIfInBounds_comm _ _ hji]
      exact h3.2.2
theorem wpAnyI_take {i : Nat} {oi : Oper} {v : Value} {fuel : Nat} {listed : Array Bool} {a : Act} {w : World} (r : List Nat) (hi : ops[i]? = some oi)
    (hs : Region.noSelect ops = true) (hf : Region.free md ops listed i = true) (hr : (Region.ready md ops listed).contains i = true) (hc : (chainOk md ops listed (i :: r) && r.contains L) = true)
    (hQ : ∀ c a w, Q (.panic c) (a.put oi.dst v) w → Q (.panic c) a w) (hy : YieldsIf P ops S oi v a) (hS : S w)
    (h : wpAnyI P md ops Q L S fuel (listed.setIfInBounds i true) (a.put oi.dst v) w) : wpAnyI P md ops Q L S (fuel + 1) listed a w := by
  simp only [Bool.and_eq_true] at hc
  exact wpAnyI_first hi (Region.noSelect_spec hs) hQ (by simpa using hc.2) fuel listed a w (Region.free_spec hi hf) (by simpa using hr) hc.1 hy hS h
/- One operation alone may come up, and it is not the last. -/
theorem wpAnyI_one {i : Nat} {o : Oper} {fuel : Nat} {listed : Array Bool} {a : Act} {w : World} (hr : Region.ready md ops listed = [i]) (ho : ops[i]? = some o)
    (h : ∀ K' : Act → World → Prop, Shut (∀ a w, S w → (S w → wpAnyI P md ops Q L S fuel (listed.setIfInBounds i true) a w) → K' a w) → if Region.wanted o (yielded ops a.tmps) = true then Oper.wp P o a w K' Q else K' (a.put o.dst undef) w) :
    wpAnyI P md ops Q L S (fuel + 1) listed a w :=
  ⟨fun h0 => (by rw [hr] at h0; cases h0), fun j hj => by
    rw [hr] at hj
    have hji : j = i := by simpa using hj
    subst hji
    exact wpOp_step ho (fun K' hK => h K' (fun a w hS hW => hK a w ⟨.inr hS, hW hS⟩))⟩
/- The last operation. -/
theorem wpAnyI_last {o : Oper} {fuel : Nat} {listed : Array Bool} {a : Act} {w : World} (hr : Region.ready md ops listed = [L]) (ho : ops[L]? = some o) (he : Region.ready md ops (listed.setIfInBounds L true) = [])
    (h : ∀ K' : Act → World → Prop, Shut (∀ a w, Q .normal a w → K' a w) → if Region.wanted o (yielded ops a.tmps) = true then Oper.wp P o a w K' Q else K' (a.put o.dst undef) w) :
    wpAnyI P md ops Q L S (fuel + 1) listed a w :=
  ⟨fun h0 => (by rw [hr] at h0; cases h0), fun j hj => by
    rw [hr] at hj
    have hji : j = L := by simpa using hj
    subst hji
    refine wpOp_step ho (fun K' hK => h K' (fun a w hq => hK a w ⟨.inl rfl, ?_⟩))
    cases fuel with
    | zero => exact ⟨he, hq⟩
    | succ f => exact ⟨fun _ => hq, by rw [he]; simp⟩⟩
end
end Go.Proofs.YthnolocldeokeaaGreat

namespace Go.Proofs.YthnolocldeokeaaGreat
open Go.RowKit Go.Deep Go.Shelf
set_option linter.unusedVariables false
set_option linter.unusedSimpArgs false
/- What stands in the blocks from B on holds still. -/
def Kp (B : Nat) (w : World) (P : World → Prop) : Prop := ∀ X : World, (∀ g, B ≤ g → g < w.heap.size → X.heap[g]? = w.heap[g]?) → P X
structure PNil (p : Pg) : Prop where
  r : ∀ x ∈ p.recs, x.1.ta = none → x.1.tc = 0
  f : ∀ x ∈ p.funcs, x.1.pa = none → x.1.pc = 0
  e : ∀ x ∈ p.events, x.1.pa = none → x.1.pc = 0
theorem KR.above {E : TypeId} {k : Nat} {w w' : World} {B : Nat} {v : Value} {l : List (List Value)} (h : KR E k w B v l) (e : ∀ g, B ≤ g → g < w.heap.size → w'.heap[g]? = w.heap[g]?) : KR E k w' B v l := h.keep fun g q => e g (h.own q).1 (h.own q).2
theorem KR.srd {w : World} {B : Nat} {a : Option Addr} {n c : Nat} {ss : List ByteArray} (h : KR 9 1 w B (.slice a n c) (ss.map stc)) (hs : ∀ s ∈ ss, s.size ≤ 1000000) : SRd w a ss := by
  obtain ⟨a', c', e, _, hr, _, _⟩ := h.rd
  cases e
  intro j s hj
  obtain ⟨b, off, rfl, hbl, hc⟩ := hr j (stc s) (by simp [hj])
  have h0 := hc 0 (by omega)
  simp only [stc, List.getElem?_cons_zero, Nat.add_zero, Nat.mul_one] at h0
  exact ⟨by have := hs s (List.mem_of_getElem? hj); omega, b, off, rfl, h0⟩
theorem KR.jrd {w : World} {B : Nat} {a : Option Addr} {n c : Nat} {xs : List Int} (h : KR 2 1 w B (.slice a n c) (xs.map inc)) : JRd w a xs := by
  obtain ⟨a', c', e, _, hr, _, _⟩ := h.rd
  cases e
  exact hr
/- Sizes of what is right. -/
theorem names_sm {f : Int → Bool} {ss : List ByteArray} (h : namesB f ss = true) : ∀ s ∈ ss, s.size ≤ 20 := fun s hs => by
  obtain ⟨i, hi⟩ := List.getElem?_of_mem hs
  unfold namesB at h
  have h1 := List.all_eq_true.1 h i (List.mem_range.2 (List.getElem?_eq_some_iff.1 hi).1)
  rw [okAt_some hi] at h1
  simp only [nameB, Bool.and_eq_true, decide_eq_true_eq] at h1
  exact h1.1.1.1.2
structure RcSm (r : Rc) : Prop where
  nm : r.name.size ≤ 20
  fl : r.fields.length ≤ 12
  tl : r.types.length ≤ 12
  fs : ∀ s ∈ r.fields, s.size ≤ 20
structure PgSm (p : Pg) : Prop where
  rl : p.recs.length ≤ 16
  r : ∀ x ∈ p.recs, RcSm x.2
  ml : p.maps.length ≤ 16
  m : ∀ x ∈ p.maps, x.name.size ≤ 20
  fl : p.funcs.length ≤ 16
  f : ∀ x ∈ p.funcs, x.2.name.size ≤ 20 ∧ x.2.params.length ≤ 12
  el : p.events.length ≤ 16
  e : ∀ x ∈ p.events, x.2.name.size ≤ 20 ∧ x.2.params.length ≤ 12
theorem sigs_sm {n : Nat} {l : List (GH × Sg)} (h : sigsB n (l.map (·.2)) = true) : l.length ≤ 16 ∧ ∀ x ∈ l, x.2.name.size ≤ 20 ∧ x.2.params.length ≤ 12 := by
  unfold sigsB at h
  simp only [Bool.and_eq_true, decide_eq_true_eq, List.length_map] at h
  refine ⟨h.1.1, fun x hx => ⟨names_sm h.2 _ (List.mem_map.2 ⟨x.2, List.mem_map.2 ⟨x, hx, rfl⟩, rfl⟩), ?_⟩⟩
  have h2 := List.all_eq_true.1 h.1.2 x.2 (List.mem_map.2 ⟨x, hx, rfl⟩)
  unfold sigB at h2
  simp only [Bool.and_eq_true, decide_eq_true_eq] at h2
  exact h2.1.1
theorem right_sm {p : Pg} (h : rightB p = true) : PgSm p := by
  unfold rightB at h
  simp only [Bool.and_eq_true] at h
  obtain ⟨⟨⟨⟨h1, h2⟩, h3⟩, h4⟩, _⟩ := h
  unfold recordsB at h1
  simp only [Bool.and_eq_true, decide_eq_true_eq, List.length_map] at h1
  unfold mapsB at h2
  simp only [Bool.and_eq_true, decide_eq_true_eq] at h2
  refine ⟨h1.1.1, fun x hx => ?_, h2.1.1, fun x hx => names_sm h2.2 _ (List.mem_map.2 ⟨x, hx, rfl⟩), (sigs_sm h3).1, (sigs_sm h3).2, (sigs_sm h4).1, (sigs_sm h4).2⟩
  have q := List.all_eq_true.1 h1.1.2 x.2 (List.mem_map.2 ⟨x, hx, rfl⟩)
  unfold fieldsB at q
  simp only [Bool.and_eq_true, decide_eq_true_eq] at q
  exact ⟨names_sm h1.2 _ (List.mem_map.2 ⟨x.2, List.mem_map.2 ⟨x, hx, rfl⟩, rfl⟩), q.1.1.1.2, by have := q.1.1.2; have := q.1.1.1.2; omega, names_sm q.2⟩
/- A record laid anew. -/
structure RNew (w : World) (B : Nat) (p : RH × Rc) : Prop where
  nm : p.1.name = p.2.name
  sm : RcSm p.2
  fr : KR 9 1 w B (.slice p.1.fa p.1.fn p.1.fc) (p.2.fields.map stc)
  tr : KR 46 2 w B (.slice p.1.ta p.1.tn p.1.tc) (p.2.types.map tyc)
theorem RNew.rd {w : World} {B : Nat} {p : RH × Rc} (h : RNew w B p) : RcRd w p.1 p.2 := by
  obtain ⟨⟨nm, fa, fn, fc, ta, tn, tc⟩, s⟩ := p
  obtain ⟨a1, cap1, e1, hc1, hr1, _, _⟩ := h.fr.rd
  obtain ⟨a2, cap2, e2, hc2, hr2, _, _⟩ := h.tr.rd
  have hs := h.fr.srd (fun s hs => by have := h.sm.fs s hs; omega)
  have h3 := h.nm
  have h4 := h.sm
  simp only at h3 h4 e1 e2 hs
  rw [List.length_map] at e1 e2 hc1
  cases e1
  cases e2
  exact ⟨h3, by show nm.size ≤ _; rw [h3]; have := h4.nm; omega, rfl, hc1, by show s.fields.length ≤ _; have := h4.fl; omega, hs, rfl, by show s.types.length ≤ _; have := h4.tl; omega, CRd.trd hr2⟩
theorem RNew.above {w w' : World} {B : Nat} {p : RH × Rc} (h : RNew w B p) (e : ∀ g, B ≤ g → g < w.heap.size → w'.heap[g]? = w.heap[g]?) : RNew w' B p := ⟨h.nm, h.sm, h.fr.above e, h.tr.above e⟩
theorem RNew.other {F : TypeId} (h1 : 9 ≠ F) (h2 : 46 ≠ F) {q : Nat} {w w' : World} {B C : Nat} {r : Value} {m : List (List Value)} {p : RH × Rc} (h : RNew w B p) (g : KR F q w C r m) (hg : w.grownBy w' r.ownBlock) : RNew w' B p := ⟨h.nm, h.sm, h.fr.other h1 g hg, h.tr.other h2 g hg⟩
theorem rk_rh (g : RH) : Rk 3 [g.cs] := ⟨fun r hr => by simp at hr; subst hr; rfl, fun r hr u hu => by
  simp at hr; subst hr
  simp [RH.cs] at hu
  rcases hu with rfl | rfl | rfl <;> rfl⟩
theorem rk_mp (g : Mp) : Rk 5 [g.cs] := ⟨fun r hr => by simp at hr; subst hr; rfl, fun r hr u hu => by
  simp at hr; subst hr
  simp [Mp.cs] at hu
  rcases hu with rfl | rfl | rfl | rfl | rfl <;> rfl⟩
def RcsN (w : World) (B : Nat) (v : Value) (rs : List Rc) : Prop := ∃ l : List (RH × Rc), l.map (·.2) = rs ∧ KR 63 3 w B v (l.map fun p => p.1.cs) ∧ ∀ p ∈ l, RNew w B p
theorem RcsN.above {w w' : World} {B : Nat} {v : Value} {rs : List Rc} (h : RcsN w B v rs) (e : ∀ g, B ≤ g → g < w.heap.size → w'.heap[g]? = w.heap[g]?) : RcsN w' B v rs := by
  obtain ⟨l, h1, h2, h3⟩ := h
  exact ⟨l, h1, h2.above e, fun p hp => (h3 p hp).above e⟩
theorem RcsN.below {w w' : World} {B : Nat} {v : Value} {rs : List Rc} (h : RcsN w B v rs) (e : Below w.heap.size w w') : RcsN w' B v rs := h.above fun g _ hg => e.block g hg
theorem RcsN.rd {w : World} {B : Nat} {v : Value} {rs : List Rc} (h : RcsN w B v rs) (hl : rs.length ≤ 1000000) : ∃ a n c l, v = .slice a n c ∧ l.map (·.2) = rs ∧ RRd w a n l := by
  obtain ⟨l, h1, h2, h3⟩ := h
  obtain ⟨a, cap, e, _, hr, _, _⟩ := h2.rd
  rw [List.length_map] at e
  have : l.length = rs.length := by rw [← h1, List.length_map]
  exact ⟨a, l.length, cap, l, e, h1, ⟨rfl, by omega, hr, fun p hp => (h3 p hp).rd⟩⟩
theorem RcsN.grown {F : TypeId} (h1 : 63 ≠ F) (h2 : 9 ≠ F) (h3 : 46 ≠ F) {q : Nat} {w w' : World} {B C : Nat} {r v : Value} {m : List (List Value)} {rs : List Rc} (h : RcsN w B v rs) (g : KR F q w C r m) (hg : w.grownBy w' r.ownBlock) : RcsN w' B v rs := by
  obtain ⟨l, k1, k2, k3⟩ := h
  exact ⟨l, k1, k2.other h1 g hg, fun p hp => (k3 p hp).other h2 h3 g hg⟩
def MpsN (w : World) (B : Nat) (v : Value) (ms : List Mp) : Prop := KR 67 5 w B v (ms.map Mp.cs)
theorem MpsN.above {w w' : World} {B : Nat} {v : Value} {ms : List Mp} (h : MpsN w B v ms) (e : ∀ g, B ≤ g → g < w.heap.size → w'.heap[g]? = w.heap[g]?) : MpsN w' B v ms := KR.above h e
theorem MpsN.below {w w' : World} {B : Nat} {v : Value} {ms : List Mp} (h : MpsN w B v ms) (e : Below w.heap.size w w') : MpsN w' B v ms := h.above fun g _ hg => e.block g hg
theorem MpsN.rd {w : World} {B : Nat} {v : Value} {ms : List Mp} (h : MpsN w B v ms) (hl : ms.length ≤ 1000000) (hs : ∀ m ∈ ms, m.name.size ≤ 20) : ∃ a n c, v = .slice a n c ∧ MRd w a n ms := by
  obtain ⟨a, cap, e, _, hr, _, _⟩ := KR.rd h
  rw [List.length_map] at e
  exact ⟨a, ms.length, cap, e, ⟨rfl, by omega, hr, fun m hm => by have := hs m hm; omega⟩⟩
theorem SgsN.above {w w' : World} {B : Nat} {v : Value} {ss : List Sg} (h : SgsN w B v ss) (e : ∀ g, B ≤ g → g < w.heap.size → w'.heap[g]? = w.heap[g]?) : SgsN w' B v ss := by
  obtain ⟨l, h1, h2, h3⟩ := h
  exact ⟨l, h1, h2.above e, fun p hp => ⟨(h3 p hp).nm, (h3 p hp).ns, (h3 p hp).pr.above e, (h3 p hp).rs⟩⟩
theorem SgsN.lower {w : World} {B C : Nat} {v : Value} {ss : List Sg} (h : SgsN w B v ss) (hC : C ≤ B) : SgsN w C v ss := by
  obtain ⟨l, h1, h2, h3⟩ := h
  exact ⟨l, h1, h2.lower hC, fun p hp => ⟨(h3 p hp).nm, (h3 p hp).ns, (h3 p hp).pr.lower hC, (h3 p hp).rs⟩⟩
theorem SgsN.rd {w : World} {B : Nat} {v : Value} {ss : List Sg} (h : SgsN w B v ss) (hl : ss.length ≤ 1000000) (hp : ∀ s ∈ ss, s.params.length ≤ 1000000) : ∃ a n c l, v = .slice a n c ∧ l.map (·.2) = ss ∧ GRd w a n l := by
  obtain ⟨l, h1, h2, h3⟩ := h
  obtain ⟨a, cap, e, _, hr, _, _⟩ := h2.rd
  rw [List.length_map] at e
  have : l.length = ss.length := by rw [← h1, List.length_map]
  exact ⟨a, l.length, cap, l, e, h1, ⟨rfl, by omega, hr, fun p hp' => (h3 p hp').rd (hp p.2 (by rw [← h1]; exact List.mem_map.2 ⟨p, hp', rfl⟩))⟩⟩
theorem sgs_rd {w : World} {B : Nat} {a : Option Addr} {n c : Nat} {l : List (GH × Sg)} (k : KR 49 4 w B (.slice a n c) (l.map fun p => p.1.cs)) (h : ∀ p ∈ l, GNew w B p) (hl : l.length ≤ 1000000) (hp : ∀ p ∈ l, p.2.params.length ≤ 1000000) : GRd w a n l := by
  obtain ⟨a', cap, e, _, hr, _, _⟩ := k.rd
  rw [List.length_map] at e
  cases e
  exact ⟨rfl, by omega, hr, fun p hq => (h p hq).rd (hp p hq)⟩
end Go.Proofs.YthnolocldeokeaaGreat

namespace Go.Proofs.YthnolocldeokeaaGreat
set_option maxRecDepth 100000
open Go.ChangeShapes Go.WideShapes Go.ChangeAt Go.RowKit Go.Deep
set_option linter.unusedVariables false
set_option linter.unusedSimpArgs false

theorem cellsI64 : Tryz.prog.cellsOf 2 = 1 := by kernel_rfl
section
variable {H : Type} {enc : TypeId × Value → H} {W : World}
theorem nil_of {T E : TypeId} (hT : Tryz.prog.underlying T = some (.slice E)) {a : Option Addr} {n c : Nat} (h : TrdT enc W T [.slice a n c]) : a = none → c = 0 := by
  obtain ⟨fuel, x, hf⟩ := h
  rcases open_slice hT hf with ⟨hcs, _⟩ | ⟨a', l, c', m, n', D, Pl, hcs, _⟩
  · simp at hcs
    intro _; exact hcs.2.2
  · simp at hcs
    intro e; rw [hcs.1] at e; cases e
set_option maxRecDepth 100000 in
theorem rec_nil {cs : List Value} (hl : cs.length = 3) (h : TrdT enc W 63 cs) : ∃ p : RH × Rc, cs = p.1.cs ∧ RcRd W p.1 p.2 ∧ (p.1.ta = none → p.1.tc = 0) := by
  obtain ⟨fuel, x, hf⟩ := h
  obtain ⟨xs, n, _, rfl, _, hlen, hf⟩ := DataW.trod_struct Tryz.underlying63 hf
  match cs, hl with
  | [c0, c1, c2], _ =>
    match xs, hlen with
    | [y0, y1, y2], _ =>
      have h0 := hf 0 _ rfl
      have h1 := hf 1 _ rfl
      have h2 := hf 2 _ rfl
      simp [cells9, cells43, cells44] at h0 h1 h2
      obtain ⟨nm, rfl, hs⟩ := str_of ⟨_, _, h0⟩
      obtain ⟨fa, fn, fc, rfl⟩ := slice_of Tryz.underlying28 ⟨_, _, h1⟩
      obtain ⟨ta, tn, tc, rfl⟩ := slice_of Tryz.underlying47 ⟨_, _, h2⟩
      obtain ⟨ss, e1, e2, e3, e4⟩ := srd_of ⟨_, _, h1⟩
      obtain ⟨ts, q1, q2, q3⟩ := trd_of ⟨_, _, h2⟩
      exact ⟨(⟨nm, fa, fn, fc, ta, tn, tc⟩, ⟨nm, ss, ts⟩), rfl, ⟨rfl, hs, e1, e2, e3, e4, q1, q2, q3⟩, nil_of Tryz.underlying47 ⟨_, _, h2⟩⟩
set_option maxRecDepth 100000 in
theorem sig_nil {cs : List Value} (hl : cs.length = 4) (h : TrdT enc W 49 cs) : ∃ p : GH × Sg, cs = p.1.cs ∧ SgRd W p.1 p.2 ∧ (p.1.pa = none → p.1.pc = 0) := by
  obtain ⟨fuel, x, hf⟩ := h
  obtain ⟨xs, n, _, rfl, _, hlen, hf⟩ := DataW.trod_struct Tryz.underlying49 hf
  match cs, hl with
  | [c0, c1, c2, c3], _ =>
    match xs, hlen with
    | [y0, y1, y2], _ =>
      have h0 := hf 0 _ rfl
      have h1 := hf 1 _ rfl
      have h2 := hf 2 _ rfl
      simp [cells9, cells44, cells28] at h0 h1 h2
      obtain ⟨nm, rfl, hs⟩ := str_of ⟨_, _, h0⟩
      obtain ⟨pa, pn, pc, rfl⟩ := slice_of Tryz.underlying47 ⟨_, _, h1⟩
      obtain ⟨ts, q1, q2, q3⟩ := trd_of ⟨_, _, h1⟩
      obtain ⟨k, r, e1⟩ := type_of rfl ⟨_, _, h2⟩
      cases e1
      exact ⟨(⟨nm, pa, pn, pc, k, r⟩, ⟨nm, ts, (k, r)⟩), rfl, ⟨rfl, hs, q1, q2, q3, rfl⟩, nil_of Tryz.underlying47 ⟨_, _, h1⟩⟩
theorem rrd_nil {a : Option Addr} {n cap : Nat} (h : TrdT enc W 22 [.slice a n cap]) : ∃ rs, RRd W a n rs ∧ ∀ x ∈ rs, x.1.ta = none → x.1.tc = 0 := by
  obtain ⟨rows, hl, hrd, hel, hn, hc⟩ := rows_of Tryz.underlying22 cells46 (by omega) h
  obtain ⟨ps, hm, hr⟩ := list_of (R := fun r (p : RH × Rc) => r = p.1.cs ∧ RcRd W p.1 p.2 ∧ (p.1.ta = none → p.1.tc = 0)) rows (fun r hr => rec_nil (hel r hr).1 (hel r hr).2)
  have hel2 : ∀ p ∈ ps, RcRd W p.1 p.2 ∧ (p.1.ta = none → p.1.tc = 0) := fun p hp => by
    obtain ⟨j, hj⟩ := List.getElem?_of_mem hp
    obtain ⟨r, hrr⟩ := at_of hm hj
    obtain ⟨x, h1, _, h3⟩ := hr j r hrr
    rw [hj] at h1; cases h1; exact h3
  exact ⟨ps, ⟨by omega, hn, crd_map (fun p => p.1.cs) hrd hm (fun j r e => by obtain ⟨x, h1, h2, _⟩ := hr j r e; exact ⟨x, h1, h2⟩), fun p hp => (hel2 p hp).1⟩, fun p hp => (hel2 p hp).2⟩
theorem grd_nil {a : Option Addr} {n cap : Nat} (h : TrdT enc W 24 [.slice a n cap]) : ∃ gs, GRd W a n gs ∧ ∀ x ∈ gs, x.1.pa = none → x.1.pc = 0 := by
  obtain ⟨rows, hl, hrd, hel, hn, hc⟩ := rows_of Tryz.underlying24 cells48 (by omega) h
  obtain ⟨ps, hm, hr⟩ := list_of (R := fun r (p : GH × Sg) => r = p.1.cs ∧ SgRd W p.1 p.2 ∧ (p.1.pa = none → p.1.pc = 0)) rows (fun r hr => sig_nil (hel r hr).1 (hel r hr).2)
  have hel2 : ∀ p ∈ ps, SgRd W p.1 p.2 ∧ (p.1.pa = none → p.1.pc = 0) := fun p hp => by
    obtain ⟨j, hj⟩ := List.getElem?_of_mem hp
    obtain ⟨r, hrr⟩ := at_of hm hj
    obtain ⟨x, h1, _, h3⟩ := hr j r hrr
    rw [hj] at h1; cases h1; exact h3
  exact ⟨ps, ⟨by omega, hn, crd_map (fun p => p.1.cs) hrd hm (fun j r e => by obtain ⟨x, h1, h2, _⟩ := hr j r e; exact ⟨x, h1, h2⟩), fun p hp => (hel2 p hp).1⟩, fun p hp => (hel2 p hp).2⟩
set_option maxRecDepth 100000 in
theorem prog_nil {cs : List Value} (hl : cs.length = 4) (h : TrdT enc W 26 cs) : ∃ (g : PH) (p : Pg), cs = [.slice g.ra g.rn g.rc, .slice g.ma g.mn g.mc, .slice g.fa g.fn g.fc, .slice g.ea g.en g.ec] ∧ PRd W g p ∧ PNil p := by
  obtain ⟨fuel, x, hf⟩ := h
  obtain ⟨xs, n, _, rfl, _, hlen, hf⟩ := DataW.trod_struct Tryz.underlying26 hf
  match cs, hl with
  | [c0, c1, c2, c3], _ =>
    match xs, hlen with
    | [y0, y1, y2, y3], _ =>
      have h0 := hf 0 _ rfl
      have h1 := hf 1 _ rfl
      have h2 := hf 2 _ rfl
      have h3 := hf 3 _ rfl
      simp [cells22, cells23, cells24] at h0 h1 h2 h3
      obtain ⟨ra, rn, rc, rfl⟩ := slice_of Tryz.underlying22 ⟨_, _, h0⟩
      obtain ⟨ma, mn, mc, rfl⟩ := slice_of Tryz.underlying23 ⟨_, _, h1⟩
      obtain ⟨fa, fn, fc, rfl⟩ := slice_of Tryz.underlying24 ⟨_, _, h2⟩
      obtain ⟨ea, en, ec, rfl⟩ := slice_of Tryz.underlying24 ⟨_, _, h3⟩
      obtain ⟨rs, hr, nr⟩ := rrd_nil ⟨_, _, h0⟩
      obtain ⟨ms, hm⟩ := mrd_of ⟨_, _, h1⟩
      obtain ⟨gs, hg, ng⟩ := grd_nil ⟨_, _, h2⟩
      obtain ⟨es, he, ne⟩ := grd_nil ⟨_, _, h3⟩
      exact ⟨⟨ra, rn, rc, ma, mn, mc, fa, fn, fc, ea, en, ec⟩, ⟨rs, ms, gs, es⟩, rfl, ⟨hr, hm, hg, he⟩, ⟨nr, ng, ne⟩⟩
/- All that is known of a unit that came in. -/
end
end Go.Proofs.YthnolocldeokeaaGreat

namespace Go.Proofs.YthnolocldeokeaaGreat
open Go.RowKit Go.Deep
set_option linter.unusedVariables false
set_option linter.unusedSimpArgs false

/- Bytes as numbers, as values. -/
theorem bv_length (xs : List Nat) : (bv xs).length = xs.length := by simp [bv]
theorem bv_append (xs ys : List Nat) : bv (xs ++ ys) = bv xs ++ bv ys := by simp [bv]
theorem bv_one (xs : List Nat) : ∀ u ∈ bv xs, u.oneCell' = true := by
  intro u hu; simp [bv] at hu; obtain ⟨s, _, rfl⟩ := hu; rfl

/- The bytes of a number. -/
theorem encF_eq : ∀ (f g n : Nat), n ≤ f → n ≤ g → encF f n = encF g n
  | 0, 0, n, _, _ => rfl
  | 0, g + 1, n, h, _ => by simp only [encF]; rw [if_pos (by omega)]
  | f + 1, 0, n, _, h => by simp only [encF]; rw [if_pos (by omega)]
  | f + 1, g + 1, n, h1, h2 => by
    simp only [encF]
    split
    · rfl
    · rw [encF_eq f g (n / 128) (by omega) (by omega)]

theorem enc_small {n : Nat} (h : n < 128) : enc n = [n] := by
  unfold enc
  cases n with
  | zero => rfl
  | succ m => simp only [encF]; rw [if_pos h]
theorem enc_big {n : Nat} (h : ¬ n < 128) : enc n = (n % 128 + 128) :: enc (n / 128) := by
  unfold enc
  cases n with
  | zero => exact absurd (by decide) h
  | succ m =>
    simp only [encF]
    rw [if_neg h, encF_eq m ((m + 1) / 128) ((m + 1) / 128) (by omega) (Nat.le_refl _)]
theorem enc_length : ∀ (k n : Nat), n < 128 ^ (k + 1) → (enc n).length ≤ k + 1
  | 0, n, h => by rw [enc_small (by simpa using h)]; simp
  | k + 1, n, h => by
    by_cases hn : n < 128
    · rw [enc_small hn]; simp
    · rw [enc_big hn]
      have := enc_length k (n / 128) (by rw [Nat.pow_succ] at h; omega)
      simp; omega
theorem enc_le (n : Nat) (h : n < 18446744073709551616) : (enc n).length ≤ 10 :=
  enc_length 9 n (Nat.lt_of_lt_of_le h (by decide))

/- A row of bytes that is the call's own: its block lies from B on. -/
theorem Row.form {w B v xs} (h : Row w B v xs) : ∃ a cap, v = .slice a xs.length cap ∧ xs.length ≤ cap := by
  rcases h.2 with ⟨rfl, hn⟩ | ⟨g, cap, cur, rfl, hb, hgg, hc, rest⟩
  · exact ⟨none, 0, by rw [hn], by omega⟩
  · exact ⟨_, _, rfl, hc⟩

theorem info5 : (Tryz.prog.info? 5).map (fun i => (i.zero, i.size, i.bytes)) = some (some (.int .u8 0), 1, 1) := by kernel_rfl

theorem alloc_grown {w : World} {o : Obj} {w' : World} {row : Option Nat} (h : (w.alloc o).grownBy w' row) : w.grownBy w' row :=
  (World.grownBy_alloc w o row).trans h

/- Between w and w' nothing old has turned but v's own row; and the row is v's still, or new. -/
theorem Grw.unalloc {w w' : World} {v v' : Value} {o : Obj} (h : Grw (w.alloc o) v w' v') : Grw w v w' v' :=
  ⟨(World.grownBy_alloc w o _).trans h.1, by
    rcases h.2 with h | ⟨g, h, hg⟩
    · exact .inl h
    · exact .inr ⟨g, h, by simp at hg; omega⟩⟩
theorem wpList_app1 {ops : Array Oper} {rest : List Oper} {o : Oper} {a : Act} {Q : Exit → Act → World → Prop} (w : World) (hgd : o.guard = none) (s x : Operand)
    (ho : o.op = .call { callee := .builtin .append, args := #[s, x], argTypes := #[34, 34] }) (v : Value) (y : Int) (hs : a.eval s = v) (hx : a.eval x = .slice (some ⟨w.heap.size, 0, none⟩) 1 1)
    (B : Nat) (xs : List Nat) (z : Nat) (hy : y = z) (h : Row w B v xs) (hB : B ≤ w.heap.size) (hl : xs.length ≤ 1099511627776)
    (k : ∀ v' w', Row w' B v' (xs ++ [z]) → Grw w v w' v' → wpList Tryz.prog ops Q rest (a.put o.dst v') w') :
    wpList Tryz.prog ops Q (o :: rest) a (w.alloc (.cells #[.int .u8 y] 5)) := by
  subst hy
  obtain ⟨i0, hi, hz0, hz1, hz2⟩ := info_parts info5
  refine wpList_append_own_at _ hgd s x 34 ho B 5 i0 (.int .u8 0) 1 1 Tryz.underlying34 hi hz0 hz1 hz2 rfl (by decide) v xs.length (bv xs) hs (World.ownsRow.alloc h _) ⟨w.heap.size, 0, none⟩ 1 1 [.int .u8 (z : Int)] hx rfl (cell_one_new _ _ _)
    (by simp [Value.oneCell']) (by unfold maxLen; omega) (by omega) (by simp; omega) ?_
  intro v' w' hown hg _ hat
  refine k v' w' ?_ ?_
  · unfold Row
    rw [bv_append, List.length_append]
    exact hown
  · refine ⟨alloc_grown hg, ?_⟩
    rcases hat with hat | hat
    · exact .inl hat
    · exact .inr ⟨_, hat, by simp⟩

theorem or128 : ∀ a : Fin 256, bits .or .u8 (a.val : Int) 128 = ((a.val % 128 + 128 : Nat) : Int) := by decide +kernel
theorem or_top (n : Nat) : bits .or .u8 ((n : Int) % 256) 128 = ((n % 128 + 128 : Nat) : Int) := by
  have h := or128 ⟨n % 256, by omega⟩
  simp only at h
  rw [show ((n % 256 : Nat) : Int) = (n : Int) % 256 from by omega] at h
  rw [h]
  omega

set_option maxHeartbeats 400000 in
theorem appendUint_any (w : World) (B : Nat) (v : Value) (xs : List Nat) (n : Nat) (h : Row w B v xs) (hB : B ≤ w.heap.size) (hl : xs.length ≤ 1000000000000) (hn : n < 18446744073709551616) :
    Calls Tryz.prog 98 #[v, .int .u64 (n : Int)] w fun e w' => ∃ v', e = .returned v' ∧ Row w' B v' (xs ++ enc n) ∧ Grw w v w' v' := by
  go_enter Tryz.func98, Tryz.ntmps98
  go_wp2
  go_loopw [0, 1] (fun vv nn wr => ∃ (ys : List Nat) (m : Nat), nn = .int .u64 (m : Int) ∧ m ≤ n ∧ Row wr B vv ys ∧ Grw w v wr vv ∧ ys ++ enc m = xs ++ enc n) (fun _ nn _ => (intOf nn).toNat)
  case atStart => exact ⟨xs, n, rfl, Nat.le_refl _, h, Grw.refl _ _, rfl⟩
  case round =>
    obtain ⟨ys, m, rfl, hm, hr, hb, he⟩ := hrel
    have hlen : ys.length ≤ 1099511627776 := by
      have := congrArg List.length he
      have h10 := enc_le n hn
      simp at this; omega
    have hBs : B ≤ wr.heap.size := Nat.le_trans hB hb.size
    have ht := or_top m
    have He := hid he
    clear he
    by_cases hlt : m < 128
    · go_wp2_with (at_builtin; refine wpList_app1 _ rfl _ _ rfl _ _ (by rfl) (by rfl) B ys m ?cy hr hBs hlen ?_)
      case cy => omega
      intro v' w' hr' hb'
      go_wp2
      go_ret
      refine ⟨_, rfl, ?_, hb.trans hb'⟩
      rw [← He.out, enc_small hlt]; exact hr'
    · go_wp2_with (at_builtin; refine wpList_app1 _ rfl _ _ rfl _ _ (by rfl) (by rfl) B ys (m % 128 + 128) ?cy hr hBs hlen ?_)
      case cy => omega
      intro v' w' hr' hb'
      go_wp2
      go_roundw
      case rel =>
        refine ⟨_, m / 128, by go_num, by omega, hr', hb.trans hb', ?_⟩
        rw [← He.out, enc_big hlt]; simp
      case measure => simp [intOf]; omega
end Go.Proofs.YthnolocldeokeaaGreat

namespace Go.Proofs.YthnolocldeokeaaGreat
open Go.RowKit Go.Deep
set_option linter.unusedVariables false
set_option linter.unusedSimpArgs false

def zz (k : Int) : Nat := if k < 0 then (-2 * k - 1).toNat else (2 * k).toNat
theorem zz_neg (m : Nat) : zz (-(m : Int) - 1) = 2 * m + 1 := by unfold zz; rw [if_pos (by omega)]; omega
theorem zz_pos (m : Nat) : zz (m : Int) = 2 * m := by unfold zz; rw [if_neg (by omega)]; omega
theorem zz_lt (k : Int) (h0 : -9223372036854775808 ≤ k) (h1 : k ≤ 9223372036854775807) : zz k < 18446744073709551616 := by
  unfold zz; split <;> omega

theorem sb_length (s : ByteArray) : (sb s).length = s.size := by simp [sb]
theorem strCells_eq (s : ByteArray) : Lib.strCells s = bv (sb s) := by simp [Lib.strCells, bv, sb]

theorem or_one (m : Nat) (h : m < 9223372036854775808) : bits .or .u64 ((m : Int) * 2) 1 = (2 * m + 1 : Nat) := by
  have h' := bits_or_u64_nat (m * 2) 1 (by omega) (by omega)
  have e : m * 2 ||| 1 = 2 * m + 1 := by
    have := Nat.two_pow_add_eq_or_of_lt (i := 1) (b := 1) (by decide) m
    rw [Nat.mul_comm]
    simpa using this.symm
  rw [e] at h'
  simpa using h'

set_option maxHeartbeats 400000 in
theorem putUint_any (w : World) (n : Nat) (hn : n < 18446744073709551616) :
    Calls Tryz.prog 60 #[.int .u64 (n : Int)] w fun e w' => ∃ v', e = .returned v' ∧ Row w' w.heap.size v' (enc n) ∧ Below w.heap.size w w' := by
  have h := hid (appendUint_any w w.heap.size _ [] n (Row.nil _ _) (Nat.le_refl _) (by simp) hn)
  go_enter Tryz.func60, Tryz.ntmps60
  go_wp2_with (go_at_call 98; refine (Hid.out h).mono ?_; rintro e w' ⟨v', rfl, hr, hb⟩)
  go_ret
  exact ⟨_, rfl, by simpa using hr, hb.nil⟩

theorem xor_neg (m : Nat) (h : m < 9223372036854775808) : bits .xor .i64 (if IntKind.i64.signed = true then -1 else 9223372036854775807) (-(m : Int) - 1) = m := by
  show IntKind.i64.wrap ((BitVec.ofInt 64 (-1) ^^^ BitVec.ofInt 64 (-(m : Int) - 1)).toNat : Int) = _
  have e1 : (-(m : Int) - 1) = Int.negSucc m := by omega
  have e2 : BitVec.ofInt 64 (-1) = BitVec.allOnes 64 := by decide
  rw [e1, BitVec.ofInt_negSucc_eq_not_ofNat, e2, BitVec.xor_comm, BitVec.xor_allOnes, BitVec.not_not, BitVec.toNat_ofNat, IntKind.wrap_i64]
  omega

theorem appendUint_int (w : World) (B : Nat) (v : Value) (xs : List Nat) (x : Int) (n : Nat) (hx : x = n) (h : Row w B v xs) (hB : B ≤ w.heap.size) (hl : xs.length ≤ 1000000000000) (hn : n < 18446744073709551616) :
    Calls Tryz.prog 98 #[v, .int .u64 x] w fun e w' => ∃ v', e = .returned v' ∧ Row w' B v' (xs ++ enc n) ∧ Grw w v w' v' := by
  subst hx; exact appendUint_any w B v xs n h hB hl hn

set_option maxHeartbeats 400000 in
theorem appendInt_any (w : World) (B : Nat) (v : Value) (xs : List Nat) (k : Int) (h : Row w B v xs) (hB : B ≤ w.heap.size) (hl : xs.length ≤ 1000000000000) (h0 : -9223372036854775808 ≤ k) (h1 : k ≤ 9223372036854775807) :
    Calls Tryz.prog 99 #[v, .int .i64 k] w fun e w' => ∃ v', e = .returned v' ∧ Row w' B v' (xs ++ enc (zz k)) ∧ Grw w v w' v' := by
  have hz := zz_lt k h0 h1
  by_cases hk : k < 0
  · obtain ⟨m, rfl⟩ : ∃ m : Nat, k = -(m : Int) - 1 := ⟨(-k - 1).toNat, by omega⟩
    rw [zz_neg] at hz ⊢
    have ho := or_one m (by omega)
    go_enter Tryz.func99, Tryz.ntmps99
    go_wp2_with (go_at_call 98; refine (appendUint_int w B v xs _ (2 * m + 1) (by rw [xor_neg m (by omega), IntKind.wrap_u64, IntKind.wrap_u64, Int.emod_eq_of_lt (by omega) (by omega), Int.emod_eq_of_lt (by omega) (by omega), ho]) h hB hl hz).mono ?_; rintro e w1 ⟨v1, rfl, hr, hb⟩)
    go_ret
    exact ⟨_, rfl, hr, hb⟩
  · obtain ⟨m, rfl⟩ := Int.eq_ofNat_of_zero_le (show 0 ≤ k by omega)
    rw [zz_pos] at hz ⊢
    go_enter Tryz.func99, Tryz.ntmps99
    go_wp2_with (go_at_call 98; refine (appendUint_int w B v xs _ (2 * m) (by omega) h hB hl hz).mono ?_; rintro e w1 ⟨v1, rfl, hr, hb⟩)
    go_ret
    exact ⟨_, rfl, hr, hb⟩

set_option maxHeartbeats 400000 in
theorem putInt_any (w : World) (k : Int) (h0 : -9223372036854775808 ≤ k) (h1 : k ≤ 9223372036854775807) :
    Calls Tryz.prog 63 #[.int .i64 k] w fun e w' => ∃ v', e = .returned v' ∧ Row w' w.heap.size v' (enc (zz k)) ∧ Below w.heap.size w w' := by
  have h := hid (appendInt_any w w.heap.size _ [] k (Row.nil _ _) (Nat.le_refl _) (by simp) h0 h1)
  go_enter Tryz.func63, Tryz.ntmps63
  go_wp2_with (go_at_call 99; refine (Hid.out h).mono ?_; rintro e w' ⟨v', rfl, hr, hb⟩)
  go_ret
  exact ⟨_, rfl, by simpa using hr, hb.nil⟩

theorem run_appS (w : World) (ty : TypeId) (B : Nat) (v : Value) (xs : List Nat) (s : ByteArray) (h : Row w B v xs) (hB : B ≤ w.heap.size) (hl : xs.length ≤ 1099511627776) (hl2 : s.size ≤ 1099511627776) :
    ∃ v' w', (Builtin.append_ #[34, 9] ty #[v, .string s]).run Tryz.prog w = .ok v' w' ∧ Row w' B v' (xs ++ sb s) ∧ Grw w v w' v' := by
  obtain ⟨i0, hi, hz0, hz1, hz2⟩ := info_parts info5
  obtain ⟨v', w', hrun, hown, hg, hiff⟩ := Lib.run_append_own_string (P := Tryz.prog) w B 34 9 ty 5 i0 Tryz.underlying34 Tryz.underlying9 hi hz0 hz1 hz2 v xs.length (bv xs) h s (by unfold maxLen; omega) (by omega) hB
  refine ⟨v', w', hrun, ?_, hg, ?_⟩
  · unfold Row
    rw [bv_append, List.length_append, sb_length, ← strCells_eq]
    exact hown
  · rcases h.2 with ⟨rfl, hn⟩ | ⟨g, cap, cur, rfl, hbg, hgg, hnc, hcm, hcs, htake⟩
    · by_cases hm : s.size = 0
      · rw [hiff.2 ⟨rfl, hm⟩]; exact .inl rfl
      · have hr := Lib.run_append_own_string (P := Tryz.prog) w w.heap.size 34 9 ty 5 i0 Tryz.underlying34 Tryz.underlying9 hi hz0 hz1 hz2 (.slice none 0 0) 0 [] (World.ownsRow_nil _ _ _ _) s (by unfold maxLen; omega) (by omega) (Nat.le_refl _)
        obtain ⟨v2, w2, hrun2, hown2, _, _⟩ := hr
        rw [hrun] at hrun2
        cases hrun2
        rcases hown2.2 with ⟨rfl, hn2⟩ | ⟨g, cap, cur, rfl, hbg, _⟩
        · omega
        · exact .inr ⟨g, rfl, hbg⟩
    · by_cases hroom : xs.length + s.size ≤ cap
      · have hcs' : cur.size = cap := by simpa using hcs
        have hr := Lib.run_append_room_string (P := Tryz.prog) w 34 9 ty 5 i0 Tryz.underlying34 Tryz.underlying9 hi hz1 g xs.length cap cur hgg s hroom (by omega)
        rw [hrun] at hr
        cases hr
        exact .inl rfl
      · have hr := Lib.run_append_grow_string (P := Tryz.prog) w 34 9 ty 5 i0 (.int .u8 0) Tryz.underlying34 Tryz.underlying9 hi hz0 ⟨g, 0, none⟩ xs.length cap (bv xs) (by rw [hz1]; simp [bv_length]) (World.ownsRow.cells h (g := g) rfl) s (by omega) (by omega) (by rw [hz2]; exact growslice_fits (by omega) (by omega))
        rw [hrun] at hr
        cases hr
        exact .inr ⟨_, rfl, Nat.le_refl _⟩

theorem wpList_appS {ops : Array Oper} {rest : List Oper} {o : Oper} {a : Act} {Q : Exit → Act → World → Prop} (w : World) (hgd : o.guard = none) (sl x : Operand)
    (ho : o.op = .call { callee := .builtin .append, args := #[sl, x], argTypes := #[34, 9] }) (v : Value) (s : ByteArray) (hs : a.eval sl = v) (hx : a.eval x = .string s)
    (B : Nat) (xs : List Nat) (h : Row w B v xs) (hB : B ≤ w.heap.size) (hl : xs.length ≤ 1099511627776) (hl2 : s.size ≤ 1099511627776)
    (k : ∀ v' w', Row w' B v' (xs ++ sb s) → Grw w v w' v' → wpList Tryz.prog ops Q rest (a.put o.dst v') w') :
    wpList Tryz.prog ops Q (o :: rest) a w := by
  refine wpList_plain hgd fun K hK => ?_
  obtain ⟨v', w', hr, h2, h3⟩ := run_appS w o.type B v xs s h hB hl hl2
  unfold Oper.wp execOp
  simp only [ho, resolve, invoke, builtin, Sem.run_bind, Sem.run_pure, Result.andThen_ok, List.map_toArray, List.map_cons, List.map_nil, hs, hx, hr]
  exact hK _ _ (k v' w' h2 h3)

def encX (s : ByteArray) : List Nat := enc s.size ++ sb s

set_option maxHeartbeats 400000 in
theorem appendText_any (w : World) (B : Nat) (v : Value) (xs : List Nat) (s : ByteArray) (h : Row w B v xs) (hB : B ≤ w.heap.size) (hl : xs.length ≤ 1000000000000) (hs : s.size ≤ 1000000000000) :
    Calls Tryz.prog 100 #[v, .string s] w fun e w' => ∃ v', e = .returned v' ∧ Row w' B v' (xs ++ encX s) ∧ Grw w v w' v' := by
  go_enter Tryz.func100, Tryz.ntmps100
  have h10 := enc_le s.size (by omega)
  have hl1 : (xs ++ enc s.size).length ≤ 1099511627776 := by simp; omega
  go_wp2_with (first
    | (go_at_call 98; refine (appendUint_int w B v xs _ s.size (by omega) h hB hl (by omega)).mono ?_; rintro e w1 ⟨v1, rfl, hr, hb⟩)
    | (at_builtin; refine wpList_appS _ rfl _ _ rfl _ _ (by rfl) (by rfl) B _ hr (Nat.le_trans hB hb.size) hl1 (by omega) ?_))
  intro v2 w2 hr2 hb2
  go_wp2
  go_ret
  exact ⟨_, rfl, by unfold encX; exact hr2, hb.trans hb2⟩

set_option maxHeartbeats 400000 in
theorem putText_any (w : World) (s : ByteArray) (hs : s.size ≤ 1000000000000) :
    Calls Tryz.prog 64 #[.string s] w fun e w' => ∃ v', e = .returned v' ∧ Row w' w.heap.size v' (encX s) ∧ Below w.heap.size w w' := by
  have h := hid (appendText_any w w.heap.size _ [] s (Row.nil _ _) (Nat.le_refl _) (by simp) hs)
  go_enter Tryz.func64, Tryz.ntmps64
  go_wp2_with (go_at_call 100; refine (Hid.out h).mono ?_; rintro e w' ⟨v', rfl, hr, hb⟩)
  go_ret
  exact ⟨_, rfl, by simpa using hr, hb.nil⟩

end Go.Proofs.YthnolocldeokeaaGreat

