/- The document's Same, of what is alike: programs. -/
import Derived.Test.YthnolocldeokeaaGreatJAC
import Derived.Shelf.Strconv.Clone
import Derived.Deep.LoopGhost
import Derived.Below
import Derived.Deep.AppendLies
import Derived.Deep.OwnRows
import Derived.Deep.RegionHeld3
import Derived.Laws.Bits64b
import Derived.Laws.BitsLemmas
import Derived.Lib.AppendStr
import Derived.Maps.AppendAt
import Derived.WalkKit
import Derived.WalkLawsBesides
import Derived.WalkSpells
namespace Go.Proofs.YthnolocldeokeaaGreat
open Go.RowKit Go.Deep Go.Shelf
set_option linter.unusedVariables false
set_option linter.unusedSimpArgs false
structure PEq (p q : Pg) : Prop where
  r : p.recs.map (·.2) = q.recs.map (·.2)
  m : p.maps = q.maps
  f : p.funcs.map (·.2) = q.funcs.map (·.2)
  e : p.events.map (·.2) = q.events.map (·.2)
theorem bel_cell {w v : World} (hv : Below w.heap.size w v) {p : Addr} {x : Value} (h : w.cell? p = some x) : v.cell? p = some x := (hv.cell (p := p) (World.block_lt_of_cell? w p h)).trans h
theorem two_al (w : World) (a b : Obj) : ((w.alloc a).alloc b).drew.heap[w.heap.size]? = some a ∧ ((w.alloc a).alloc b).drew.heap[w.heap.size + 1]? = some b ∧ Below w.heap.size w ((w.alloc a).alloc b).drew := by
  refine ⟨(Below.heap_alloc _ _ _ (by simp)).trans (heap_alloc_new w _), ?_, (((Below.refl _ w).alloc (Nat.le_refl _) _).alloc (by simp) _).drew⟩
  have := heap_alloc_new (w.alloc a) b
  rw [World.size_alloc] at this; exact this
set_option maxRecDepth 100000 in
set_option maxHeartbeats 8000000 in
theorem sameProgram_yes (w : World) (h k : PH) (p q : Pg) (d1 : PRd w h p) (d2 : PRd w k q) (he : PEq p q) :
    Calls Tryz.prog 47 #[h.v, k.v] w fun e w' => e = .returned (.bool true) ∧ Below w.heap.size w w' := by
  have er : h.rn = k.rn := by rw [d1.r.n1, d2.r.n1]; have := congrArg List.length he.r; rw [List.length_map, List.length_map] at this; exact this
  have em : h.mn = k.mn := by rw [d1.m.n1, d2.m.n1, he.m]
  have ef : h.fn = k.fn := by rw [d1.f.n1, d2.f.n1]; have := congrArg List.length he.f; rw [List.length_map, List.length_map] at this; exact this
  have ee : h.en = k.en := by rw [d1.e.n1, d2.e.n1]; have := congrArg List.length he.e; rw [List.length_map, List.length_map] at this; exact this
  have r1 := d1.r
  have r2 := d2.r
  have m1 := d1.m
  have m2 := d2.m
  have f1 := d1.f
  have f2 := d2.f
  have e1 := d1.e
  have e2 := d2.e
  obtain ⟨ra, rn, rc, ma, mn, mc, fa, fn, fc, ea, en, ec⟩ := h
  obtain ⟨ra2, rn2, rc2, ma2, mn2, mc2, fa2, fn2, fc2, ea2, en2, ec2⟩ := k
  simp only at er em ef ee r1 r2 m1 m2 f1 f2 e1 e2
  subst er em ef ee
  simp only [PH.v]
  obtain ⟨W0, hW0⟩ : ∃ W0, W0 = (w.alloc (.cells #[.slice ra rn rc, .slice ma mn mc, .slice fa fn fc, .slice ea en ec] 26)).alloc (.cells #[.slice ra2 rn rc2, .slice ma2 mn mc2, .slice fa2 fn fc2, .slice ea2 en ec2] 26) := ⟨_, rfl⟩
  have bw : Below w.heap.size w W0 := by rw [hW0]; exact ((Below.refl _ _).alloc (Nat.le_refl _) _).alloc (by simp) _
  have q0 : W0.heap[w.heap.size]? = some (.cells #[.slice ra rn rc, .slice ma mn mc, .slice fa fn fc, .slice ea en ec] 26 (0, 0)) := by rw [hW0]; exact (Below.heap_alloc _ _ _ (by simp)).trans (heap_alloc_new w _)
  have q1 : W0.heap[w.heap.size + 1]? = some (.cells #[.slice ra2 rn rc2, .slice ma2 mn mc2, .slice fa2 fn fc2, .slice ea2 en ec2] 26 (0, 0)) := by
    have := heap_alloc_new (w.alloc (.cells #[.slice ra rn rc, .slice ma mn mc, .slice fa fn fc, .slice ea en ec] 26)) (.cells #[.slice ra2 rn rc2, .slice ma2 mn mc2, .slice fa2 fn fc2, .slice ea2 en ec2] 26)
    rw [World.size_alloc] at this
    rw [hW0]; exact this
  have GT : Hid (∀ V : World, Below W0.heap.size W0 V → ((V.cell? ⟨w.heap.size, 0, none⟩ = some (.slice ra rn rc) ∧ V.cell? ⟨w.heap.size, 1, none⟩ = some (.slice ma mn mc) ∧ V.cell? ⟨w.heap.size, 2, none⟩ = some (.slice fa fn fc) ∧ V.cell? ⟨w.heap.size, 3, none⟩ = some (.slice ea en ec)) ∧ V.cell? ⟨w.heap.size + 1, 0, none⟩ = some (.slice ra2 rn rc2) ∧ V.cell? ⟨w.heap.size + 1, 1, none⟩ = some (.slice ma2 mn mc2) ∧ V.cell? ⟨w.heap.size + 1, 2, none⟩ = some (.slice fa2 fn fc2) ∧ V.cell? ⟨w.heap.size + 1, 3, none⟩ = some (.slice ea2 en ec2)) ∧ Below w.heap.size w V) := hid (fun V hV => by
    have g0 := (hV.block _ (lt_of_heap q0)).trans q0
    have g1 := (hV.block _ (lt_of_heap q1)).trans q1
    exact ⟨⟨⟨cellOf g0 0, cellOf g0 1, cellOf g0 2, cellOf g0 3⟩, cellOf g1 0, cellOf g1 1, cellOf g1 2, cellOf g1 3⟩, bw.trans (hV.mono bw.size)⟩)
  have KF := hid (fun (V : World) (hV : Below w.heap.size w V) => sameSigs_yes V fa fa2 fn fc fc2 p.funcs q.funcs (f1.below (Nat.le_refl _) hV) (f2.below (Nat.le_refl _) hV) he.f)
  have KE := hid (fun (V : World) (hV : Below w.heap.size w V) => sameSigs_yes V ea ea2 en ec ec2 p.events q.events (e1.below (Nat.le_refl _) hV) (e2.below (Nat.le_refl _) hV) he.e)
  have R1 := hid r1
  have R2 := hid r2
  have M1 := hid m1
  have M2 := hid m2
  have HER := hid he.r
  have HEM := hid he.m
  have rnI : (rn : Int) ≤ 9223372036854775807 := by have := r1.n2; omega
  have mnI : (mn : Int) ≤ 9223372036854775807 := by have := m1.n2; omega
  have fnI : (fn : Int) ≤ 9223372036854775807 := by have := f1.n2; omega
  have enI : (en : Int) ≤ 9223372036854775807 := by have := e1.n2; omega
  have nb1 : ((rn : Int) != (rn : Int)) = false := by simp
  have nb2 : ((mn : Int) != (mn : Int)) = false := by simp
  have TR : Hid (∀ {x y : World}, Below W0.heap.size W0 x → Below x.heap.size x y → Below W0.heap.size W0 y) := hid (fun h1 h2 => h1.trans (h2.mono h1.size))
  obtain ⟨⟨⟨c0, c1, c2, c3⟩, d0, d1', d2', d3⟩, _⟩ := GT.out W0 (Below.refl _ _)
  clear d1 d2 he r1 r2 m1 m2 f1 f2 e1 e2 q0 q1
  have KF0 := hid (KF.out W0 bw)
  clear bw KF
  go_enter Tryz.func47, Tryz.ntmps47
  go_upto_region 1 with fail
  rw [← hW0]
  clear hW0
  go_upto_region 3 with (first
    | (have hno := hfirst; (go_at_call 80; (refine (KE.out w1 (GT.out w1 hb1).2).mono ?_; rintro e w2 ⟨rfl, hb2⟩; have HB2 := hid (TR.out hb1 hb2); clear c0 c1 c2 c3 d0 d1' d2' d3; obtain ⟨⟨⟨c0, c1, c2, c3⟩, d0, d1', d2', d3⟩, _⟩ := GT.out w2 HB2.out)))
    | (go_at_call 80; (refine (Hid.out KF0).mono ?_; rintro e w1 ⟨rfl, hb1⟩; clear c0 c1 c2 c3 d0 d1' d2' d3; obtain ⟨⟨⟨c0, c1, c2, c3⟩, d0, d1', d2', d3⟩, _⟩ := GT.out w1 hb1; have hfirst : True := trivial)))
  clear hb1 hb2 hfirst KF0 KE
  go_wp2
  go_loopg [5] rn (fun g x wr => ∃ j : Nat, j + g = rn ∧ x = .int .i64 (j : Int) ∧ Below W0.heap.size W0 wr)
  case atStart => exact ⟨0, by omega, rfl, HB2.out⟩
  case round =>
    obtain ⟨j, hj, rfl, hb⟩ := hrel
    clear c0 c1 c2 c3 d0 d1' d2' d3
    obtain ⟨⟨⟨c0, c1, c2, c3⟩, d0, d1', d2', d3⟩, gb⟩ := GT.out wr hb
    cases gk with
    | zero =>
      have hjn : j = rn := by omega
      subst hjn
      have HB := hid hb
      clear hb gb
      go_wp2
      go_loopg [9] mn (fun g2 x wr2 => ∃ i : Nat, i + g2 = mn ∧ x = .int .i64 (i : Int) ∧ Below W0.heap.size W0 wr2)
      case atStart => exact ⟨0, by omega, rfl, HB.out⟩
      case round =>
        obtain ⟨i, hi, rfl, hb⟩ := hrel
        clear c0 c1 c2 c3 d0 d1' d2' d3
        obtain ⟨⟨⟨c0, c1, c2, c3⟩, d0, d1', d2', d3⟩, gb⟩ := GT.out wr hb
        cases gk with
        | zero =>
          have hin : i = mn := by omega
          subst hin
          have GB := hid gb
          clear gb hb
          go_wp2
          go_ret
          exact ⟨rfl, GB.out⟩
        | succ g2 =>
          have mA := M1.out.below (Nat.le_refl _) gb
          have mB := M2.out.below (Nat.le_refl _) gb
          have l1 : i < p.maps.length := by rw [← mA.n1]; omega
          have e1 : p.maps[i]? = some p.maps[i] := List.getElem?_eq_getElem l1
          have e2 : q.maps[i]? = some p.maps[i] := by rw [← HEM.out]; exact e1
          obtain ⟨b1, o1, rfl, _, hc1⟩ := mA.rd i (p.maps[i]).cs (by simp [e1])
          obtain ⟨b2, o2, rfl, _, hc2⟩ := mB.rd i (p.maps[i]).cs (by rw [List.getElem?_map, e2]; rfl)
          generalize p.maps[i] = mm at hc1 hc2
          obtain ⟨nm, ⟨k1, k2⟩, ⟨v1, v2⟩⟩ := mm
          have x0 := hc1 0 (by omega)
          have x1 := hc1 1 (by omega)
          have x2 := hc1 2 (by omega)
          have x3 := hc1 3 (by omega)
          have x4 := hc1 4 (by omega)
          have y0 := hc2 0 (by omega)
          have y1 := hc2 1 (by omega)
          have y2 := hc2 2 (by omega)
          have y3 := hc2 3 (by omega)
          have y4 := hc2 4 (by omega)
          simp only [Mp.cs, List.getElem?_cons_zero, List.getElem?_cons_succ, Nat.add_zero] at x0 x1 x2 x3 x4 y0 y1 y2 y3 y4
          have hiI : (i : Int) < (mn : Int) := by omega
          have hi0 : (0 : Int) ≤ (i : Int) := by omega
          have HB := hid hb
          clear hb gb mA mB l1 e1 e2 hc1 hc2
          go_wp2
          go_quiet (fail)
          go_wp2
          go_roundg g2
          case measure => omega
          exact ⟨i + 1, by omega, by go_num, bel_dN HB.out _⟩
    | succ g =>
      have rA := R1.out.below (Nat.le_refl _) gb
      have rB := R2.out.below (Nat.le_refl _) gb
      have l1 : j < p.recs.length := by rw [← rA.n1]; omega
      have l2 : j < q.recs.length := by rw [← rB.n1]; omega
      have e1 : p.recs[j]? = some p.recs[j] := List.getElem?_eq_getElem l1
      have e2 : q.recs[j]? = some q.recs[j] := List.getElem?_eq_getElem l2
      have hss : (p.recs[j]).2 = (q.recs[j]).2 := by
        have h1 : (p.recs.map (·.2))[j]? = some (p.recs[j]).2 := by rw [List.getElem?_map, e1]; rfl
        have h2 : (q.recs.map (·.2))[j]? = some (q.recs[j]).2 := by rw [List.getElem?_map, e2]; rfl
        rw [HER.out, h2] at h1
        exact (Option.some.inj h1).symm
      obtain ⟨b1, o1, rfl, _, hc1⟩ := rA.rd j (p.recs[j]).1.cs (by simp [e1])
      obtain ⟨b2, o2, rfl, _, hc2⟩ := rB.rd j (q.recs[j]).1.cs (by simp [e2])
      have s1 := rA.el _ (List.getElem_mem l1)
      have s2 := rB.el _ (List.getElem_mem l2)
      generalize p.recs[j] = p1 at hss hc1 s1
      generalize q.recs[j] = p2 at hss hc2 s2
      obtain ⟨⟨nm1, xa1, xn1, xc1, ya1, yn1, yc1⟩, rx1⟩ := p1
      obtain ⟨⟨nm2, xa2, xn2, xc2, ya2, yn2, yc2⟩, rx2⟩ := p2
      simp only at hss
      subst hss
      obtain rfl : nm1 = nm2 := (show nm1 = _ from s1.nm).trans (show nm2 = _ from s2.nm).symm
      obtain rfl : xn1 = xn2 := (show xn1 = _ from s1.fn).trans (show xn2 = _ from s2.fn).symm
      obtain rfl : yn1 = yn2 := (show yn1 = _ from s1.tn).trans (show yn2 = _ from s2.tn).symm
      have x0 := hc1 0 (by omega)
      have x1 := hc1 1 (by omega)
      have x2 := hc1 2 (by omega)
      have y0 := hc2 0 (by omega)
      have y1 := hc2 1 (by omega)
      have y2 := hc2 2 (by omega)
      simp only [RH.cs, List.getElem?_cons_zero, List.getElem?_cons_succ, Nat.add_zero] at x0 x1 x2 y0 y1 y2
      have hjI : (j : Int) < (rn : Int) := by omega
      have hj0 : (0 : Int) ≤ (j : Int) := by omega
      have S1 := hid s1
      have S2 := hid s2
      have HB := hid hb
      have GB := hid gb
      obtain ⟨wo, hwo⟩ : ∃ wo, wo = wr := ⟨_, rfl⟩
      subst hwo
      clear hb gb rA rB l1 l2 e1 e2 hc1 hc2 s1 s2
      go_upto_region 6 with fail
      go_cut [6, 7] from 49 to 58 (fun s6 s7 wx => ∃ X Y : Nat, s6 = .pointer (some ⟨X, 0, none⟩) ∧ s7 = .pointer (some ⟨Y, 0, none⟩) ∧ wx.heap[X]? = some (.cells #[.string nm1, .slice xa1 xn1 xc1, .slice ya1 yn1 yc1] 63 (0, 0)) ∧ wx.heap[Y]? = some (.cells #[.string nm1, .slice xa2 xn1 xc2, .slice ya2 yn1 yc2] 63 (0, 0)) ∧ Below wo.heap.size wo wx)
      case first =>
        go_region_held3 (fun v => v.cell? ⟨w.heap.size, 0, none⟩ = some (.slice (some ⟨b1, o1, none⟩) rn rc) ∧ v.cell? ⟨w.heap.size + 1, 0, none⟩ = some (.slice (some ⟨b2, o2, none⟩) rn rc2) ∧ v.cell? ⟨b1, o1 + j * 3, none⟩ = some (.string nm1) ∧ v.cell? ⟨b1, o1 + j * 3 + 1, none⟩ = some (.slice xa1 xn1 xc1) ∧ v.cell? ⟨b1, o1 + j * 3 + 2, none⟩ = some (.slice ya1 yn1 yc1) ∧ v.cell? ⟨b2, o2 + j * 3, none⟩ = some (.string nm1) ∧ v.cell? ⟨b2, o2 + j * 3 + 1, none⟩ = some (.slice xa2 xn1 xc2) ∧ v.cell? ⟨b2, o2 + j * 3 + 2, none⟩ = some (.slice ya2 yn1 yc2)) (first | go_keep) (fail)
        all_goals (go_wp2_with fail)
        all_goals go_meet
        · exact ⟨_, _, rfl, rfl, (two_al _ _ _).1, (two_al _ _ _).2.1, (two_al _ _ _).2.2⟩
        · exact ⟨_, _, rfl, rfl, (two_al _ _ _).2.1, (two_al _ _ _).1, (two_al _ _ _).2.2⟩
      case rest =>
        obtain ⟨X, Y, rfl, rfl, mX, mY, bx⟩ := hcut
        have BX := hid (HB.out.trans (bx.mono HB.out.size))
        have gwc := GB.out.trans (bx.mono GB.out.size)
        have CB := hid (fun (V : World) (hV : Below wc.heap.size wc V) => (by
          have g1 := (hV.block _ (lt_of_heap mX)).trans mX
          have g2 := (hV.block _ (lt_of_heap mY)).trans mY
          exact ⟨⟨cellOf g1 0, cellOf g1 1, cellOf g1 2⟩, cellOf g2 0, cellOf g2 1, cellOf g2 2⟩ : (V.cell? ⟨X, 0, none⟩ = some (.string nm1) ∧ V.cell? ⟨X, 1, none⟩ = some (.slice xa1 xn1 xc1) ∧ V.cell? ⟨X, 2, none⟩ = some (.slice ya1 yn1 yc1)) ∧ V.cell? ⟨Y, 0, none⟩ = some (.string nm1) ∧ V.cell? ⟨Y, 1, none⟩ = some (.slice xa2 xn1 xc2) ∧ V.cell? ⟨Y, 2, none⟩ = some (.slice ya2 yn1 yc2)))
        have T1 := S1.out.below (Nat.le_refl _) bx
        have T2 := S2.out.below (Nat.le_refl _) bx
        have K := hid (sameTypes_yes wc ya1 ya2 yn1 yc1 yc2 rx1.types T1.tn T1.t2 T1.tr T2.tr)
        have xnI : (xn1 : Int) ≤ 9223372036854775807 := by have : xn1 ≤ _ := T1.f2; omega
        have HXN : Hid (xn1 = rx1.fields.length) := hid T1.fn
        have F1 := hid T1.fr
        have F2 := hid T2.fr
        have nbx : ((xn1 : Int) != (xn1 : Int)) = false := by simp
        clear x0 x1 x2 y0 y1 y2 mX mY T1 T2
        obtain ⟨⟨x0, x1, x2⟩, y0, y1, y2⟩ := CB.out wc (Below.refl _ _)
        go_upto_region 9 with (go_at_call 81; (refine (Hid.out K).mono ?_; rintro e w2 ⟨rfl, hb2⟩; have HC := hid hb2; clear x0 x1 x2 y0 y1 y2 hb2))
        obtain ⟨⟨x0, x1, x2⟩, y0, y1, y2⟩ := CB.out w2 HC.out
        go_wp2
        go_loopg [8] xn1 (fun g2 x wr2 => ∃ i : Nat, i + g2 = xn1 ∧ x = .int .i64 (i : Int) ∧ Below wc.heap.size wc wr2)
        case atStart => exact ⟨0, by omega, rfl, HC.out⟩
        case round =>
          obtain ⟨i, hi, rfl, hb3⟩ := hrel
          clear x0 x1 x2 y0 y1 y2
          obtain ⟨⟨x0, x1, x2⟩, y0, y1, y2⟩ := CB.out wr hb3
          cases gk with
          | zero =>
            have hin : i = xn1 := by omega
            subst hin
            have H3 := hid hb3
            clear hb3
            go_wp2
            go_roundg g
            case measure => omega
            exact ⟨j + 1, by omega, by go_num, BX.out.trans (H3.out.mono BX.out.size)⟩
          | succ g2 =>
            obtain ⟨s, hs⟩ : ∃ s, rx1.fields[i]? = some s := ⟨rx1.fields[i]'(by have := HXN.out; omega), List.getElem?_eq_getElem _⟩
            obtain ⟨_, p1, u1, rfl, z1⟩ := (F1.out.below (Nat.le_refl _) hb3) i s hs
            obtain ⟨_, p2, u2, rfl, z2⟩ := (F2.out.below (Nat.le_refl _) hb3) i s hs
            have hiI : (i : Int) < (xn1 : Int) := by omega
            have hi0 : (0 : Int) ≤ (i : Int) := by omega
            have H3 := hid hb3
            clear hb3 hs
            go_wp2
            go_quiet (fail)
            go_wp2
            go_roundg g2
            case measure => omega
            exact ⟨i + 1, by omega, by go_num, bel_dN H3.out _⟩
end Go.Proofs.YthnolocldeokeaaGreat

namespace Go.Proofs
open Go.Shelf
end Go.Proofs
namespace Go.Proofs.YthnolocldeokeaaGreat
open Go.RowKit Go.Deep Go.Shelf
set_option linter.unusedVariables false
set_option linter.unusedSimpArgs false
/- Rows. -/
structure Rk (k : Nat) (rows : List (List Value)) : Prop where
  len : ∀ r ∈ rows, r.length = k
  one : ∀ r ∈ rows, ∀ u ∈ r, u.oneCell' = true
theorem Rk.app {k : Nat} {l m : List (List Value)} (h : Rk k l) (g : Rk k m) : Rk k (l ++ m) := ⟨fun r hr => (List.mem_append.1 hr).elim (h.len r) (g.len r), fun r hr => (List.mem_append.1 hr).elim (h.one r) (g.one r)⟩
theorem flat_len {k : Nat} : ∀ {rows : List (List Value)}, (∀ r ∈ rows, r.length = k) → rows.flatten.length = rows.length * k
  | [], _ => by simp
  | r :: l, h => by
    have h1 := flat_len (rows := l) (fun x hx => h x (List.mem_cons_of_mem _ hx))
    have h2 := h r (List.mem_cons_self ..)
    rw [List.flatten_cons, List.length_append, h1, h2, List.length_cons, Nat.add_mul]; omega
theorem flat_at {k : Nat} : ∀ {rows : List (List Value)}, (∀ r ∈ rows, r.length = k) → ∀ (j : Nat) (r : List Value), rows[j]? = some r → ∀ i, i < k → rows.flatten[j * k + i]? = r[i]?
  | [], _, j, r, e => by simp at e
  | p :: l, h, 0, r, e => fun i hi => by
    simp at e; subst e
    rw [List.flatten_cons, Nat.zero_mul, Nat.zero_add, List.getElem?_append_left (by rw [h p (List.mem_cons_self ..)]; exact hi)]
  | p :: l, h, j + 1, r, e => fun i hi => by
    have h1 : l[j]? = some r := by simpa using e
    have h2 := flat_at (rows := l) (fun x hx => h x (List.mem_cons_of_mem _ hx)) j r h1 i hi
    have hp := h p (List.mem_cons_self ..)
    have he : (j + 1) * k + i - p.length = j * k + i := by rw [hp, Nat.add_mul]; omega
    rw [List.flatten_cons, List.getElem?_append_right (by rw [hp, Nat.add_mul]; omega), he]; exact h2
theorem flat_of {k : Nat} (k0 : 0 < k) {rows : List (List Value)} (h : ∀ r ∈ rows, r.length = k) {q : Nat} {u : Value} (e : rows.flatten[q]? = some u) : ∃ r, rows[q / k]? = some r ∧ r[q % k]? = some u := by
  have hq : q < rows.length * k := by rw [← flat_len h]; exact (List.getElem?_eq_some_iff.1 e).1
  have hj : q / k < rows.length := (Nat.div_lt_iff_lt_mul k0).2 hq
  refine ⟨rows[q / k], List.getElem?_eq_getElem hj, ?_⟩
  rw [← flat_at h (q / k) _ (List.getElem?_eq_getElem hj) (q % k) (Nat.mod_lt _ k0), show q / k * k + q % k = q by rw [Nat.mul_comm]; exact Nat.div_add_mod q k]
  exact e
def KR (E : TypeId) (k : Nat) (w : World) (B : Nat) (v : Value) (rows : List (List Value)) : Prop := w.ownsRow B E k v rows.length rows.flatten ∧ Rk k rows
theorem KR.nil (E : TypeId) (k : Nat) (w : World) (B : Nat) : KR E k w B (.slice none 0 0) [] := ⟨⟨by simp, .inl ⟨rfl, rfl⟩⟩, ⟨fun r hr => by simp at hr, fun r hr => by simp at hr⟩⟩
theorem KR.keep {E : TypeId} {k : Nat} {w w' : World} {B : Nat} {v : Value} {l : List (List Value)} (h : KR E k w B v l) (e : ∀ g, v.ownBlock = some g → w'.heap[g]? = w.heap[g]?) : KR E k w' B v l := by
  refine ⟨⟨h.1.1, ?_⟩, h.2⟩
  rcases h.1.2 with h2 | ⟨g, cap, cur, rfl, h3, h4, h5⟩
  · exact .inl h2
  · exact .inr ⟨g, cap, cur, rfl, h3, (e g rfl).trans h4, h5⟩
theorem KR.own {E : TypeId} {k : Nat} {w : World} {B : Nat} {v : Value} {l : List (List Value)} (h : KR E k w B v l) {g : Nat} (e : v.ownBlock = some g) : B ≤ g ∧ g < w.heap.size := by
  rcases h.1.2 with ⟨rfl, _⟩ | ⟨g', cap, cur, rfl, h3, h4, h5⟩
  · cases e
  · cases e; exact ⟨h3, lt_of_heap h4⟩
theorem KR.below {E : TypeId} {k : Nat} {w w' : World} {B C : Nat} {v : Value} {l : List (List Value)} (h : KR E k w B v l) (hC : w.heap.size ≤ C) (q : Below C w w') : KR E k w' B v l := h.keep fun g e => q.block g (by have := (h.own e).2; omega)
theorem KR.lower {E : TypeId} {k : Nat} {w : World} {B C : Nat} {v : Value} {l : List (List Value)} (h : KR E k w B v l) (hC : C ≤ B) : KR E k w C v l := by
  refine ⟨⟨h.1.1, ?_⟩, h.2⟩
  rcases h.1.2 with h2 | ⟨g, cap, cur, rfl, h3, h4⟩
  · exact .inl h2
  · exact .inr ⟨g, cap, cur, rfl, by omega, h4⟩
theorem KR.rd {E : TypeId} {k : Nat} {w : World} {B : Nat} {v : Value} {l : List (List Value)} (h : KR E k w B v l) : ∃ a cap, v = .slice a l.length cap ∧ l.length ≤ cap ∧ CRd w a k l ∧ (a = none → cap = 0) ∧ ∀ x : Addr, a = some x → B ≤ x.block := by
  rcases h.1.2 with ⟨rfl, h2⟩ | ⟨g, cap, cur, rfl, h3, h4, h5, h6, h7, h8⟩
  · have : l = [] := List.eq_nil_of_length_eq_zero h2
    subst this
    exact ⟨none, 0, rfl, by simp, fun j x hx => by simp at hx, fun _ => rfl, fun x e => by cases e⟩
  · refine ⟨_, cap, rfl, h5, fun j r hr => ⟨g, 0, rfl, lt_of_heap h4, fun i hi => ?_⟩, (fun e => by cases e), (fun x e => by cases e; exact h3)⟩
    have hj := (List.getElem?_eq_some_iff.1 hr).1
    have hlt : j * k + i < l.length * k := by
      have : (j + 1) * k ≤ l.length * k := Nat.mul_le_mul_right k hj
      rw [Nat.add_mul] at this; omega
    rw [cellOf h4, ← flat_at h.2.len j r hr i hi, ← h8, List.getElem?_take, if_pos hlt, Nat.zero_add]
    simp
theorem KR.one {E : TypeId} {k : Nat} (w : World) (r : List Value) (hr : r.length = k) (h1 : ∀ u ∈ r, u.oneCell' = true) : KR E k (w.alloc (.cells r.toArray E)) w.heap.size (.slice (some ⟨w.heap.size, 0, none⟩) 1 1) [r] := by
  refine ⟨⟨by simp [hr], .inr ⟨w.heap.size, 1, r.toArray, rfl, Nat.le_refl _, heap_alloc_new w _, Nat.le_refl _, by unfold maxLen; omega, by simp [hr], ?_⟩⟩, ⟨fun x hx => by simp at hx; rw [hx]; exact hr, fun x hx => by simp at hx; rw [hx]; exact h1⟩⟩
  simp [← hr]
theorem run_appK {T E : TypeId} {k bytes : Nat} {z : Value} (hU : Tryz.prog.underlying T = some (.slice E)) (hI : (Tryz.prog.info? E).map (fun i => (i.zero, i.size, i.bytes)) = some (some z, k, bytes)) (hz : z.cells.size = k) (k0 : 0 < k) (hby : bytes ≤ 100)
    (w : World) (ty : TypeId) (B : Nat) (v : Value) (l : List (List Value)) (h : KR E k w B v l) (a : Option Addr) (m c : Nat) (l2 : List (List Value)) (hm : m = l2.length) (hr : CRd w a k l2) (hR : Rk k l2) (hnil : a = none → c = 0) (hl : l.length ≤ 1000000) (hl2 : m ≤ 1000000) (hB : B ≤ w.heap.size) :
    ∃ v' w', (Builtin.append_ #[T, T] ty #[v, .slice a m c]).run Tryz.prog w = .ok v' w' ∧ KR E k w' B v' (l ++ l2) ∧ w.grownBy w' v.ownBlock ∧ (v'.ownBlock = v.ownBlock ∨ v'.ownBlock = some w.heap.size) := by
  obtain ⟨i0, hi, hz0, hz1, hz2⟩ := info_parts hI
  cases a with
  | none =>
    have hc0 := hnil rfl
    have hl0 : l2 = [] := by
      cases l2 with
      | nil => rfl
      | cons o r => obtain ⟨b, off, e, _⟩ := hr 0 o rfl; cases e
    subst hl0
    subst hc0
    have hm0 : m = 0 := hm
    subst hm0
    exact ⟨v, w, run_append_owned_none w B T ty E i0 k hU hi v l.length l.flatten h.1, by rw [List.append_nil]; exact h, ⟨rfl, rfl, rfl, Nat.le_refl _, fun _ _ _ => rfl⟩, .inl rfl⟩
  | some ad =>
    have hcell : ∀ q u, l2.flatten[q]? = some u → w.cell? (ad.add q) = some u := by
      intro q u hu
      obtain ⟨r, hr1, hr2⟩ := flat_of k0 hR.len hu
      obtain ⟨b, off, e, _, hc⟩ := hr (q / k) r hr1
      cases e
      have := hc (q % k) (Nat.mod_lt _ k0)
      rw [hr2] at this
      have he : off + q / k * k + q % k = off + q := by rw [Nat.add_assoc, Nat.mul_comm, Nat.div_add_mod]
      rw [Addr.add_lit, ← he]
      exact this
    have hone : ∀ u ∈ l2.flatten, u.oneCell' = true := fun u hu => by
      obtain ⟨r, hr1, hr2⟩ := List.mem_flatten.1 hu
      exact hR.one r hr1 u hr2
    obtain ⟨v', w', hrun, hown, hgr, _, hat⟩ := run_append_own_at (P := Tryz.prog) w B T ty E i0 z k bytes hU hi hz0 hz1 hz2 hz k0 v l.length l.flatten h.1 ad m c l2.flatten (by rw [flat_len hR.len, hm]) hcell hone (by unfold maxLen; omega) (by
      have : (l.length + m) * bytes ≤ 2000000 * 100 := Nat.mul_le_mul (by omega) hby
      omega) hB
    refine ⟨v', w', hrun, ⟨?_, h.2.app hR⟩, hgr, hat⟩
    rw [List.length_append, ← hm, List.flatten_append]
    exact hown
theorem wpList_appK {T E : TypeId} {k bytes : Nat} {z : Value} (hU : Tryz.prog.underlying T = some (.slice E)) (hI : (Tryz.prog.info? E).map (fun i => (i.zero, i.size, i.bytes)) = some (some z, k, bytes)) (hz : z.cells.size = k) (k0 : 0 < k) (hby : bytes ≤ 100)
    {ops : Array Oper} {rest : List Oper} {o : Oper} {act : Act} {Q : Exit → Act → World → Prop} (w : World) (hgd : o.guard = none) (s x : Operand)
    (ho : o.op = .call { callee := .builtin .append, args := #[s, x], argTypes := #[T, T] }) (v u : Value) (hs : act.eval s = v) (hx : act.eval x = u) (B : Nat) (l : List (List Value)) (h : KR E k w B v l) (a : Option Addr) (m c : Nat) (hu : u = .slice a m c) (l2 : List (List Value)) (hm : m = l2.length) (hr : CRd w a k l2) (hR : Rk k l2) (hnil : a = none → c = 0) (hl : l.length ≤ 1000000) (hl2 : m ≤ 1000000) (hB : B ≤ w.heap.size)
    (kk : ∀ v' w', KR E k w' B v' (l ++ l2) → w.grownBy w' v.ownBlock → (v'.ownBlock = v.ownBlock ∨ v'.ownBlock = some w.heap.size) → wpList Tryz.prog ops Q rest (act.put o.dst v') w') :
    wpList Tryz.prog ops Q (o :: rest) act w := by
  refine wpList_plain hgd fun K hK => ?_
  subst hu
  obtain ⟨v', w', hrun, h2, h3, h4⟩ := run_appK hU hI hz k0 hby w o.type B v l h a m c l2 hm hr hR hnil hl hl2 hB
  unfold Oper.wp execOp
  simp only [ho, resolve, invoke, builtin, Sem.run_bind, Sem.run_pure, Result.andThen_ok, List.map_toArray, List.map_cons, List.map_nil, hs, hx, hrun]
  exact hK _ _ (kk v' w' h2 h3 h4)
theorem KR.grown {E : TypeId} {k : Nat} {w0 w w' : World} {B : Nat} {v : Value} {l : List (List Value)} (hb : Below B w0 w) (h : KR E k w B v l) (hg : w.grownBy w' v.ownBlock) (hB : B ≤ w.heap.size) : Below B w0 w' :=
  hb.grown hg hB (fun g e => (h.own e).1)
theorem infoS : (Tryz.prog.info? 9).map (fun i => (i.zero, i.size, i.bytes)) = some (some (.string ⟨#[]⟩), 1, 16) := by kernel_rfl
theorem infoT : (Tryz.prog.info? 46).map (fun i => (i.zero, i.size, i.bytes)) = some (some (.agg #[.int .i64 0, .int .i64 0]), 2, 16) := by kernel_rfl
theorem infoI : (Tryz.prog.info? 2).map (fun i => (i.zero, i.size, i.bytes)) = some (some (.int .i64 0), 1, 8) := by kernel_rfl
theorem infoF : (Tryz.prog.info? 57).map (fun i => (i.zero, i.size, i.bytes)) = some (some (.agg #[.int .i64 0, .slice none 0 0]), 2, 32) := by kernel_rfl
theorem infoG : (Tryz.prog.info? 49).map (fun i => (i.zero, i.size, i.bytes)) = some (some (.agg #[.string ⟨#[]⟩, .slice none 0 0, .int .i64 0, .int .i64 0]), 4, 56) := by kernel_rfl
theorem infoR : (Tryz.prog.info? 63).map (fun i => (i.zero, i.size, i.bytes)) = some (some (.agg #[.string ⟨#[]⟩, .slice none 0 0, .slice none 0 0]), 3, 64) := by kernel_rfl
theorem infoM : (Tryz.prog.info? 67).map (fun i => (i.zero, i.size, i.bytes)) = some (some (.agg #[.string ⟨#[]⟩, .int .i64 0, .int .i64 0, .int .i64 0, .int .i64 0]), 5, 48) := by kernel_rfl
end Go.Proofs.YthnolocldeokeaaGreat

namespace Go.Proofs.YthnolocldeokeaaGreat
open Go.RowKit Go.Deep Go.Shelf
set_option linter.unusedVariables false
set_option linter.unusedSimpArgs false
def tyc (t : TyP) : List Value := [.int .i64 t.1, .int .i64 t.2]
def inc (x : Int) : List Value := [.int .i64 x]
def stc (s : ByteArray) : List Value := [.string s]
theorem rk_ty (ts : List TyP) : Rk 2 (ts.map tyc) := ⟨fun r hr => by obtain ⟨t, _, rfl⟩ := List.mem_map.1 hr; rfl, fun r hr u hu => by
  obtain ⟨t, _, rfl⟩ := List.mem_map.1 hr
  simp [tyc] at hu
  rcases hu with rfl | rfl <;> rfl⟩
theorem rk_in (xs : List Int) : Rk 1 (xs.map inc) := ⟨fun r hr => by obtain ⟨t, _, rfl⟩ := List.mem_map.1 hr; rfl, fun r hr u hu => by
  obtain ⟨t, _, rfl⟩ := List.mem_map.1 hr
  simp [inc] at hu
  subst hu; rfl⟩
theorem rk_st (s : ByteArray) : Rk 1 [stc s] := ⟨fun r hr => by simp at hr; subst hr; rfl, fun r hr u hu => by
  simp at hr; subst hr
  simp [stc] at hu
  subst hu; rfl⟩
theorem TRd.crd {w : World} {a : Option Addr} {ts : List TyP} (h : TRd w a ts) : CRd w a 2 (ts.map tyc) := fun j r e => by
  rw [List.getElem?_map] at e
  obtain ⟨t, ht, rfl⟩ := Option.map_eq_some_iff.1 e
  obtain ⟨b, off, e1, h1, h2⟩ := h j t ht
  refine ⟨b, off, e1, World.block_lt_of_cell? w _ h1, fun i hi => ?_⟩
  rcases (show i = 0 ∨ i = 1 by omega) with rfl | rfl
  · exact h1
  · exact h2
theorem CRd.trd {w : World} {a : Option Addr} {ts : List TyP} (h : CRd w a 2 (ts.map tyc)) : TRd w a ts := fun j t ht => by
  obtain ⟨b, off, e1, _, hc⟩ := h j (tyc t) (by rw [List.getElem?_map, ht]; rfl)
  exact ⟨b, off, e1, hc 0 (by omega), hc 1 (by omega)⟩
def JRd (w : World) (a : Option Addr) (xs : List Int) : Prop := CRd w a 1 (xs.map inc)
theorem crd_one (E : TypeId) (w : World) (r : List Value) (k : Nat) (hk : r.length = k) : CRd (w.alloc (.cells r.toArray E)) (some ⟨w.heap.size, 0, none⟩) k [r] := fun j x e => by
  cases j with
  | succ j => simp at e
  | zero =>
    simp at e; subst e
    refine ⟨w.heap.size, 0, rfl, by rw [World.size_alloc]; omega, fun i hi => ?_⟩
    rw [cellOf (heap_alloc_new w _)]
    simp
end Go.Proofs.YthnolocldeokeaaGreat

namespace Go.Proofs.YthnolocldeokeaaGreat
open Go.RowKit Go.Deep Go.Shelf
set_option linter.unusedVariables false
set_option linter.unusedSimpArgs false
set_option maxRecDepth 100000
/- An answer that is true just if P. -/
def DcP (w : World) (P : Prop) (e : Ending) (w' : World) : Prop := Below w.heap.size w w' ∧ ∃ b, e = .returned (.bool b) ∧ (b = true ↔ P)
theorem DcP.yes {w w' : World} {P : Prop} (h : Below w.heap.size w w') (p : P) : DcP w P (.returned (.bool true)) w' := ⟨h, true, rfl, fun _ => p, fun _ => rfl⟩
theorem DcP.no {w w' : World} {P : Prop} (h : Below w.heap.size w w') (p : ¬ P) : DcP w P (.returned (.bool false)) w' := ⟨h, false, rfl, (fun e => by cases e), fun q => (p q).elim⟩
theorem take_same {α : Type} {l m : List α} {j : Nat} {x y : α} (h : l.take j = m.take j) (h1 : l[j]? = some x) (h2 : m[j]? = some y) (e : x = y) : l.take (j + 1) = m.take (j + 1) := by
  rw [List.take_add_one, List.take_add_one, h, h1, h2, e]
theorem take_all {α : Type} {l m : List α} {n : Nat} (h : l.take n = m.take n) (h1 : n = l.length) (h2 : n = m.length) : l = m := by
  rw [List.take_of_length_le (by omega), List.take_of_length_le (by omega)] at h; exact h
theorem get_ne {α : Type} {l m : List α} {j : Nat} {x y : α} (h1 : l[j]? = some x) (h2 : m[j]? = some y) (e : ¬ x = y) : ¬ l = m := fun h => by
  rw [h, h2] at h1; exact e (Option.some.inj h1).symm
theorem neqT (w : World) {a b c d : Int} (h : ¬ (a, b) = (c, d)) : Sem.run Tryz.prog (binOp .neq 46 (.agg #[.int .i64 a, .int .i64 b]) (.agg #[.int .i64 c, .int .i64 d])) w = .ok (.bool true) w := by
  by_cases h1 : a = c
  · have h2 : ¬ b = d := fun e => h (by rw [h1, e])
    subst h1
    have h3 : (b == d) = false := by simp [h2]
    simp [go_sem, Tryz.underlying46, Tryz.underlying3, h3]
  · have h3 : (a == c) = false := by simp [h1]
    simp [go_sem, Tryz.underlying46, Tryz.underlying3, h3]
set_option maxHeartbeats 1000000 in
theorem sameTypes_any (w : World) (a b : Option Addr) (n m c1 c2 : Nat) (ts us : List TyP) (hn : n = ts.length) (hm : m = us.length) (hnb : n ≤ 9223372036854775807) (hmb : m ≤ 9223372036854775807) (h1 : TRd w a ts) (h2 : TRd w b us) :
    Calls Tryz.prog 81 #[.slice a n c1, .slice b m c2] w (DcP w (ts = us)) := by
  have hnI : (n : Int) ≤ 9223372036854775807 := by omega
  have hmI : (m : Int) ≤ 9223372036854775807 := by omega
  have HN := hid hn
  have HM := hid hm
  have H1 := hid h1
  have H2 := hid h2
  obtain ⟨P, hP⟩ : ∃ P : Prop, P = (ts = us) := ⟨_, rfl⟩
  have HP := hid hP
  rw [← hP]
  clear hn hm h1 h2 hP
  go_enter Tryz.func81, Tryz.ntmps81
  by_cases hnm : n = m
  · subst hnm
    have nb : ((n : Int) != (n : Int)) = false := by simp
    go_wp2
    go_loopg [5] n (fun g x wr => ∃ j : Nat, j + g = n ∧ x = .int .i64 (j : Int) ∧ ts.take j = us.take j ∧ Below w.heap.size w wr)
    case atStart => exact ⟨0, by omega, rfl, by simp, Below.refl _ _⟩
    case round =>
      obtain ⟨j, hj, rfl, htk, hb⟩ := hrel
      cases gk with
      | zero =>
        have hjn : j = n := by omega
        subst hjn
        have HB := hid hb
        have HT := hid (take_all htk HN.out HM.out)
        clear hb htk
        go_wp2
        go_ret
        exact DcP.yes HB.out (by rw [HP.out]; exact HT.out)
      | succ g =>
        obtain ⟨t, ht⟩ : ∃ t, ts[j]? = some t := ⟨ts[j]'(by have := HN.out; omega), List.getElem?_eq_getElem _⟩
        obtain ⟨u, hu⟩ : ∃ u, us[j]? = some u := ⟨us[j]'(by have := HM.out; omega), List.getElem?_eq_getElem _⟩
        obtain ⟨b1, o1, rfl, x0, x1⟩ := (H1.out.below (Nat.le_refl _) hb) j t ht
        obtain ⟨b2, o2, rfl, y0, y1⟩ := (H2.out.below (Nat.le_refl _) hb) j u hu
        have hjI : (j : Int) < (n : Int) := by omega
        have hj0 : (0 : Int) ≤ (j : Int) := by omega
        have HB := hid hb
        by_cases he : t = u
        · have HT := hid (take_same htk ht hu he)
          subst he
          obtain ⟨tk, tr⟩ := t
          simp only at x0 x1 y0 y1
          clear hb ht hu htk
          go_wp2
          go_quiet (fail)
          go_wp2
          go_roundg g
          case measure => omega
          exact ⟨j + 1, by omega, by go_num, HT.out, bel_dN HB.out _⟩
        · have HT := hid (get_ne ht hu he)
          obtain ⟨tk, tr⟩ := t
          obtain ⟨uk, ur⟩ := u
          have hn' := fun W : World => neqT W he
          simp only at x0 x1 y0 y1
          clear hb ht hu htk he
          go_wp2
          go_quiet (fail)
          go_wp2
          go_ret
          exact DcP.no (bel_dN HB.out _) (by rw [HP.out]; exact HT.out)
  · have HNM := hid hnm
    have nb : ((n : Int) != (m : Int)) = true := by simp; omega
    clear hnm
    go_wp2
    go_ret
    exact DcP.no (Below.refl _ _) (by rw [HP.out]; exact fun e => HNM.out (by rw [HN.out, HM.out, e]))
end Go.Proofs.YthnolocldeokeaaGreat

namespace Go.Proofs.YthnolocldeokeaaGreat
set_option maxRecDepth 100000
open Go.RowKit Go.Deep
set_option linter.unusedVariables false
set_option linter.unusedSimpArgs false

def bv (xs : List Nat) : List Value := xs.map fun (x : Nat) => Value.int .u8 (x : Int)
def encF : Nat → Nat → List Nat
  | 0, n => [n]
  | f + 1, n => if n < 128 then [n] else (n % 128 + 128) :: encF f (n / 128)
def enc (n : Nat) : List Nat := encF n n
def Row (w : World) (B : Nat) (v : Value) (xs : List Nat) : Prop := w.ownsRow B 5 1 v xs.length (bv xs)

theorem Row.nil (w : World) (B : Nat) : Row w B (.slice none 0 0) [] := World.ownsRow_nil w B 5 1
theorem Row.own {w B v xs} (h : Row w B v xs) : ∀ k, v.ownBlock = some k → B ≤ k ∧ k < w.heap.size := World.ownsRow.lt h
theorem Row.drew {w B v xs} (h : Row w B v xs) : Row w.drew B v xs := h
theorem Row.same {w w' : World} {B v xs} (h : Row w B v xs) (e : ∀ g, v.ownBlock = some g → w'.heap[g]? = w.heap[g]?) : Row w' B v xs := by
  refine ⟨h.1, ?_⟩
  rcases h.2 with hn | ⟨g, cap, cur, rfl, hb, hgg, rest⟩
  · exact .inl hn
  · exact .inr ⟨g, cap, cur, rfl, hb, (e g rfl).trans hgg, rest⟩
theorem Row.below {w w' : World} {B C v xs} (h : Row w B v xs) (hC : w.heap.size ≤ C) (k : Below C w w') : Row w' B v xs :=
  h.same fun g e => k.block g (by have := (h.own g e).2; omega)
theorem Row.mono {w : World} {B C v xs} (h : Row w B v xs) (hC : C ≤ B) : Row w C v xs := by
  refine ⟨h.1, ?_⟩
  rcases h.2 with hn | ⟨g, cap, cur, rfl, hb, rest⟩
  · exact .inl hn
  · exact .inr ⟨g, cap, cur, rfl, by omega, rest⟩
theorem Grw.below {w w' : World} {v v' : Value} {B : Nat} {xs : List Nat} (h : Grw w v w' v') (hr : Row w B v xs) (hB : B ≤ w.heap.size) : Below B w w' :=
  (Below.refl B w).grown h.1 hB (fun k hk => (hr.own k hk).1)
theorem Grw.nil {w w' : World} {v' : Value} (h : Grw w (.slice none 0 0) w' v') : Below w.heap.size w w' := h.below (Row.nil w _) (Nat.le_refl _)
def sb (s : ByteArray) : List Nat := s.data.toList.map UInt8.toNat
theorem Row.alloc {w : World} {B v xs} (h : Row w B v xs) (o : Obj) : Row (w.alloc o) B v xs := World.ownsRow.alloc h o

end Go.Proofs.YthnolocldeokeaaGreat

namespace Go.Proofs.YthnolocldeokeaaGreat
open Go.RowKit Go.Deep
set_option linter.unusedVariables false
set_option linter.unusedSimpArgs false

/- Bytes as numbers, as values. -/
theorem bv_length (xs : List Nat) : (bv xs).length = xs.length := by simp [bv]
theorem bv_append (xs ys : List Nat) : bv (xs ++ ys) = bv xs ++ bv ys := by simp [bv]
theorem bv_one (xs : List Nat) : ∀ u ∈ bv xs, u.oneCell' = true := by
  intro u hu; simp [bv] at hu; obtain ⟨s, _, rfl⟩ := hu; rfl

/- The bytes of a number. -/
theorem encF_eq : ∀ (f g n : Nat), n ≤ f → n ≤ g → encF f n = encF g n
  | 0, 0, n, _, _ => rfl
  | 0, g + 1, n, h, _ => by simp only [encF]; rw [if_pos (by omega)]
  | f + 1, 0, n, _, h => by simp only [encF]; rw [if_pos (by omega)]
  | f + 1, g + 1, n, h1, h2 => by
    simp only [encF]
    split
    · rfl
    · rw [encF_eq f g (n / 128) (by omega) (by omega)]

theorem enc_small {n : Nat} (h : n < 128) : enc n = [n] := by
  unfold enc
  cases n with
  | zero => rfl
  | succ m => simp only [encF]; rw [if_pos h]
theorem enc_big {n : Nat} (h : ¬ n < 128) : enc n = (n % 128 + 128) :: enc (n / 128) := by
  unfold enc
  cases n with
  | zero => exact absurd (by decide) h
  | succ m =>
    simp only [encF]
    rw [if_neg h, encF_eq m ((m + 1) / 128) ((m + 1) / 128) (by omega) (Nat.le_refl _)]
theorem enc_length : ∀ (k n : Nat), n < 128 ^ (k + 1) → (enc n).length ≤ k + 1
  | 0, n, h => by rw [enc_small (by simpa using h)]; simp
  | k + 1, n, h => by
    by_cases hn : n < 128
    · rw [enc_small hn]; simp
    · rw [enc_big hn]
      have := enc_length k (n / 128) (by rw [Nat.pow_succ] at h; omega)
      simp; omega
theorem enc_le (n : Nat) (h : n < 18446744073709551616) : (enc n).length ≤ 10 :=
  enc_length 9 n (Nat.lt_of_lt_of_le h (by decide))

/- A row of bytes that is the call's own: its block lies from B on. -/
theorem Row.form {w B v xs} (h : Row w B v xs) : ∃ a cap, v = .slice a xs.length cap ∧ xs.length ≤ cap := by
  rcases h.2 with ⟨rfl, hn⟩ | ⟨g, cap, cur, rfl, hb, hgg, hc, rest⟩
  · exact ⟨none, 0, by rw [hn], by omega⟩
  · exact ⟨_, _, rfl, hc⟩

theorem info5 : (Tryz.prog.info? 5).map (fun i => (i.zero, i.size, i.bytes)) = some (some (.int .u8 0), 1, 1) := by kernel_rfl

theorem alloc_grown {w : World} {o : Obj} {w' : World} {row : Option Nat} (h : (w.alloc o).grownBy w' row) : w.grownBy w' row :=
  (World.grownBy_alloc w o row).trans h

/- Between w and w' nothing old has turned but v's own row; and the row is v's still, or new. -/
theorem Grw.unalloc {w w' : World} {v v' : Value} {o : Obj} (h : Grw (w.alloc o) v w' v') : Grw w v w' v' :=
  ⟨(World.grownBy_alloc w o _).trans h.1, by
    rcases h.2 with h | ⟨g, h, hg⟩
    · exact .inl h
    · exact .inr ⟨g, h, by simp at hg; omega⟩⟩
theorem wpList_app1 {ops : Array Oper} {rest : List Oper} {o : Oper} {a : Act} {Q : Exit → Act → World → Prop} (w : World) (hgd : o.guard = none) (s x : Operand)
    (ho : o.op = .call { callee := .builtin .append, args := #[s, x], argTypes := #[34, 34] }) (v : Value) (y : Int) (hs : a.eval s = v) (hx : a.eval x = .slice (some ⟨w.heap.size, 0, none⟩) 1 1)
    (B : Nat) (xs : List Nat) (z : Nat) (hy : y = z) (h : Row w B v xs) (hB : B ≤ w.heap.size) (hl : xs.length ≤ 1099511627776)
    (k : ∀ v' w', Row w' B v' (xs ++ [z]) → Grw w v w' v' → wpList Tryz.prog ops Q rest (a.put o.dst v') w') :
    wpList Tryz.prog ops Q (o :: rest) a (w.alloc (.cells #[.int .u8 y] 5)) := by
  subst hy
  obtain ⟨i0, hi, hz0, hz1, hz2⟩ := info_parts info5
  refine wpList_append_own_at _ hgd s x 34 ho B 5 i0 (.int .u8 0) 1 1 Tryz.underlying34 hi hz0 hz1 hz2 rfl (by decide) v xs.length (bv xs) hs (World.ownsRow.alloc h _) ⟨w.heap.size, 0, none⟩ 1 1 [.int .u8 (z : Int)] hx rfl (cell_one_new _ _ _)
    (by simp [Value.oneCell']) (by unfold maxLen; omega) (by omega) (by simp; omega) ?_
  intro v' w' hown hg _ hat
  refine k v' w' ?_ ?_
  · unfold Row
    rw [bv_append, List.length_append]
    exact hown
  · refine ⟨alloc_grown hg, ?_⟩
    rcases hat with hat | hat
    · exact .inl hat
    · exact .inr ⟨_, hat, by simp⟩

theorem or128 : ∀ a : Fin 256, bits .or .u8 (a.val : Int) 128 = ((a.val % 128 + 128 : Nat) : Int) := by decide +kernel
theorem or_top (n : Nat) : bits .or .u8 ((n : Int) % 256) 128 = ((n % 128 + 128 : Nat) : Int) := by
  have h := or128 ⟨n % 256, by omega⟩
  simp only at h
  rw [show ((n % 256 : Nat) : Int) = (n : Int) % 256 from by omega] at h
  rw [h]
  omega

set_option maxHeartbeats 400000 in
theorem appendUint_any (w : World) (B : Nat) (v : Value) (xs : List Nat) (n : Nat) (h : Row w B v xs) (hB : B ≤ w.heap.size) (hl : xs.length ≤ 1000000000000) (hn : n < 18446744073709551616) :
    Calls Tryz.prog 98 #[v, .int .u64 (n : Int)] w fun e w' => ∃ v', e = .returned v' ∧ Row w' B v' (xs ++ enc n) ∧ Grw w v w' v' := by
  go_enter Tryz.func98, Tryz.ntmps98
  go_wp2
  go_loopw [0, 1] (fun vv nn wr => ∃ (ys : List Nat) (m : Nat), nn = .int .u64 (m : Int) ∧ m ≤ n ∧ Row wr B vv ys ∧ Grw w v wr vv ∧ ys ++ enc m = xs ++ enc n) (fun _ nn _ => (intOf nn).toNat)
  case atStart => exact ⟨xs, n, rfl, Nat.le_refl _, h, Grw.refl _ _, rfl⟩
  case round =>
    obtain ⟨ys, m, rfl, hm, hr, hb, he⟩ := hrel
    have hlen : ys.length ≤ 1099511627776 := by
      have := congrArg List.length he
      have h10 := enc_le n hn
      simp at this; omega
    have hBs : B ≤ wr.heap.size := Nat.le_trans hB hb.size
    have ht := or_top m
    have He := hid he
    clear he
    by_cases hlt : m < 128
    · go_wp2_with (at_builtin; refine wpList_app1 _ rfl _ _ rfl _ _ (by rfl) (by rfl) B ys m ?cy hr hBs hlen ?_)
      case cy => omega
      intro v' w' hr' hb'
      go_wp2
      go_ret
      refine ⟨_, rfl, ?_, hb.trans hb'⟩
      rw [← He.out, enc_small hlt]; exact hr'
    · go_wp2_with (at_builtin; refine wpList_app1 _ rfl _ _ rfl _ _ (by rfl) (by rfl) B ys (m % 128 + 128) ?cy hr hBs hlen ?_)
      case cy => omega
      intro v' w' hr' hb'
      go_wp2
      go_roundw
      case rel =>
        refine ⟨_, m / 128, by go_num, by omega, hr', hb.trans hb', ?_⟩
        rw [← He.out, enc_big hlt]; simp
      case measure => simp [intOf]; omega
end Go.Proofs.YthnolocldeokeaaGreat

namespace Go.Proofs.YthnolocldeokeaaGreat
open Go.RowKit Go.Deep
set_option linter.unusedVariables false
set_option linter.unusedSimpArgs false

def zz (k : Int) : Nat := if k < 0 then (-2 * k - 1).toNat else (2 * k).toNat
theorem zz_neg (m : Nat) : zz (-(m : Int) - 1) = 2 * m + 1 := by unfold zz; rw [if_pos (by omega)]; omega
theorem zz_pos (m : Nat) : zz (m : Int) = 2 * m := by unfold zz; rw [if_neg (by omega)]; omega
theorem zz_lt (k : Int) (h0 : -9223372036854775808 ≤ k) (h1 : k ≤ 9223372036854775807) : zz k < 18446744073709551616 := by
  unfold zz; split <;> omega

theorem sb_length (s : ByteArray) : (sb s).length = s.size := by simp [sb]
theorem strCells_eq (s : ByteArray) : Lib.strCells s = bv (sb s) := by simp [Lib.strCells, bv, sb]

theorem or_one (m : Nat) (h : m < 9223372036854775808) : bits .or .u64 ((m : Int) * 2) 1 = (2 * m + 1 : Nat) := by
  have h' := bits_or_u64_nat (m * 2) 1 (by omega) (by omega)
  have e : m * 2 ||| 1 = 2 * m + 1 := by
    have := Nat.two_pow_add_eq_or_of_lt (i := 1) (b := 1) (by decide) m
    rw [Nat.mul_comm]
    simpa using this.symm
  rw [e] at h'
  simpa using h'

set_option maxHeartbeats 400000 in
theorem putUint_any (w : World) (n : Nat) (hn : n < 18446744073709551616) :
    Calls Tryz.prog 60 #[.int .u64 (n : Int)] w fun e w' => ∃ v', e = .returned v' ∧ Row w' w.heap.size v' (enc n) ∧ Below w.heap.size w w' := by
  have h := hid (appendUint_any w w.heap.size _ [] n (Row.nil _ _) (Nat.le_refl _) (by simp) hn)
  go_enter Tryz.func60, Tryz.ntmps60
  go_wp2_with (go_at_call 98; refine (Hid.out h).mono ?_; rintro e w' ⟨v', rfl, hr, hb⟩)
  go_ret
  exact ⟨_, rfl, by simpa using hr, hb.nil⟩

theorem xor_neg (m : Nat) (h : m < 9223372036854775808) : bits .xor .i64 (if IntKind.i64.signed = true then -1 else 9223372036854775807) (-(m : Int) - 1) = m := by
  show IntKind.i64.wrap ((BitVec.ofInt 64 (-1) ^^^ BitVec.ofInt 64 (-(m : Int) - 1)).toNat : Int) = _
  have e1 : (-(m : Int) - 1) = Int.negSucc m := by omega
  have e2 : BitVec.ofInt 64 (-1) = BitVec.allOnes 64 := by decide
  rw [e1, BitVec.ofInt_negSucc_eq_not_ofNat, e2, BitVec.xor_comm, BitVec.xor_allOnes, BitVec.not_not, BitVec.toNat_ofNat, IntKind.wrap_i64]
  omega

theorem appendUint_int (w : World) (B : Nat) (v : Value) (xs : List Nat) (x : Int) (n : Nat) (hx : x = n) (h : Row w B v xs) (hB : B ≤ w.heap.size) (hl : xs.length ≤ 1000000000000) (hn : n < 18446744073709551616) :
    Calls Tryz.prog 98 #[v, .int .u64 x] w fun e w' => ∃ v', e = .returned v' ∧ Row w' B v' (xs ++ enc n) ∧ Grw w v w' v' := by
  subst hx; exact appendUint_any w B v xs n h hB hl hn

set_option maxHeartbeats 400000 in
theorem appendInt_any (w : World) (B : Nat) (v : Value) (xs : List Nat) (k : Int) (h : Row w B v xs) (hB : B ≤ w.heap.size) (hl : xs.length ≤ 1000000000000) (h0 : -9223372036854775808 ≤ k) (h1 : k ≤ 9223372036854775807) :
    Calls Tryz.prog 99 #[v, .int .i64 k] w fun e w' => ∃ v', e = .returned v' ∧ Row w' B v' (xs ++ enc (zz k)) ∧ Grw w v w' v' := by
  have hz := zz_lt k h0 h1
  by_cases hk : k < 0
  · obtain ⟨m, rfl⟩ : ∃ m : Nat, k = -(m : Int) - 1 := ⟨(-k - 1).toNat, by omega⟩
    rw [zz_neg] at hz ⊢
    have ho := or_one m (by omega)
    go_enter Tryz.func99, Tryz.ntmps99
    go_wp2_with (go_at_call 98; refine (appendUint_int w B v xs _ (2 * m + 1) (by rw [xor_neg m (by omega), IntKind.wrap_u64, IntKind.wrap_u64, Int.emod_eq_of_lt (by omega) (by omega), Int.emod_eq_of_lt (by omega) (by omega), ho]) h hB hl hz).mono ?_; rintro e w1 ⟨v1, rfl, hr, hb⟩)
    go_ret
    exact ⟨_, rfl, hr, hb⟩
  · obtain ⟨m, rfl⟩ := Int.eq_ofNat_of_zero_le (show 0 ≤ k by omega)
    rw [zz_pos] at hz ⊢
    go_enter Tryz.func99, Tryz.ntmps99
    go_wp2_with (go_at_call 98; refine (appendUint_int w B v xs _ (2 * m) (by omega) h hB hl hz).mono ?_; rintro e w1 ⟨v1, rfl, hr, hb⟩)
    go_ret
    exact ⟨_, rfl, hr, hb⟩

set_option maxHeartbeats 400000 in
theorem putInt_any (w : World) (k : Int) (h0 : -9223372036854775808 ≤ k) (h1 : k ≤ 9223372036854775807) :
    Calls Tryz.prog 63 #[.int .i64 k] w fun e w' => ∃ v', e = .returned v' ∧ Row w' w.heap.size v' (enc (zz k)) ∧ Below w.heap.size w w' := by
  have h := hid (appendInt_any w w.heap.size _ [] k (Row.nil _ _) (Nat.le_refl _) (by simp) h0 h1)
  go_enter Tryz.func63, Tryz.ntmps63
  go_wp2_with (go_at_call 99; refine (Hid.out h).mono ?_; rintro e w' ⟨v', rfl, hr, hb⟩)
  go_ret
  exact ⟨_, rfl, by simpa using hr, hb.nil⟩

theorem run_appS (w : World) (ty : TypeId) (B : Nat) (v : Value) (xs : List Nat) (s : ByteArray) (h : Row w B v xs) (hB : B ≤ w.heap.size) (hl : xs.length ≤ 1099511627776) (hl2 : s.size ≤ 1099511627776) :
    ∃ v' w', (Builtin.append_ #[34, 9] ty #[v, .string s]).run Tryz.prog w = .ok v' w' ∧ Row w' B v' (xs ++ sb s) ∧ Grw w v w' v' := by
  obtain ⟨i0, hi, hz0, hz1, hz2⟩ := info_parts info5
  obtain ⟨v', w', hrun, hown, hg, hiff⟩ := Lib.run_append_own_string (P := Tryz.prog) w B 34 9 ty 5 i0 Tryz.underlying34 Tryz.underlying9 hi hz0 hz1 hz2 v xs.length (bv xs) h s (by unfold maxLen; omega) (by omega) hB
  refine ⟨v', w', hrun, ?_, hg, ?_⟩
  · unfold Row
    rw [bv_append, List.length_append, sb_length, ← strCells_eq]
    exact hown
  · rcases h.2 with ⟨rfl, hn⟩ | ⟨g, cap, cur, rfl, hbg, hgg, hnc, hcm, hcs, htake⟩
    · by_cases hm : s.size = 0
      · rw [hiff.2 ⟨rfl, hm⟩]; exact .inl rfl
      · have hr := Lib.run_append_own_string (P := Tryz.prog) w w.heap.size 34 9 ty 5 i0 Tryz.underlying34 Tryz.underlying9 hi hz0 hz1 hz2 (.slice none 0 0) 0 [] (World.ownsRow_nil _ _ _ _) s (by unfold maxLen; omega) (by omega) (Nat.le_refl _)
        obtain ⟨v2, w2, hrun2, hown2, _, _⟩ := hr
        rw [hrun] at hrun2
        cases hrun2
        rcases hown2.2 with ⟨rfl, hn2⟩ | ⟨g, cap, cur, rfl, hbg, _⟩
        · omega
        · exact .inr ⟨g, rfl, hbg⟩
    · by_cases hroom : xs.length + s.size ≤ cap
      · have hcs' : cur.size = cap := by simpa using hcs
        have hr := Lib.run_append_room_string (P := Tryz.prog) w 34 9 ty 5 i0 Tryz.underlying34 Tryz.underlying9 hi hz1 g xs.length cap cur hgg s hroom (by omega)
        rw [hrun] at hr
        cases hr
        exact .inl rfl
      · have hr := Lib.run_append_grow_string (P := Tryz.prog) w 34 9 ty 5 i0 (.int .u8 0) Tryz.underlying34 Tryz.underlying9 hi hz0 ⟨g, 0, none⟩ xs.length cap (bv xs) (by rw [hz1]; simp [bv_length]) (World.ownsRow.cells h (g := g) rfl) s (by omega) (by omega) (by rw [hz2]; exact growslice_fits (by omega) (by omega))
        rw [hrun] at hr
        cases hr
        exact .inr ⟨_, rfl, Nat.le_refl _⟩

theorem wpList_appS {ops : Array Oper} {rest : List Oper} {o : Oper} {a : Act} {Q : Exit → Act → World → Prop} (w : World) (hgd : o.guard = none) (sl x : Operand)
    (ho : o.op = .call { callee := .builtin .append, args := #[sl, x], argTypes := #[34, 9] }) (v : Value) (s : ByteArray) (hs : a.eval sl = v) (hx : a.eval x = .string s)
    (B : Nat) (xs : List Nat) (h : Row w B v xs) (hB : B ≤ w.heap.size) (hl : xs.length ≤ 1099511627776) (hl2 : s.size ≤ 1099511627776)
    (k : ∀ v' w', Row w' B v' (xs ++ sb s) → Grw w v w' v' → wpList Tryz.prog ops Q rest (a.put o.dst v') w') :
    wpList Tryz.prog ops Q (o :: rest) a w := by
  refine wpList_plain hgd fun K hK => ?_
  obtain ⟨v', w', hr, h2, h3⟩ := run_appS w o.type B v xs s h hB hl hl2
  unfold Oper.wp execOp
  simp only [ho, resolve, invoke, builtin, Sem.run_bind, Sem.run_pure, Result.andThen_ok, List.map_toArray, List.map_cons, List.map_nil, hs, hx, hr]
  exact hK _ _ (k v' w' h2 h3)

def encX (s : ByteArray) : List Nat := enc s.size ++ sb s

set_option maxHeartbeats 400000 in
theorem appendText_any (w : World) (B : Nat) (v : Value) (xs : List Nat) (s : ByteArray) (h : Row w B v xs) (hB : B ≤ w.heap.size) (hl : xs.length ≤ 1000000000000) (hs : s.size ≤ 1000000000000) :
    Calls Tryz.prog 100 #[v, .string s] w fun e w' => ∃ v', e = .returned v' ∧ Row w' B v' (xs ++ encX s) ∧ Grw w v w' v' := by
  go_enter Tryz.func100, Tryz.ntmps100
  have h10 := enc_le s.size (by omega)
  have hl1 : (xs ++ enc s.size).length ≤ 1099511627776 := by simp; omega
  go_wp2_with (first
    | (go_at_call 98; refine (appendUint_int w B v xs _ s.size (by omega) h hB hl (by omega)).mono ?_; rintro e w1 ⟨v1, rfl, hr, hb⟩)
    | (at_builtin; refine wpList_appS _ rfl _ _ rfl _ _ (by rfl) (by rfl) B _ hr (Nat.le_trans hB hb.size) hl1 (by omega) ?_))
  intro v2 w2 hr2 hb2
  go_wp2
  go_ret
  exact ⟨_, rfl, by unfold encX; exact hr2, hb.trans hb2⟩

set_option maxHeartbeats 400000 in
theorem putText_any (w : World) (s : ByteArray) (hs : s.size ≤ 1000000000000) :
    Calls Tryz.prog 64 #[.string s] w fun e w' => ∃ v', e = .returned v' ∧ Row w' w.heap.size v' (encX s) ∧ Below w.heap.size w w' := by
  have h := hid (appendText_any w w.heap.size _ [] s (Row.nil _ _) (Nat.le_refl _) (by simp) hs)
  go_enter Tryz.func64, Tryz.ntmps64
  go_wp2_with (go_at_call 100; refine (Hid.out h).mono ?_; rintro e w' ⟨v', rfl, hr, hb⟩)
  go_ret
  exact ⟨_, rfl, by simpa using hr, hb.nil⟩

end Go.Proofs.YthnolocldeokeaaGreat

namespace Go.Proofs.YthnolocldeokeaaGreat
open Go.RowKit Go.Deep
set_option linter.unusedVariables false
set_option linter.unusedSimpArgs false

def Byt (bs : List Nat) : Prop := ∀ x ∈ bs, x < 256
theorem Byt.drop {bs : List Nat} (h : Byt bs) (n : Nat) : Byt (bs.drop n) := fun x hx => h x (List.mem_of_mem_drop hx)
theorem Byt.take {bs : List Nat} (h : Byt bs) (n : Nat) : Byt (bs.take n) := fun x hx => h x (List.mem_of_mem_take hx)
theorem Byt.append {a b : List Nat} (h : Byt a) (k : Byt b) : Byt (a ++ b) := fun x hx => by
  rcases List.mem_append.1 hx with hx | hx
  · exact h x hx
  · exact k x hx
theorem Byt.at {bs : List Nat} (h : Byt bs) {j x : Nat} (e : bs[j]? = some x) : x < 256 := h x (List.mem_of_getElem? e)
theorem enc_byt : ∀ (n : Nat), Byt (enc n) := by
  intro n
  induction n using Nat.strongRecOn with
  | _ n ih =>
    by_cases h : n < 128
    · rw [enc_small h]; intro x hx; simp at hx; omega
    · rw [enc_big h]
      intro x hx
      rcases List.mem_cons.1 hx with rfl | hx
      · omega
      · exact ih (n / 128) (by omega) x hx
theorem sb_byt (s : ByteArray) : Byt (sb s) := by
  intro x hx
  simp only [sb, List.mem_map] at hx
  obtain ⟨u, _, rfl⟩ := hx
  exact u.toNat_lt
theorem encX_byt (s : ByteArray) : Byt (encX s) := (enc_byt _).append (sb_byt _)

def ofB (bs : List Nat) : ByteArray := ⟨(bs.map UInt8.ofNat).toArray⟩
theorem sb_ofB {bs : List Nat} (h : Byt bs) : sb (ofB bs) = bs := by
  simp only [sb, ofB, List.map_map]
  conv => rhs; rw [← List.map_id bs]
  refine List.map_congr_left fun x hx => ?_
  have := h x hx
  simp; omega
theorem ofB_sb (s : ByteArray) : ofB (sb s) = s := by
  cases s with
  | mk d =>
    simp only [sb, ofB, List.map_map]
    congr 1
    apply Array.ext'
    simp
    conv => rhs; rw [← List.map_id d.toList]
    exact List.map_congr_left fun x hx => by simp
theorem fold_ofB (bs : List Nat) : ∀ (acc : ByteArray), (bs.map (fun (x : Nat) => (x : Int))).foldl (fun r n => r.push (UInt8.ofNat n.toNat)) acc = ⟨acc.data ++ (bs.map UInt8.ofNat).toArray⟩ := by
  induction bs with
  | nil => intro acc; simp
  | cons x r ih =>
    intro acc
    simp only [List.map_cons, List.foldl_cons]
    rw [ih]
    congr 1
    apply Array.ext'
    simp [ByteArray.push]
theorem ofB_size (bs : List Nat) : (ofB bs).size = bs.length := by simp [ofB, ByteArray.size]
/- What a slice of bytes reads. -/
def Rd (w : World) (v : Value) (bs : List Nat) : Prop := ∃ a cap, v = .slice a bs.length cap ∧ bs.length ≤ cap ∧ Byt bs ∧
  ∀ (j x : Nat), bs[j]? = some x → ∃ b off, a = some ⟨b, off, none⟩ ∧ w.cell? ⟨b, off + j, none⟩ = some (.int .u8 (x : Int))

theorem Rd.nil (w : World) : Rd w (.slice none 0 0) [] := ⟨none, 0, rfl, Nat.le_refl _, fun x hx => (by cases hx), fun j x h => by simp at h⟩
theorem Rd.same {w w' : World} {v bs} (h : Rd w v bs) (e : ∀ k, v.ownBlock = some k → k < w.heap.size → w'.heap[k]? = w.heap[k]?) : Rd w' v bs := by
  obtain ⟨a, cap, rfl, h1, h2, h3⟩ := h
  refine ⟨a, cap, rfl, h1, h2, fun j x hx => ?_⟩
  obtain ⟨b, off, rfl, hc⟩ := h3 j x hx
  refine ⟨b, off, rfl, ?_⟩
  rw [World.cell?_of_block (w := w) (e b rfl (World.block_lt_of_cell? _ _ hc))]; exact hc
theorem Rd.below {w w' : World} {v bs B} (h : Rd w v bs) (hB : w.heap.size ≤ B) (k : Below B w w') : Rd w' v bs :=
  h.same fun k' _ hk => k.block k' (by omega)
theorem Row.rd {w : World} {B v xs} (h : Row w B v xs) (hb : Byt xs) : Rd w v xs := by
  rcases h.2 with ⟨rfl, hn⟩ | ⟨g, cap, cur, rfl, hb', hgg, hc, hm, hs, ht⟩
  · have : xs = [] := List.eq_nil_of_length_eq_zero hn
    subst this
    exact Rd.nil w
  · refine ⟨_, _, rfl, hc, hb, fun j x hx => ⟨g, 0, rfl, ?_⟩⟩
    have := World.ownsRow.cells h (g := g) rfl j (.int .u8 (x : Int)) (by simp [bv, hx])
    rw [Addr.add_lit] at this
    exact this
theorem Rd.from {w : World} {a : Option Addr} {n cap : Nat} {bs : List Nat} (h : Rd w (.slice a n cap) bs) (k : Nat) (hk : k ≤ bs.length) : Rd w (sliced a k n cap 1) (bs.drop k) := by
  obtain ⟨a, cap, e, h1, h2, h3⟩ := h
  cases e
  refine ⟨_, _, by unfold sliced; rw [List.length_drop], by rw [List.length_drop]; omega, h2.drop k, fun j x hx => ?_⟩
  rw [List.getElem?_drop] at hx
  obtain ⟨b, off, rfl, hc⟩ := h3 _ _ hx
  have hlt : k + j < bs.length := (List.getElem?_eq_some_iff.1 hx).1
  refine ⟨b, off + k, ?_, ?_⟩
  · rw [if_neg (by omega)]
    simp [Addr.add_lit]
  · rw [Nat.add_assoc]; exact hc
theorem Rd.part {w : World} {a : Option Addr} {n cap : Nat} {bs : List Nat} (h : Rd w (.slice a n cap) bs) (k l : Nat) (hk : k ≤ l) (hl : l ≤ bs.length) : Rd w (sliced a k l cap 1) ((bs.take l).drop k) := by
  obtain ⟨a, cap, e, h1, h2, h3⟩ := h
  cases e
  refine ⟨_, _, by unfold sliced; rw [List.length_drop, List.length_take, Nat.min_eq_left hl], by rw [List.length_drop, List.length_take]; omega, (h2.take l).drop k, fun j x hx => ?_⟩
  rw [List.getElem?_drop, List.getElem?_take] at hx
  split at hx
  · obtain ⟨b, off, rfl, hc⟩ := h3 _ _ hx
    have hlt : k + j < bs.length := (List.getElem?_eq_some_iff.1 hx).1
    refine ⟨b, off + k, ?_, ?_⟩
    · rw [if_neg (by omega)]
      simp [Addr.add_lit]
    · rw [Nat.add_assoc]; exact hc
  · cases hx
theorem Rd.conv {w v bs} (h : Rd w v bs) : (convert 34 9 v).run Tryz.prog w = .ok (.string (ofB bs)) w := by
  obtain ⟨a, cap, rfl, h1, h2, h3⟩ := h
  rw [run_convert_bytes_string w 34 9 5 _ _ _ Tryz.underlying34 Tryz.underlying5 Tryz.underlying9]
  cases a with
  | none =>
    have : bs = [] := by
      cases bs with
      | nil => rfl
      | cons x r => obtain ⟨b, off, e, _⟩ := h3 0 x rfl; cases e
    subst this
    rfl
  | some a =>
    have hl := run_loadCells_list (P := Tryz.prog) w a (bv bs) ?_
    · have := run_bytesToString w a bs.length cap (bs.map (fun (x : Nat) => (x : Int))) (by
        rw [bv_length] at hl
        rw [hl]; simp [bv]) (P := Tryz.prog)
      rw [this, fold_ofB]
      simp [ofB]
    · intro j u hu
      simp only [bv, List.getElem?_map, Option.map_eq_some_iff] at hu
      obtain ⟨x, hx, rfl⟩ := hu
      obtain ⟨b, off, e, hc⟩ := h3 j x hx
      cases e
      rw [Addr.add_lit]; exact hc

end Go.Proofs.YthnolocldeokeaaGreat

