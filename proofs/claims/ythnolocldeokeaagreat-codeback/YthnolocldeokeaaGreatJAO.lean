/- The document's SameProgram, both ways. -/
import Derived.Test.YthnolocldeokeaaGreatJAN
namespace Go.Proofs.YthnolocldeokeaaGreat
open Go.RowKit Go.Deep Go.Shelf
set_option linter.unusedVariables false
set_option linter.unusedSimpArgs false
set_option maxRecDepth 100000
set_option maxHeartbeats 8000000 in
theorem refSameP_any (w : World) (h k : PH) (p q : Pg) (d1 : PRd w h p) (d2 : PRd w k q) :
    Calls Tryz.prog 47 #[h.v, k.v] w (DcP w (PEq p q)) := by
  obtain ⟨W0, hW0, bw, m0, m1⟩ := two_alc (w := w) (x := #[.slice h.ra h.rn h.rc, .slice h.ma h.mn h.mc, .slice h.fa h.fn h.fc, .slice h.ea h.en h.ec]) (y := #[.slice k.ra k.rn k.rc, .slice k.ma k.mn k.mc, .slice k.fa k.fn k.fc, .slice k.ea k.en k.ec]) (T := 26)
  have KF := hid (sameSigs_any W0 h.fa k.fa h.fn k.fn h.fc k.fc p.funcs q.funcs (d1.f.below (Nat.le_refl _) bw) (d2.f.below (Nat.le_refl _) bw))
  have KE := hid (fun (V : World) (hV : Below w.heap.size w V) => sameSigs_any V h.ea k.ea h.en k.en h.ec k.ec p.events q.events (d1.e.below (Nat.le_refl _) hV) (d2.e.below (Nat.le_refl _) hV))
  have R1 := hid d1.r
  have R2 := hid d2.r
  have M1 := hid d1.m
  have M2 := hid d2.m
  obtain ⟨P, hP⟩ : ∃ P : Prop, P = PEq p q := ⟨_, rfl⟩
  rw [← hP]
  obtain ⟨ts, hts⟩ : ∃ ts, ts = p.recs.map (·.2) := ⟨_, rfl⟩
  obtain ⟨us, hus⟩ : ∃ us, us = q.recs.map (·.2) := ⟨_, rfl⟩
  have HP : Hid (P ↔ ts = us ∧ p.maps = q.maps ∧ p.funcs.map (·.2) = q.funcs.map (·.2) ∧ p.events.map (·.2) = q.events.map (·.2)) := hid (by rw [hP, hts, hus]; exact peq_iff)
  have TS := hid hts
  have US := hid hus
  have HRN : Hid (h.rn = ts.length) := hid (by rw [hts, List.length_map]; exact d1.r.n1)
  have HRM : Hid (k.rn = us.length) := hid (by rw [hus, List.length_map]; exact d2.r.n1)
  have HMN := hid d1.m.n1
  have HMM := hid d2.m.n1
  have rI1 : (h.rn : Int) ≤ 9223372036854775807 := by have := d1.r.n2; omega
  have rI2 : (k.rn : Int) ≤ 9223372036854775807 := by have := d2.r.n2; omega
  have mI1 : (h.mn : Int) ≤ 9223372036854775807 := by have := d1.m.n2; omega
  have mI2 : (k.mn : Int) ≤ 9223372036854775807 := by have := d2.m.n2; omega
  clear d1 d2 hP hts hus
  obtain ⟨ra, rn, rc, ma, mn, mc, fa, fn, fc, ea, en, ec⟩ := h
  obtain ⟨ra2, rn2, rc2, ma2, mn2, mc2, fa2, fn2, fc2, ea2, en2, ec2⟩ := k
  simp only [PH.v] at hW0 m0 m1 KF KE R1 R2 M1 M2 HRN HRM HMN HMM rI1 rI2 mI1 mI2 ⊢
  have GT : Hid (∀ V : World, Below W0.heap.size W0 V → ((V.cell? ⟨w.heap.size, 0, none⟩ = some (.slice ra rn rc) ∧ V.cell? ⟨w.heap.size, 1, none⟩ = some (.slice ma mn mc) ∧ V.cell? ⟨w.heap.size, 2, none⟩ = some (.slice fa fn fc) ∧ V.cell? ⟨w.heap.size, 3, none⟩ = some (.slice ea en ec)) ∧ V.cell? ⟨w.heap.size + 1, 0, none⟩ = some (.slice ra2 rn2 rc2) ∧ V.cell? ⟨w.heap.size + 1, 1, none⟩ = some (.slice ma2 mn2 mc2) ∧ V.cell? ⟨w.heap.size + 1, 2, none⟩ = some (.slice fa2 fn2 fc2) ∧ V.cell? ⟨w.heap.size + 1, 3, none⟩ = some (.slice ea2 en2 ec2)) ∧ Below w.heap.size w V) := hid (fun V hV => by
    have g0 := (hV.block _ (lt_of_heap m0)).trans m0
    have g1 := (hV.block _ (lt_of_heap m1)).trans m1
    exact ⟨⟨⟨cellOf g0 0, cellOf g0 1, cellOf g0 2, cellOf g0 3⟩, cellOf g1 0, cellOf g1 1, cellOf g1 2, cellOf g1 3⟩, bw.trans (hV.mono bw.size)⟩)
  have TR : Hid (∀ {x y : World}, Below W0.heap.size W0 x → Below x.heap.size x y → Below W0.heap.size W0 y) := hid (fun h1 h2 => h1.trans (h2.mono h1.size))
  obtain ⟨⟨⟨c0, c1, c2, c3⟩, d0, d1, d2, d3⟩, _⟩ := GT.out W0 (Below.refl _ _)
  have BW := hid bw
  clear m0 m1 bw
  go_enter Tryz.func47, Tryz.ntmps47
  go_upto_region 1 with fail
  rw [← hW0]
  clear hW0
  by_cases hrr : rn = rn2
  case neg =>
    have HNM := hid hrr
    have nb : ((rn : Int) != (rn2 : Int)) = true := by simp; omega
    clear hrr
    go_wp2
    go_ret
    exact DcP.no BW.out (fun h => HNM.out (by rw [HRN.out, HRM.out, (HP.out.1 h).1]))
  case pos =>
  subst hrr
  have nb1 : ((rn : Int) != (rn : Int)) = false := by simp
  by_cases hmm : mn = mn2
  case neg =>
    have HNM := hid hmm
    have nb : ((mn : Int) != (mn2 : Int)) = true := by simp; omega
    clear hmm
    go_wp2
    go_ret
    exact DcP.no BW.out (fun h => HNM.out (by rw [HMN.out, HMM.out, (HP.out.1 h).2.1]))
  case pos =>
  subst hmm
  have nb2 : ((mn : Int) != (mn : Int)) = false := by simp
  go_upto_region 3 with (first
    | (have hno := KE1; (go_at_call 80; (refine (Hid.out KE1).mono ?_; rintro e w2 ⟨hb2, b2, rfl, hi⟩; have HB2 := hid (TR.out HB1.out hb2); have HI2 := hid hi; clear c0 c1 c2 c3 d0 d1 d2 d3 hb2 hi KE1; obtain ⟨⟨⟨c0, c1, c2, c3⟩, d0, d1, d2, d3⟩, _⟩ := GT.out w2 HB2.out; cases b2)))
    | (go_at_call 80; (refine (Hid.out KF).mono ?_; rintro e w1 ⟨hb1, b1, rfl, hi⟩; have HB1 := hid hb1; have HI1 := hid hi; clear c0 c1 c2 c3 d0 d1 d2 d3 hb1 hi; obtain ⟨⟨⟨c0, c1, c2, c3⟩, d0, d1, d2, d3⟩, gw⟩ := GT.out w1 HB1.out; have KE1 := hid (KE.out w1 gw); clear gw; cases b1)))
  · go_ret
    exact DcP.no (GT.out _ HB1.out).2 (fun h => by have := HI1.out.2 (HP.out.1 h).2.2.1; cases this)
  · go_ret
    exact DcP.no (GT.out _ HB2.out).2 (fun h => by have := HI2.out.2 (HP.out.1 h).2.2.2; cases this)
  have HFE : Hid (p.funcs.map (·.2) = q.funcs.map (·.2) ∧ p.events.map (·.2) = q.events.map (·.2)) := hid ⟨HI1.out.1 (by first | rfl | trivial), HI2.out.1 (by first | rfl | trivial)⟩
  clear HI1 HI2 HB1 KF KE
  go_wp2
  go_loopg [5] rn (fun g x wr => ∃ j : Nat, j + g = rn ∧ x = .int .i64 (j : Int) ∧ ts.take j = us.take j ∧ Below W0.heap.size W0 wr)
  case atStart => exact ⟨0, by omega, rfl, by simp, HB2.out⟩
  case round =>
    obtain ⟨j, hj, rfl, htk, hb⟩ := hrel
    clear c0 c1 c2 c3 d0 d1 d2 d3
    obtain ⟨⟨⟨c0, c1, c2, c3⟩, d0, d1, d2, d3⟩, gb⟩ := GT.out wr hb
    cases gk with
    | zero =>
      have hjn : j = rn := by omega
      subst hjn
      have HB := hid hb
      have HTS := hid (take_all htk HRN.out HRM.out)
      clear hb gb htk
      go_wp2
      go_loopg [9] mn (fun g2 x wr2 => ∃ i : Nat, i + g2 = mn ∧ x = .int .i64 (i : Int) ∧ p.maps.take i = q.maps.take i ∧ Below W0.heap.size W0 wr2)
      case atStart => exact ⟨0, by omega, rfl, by simp, HB.out⟩
      case round =>
        obtain ⟨i, hi, rfl, htk2, hb⟩ := hrel
        clear c0 c1 c2 c3 d0 d1 d2 d3
        obtain ⟨⟨⟨c0, c1, c2, c3⟩, d0, d1, d2, d3⟩, gb⟩ := GT.out wr hb
        cases gk with
        | zero =>
          have hin : i = mn := by omega
          subst hin
          have HMS := hid (take_all htk2 HMN.out HMM.out)
          have GB := hid gb
          clear gb hb htk2
          go_wp2
          go_ret
          exact DcP.yes GB.out (HP.out.2 ⟨HTS.out, HMS.out, HFE.out⟩)
        | succ g2 =>
          have mA := M1.out.below (Nat.le_refl _) gb
          have mB := M2.out.below (Nat.le_refl _) gb
          have l1 : i < p.maps.length := by rw [← mA.n1]; omega
          have l2 : i < q.maps.length := by rw [← mB.n1]; omega
          have e1 : p.maps[i]? = some p.maps[i] := List.getElem?_eq_getElem l1
          have e2 : q.maps[i]? = some q.maps[i] := List.getElem?_eq_getElem l2
          obtain ⟨b1, o1, rfl, _, hc1⟩ := mA.rd i (p.maps[i]).cs (by simp [e1])
          obtain ⟨b2, o2, rfl, _, hc2⟩ := mB.rd i (q.maps[i]).cs (by simp [e2])
          generalize p.maps[i] = mm at hc1 e1
          generalize q.maps[i] = mm2 at hc2 e2
          have x0 := hc1 0 (by omega)
          have x1 := hc1 1 (by omega)
          have x2 := hc1 2 (by omega)
          have x3 := hc1 3 (by omega)
          have x4 := hc1 4 (by omega)
          have y0 := hc2 0 (by omega)
          have y1 := hc2 1 (by omega)
          have y2 := hc2 2 (by omega)
          have y3 := hc2 3 (by omega)
          have y4 := hc2 4 (by omega)
          have hiI : (i : Int) < (mn : Int) := by omega
          have hi0 : (0 : Int) ≤ (i : Int) := by omega
          have HB := hid hb
          have GB := hid gb
          by_cases he : mm = mm2
          · have HT2 := hid (take_same htk2 e1 e2 he)
            subst he
            obtain ⟨nm, ⟨k1, k2⟩, ⟨v1, v2⟩⟩ := mm
            simp only [Mp.cs, List.getElem?_cons_zero, List.getElem?_cons_succ, Nat.add_zero] at x0 x1 x2 x3 x4 y0 y1 y2 y3 y4
            clear hb gb mA mB l1 l2 e1 e2 hc1 hc2 htk2
            go_wp2
            go_quiet (fail)
            go_wp2
            go_roundg g2
            case measure => omega
            exact ⟨i + 1, by omega, by go_num, HT2.out, bel_dN HB.out _⟩
          · have HT2 := hid (get_ne e1 e2 he)
            obtain ⟨nm, ⟨k1, k2⟩, ⟨v1, v2⟩⟩ := mm
            obtain ⟨nm', ⟨k1', k2'⟩, ⟨v1', v2'⟩⟩ := mm2
            have hn' := fun W : World => neqM W he
            simp only [Mp.cs, List.getElem?_cons_zero, List.getElem?_cons_succ, Nat.add_zero] at x0 x1 x2 x3 x4 y0 y1 y2 y3 y4
            clear hb gb mA mB l1 l2 e1 e2 hc1 hc2 htk2 he
            go_wp2
            go_quiet (fail)
            go_wp2
            go_ret
            exact DcP.no (bel_dN GB.out _) (fun h => HT2.out (HP.out.1 h).2.1)
    | succ g =>
      have rA := R1.out.below (Nat.le_refl _) gb
      have rB := R2.out.below (Nat.le_refl _) gb
      have l1 : j < p.recs.length := by rw [← rA.n1]; omega
      have l2 : j < q.recs.length := by rw [← rB.n1]; omega
      have e1 : p.recs[j]? = some p.recs[j] := List.getElem?_eq_getElem l1
      have e2 : q.recs[j]? = some q.recs[j] := List.getElem?_eq_getElem l2
      have ht : ts[j]? = some (p.recs[j]).2 := by rw [TS.out, List.getElem?_map, e1]; rfl
      have hu : us[j]? = some (q.recs[j]).2 := by rw [US.out, List.getElem?_map, e2]; rfl
      obtain ⟨b1, o1, rfl, _, hc1⟩ := rA.rd j (p.recs[j]).1.cs (by simp [e1])
      obtain ⟨b2, o2, rfl, _, hc2⟩ := rB.rd j (q.recs[j]).1.cs (by simp [e2])
      have s1 := rA.el _ (List.getElem_mem l1)
      have s2 := rB.el _ (List.getElem_mem l2)
      generalize p.recs[j] = p1 at ht hc1 s1 e1
      generalize q.recs[j] = p2 at hu hc2 s2 e2
      obtain ⟨⟨nm1, xa1, xn1, xc1, ya1, yn1, yc1⟩, rx1⟩ := p1
      obtain ⟨⟨nm2, xa2, xn2, xc2, ya2, yn2, yc2⟩, rx2⟩ := p2
      have HE : Hid (rx1 = rx2 ↔ nm1 = nm2 ∧ rx1.fields = rx2.fields ∧ rx1.types = rx2.types) := hid (by
        have a1 : nm1 = rx1.name := s1.nm
        have a2 : nm2 = rx2.name := s2.nm
        rw [a1, a2]; exact rc_eq)
      have x0 := hc1 0 (by omega)
      have x1 := hc1 1 (by omega)
      have x2 := hc1 2 (by omega)
      have y0 := hc2 0 (by omega)
      have y1 := hc2 1 (by omega)
      have y2 := hc2 2 (by omega)
      simp only [RH.cs, List.getElem?_cons_zero, List.getElem?_cons_succ, Nat.add_zero] at x0 x1 x2 y0 y1 y2
      have hjI : (j : Int) < (rn : Int) := by omega
      have hj0 : (0 : Int) ≤ (j : Int) := by omega
      have S1 := hid s1
      have S2 := hid s2
      have HB := hid hb
      have GB := hid gb
      have HTK := hid htk
      have H1 : Hid (ts[j]? = some rx1) := hid ht
      have H2 : Hid (us[j]? = some rx2) := hid hu
      obtain ⟨wo, hwo⟩ : ∃ wo, wo = wr := ⟨_, rfl⟩
      subst hwo
      clear hb gb htk ht hu rA rB l1 l2 e1 e2 hc1 hc2 s1 s2
      go_upto_region 6 with fail
      go_cut [6, 7] from 49 to 58 (fun s6 s7 wx => ∃ X Y : Nat, s6 = .pointer (some ⟨X, 0, none⟩) ∧ s7 = .pointer (some ⟨Y, 0, none⟩) ∧ wx.heap[X]? = some (.cells #[.string nm1, .slice xa1 xn1 xc1, .slice ya1 yn1 yc1] 63 (0, 0)) ∧ wx.heap[Y]? = some (.cells #[.string nm2, .slice xa2 xn2 xc2, .slice ya2 yn2 yc2] 63 (0, 0)) ∧ Below wo.heap.size wo wx)
      case first =>
        go_region_held3 (fun v => v.cell? ⟨w.heap.size, 0, none⟩ = some (.slice (some ⟨b1, o1, none⟩) rn rc) ∧ v.cell? ⟨w.heap.size + 1, 0, none⟩ = some (.slice (some ⟨b2, o2, none⟩) rn rc2) ∧ v.cell? ⟨b1, o1 + j * 3, none⟩ = some (.string nm1) ∧ v.cell? ⟨b1, o1 + j * 3 + 1, none⟩ = some (.slice xa1 xn1 xc1) ∧ v.cell? ⟨b1, o1 + j * 3 + 2, none⟩ = some (.slice ya1 yn1 yc1) ∧ v.cell? ⟨b2, o2 + j * 3, none⟩ = some (.string nm2) ∧ v.cell? ⟨b2, o2 + j * 3 + 1, none⟩ = some (.slice xa2 xn2 xc2) ∧ v.cell? ⟨b2, o2 + j * 3 + 2, none⟩ = some (.slice ya2 yn2 yc2)) (first | go_keep) (fail)
        all_goals (go_wp2_with fail)
        all_goals go_meet
        · exact ⟨_, _, rfl, rfl, (two_al _ _ _).1, (two_al _ _ _).2.1, (two_al _ _ _).2.2⟩
        · exact ⟨_, _, rfl, rfl, (two_al _ _ _).2.1, (two_al _ _ _).1, (two_al _ _ _).2.2⟩
      case rest =>
        obtain ⟨X, Y, rfl, rfl, mX, mY, bx⟩ := hcut
        have BX := hid (HB.out.trans (bx.mono HB.out.size))
        have gwc := GB.out.trans (bx.mono GB.out.size)
        have CB := hid (fun (V : World) (hV : Below wc.heap.size wc V) => (by
          have g1 := (hV.block _ (lt_of_heap mX)).trans mX
          have g2 := (hV.block _ (lt_of_heap mY)).trans mY
          exact ⟨⟨cellOf g1 0, cellOf g1 1, cellOf g1 2⟩, cellOf g2 0, cellOf g2 1, cellOf g2 2⟩ : (V.cell? ⟨X, 0, none⟩ = some (.string nm1) ∧ V.cell? ⟨X, 1, none⟩ = some (.slice xa1 xn1 xc1) ∧ V.cell? ⟨X, 2, none⟩ = some (.slice ya1 yn1 yc1)) ∧ V.cell? ⟨Y, 0, none⟩ = some (.string nm2) ∧ V.cell? ⟨Y, 1, none⟩ = some (.slice xa2 xn2 xc2) ∧ V.cell? ⟨Y, 2, none⟩ = some (.slice ya2 yn2 yc2)))
        have T1 := S1.out.below (Nat.le_refl _) bx
        have T2 := S2.out.below (Nat.le_refl _) bx
        have K := hid (sameTypes_any wc ya1 ya2 yn1 yn2 yc1 yc2 rx1.types rx2.types T1.tn T2.tn T1.t2 T2.t2 T1.tr T2.tr)
        have xnI : (xn1 : Int) ≤ 9223372036854775807 := by have : xn1 ≤ _ := T1.f2; omega
        have xnI2 : (xn2 : Int) ≤ 9223372036854775807 := by have : xn2 ≤ _ := T2.f2; omega
        have HXN : Hid (xn1 = rx1.fields.length) := hid T1.fn
        have HXM : Hid (xn2 = rx2.fields.length) := hid T2.fn
        have F1 := hid T1.fr
        have F2 := hid T2.fr
        have GW := hid gwc
        clear x0 x1 x2 y0 y1 y2 mX mY T1 T2 gwc
        obtain ⟨⟨x0, x1, x2⟩, y0, y1, y2⟩ := CB.out wc (Below.refl _ _)
        by_cases hq : nm1 = nm2
        case neg =>
          have HS : Hid (¬ rx1 = rx2) := hid (fun e => hq (HE.out.1 e).1)
          have nbn := streq2 hq
          clear hq HE
          go_wp2
          go_ret
          exact DcP.no GW.out (fun h => get_ne H1.out H2.out HS.out (HP.out.1 h).1)
        case pos =>
        subst hq
        have nbn : (nm1.toList == nm1.toList) = true := by simp
        by_cases hx : xn1 = xn2
        case neg =>
          have HS : Hid (¬ rx1 = rx2) := hid (fun e => hx (by rw [HXN.out, HXM.out, e]))
          have nbx : ((xn1 : Int) != (xn2 : Int)) = true := by simp; omega
          clear hx HE
          go_wp2
          go_ret
          exact DcP.no GW.out (fun h => get_ne H1.out H2.out HS.out (HP.out.1 h).1)
        case pos =>
        subst hx
        have nbx : ((xn1 : Int) != (xn1 : Int)) = false := by simp
        go_upto_region 9 with (go_at_call 81; (refine (Hid.out K).mono ?_; rintro e w4 ⟨hb4, b4, rfl, hi⟩; have HC := hid hb4; have HI4 := hid hi; clear x0 x1 x2 y0 y1 y2 hb4 hi; cases b4))
        · go_ret
          exact DcP.no (GW.out.trans (HC.out.mono GW.out.size)) (fun h => get_ne H1.out H2.out (fun e => by have := HI4.out.2 (HE.out.1 e).2.2; cases this) (HP.out.1 h).1)
        have HTY : Hid (rx1.types = rx2.types) := hid (HI4.out.1 (by first | rfl | trivial))
        clear HI4 K
        obtain ⟨⟨x0, x1, x2⟩, y0, y1, y2⟩ := CB.out w4 HC.out
        go_wp2
        go_loopg [8] xn1 (fun g2 x wr2 => ∃ i : Nat, i + g2 = xn1 ∧ x = .int .i64 (i : Int) ∧ rx1.fields.take i = rx2.fields.take i ∧ Below wc.heap.size wc wr2)
        case atStart => exact ⟨0, by omega, rfl, by simp, HC.out⟩
        case round =>
          obtain ⟨i, hi, rfl, htk3, hb3⟩ := hrel
          clear x0 x1 x2 y0 y1 y2
          obtain ⟨⟨x0, x1, x2⟩, y0, y1, y2⟩ := CB.out wr hb3
          cases gk with
          | zero =>
            have hin : i = xn1 := by omega
            subst hin
            have HS := hid (HE.out.2 ⟨by first | rfl | trivial, take_all htk3 HXN.out HXM.out, HTY.out⟩)
            have H3 := hid hb3
            clear hb3 htk3
            go_wp2
            go_roundg g
            case measure => omega
            exact ⟨j + 1, by omega, by go_num, take_same HTK.out H1.out H2.out HS.out, BX.out.trans (H3.out.mono BX.out.size)⟩
          | succ g2 =>
            obtain ⟨s, hs⟩ : ∃ s, rx1.fields[i]? = some s := ⟨rx1.fields[i]'(by have := HXN.out; omega), List.getElem?_eq_getElem _⟩
            obtain ⟨s', hs'⟩ : ∃ s, rx2.fields[i]? = some s := ⟨rx2.fields[i]'(by have := HXM.out; omega), List.getElem?_eq_getElem _⟩
            obtain ⟨_, p1, u1, rfl, z1⟩ := (F1.out.below (Nat.le_refl _) hb3) i s hs
            obtain ⟨_, p2, u2, rfl, z2⟩ := (F2.out.below (Nat.le_refl _) hb3) i s' hs'
            have hiI : (i : Int) < (xn1 : Int) := by omega
            have hi0 : (0 : Int) ≤ (i : Int) := by omega
            have H3 := hid hb3
            by_cases he : s = s'
            · have HT3 := hid (take_same htk3 hs hs' he)
              subst he
              have nbs : (s.toList == s.toList) = true := by simp
              clear hb3 hs hs' htk3
              go_wp2
              go_quiet (fail)
              go_wp2
              go_roundg g2
              case measure => omega
              exact ⟨i + 1, by omega, by go_num, HT3.out, bel_dN H3.out _⟩
            · have HT3 : Hid (¬ rx1 = rx2) := hid (fun e => get_ne hs hs' he (by rw [e]))
              have nbs := streq2 he
              clear hb3 hs hs' htk3 he
              go_wp2
              go_quiet (fail)
              go_wp2
              go_ret
              exact DcP.no (GW.out.trans ((bel_dN H3.out _).mono GW.out.size)) (fun h => get_ne H1.out H2.out HT3.out (HP.out.1 h).1)
end Go.Proofs.YthnolocldeokeaaGreat

namespace Go.Proofs.YthnolocldeokeaaGreat
open Go.RowKit Go.Deep Go.Shelf
set_option linter.unusedVariables false
set_option linter.unusedSimpArgs false
set_option maxRecDepth 100000
set_option maxHeartbeats 8000000 in
theorem refSame_any (w : World) (C D : CH) (c d : Cx) (fs es fs2 es2 : List (FH × Fx)) (xs ys : List Int) (r1 : CdRd w C c fs es) (r2 : CdRd w D d fs2 es2) (j1 : JRd w C.ia xs) (j2 : JRd w D.ia ys) (n1 : C.inn = xs.length) (n2 : D.inn = ys.length) :
    Calls Tryz.prog 11 #[C.v, D.v] w (DcP w (CEq c d ∧ xs = ys)) := by
  obtain ⟨W0, hW0, bw, m0, m1⟩ := two_alc (w := w) (x := C.cs) (y := D.cs) (T := 31)
  have KP := hid (refSameP_any W0 C.h D.h c.p d.p (r1.p.below (Nat.le_refl _) bw) (r2.p.below (Nat.le_refl _) bw))
  have KF := hid (fun (V : World) (hV : Below w.heap.size w V) => sameFns_any V C.fa D.fa C.fn D.fn C.fc D.fc fs fs2 (r1.f.below (Nat.le_refl _) hV) (r2.f.below (Nat.le_refl _) hV))
  have KE := hid (fun (V : World) (hV : Below w.heap.size w V) => sameFns_any V C.ea D.ea C.en D.en C.ec D.ec es es2 (r1.e.below (Nat.le_refl _) hV) (r2.e.below (Nat.le_refl _) hV))
  have J1 := hid j1
  have J2 := hid j2
  have T1 := hid r1.tr
  have T2 := hid r2.tr
  have HT1 := hid r1.t1
  have HT2 := hid r2.t1
  have HI := hid n1
  have HJ := hid n2
  obtain ⟨P, hP⟩ : ∃ P : Prop, P = (CEq c d ∧ xs = ys) := ⟨_, rfl⟩
  rw [← hP]
  have HP : Hid (P ↔ PEq c.p d.p ∧ xs = ys ∧ c.texts = d.texts ∧ fs.map (·.2) = fs2.map (·.2) ∧ es.map (·.2) = es2.map (·.2)) := hid (by
    rw [hP, ceq_iff, r1.fe, r2.fe, r1.ee, r2.ee]
    exact ⟨fun ⟨⟨a, b, c, d⟩, e⟩ => ⟨a, e, b, c, d⟩, fun ⟨a, e, b, c, d⟩ => ⟨⟨a, b, c, d⟩, e⟩⟩)
  have iI1 : (C.inn : Int) ≤ 9223372036854775807 := by have := r1.i2; omega
  have iI2 : (D.inn : Int) ≤ 9223372036854775807 := by have := r2.i2; omega
  have tI1 : (C.tn : Int) ≤ 9223372036854775807 := by have := r1.t2; omega
  have tI2 : (D.tn : Int) ≤ 9223372036854775807 := by have := r2.t2; omega
  clear r1 r2 j1 j2 n1 n2 hP
  obtain ⟨⟨ra, rn, rc, ma, mn, mc, fa, fn, fc, ea, en, ec⟩, ia, inn, ic, ta, tn, tc, ga, gn, gc, ha, hn, hc⟩ := C
  obtain ⟨⟨ra2, rn2, rc2, ma2, mn2, mc2, fa2, fn2, fc2, ea2, en2, ec2⟩, ia2, inn2, ic2, ta2, tn2, tc2, ga2, gn2, gc2, ha2, hn2, hc2⟩ := D
  simp only [CH.v, CH.cs, PH.v] at hW0 m0 m1 KP KF KE J1 J2 T1 T2 HT1 HT2 HI HJ iI1 iI2 tI1 tI2 ⊢
  have GT : Hid (∀ V : World, Below W0.heap.size W0 V → ((V.cell? ⟨w.heap.size, 0, none⟩ = some (.slice ra rn rc) ∧ V.cell? ⟨w.heap.size, 1, none⟩ = some (.slice ma mn mc) ∧ V.cell? ⟨w.heap.size, 2, none⟩ = some (.slice fa fn fc) ∧ V.cell? ⟨w.heap.size, 3, none⟩ = some (.slice ea en ec) ∧ V.cell? ⟨w.heap.size, 4, none⟩ = some (.slice ia inn ic) ∧ V.cell? ⟨w.heap.size, 5, none⟩ = some (.slice ta tn tc) ∧ V.cell? ⟨w.heap.size, 6, none⟩ = some (.slice ga gn gc) ∧ V.cell? ⟨w.heap.size, 7, none⟩ = some (.slice ha hn hc)) ∧ V.cell? ⟨w.heap.size + 1, 0, none⟩ = some (.slice ra2 rn2 rc2) ∧ V.cell? ⟨w.heap.size + 1, 1, none⟩ = some (.slice ma2 mn2 mc2) ∧ V.cell? ⟨w.heap.size + 1, 2, none⟩ = some (.slice fa2 fn2 fc2) ∧ V.cell? ⟨w.heap.size + 1, 3, none⟩ = some (.slice ea2 en2 ec2) ∧ V.cell? ⟨w.heap.size + 1, 4, none⟩ = some (.slice ia2 inn2 ic2) ∧ V.cell? ⟨w.heap.size + 1, 5, none⟩ = some (.slice ta2 tn2 tc2) ∧ V.cell? ⟨w.heap.size + 1, 6, none⟩ = some (.slice ga2 gn2 gc2) ∧ V.cell? ⟨w.heap.size + 1, 7, none⟩ = some (.slice ha2 hn2 hc2)) ∧ Below w.heap.size w V) := hid (fun V hV => by
    have g0 := (hV.block _ (lt_of_heap m0)).trans m0
    have g1 := (hV.block _ (lt_of_heap m1)).trans m1
    exact ⟨⟨cell_eight g0, cell_eight g1⟩, bw.trans (hV.mono bw.size)⟩)
  have TR : Hid (∀ {x y : World}, Below W0.heap.size W0 x → Below x.heap.size x y → Below W0.heap.size W0 y) := hid (fun h1 h2 => h1.trans (h2.mono h1.size))
  obtain ⟨⟨⟨c0, c1, c2, c3, c4, c5, c6, c7⟩, d0, d1, d2, d3, d4, d5, d6, d7⟩, _⟩ := GT.out W0 (Below.refl _ _)
  clear m0 m1 bw
  go_enter Tryz.func11, Tryz.ntmps11
  go_upto_region 1 with fail
  rw [← hW0]
  clear hW0
  by_cases hii : inn = inn2
  case neg =>
    have HNM : Hid (¬ P) := hid (fun h => hii (by rw [HI.out, HJ.out, (HP.out.1 h).2.1]))
    have nb : ((inn : Int) != (inn2 : Int)) = true := by simp; omega
    clear hii
    go_wp2_with (go_at_call 47; (refine (Hid.out KP).mono ?_; rintro e w1 ⟨hb1, b1, rfl, hi⟩; have HB1 := hid hb1; have HI1 := hid hi; clear c0 c1 c2 c3 c4 c5 c6 c7 d0 d1 d2 d3 d4 d5 d6 d7 hb1 hi; obtain ⟨⟨⟨c0, c1, c2, c3, c4, c5, c6, c7⟩, d0, d1, d2, d3, d4, d5, d6, d7⟩, gw⟩ := GT.out w1 HB1.out; clear gw; cases b1))
    all_goals go_ret
    all_goals exact DcP.no (GT.out _ HB1.out).2 HNM.out
  case pos =>
  subst hii
  have nb1 : ((inn : Int) != (inn : Int)) = false := by simp
  by_cases htt : tn = tn2
  case neg =>
    have HNM : Hid (¬ P) := hid (fun h => htt (by rw [HT1.out, HT2.out, (HP.out.1 h).2.2.1]))
    have nb : ((tn : Int) != (tn2 : Int)) = true := by simp; omega
    clear htt
    go_wp2_with (go_at_call 47; (refine (Hid.out KP).mono ?_; rintro e w1 ⟨hb1, b1, rfl, hi⟩; have HB1 := hid hb1; have HI1 := hid hi; clear c0 c1 c2 c3 c4 c5 c6 c7 d0 d1 d2 d3 d4 d5 d6 d7 hb1 hi; obtain ⟨⟨⟨c0, c1, c2, c3, c4, c5, c6, c7⟩, d0, d1, d2, d3, d4, d5, d6, d7⟩, gw⟩ := GT.out w1 HB1.out; clear gw; cases b1))
    all_goals go_ret
    all_goals exact DcP.no (GT.out _ HB1.out).2 HNM.out
  case pos =>
  subst htt
  have nb2 : ((tn : Int) != (tn : Int)) = false := by simp
  go_upto_region 3 with (first
    | (go_at_call 47; (refine (Hid.out KP).mono ?_; rintro e w1 ⟨hb1, b1, rfl, hi⟩; have HB1 := hid hb1; have HI1 := hid hi; clear c0 c1 c2 c3 c4 c5 c6 c7 d0 d1 d2 d3 d4 d5 d6 d7 hb1 hi; obtain ⟨⟨⟨c0, c1, c2, c3, c4, c5, c6, c7⟩, d0, d1, d2, d3, d4, d5, d6, d7⟩, gw⟩ := GT.out w1 HB1.out; have KF1 := hid (KF.out w1 gw); clear gw; cases b1))
    | (have hno := KE1; (go_at_call 48; (refine (Hid.out KE1).mono ?_; rintro e w3 ⟨hb3, b3, rfl, hi⟩; have HB3 := hid (TR.out HB2.out hb3); have HI3 := hid hi; clear c0 c1 c2 c3 c4 c5 c6 c7 d0 d1 d2 d3 d4 d5 d6 d7 hb3 hi KE1; obtain ⟨⟨⟨c0, c1, c2, c3, c4, c5, c6, c7⟩, d0, d1, d2, d3, d4, d5, d6, d7⟩, _⟩ := GT.out w3 HB3.out; cases b3)))
    | (have hno := KF1; (go_at_call 48; (refine (Hid.out KF1).mono ?_; rintro e w2 ⟨hb2, b2, rfl, hi⟩; have HB2 := hid (TR.out HB1.out hb2); have HI2 := hid hi; clear c0 c1 c2 c3 c4 c5 c6 c7 d0 d1 d2 d3 d4 d5 d6 d7 hb2 hi KF1; obtain ⟨⟨⟨c0, c1, c2, c3, c4, c5, c6, c7⟩, d0, d1, d2, d3, d4, d5, d6, d7⟩, gw⟩ := GT.out w2 HB2.out; have KE1 := hid (KE.out w2 gw); clear gw; cases b2))))
  · go_ret
    exact DcP.no (GT.out _ HB1.out).2 (fun h => by have := HI1.out.2 (HP.out.1 h).1; cases this)
  · go_ret
    exact DcP.no (GT.out _ HB2.out).2 (fun h => by have := HI2.out.2 (HP.out.1 h).2.2.2.1; cases this)
  · go_ret
    exact DcP.no (GT.out _ HB3.out).2 (fun h => by have := HI3.out.2 (HP.out.1 h).2.2.2.2; cases this)
  have HQ : Hid (PEq c.p d.p ∧ fs.map (·.2) = fs2.map (·.2) ∧ es.map (·.2) = es2.map (·.2)) := hid ⟨HI1.out.1 (by first | rfl | trivial), HI2.out.1 (by first | rfl | trivial), HI3.out.1 (by first | rfl | trivial)⟩
  clear HI1 HI2 HI3 HB1 HB2 KP KF KE
  go_wp2
  go_loopg [5] inn (fun g x wr => ∃ j : Nat, j + g = inn ∧ x = .int .i64 (j : Int) ∧ xs.take j = ys.take j ∧ Below W0.heap.size W0 wr)
  case atStart => exact ⟨0, by omega, rfl, by simp, HB3.out⟩
  case round =>
    obtain ⟨j, hj, rfl, htk, hb⟩ := hrel
    clear c0 c1 c2 c3 c4 c5 c6 c7 d0 d1 d2 d3 d4 d5 d6 d7
    obtain ⟨⟨⟨c0, c1, c2, c3, c4, c5, c6, c7⟩, d0, d1, d2, d3, d4, d5, d6, d7⟩, gb⟩ := GT.out wr hb
    cases gk with
    | zero =>
      have hjn : j = inn := by omega
      subst hjn
      have HB := hid hb
      have HXY := hid (take_all htk HI.out HJ.out)
      clear hb gb htk
      go_wp2
      go_loopg [6] tn (fun g2 x wr2 => ∃ i : Nat, i + g2 = tn ∧ x = .int .i64 (i : Int) ∧ c.texts.take i = d.texts.take i ∧ Below W0.heap.size W0 wr2)
      case atStart => exact ⟨0, by omega, rfl, by simp, HB.out⟩
      case round =>
        obtain ⟨i, hi, rfl, htk2, hb⟩ := hrel
        clear c0 c1 c2 c3 c4 c5 c6 c7 d0 d1 d2 d3 d4 d5 d6 d7
        obtain ⟨⟨⟨c0, c1, c2, c3, c4, c5, c6, c7⟩, d0, d1, d2, d3, d4, d5, d6, d7⟩, gb⟩ := GT.out wr hb
        cases gk with
        | zero =>
          have hin : i = tn := by omega
          subst hin
          have HTT := hid (take_all htk2 HT1.out HT2.out)
          have GB := hid gb
          clear gb hb htk2
          go_wp2
          go_ret
          exact DcP.yes GB.out (HP.out.2 ⟨HQ.out.1, HXY.out, HTT.out, HQ.out.2⟩)
        | succ g2 =>
          obtain ⟨s, hs⟩ : ∃ s, c.texts[i]? = some s := ⟨c.texts[i]'(by have := HT1.out; omega), List.getElem?_eq_getElem _⟩
          obtain ⟨s', hs'⟩ : ∃ s, d.texts[i]? = some s := ⟨d.texts[i]'(by have := HT2.out; omega), List.getElem?_eq_getElem _⟩
          obtain ⟨_, p1, u1, rfl, z1⟩ := (T1.out.below (Nat.le_refl _) gb) i s hs
          obtain ⟨_, p2, u2, rfl, z2⟩ := (T2.out.below (Nat.le_refl _) gb) i s' hs'
          have hiI : (i : Int) < (tn : Int) := by omega
          have hi0 : (0 : Int) ≤ (i : Int) := by omega
          have H3 := hid hb
          have GB := hid gb
          by_cases he : s = s'
          · have HT3 := hid (take_same htk2 hs hs' he)
            subst he
            have nbs : (s.toList == s.toList) = true := by simp
            clear hb hs hs' gb htk2
            go_wp2
            go_quiet (fail)
            go_wp2
            go_roundg g2
            case measure => omega
            exact ⟨i + 1, by omega, by go_num, HT3.out, bel_dN H3.out _⟩
          · have HT3 := hid (get_ne hs hs' he)
            have nbs := streq2 he
            clear hb hs hs' gb htk2 he
            go_wp2
            go_quiet (fail)
            go_wp2
            go_ret
            exact DcP.no (bel_dN GB.out _) (fun h => HT3.out (HP.out.1 h).2.2.1)
    | succ g =>
      obtain ⟨x, hx⟩ : ∃ x, xs[j]? = some x := ⟨xs[j]'(by have := HI.out; omega), List.getElem?_eq_getElem _⟩
      obtain ⟨y, hy⟩ : ∃ y, ys[j]? = some y := ⟨ys[j]'(by have := HJ.out; omega), List.getElem?_eq_getElem _⟩
      obtain ⟨p1, u1, rfl, _, z1⟩ := (CRd.below J1.out (Nat.le_refl _) gb) j (inc x) (by rw [List.getElem?_map, hx]; rfl)
      obtain ⟨p2, u2, rfl, _, z2⟩ := (CRd.below J2.out (Nat.le_refl _) gb) j (inc y) (by rw [List.getElem?_map, hy]; rfl)
      have y1 := z1 0 (by omega)
      have y2 := z2 0 (by omega)
      simp only [inc, List.getElem?_cons_zero, Nat.add_zero, Nat.mul_one] at y1 y2
      have hjI : (j : Int) < (inn : Int) := by omega
      have hj0 : (0 : Int) ≤ (j : Int) := by omega
      have H3 := hid hb
      have GB := hid gb
      by_cases he : x = y
      · have HT3 := hid (take_same htk hx hy he)
        subst he
        have nbs : (x != x) = false := by simp
        clear hb hx hy gb z1 z2 htk
        go_wp2
        go_quiet (fail)
        go_wp2
        go_roundg g
        case measure => omega
        exact ⟨j + 1, by omega, by go_num, HT3.out, bel_dN H3.out _⟩
      · have HT3 := hid (get_ne hx hy he)
        have nbs : (x != y) = true := by simp [he]
        clear hb hx hy gb z1 z2 htk he
        go_wp2
        go_quiet (fail)
        go_wp2
        go_ret
        exact DcP.no (bel_dN GB.out _) (fun h => HT3.out (HP.out.1 h).2.1)
end Go.Proofs.YthnolocldeokeaaGreat

namespace Go.Proofs.YthnolocldeokeaaGreat
open Go.RowKit Go.Deep Go.Shelf
set_option linter.unusedVariables false
set_option linter.unusedSimpArgs false
set_option maxRecDepth 100000
def encTys (ts : List TyP) : List Nat := enc ts.length ++ (ts.map encTy).flatten
def encSs (ss : List ByteArray) : List Nat := enc ss.length ++ (ss.map encX).flatten
def encMp (m : Mp) : List Nat := encX m.name ++ encTy m.key ++ encTy m.val
def encSg (s : Sg) : List Nat := encX s.name ++ encTys s.params ++ encTy s.res
def encRc (r : Rc) : List Nat := encX r.name ++ encSs r.fields ++ encTys r.types
def inT (t : TyP) : Prop := inR t.1 ∧ inR t.2
theorem appTys_any (w0 w : World) (v : Value) (xs : List Nat) (a : Option Addr) (n cap : Nat) (ts : List TyP) (hw : Below w0.heap.size w0 w) (h : Row w w0.heap.size v xs) (hn : n = ts.length) (hnb : n ≤ 1000000) (hr : TRd w0 a ts) (hl : (xs ++ encTys ts).length ≤ 100000000) (hi : ∀ t ∈ ts, inT t) :
    Calls Tryz.prog 61 #[v, .slice a n cap, .func (.func 62) #[] #[]] w (ApP w w0.heap.size v (xs ++ encTys ts)) := by
  have := appTypes_any w0 w v xs a n cap ts encTy hw h hn hnb hr.crd (by rw [hn, List.append_assoc]; exact hl) (fun V u ys x hx hV hu hy => appType_any V w0.heap.size u ys x hu hV.size (by rw [List.length_append] at hy; omega) (hi x hx))
  rw [hn, List.append_assoc] at this
  rw [hn]; exact this
theorem appSs_any (w0 w : World) (v : Value) (xs : List Nat) (a : Option Addr) (n cap : Nat) (ss : List ByteArray) (hw : Below w0.heap.size w0 w) (h : Row w w0.heap.size v xs) (hn : n = ss.length) (hnb : n ≤ 1000000) (hr : SRd w0 a ss) (hl : (xs ++ encSs ss).length ≤ 100000000) (hi : ∀ s ∈ ss, s.size ≤ 1000000) :
    Calls Tryz.prog 28 #[v, .slice a n cap, .func (.func 29) #[] #[]] w (ApP w w0.heap.size v (xs ++ encSs ss)) := by
  have := appTexts_any w0 w v xs a n cap ss encX hw h hn hnb hr.crd (by rw [hn, List.append_assoc]; exact hl) (fun V u ys x hx hV hu hy => appText_any V w0.heap.size u ys x hu hV.size (by rw [List.length_append] at hy; omega) (hi x hx))
  rw [hn, List.append_assoc] at this
  rw [hn]; exact this
set_option maxHeartbeats 2000000 in
theorem appMap_x (w0 w : World) (v : Value) (xs : List Nat) (nm : ByteArray) (k1 k2 v1 v2 : Int) (hw : Below w0.heap.size w0 w) (h : Row w w0.heap.size v xs) (hl : (xs ++ (encX nm ++ encTy (k1, k2) ++ encTy (v1, v2))).length ≤ 100000000) (hnm : nm.size ≤ 1000000) (hk : inT (k1, k2)) (hv : inT (v1, v2)) :
    Calls Tryz.prog 23 #[v, .agg #[.string nm, .int .i64 k1, .int .i64 k2, .int .i64 v1, .int .i64 v2]] w (ApP w w0.heap.size v (xs ++ (encX nm ++ encTy (k1, k2) ++ encTy (v1, v2)))) := by
  obtain ⟨W0, hW0⟩ : ∃ W0, W0 = w.alloc (.cells #[.string nm, .int .i64 k1, .int .i64 k2, .int .i64 v1, .int .i64 v2] 67) := ⟨_, rfl⟩
  obtain ⟨X, hX⟩ : ∃ X, X = w.heap.size := ⟨_, rfl⟩
  have mX : W0.heap[X]? = some (.cells #[.string nm, .int .i64 k1, .int .i64 k2, .int .i64 v1, .int .i64 v2] 67 (0, 0)) := by rw [hW0, hX]; exact heap_alloc_new w _
  have r0 : Row W0 w0.heap.size v xs := by rw [hW0]; exact h.alloc _
  have bW : Below w0.heap.size w0 W0 := by rw [hW0]; exact hw.alloc hw.size _
  have hB0 : w0.heap.size ≤ W0.heap.size := bW.size
  have own : some X ≠ v.ownBlock := fun e => by have := (h.own X e.symm).2; omega
  have K1 := hid (fun (V : World) (u : Value) (hb : Below w0.heap.size w0 V) (hr : Row V w0.heap.size u (xs)) => (appText_any V w0.heap.size u (xs) nm hr hb.size (by simp only [List.length_append] at hl ⊢; omega) hnm : Calls Tryz.prog 29 #[u, .string nm] V (ApP V w0.heap.size u (xs ++ encX nm))))
  have K2 := hid (fun (V : World) (u : Value) (hb : Below w0.heap.size w0 V) (hr : Row V w0.heap.size u (xs ++ encX nm)) => (appType_any V w0.heap.size u (xs ++ encX nm) (k1, k2) hr hb.size (by simp only [List.length_append] at hl ⊢; omega) hk : Calls Tryz.prog 62 #[u, .agg #[.int .i64 k1, .int .i64 k2]] V (ApP V w0.heap.size u (xs ++ encX nm ++ encTy (k1, k2)))))
  have K3 := hid (fun (V : World) (u : Value) (hb : Below w0.heap.size w0 V) (hr : Row V w0.heap.size u (xs ++ encX nm ++ encTy (k1, k2))) => (appType_any V w0.heap.size u (xs ++ encX nm ++ encTy (k1, k2)) (v1, v2) hr hb.size (by simp only [List.length_append] at hl ⊢; omega) hv : Calls Tryz.prog 62 #[u, .agg #[.int .i64 v1, .int .i64 v2]] V (ApP V w0.heap.size u (xs ++ encX nm ++ encTy (k1, k2) ++ encTy (v1, v2)))))
  have ST : Hid (∀ (V : World) (u : Value), Grw W0 v V u → (V.cell? ⟨X, 0, none⟩ = some (.string nm) ∧ V.cell? ⟨X, 1, none⟩ = some (.int .i64 k1) ∧ V.cell? ⟨X, 2, none⟩ = some (.int .i64 k2) ∧ V.cell? ⟨X, 3, none⟩ = some (.int .i64 v1) ∧ V.cell? ⟨X, 4, none⟩ = some (.int .i64 v2)) ∧ Below w0.heap.size w0 V) := hid (fun V u hg => by
    have h2 := (hg.1.block X (lt_of_heap mX) own).trans mX
    exact ⟨⟨cellOf h2 0, cellOf h2 1, cellOf h2 2, cellOf h2 3, cellOf h2 4⟩, bW.trans (hg.below r0 hB0)⟩)
  have UN : Hid (∀ (V : World) (u : Value), Grw W0 v V u → Grw w v V u) := hid (fun V u hg => by rw [hW0] at hg; exact hg.unalloc)
  obtain ⟨⟨x0, x1, x2, x3, x4⟩, _⟩ := ST.out W0 v (Grw.refl _ _)
  have K1' := hid (K1.out W0.drew v bW.drew r0.drew)
  have HE : Hid (xs ++ (encX nm ++ encTy (k1, k2) ++ encTy (v1, v2)) = xs ++ encX nm ++ encTy (k1, k2) ++ encTy (v1, v2)) := hid (by simp [List.append_assoc])
  clear h r0 mX own hl hw bW
  clear hnm hk hv
  go_enter Tryz.func23, Tryz.ntmps23
  go_upto_region 1 with fail
  rw [← hX, ← hW0]
  clear hX hW0
  go_region_held3 (fun V => V.cell? ⟨X, 0, none⟩ = some (.string nm) ∧ V.cell? ⟨X, 1, none⟩ = some (.int .i64 k1) ∧ V.cell? ⟨X, 2, none⟩ = some (.int .i64 k2) ∧ V.cell? ⟨X, 3, none⟩ = some (.int .i64 v1) ∧ V.cell? ⟨X, 4, none⟩ = some (.int .i64 v2)) (first | exact s3 | exact s2 | exact s1 | go_keep) (first
    | (have hno := hs2; (go_at_call 62; (refine (K3.out w2 u2 (ST.out w2 u2 HG2.out).2 HR2.out).mono ?_; rintro e w3 ⟨u3, rfl, hr3, hg3⟩; have HR3 := hid hr3; have HG3 := hid (HG2.out.trans hg3); have s3 := (ST.out w3 u3 HG3.out).1; have hs3 := True.intro; clear hr3 hg3)))
    | (have hno := hs1; (go_at_call 62; (refine (K2.out w1 u1 (ST.out w1 u1 HG1.out).2 HR1.out).mono ?_; rintro e w2 ⟨u2, rfl, hr2, hg2⟩; have HR2 := hid hr2; have HG2 := hid (HG1.out.trans hg2); have s2 := (ST.out w2 u2 HG2.out).1; have hs2 := True.intro; clear hr2 hg2)))
    | (go_at_call 29; (refine (Hid.out K1').mono ?_; rintro e w1 ⟨u1, rfl, hr1, hg1⟩; have HR1 := hid hr1; have HG1 := hid hg1.undrew; have s1 := (ST.out w1 u1 HG1.out).1; have hs1 := True.intro; clear hr1 hg1)))
  go_wp2
  go_ret
  exact ⟨_, rfl, by rw [HE.out]; exact HR3.out, UN.out _ _ HG3.out⟩
set_option maxHeartbeats 2000000 in
theorem appSig_x (w0 w : World) (v : Value) (xs : List Nat) (nm : ByteArray) (pa : Option Addr) (pn pc : Nat) (ps : List TyP) (kd rr : Int) (hw : Below w0.heap.size w0 w) (h : Row w w0.heap.size v xs) (hl : (xs ++ (encX nm ++ encTys ps ++ encTy (kd, rr))).length ≤ 100000000) (hnm : nm.size ≤ 1000000) (hpn : pn = ps.length) (hpb : pn ≤ 1000000) (hpr : TRd w0 pa ps) (hpi : ∀ t ∈ ps, inT t) (hk : inT (kd, rr)) :
    Calls Tryz.prog 25 #[v, .agg #[.string nm, .slice pa pn pc, .int .i64 kd, .int .i64 rr]] w (ApP w w0.heap.size v (xs ++ (encX nm ++ encTys ps ++ encTy (kd, rr)))) := by
  obtain ⟨W0, hW0⟩ : ∃ W0, W0 = w.alloc (.cells #[.string nm, .slice pa pn pc, .int .i64 kd, .int .i64 rr] 49) := ⟨_, rfl⟩
  obtain ⟨X, hX⟩ : ∃ X, X = w.heap.size := ⟨_, rfl⟩
  have mX : W0.heap[X]? = some (.cells #[.string nm, .slice pa pn pc, .int .i64 kd, .int .i64 rr] 49 (0, 0)) := by rw [hW0, hX]; exact heap_alloc_new w _
  have r0 : Row W0 w0.heap.size v xs := by rw [hW0]; exact h.alloc _
  have bW : Below w0.heap.size w0 W0 := by rw [hW0]; exact hw.alloc hw.size _
  have hB0 : w0.heap.size ≤ W0.heap.size := bW.size
  have own : some X ≠ v.ownBlock := fun e => by have := (h.own X e.symm).2; omega
  have K1 := hid (fun (V : World) (u : Value) (hb : Below w0.heap.size w0 V) (hr : Row V w0.heap.size u (xs)) => (appText_any V w0.heap.size u (xs) nm hr hb.size (by simp only [List.length_append] at hl ⊢; omega) hnm : Calls Tryz.prog 29 #[u, .string nm] V (ApP V w0.heap.size u (xs ++ encX nm))))
  have K2 := hid (fun (V : World) (u : Value) (hb : Below w0.heap.size w0 V) (hr : Row V w0.heap.size u (xs ++ encX nm)) => (appTys_any w0 V u (xs ++ encX nm) pa pn pc ps hb hr hpn hpb hpr (by simp only [List.length_append] at hl ⊢; omega) hpi : Calls Tryz.prog 61 #[u, .slice pa pn pc, .func (.func 62) #[] #[]] V (ApP V w0.heap.size u (xs ++ encX nm ++ encTys ps))))
  have K3 := hid (fun (V : World) (u : Value) (hb : Below w0.heap.size w0 V) (hr : Row V w0.heap.size u (xs ++ encX nm ++ encTys ps)) => (appType_any V w0.heap.size u (xs ++ encX nm ++ encTys ps) (kd, rr) hr hb.size (by simp only [List.length_append] at hl ⊢; omega) hk : Calls Tryz.prog 62 #[u, .agg #[.int .i64 kd, .int .i64 rr]] V (ApP V w0.heap.size u (xs ++ encX nm ++ encTys ps ++ encTy (kd, rr)))))
  have ST : Hid (∀ (V : World) (u : Value), Grw W0 v V u → (V.cell? ⟨X, 0, none⟩ = some (.string nm) ∧ V.cell? ⟨X, 1, none⟩ = some (.slice pa pn pc) ∧ V.cell? ⟨X, 2, none⟩ = some (.int .i64 kd) ∧ V.cell? ⟨X, 3, none⟩ = some (.int .i64 rr)) ∧ Below w0.heap.size w0 V) := hid (fun V u hg => by
    have h2 := (hg.1.block X (lt_of_heap mX) own).trans mX
    exact ⟨⟨cellOf h2 0, cellOf h2 1, cellOf h2 2, cellOf h2 3⟩, bW.trans (hg.below r0 hB0)⟩)
  have UN : Hid (∀ (V : World) (u : Value), Grw W0 v V u → Grw w v V u) := hid (fun V u hg => by rw [hW0] at hg; exact hg.unalloc)
  obtain ⟨⟨x0, x1, x2, x3⟩, _⟩ := ST.out W0 v (Grw.refl _ _)
  have K1' := hid (K1.out W0.drew v bW.drew r0.drew)
  have HE : Hid (xs ++ (encX nm ++ encTys ps ++ encTy (kd, rr)) = xs ++ encX nm ++ encTys ps ++ encTy (kd, rr)) := hid (by simp [List.append_assoc])
  clear h r0 mX own hl hw bW
  clear hnm hpn hpr hpi hk hpb
  go_enter Tryz.func25, Tryz.ntmps25
  go_upto_region 1 with fail
  rw [← hX, ← hW0]
  clear hX hW0
  go_region_held3 (fun V => V.cell? ⟨X, 0, none⟩ = some (.string nm) ∧ V.cell? ⟨X, 1, none⟩ = some (.slice pa pn pc) ∧ V.cell? ⟨X, 2, none⟩ = some (.int .i64 kd) ∧ V.cell? ⟨X, 3, none⟩ = some (.int .i64 rr)) (first | exact s3 | exact s2 | exact s1 | go_keep) (first
    | (have hno := hs2; (go_at_call 62; (refine (K3.out w2 u2 (ST.out w2 u2 HG2.out).2 HR2.out).mono ?_; rintro e w3 ⟨u3, rfl, hr3, hg3⟩; have HR3 := hid hr3; have HG3 := hid (HG2.out.trans hg3); have s3 := (ST.out w3 u3 HG3.out).1; have hs3 := True.intro; clear hr3 hg3)))
    | (have hno := hs1; (go_at_call 61; (refine (K2.out w1 u1 (ST.out w1 u1 HG1.out).2 HR1.out).mono ?_; rintro e w2 ⟨u2, rfl, hr2, hg2⟩; have HR2 := hid hr2; have HG2 := hid (HG1.out.trans hg2); have s2 := (ST.out w2 u2 HG2.out).1; have hs2 := True.intro; clear hr2 hg2)))
    | (go_at_call 29; (refine (Hid.out K1').mono ?_; rintro e w1 ⟨u1, rfl, hr1, hg1⟩; have HR1 := hid hr1; have HG1 := hid hg1.undrew; have s1 := (ST.out w1 u1 HG1.out).1; have hs1 := True.intro; clear hr1 hg1)))
  go_wp2
  go_ret
  exact ⟨_, rfl, by rw [HE.out]; exact HR3.out, UN.out _ _ HG3.out⟩
set_option maxHeartbeats 2000000 in
theorem appRecord_x (w0 w : World) (v : Value) (xs : List Nat) (nm : ByteArray) (fa : Option Addr) (fn fc : Nat) (fs : List ByteArray) (ta : Option Addr) (tn tc : Nat) (ts : List TyP) (hw : Below w0.heap.size w0 w) (h : Row w w0.heap.size v xs) (hl : (xs ++ (encX nm ++ encSs fs ++ encTys ts)).length ≤ 100000000) (hnm : nm.size ≤ 1000000) (hfn : fn = fs.length) (hfb : fn ≤ 1000000) (hfr : SRd w0 fa fs) (hfs : ∀ s ∈ fs, s.size ≤ 1000000) (htn : tn = ts.length) (htb : tn ≤ 1000000) (htr : TRd w0 ta ts) (hti : ∀ t ∈ ts, inT t) :
    Calls Tryz.prog 21 #[v, .agg #[.string nm, .slice fa fn fc, .slice ta tn tc]] w (ApP w w0.heap.size v (xs ++ (encX nm ++ encSs fs ++ encTys ts))) := by
  obtain ⟨W0, hW0⟩ : ∃ W0, W0 = w.alloc (.cells #[.string nm, .slice fa fn fc, .slice ta tn tc] 63) := ⟨_, rfl⟩
  obtain ⟨X, hX⟩ : ∃ X, X = w.heap.size := ⟨_, rfl⟩
  have mX : W0.heap[X]? = some (.cells #[.string nm, .slice fa fn fc, .slice ta tn tc] 63 (0, 0)) := by rw [hW0, hX]; exact heap_alloc_new w _
  have r0 : Row W0 w0.heap.size v xs := by rw [hW0]; exact h.alloc _
  have bW : Below w0.heap.size w0 W0 := by rw [hW0]; exact hw.alloc hw.size _
  have hB0 : w0.heap.size ≤ W0.heap.size := bW.size
  have own : some X ≠ v.ownBlock := fun e => by have := (h.own X e.symm).2; omega
  have K1 := hid (fun (V : World) (u : Value) (hb : Below w0.heap.size w0 V) (hr : Row V w0.heap.size u (xs)) => (appText_any V w0.heap.size u (xs) nm hr hb.size (by simp only [List.length_append] at hl ⊢; omega) hnm : Calls Tryz.prog 29 #[u, .string nm] V (ApP V w0.heap.size u (xs ++ encX nm))))
  have K2 := hid (fun (V : World) (u : Value) (hb : Below w0.heap.size w0 V) (hr : Row V w0.heap.size u (xs ++ encX nm)) => (appSs_any w0 V u (xs ++ encX nm) fa fn fc fs hb hr hfn hfb hfr (by simp only [List.length_append] at hl ⊢; omega) hfs : Calls Tryz.prog 28 #[u, .slice fa fn fc, .func (.func 29) #[] #[]] V (ApP V w0.heap.size u (xs ++ encX nm ++ encSs fs))))
  have K3 := hid (fun (V : World) (u : Value) (hb : Below w0.heap.size w0 V) (hr : Row V w0.heap.size u (xs ++ encX nm ++ encSs fs)) => (appTys_any w0 V u (xs ++ encX nm ++ encSs fs) ta tn tc ts hb hr htn htb htr (by simp only [List.length_append] at hl ⊢; omega) hti : Calls Tryz.prog 61 #[u, .slice ta tn tc, .func (.func 62) #[] #[]] V (ApP V w0.heap.size u (xs ++ encX nm ++ encSs fs ++ encTys ts))))
  have ST : Hid (∀ (V : World) (u : Value), Grw W0 v V u → (V.cell? ⟨X, 0, none⟩ = some (.string nm) ∧ V.cell? ⟨X, 1, none⟩ = some (.slice fa fn fc) ∧ V.cell? ⟨X, 2, none⟩ = some (.slice ta tn tc)) ∧ Below w0.heap.size w0 V) := hid (fun V u hg => by
    have h2 := (hg.1.block X (lt_of_heap mX) own).trans mX
    exact ⟨⟨cellOf h2 0, cellOf h2 1, cellOf h2 2⟩, bW.trans (hg.below r0 hB0)⟩)
  have UN : Hid (∀ (V : World) (u : Value), Grw W0 v V u → Grw w v V u) := hid (fun V u hg => by rw [hW0] at hg; exact hg.unalloc)
  obtain ⟨⟨x0, x1, x2⟩, _⟩ := ST.out W0 v (Grw.refl _ _)
  have K1' := hid (K1.out W0.drew v bW.drew r0.drew)
  have HE : Hid (xs ++ (encX nm ++ encSs fs ++ encTys ts) = xs ++ encX nm ++ encSs fs ++ encTys ts) := hid (by simp [List.append_assoc])
  clear h r0 mX own hl hw bW
  clear hnm hfn hfb hfr hfs htn htb htr hti
  go_enter Tryz.func21, Tryz.ntmps21
  go_upto_region 1 with fail
  rw [← hX, ← hW0]
  clear hX hW0
  go_region_held3 (fun V => V.cell? ⟨X, 0, none⟩ = some (.string nm) ∧ V.cell? ⟨X, 1, none⟩ = some (.slice fa fn fc) ∧ V.cell? ⟨X, 2, none⟩ = some (.slice ta tn tc)) (first | exact s2 | exact s1 | go_keep) (first
    | (have hno := hs1; (go_at_call 28; (refine (K2.out w1 u1 (ST.out w1 u1 HG1.out).2 HR1.out).mono ?_; rintro e w2 ⟨u2, rfl, hr2, hg2⟩; have HR2 := hid hr2; have HG2 := hid (HG1.out.trans hg2); have s2 := (ST.out w2 u2 HG2.out).1; have hs2 := True.intro; clear hr2 hg2)))
    | (go_at_call 29; (refine (Hid.out K1').mono ?_; rintro e w1 ⟨u1, rfl, hr1, hg1⟩; have HR1 := hid hr1; have HG1 := hid hg1.undrew; have s1 := (ST.out w1 u1 HG1.out).1; have hs1 := True.intro; clear hr1 hg1)))
  obtain ⟨z0, z1, z2⟩ := s2
  go_wp2_with (first
    | (have hno := hs2; (go_at_call 61; (refine (K3.out w2 u2 (ST.out w2 u2 HG2.out).2 HR2.out).mono ?_; rintro e w3 ⟨u3, rfl, hr3, hg3⟩; have HR3 := hid hr3; have HG3 := hid (HG2.out.trans hg3); have s3 := (ST.out w3 u3 HG3.out).1; have hs3 := True.intro; clear hr3 hg3))))
  go_ret
  exact ⟨_, rfl, by rw [HE.out]; exact HR3.out, UN.out _ _ HG3.out⟩
end Go.Proofs.YthnolocldeokeaaGreat

