/-
  FlowUnits returns true for every unit, and its argument reads behind the call as it read before.
  No condition.
-/
import Derived.Test.YtmhjnfibpngpmaaJAU
namespace Go.Proofs.Ytmhjnfibpngpmaa
open Go.RowKit Go.Deep Go.Shelf
set_option linter.unusedVariables false
set_option linter.unusedSimpArgs false
theorem UwRd.ud {w : World} {U : CH} {p : Pg} {xs : List Int} {ts : List ByteArray} {gl el : List Gr} (d : UwRd w U p xs ts gl el) (h : FewU U gl el ts True) : UdRd w U p xs ts gl el := by
  obtain ⟨⟨h1, h2⟩, h3, h4, _, ⟨h5, h6⟩, h7⟩ := h
  exact ⟨d.pp, d.i1, by omega, d.ir, d.il, d.t1, by omega, d.tr, fun s hs => by have := h6 s hs; omega, d.f.ok h1, by omega, d.e.ok h2, by omega⟩
set_option maxRecDepth 100000 in
set_option maxHeartbeats 8000000 in
theorem flowUnits_any (w : World) (U : CH) (p : Pg) (xs : List Int) (ts : List ByteArray) (gl el : List Gr) (d : UwRd w U p xs ts gl el) :
    Calls Try.prog 4 #[U.v] w fun e w' => e = .returned (.bool true) ∧ Below w.heap.size w w' := by
  obtain ⟨W0, hW0⟩ : ∃ W0, W0 = w.alloc (.cells U.cs 48) := ⟨_, rfl⟩
  have bw : Below w.heap.size w W0 := by rw [hW0]; exact (Below.refl _ _).alloc (Nat.le_refl _) _
  have q0 : W0.heap[w.heap.size]? = some (.cells U.cs 48 (0, 0)) := by rw [hW0]; exact heap_alloc_new w _
  have KK := hid (known_any W0)
  have KF := hid (fun (V : World) (hV : Below w.heap.size w V) => fewUnit_any V U ts gl el True (fun V' hV' => plainS V' U.h p (d.pp.below (Nat.le_refl _) (hV.trans (hV'.mono hV.size)))) d.t1 d.t2 (d.tr.below (Nat.le_refl _) hV) d.i2 (d.f.below hV) (d.e.below hV))
  have SD := hid (fun (hf : FewU U gl el ts True) => sidesU w U p xs ts gl el (d.ud hf) d.pn)
  have GT : Hid (∀ V : World, Below W0.heap.size W0 V → V.heap[w.heap.size]? = some (.cells U.cs 48 (0, 0)) ∧ Below w.heap.size w V) := hid (fun V hV => ⟨(hV.block _ (lt_of_heap q0)).trans q0, bw.trans (hV.mono bw.size)⟩)
  have TR : Hid (∀ {x y : World}, Below W0.heap.size W0 x → Below x.heap.size x y → Below W0.heap.size W0 y) := hid (fun h1 h2 => h1.trans (h2.mono h1.size))
  obtain ⟨FU, hFU⟩ : ∃ FU : Prop, FU = FewU U gl el ts True := ⟨_, rfl⟩
  rw [← hFU] at KF SD
  clear hFU bw q0 d
  have IS := hid (fun (V : World) (k : Int) (ys : List Int) (c : Cx) (K : ∀ V' : World, Below V.heap.size V V' → Calls Try.prog 12 #[U.v] V' (Ans k V' ys c)) => flowIs_any V U k ys c K)
  obtain ⟨⟨ra, rn, rc, ma, mn, mc, pfa, pfn, pfc, pea, pen, pec⟩, ia, inn, ic, ta, tn, tc, ga, gn, gc, ha, hn, hc⟩ := U
  simp only [CH.v, CH.cs] at hW0 GT KF SD IS ⊢
  have CL : Hid (∀ V : World, Below W0.heap.size W0 V → ((V.cell? ⟨w.heap.size, 0, none⟩ = some (.slice ra rn rc) ∧ V.cell? ⟨w.heap.size, 1, none⟩ = some (.slice ma mn mc) ∧ V.cell? ⟨w.heap.size, 2, none⟩ = some (.slice pfa pfn pfc) ∧ V.cell? ⟨w.heap.size, 3, none⟩ = some (.slice pea pen pec)) ∧ V.cell? ⟨w.heap.size, 4, none⟩ = some (.slice ia inn ic) ∧ V.cell? ⟨w.heap.size, 5, none⟩ = some (.slice ta tn tc) ∧ V.cell? ⟨w.heap.size, 6, none⟩ = some (.slice ga gn gc) ∧ V.cell? ⟨w.heap.size, 7, none⟩ = some (.slice ha hn hc)) ∧ Below w.heap.size w V) := hid (fun V hV => by
    obtain ⟨g, gb⟩ := GT.out V hV
    exact ⟨⟨⟨cellOf g 0, cellOf g 1, cellOf g 2, cellOf g 3⟩, cellOf g 4, cellOf g 5, cellOf g 6, cellOf g 7⟩, gb⟩)
  go_enter Try.func4, Try.ntmps4
  go_upto_region 1 with fail
  rw [← hW0]
  clear hW0
  go_upto_region 3 with (go_at_call 10; (refine (Hid.out KK).mono ?_; rintro e w1 ⟨rfl, hb1⟩; have HB1 := hid hb1; obtain ⟨⟨⟨x0, x1, x2, x3⟩, x4, x5, x6, x7⟩, hw1⟩ := CL.out w1 hb1; have KF1 := hid (KF.out w1 hw1); clear hb1 hw1))
  clear KK KF
  go_upto_region 5 with (go_at_call 11; (refine (Hid.out KF1).mono ?_; rintro e w2 ⟨hb2, b2, rfl, hS⟩; have HB2 := hid (TR.out HB1.out hb2); have HS := hid hS; clear hb2 hS x0 x1 x2 x3 x4 x5 x6 x7; obtain ⟨⟨⟨x0, x1, x2, x3⟩, x4, x5, x6, x7⟩, hw2⟩ := CL.out w2 HB2.out; have HW2 := hid hw2; clear hw2; cases b2))
  · go_ret
    exact ⟨rfl, HW2.out⟩
  · obtain ⟨k, ys, c, kb, hk, KS⟩ := SD.out (HS.out (by trivial))
    have KS := hid KS
    have K12 := hid (KS.out w2 HW2.out).1
    clear SD HS KF1
    have hkk : (k = 0 ∨ k = 100) := hk.elim (fun h => .inl h.1) (fun h => .inr h.1)
    clear hk
    go_upto_region 6 with (go_at_call 12; (refine (Hid.out K12).mono ?_; rintro e w3 ⟨hb3, ⟨⟨pra, prn, prc, pma, pmn, pmc, pfa, pfn, pfc, pea, pen, pec⟩, pia, pin, pic, pta, ptn, ptc, pga, pgn, pgc, pha, phn, phc⟩, cx1, fs1, es1, rfl, hc1, hj1, hn1, he1⟩; simp only [CH.v, CH.cs]; have HB3 := hid (TR.out HB2.out hb3); have HC1 := hid hc1; have HJ1 := hid hj1; have HN1 := hid hn1; have HE1 := hid he1; clear hb3 hc1 hj1 hn1 he1 x0 x1 x2 x3 x4 x5 x6 x7))
    obtain ⟨Y1, hY1⟩ : ∃ Y1, Y1 = w3.heap.size := ⟨_, rfl⟩
    obtain ⟨W3, hW3⟩ : ∃ W3, W3 = w3.alloc (.cells #[.slice pra prn prc, .slice pma pmn pmc, .slice pfa pfn pfc, .slice pea pen pec, .slice pia pin pic, .slice pta ptn ptc, .slice pga pgn pgc, .slice pha phn phc] 52) := ⟨_, rfl⟩
    have b3 : Below w3.heap.size w3 W3 := by rw [hW3]; exact (Below.refl _ _).alloc (Nat.le_refl _) _
    have q3 : W3.heap[Y1]? = some (.cells #[.slice pra prn prc, .slice pma pmn pmc, .slice pfa pfn pfc, .slice pea pen pec, .slice pia pin pic, .slice pta ptn ptc, .slice pga pgn pgc, .slice pha phn phc] 52 (0, 0)) := by rw [hW3, hY1]; exact heap_alloc_new _ _
    have HB33 := hid (TR.out HB3.out b3)
    have HC3 := hid (HC1.out.below (Nat.le_refl _) b3)
    have HJ3 := hid (CRd.below HJ1.out (Nat.le_refl _) b3)
    have HQ3 := hid q3
    obtain ⟨⟨⟨x0, x1, x2, x3⟩, x4, x5, x6, x7⟩, hw3⟩ := CL.out W3 HB33.out
    have K13 := hid (KS.out W3 hw3).2
    rw [← hY1, ← hW3]
    clear hY1 hW3 b3 q3 HC1 HJ1 HB3 K12 hw3 HB2
    go_upto_region 7 with (go_at_call 13; (refine (Hid.out K13).mono ?_; rintro e w4 ⟨hb4, ⟨⟨dra, drn, drc, dma, dmn, dmc, dfa, dfn, dfc, dea, den, dec⟩, dia, din, dic, dta, dtn, dtc, dga, dgn, dgc, dha, dhn, dhc⟩, cx2, fs2, es2, rfl, hc2, hj2, hn2, he2⟩; simp only [CH.v, CH.cs]; have HB4' := hid hb4; have HB4 := hid (TR.out HB33.out hb4); have HC2 := hid hc2; have HJ2 := hid hj2; have HN2 := hid hn2; have HE2 := hid he2; clear hb4 hc2 hj2 hn2 he2 x0 x1 x2 x3 x4 x5 x6 x7))
    obtain ⟨Y2, hY2⟩ : ∃ Y2, Y2 = w4.heap.size := ⟨_, rfl⟩
    obtain ⟨W4, hW4⟩ : ∃ W4, W4 = w4.alloc (.cells #[.slice dra drn drc, .slice dma dmn dmc, .slice dfa dfn dfc, .slice dea den dec, .slice dia din dic, .slice dta dtn dtc, .slice dga dgn dgc, .slice dha dhn dhc] 52) := ⟨_, rfl⟩
    have b4 : Below w4.heap.size w4 W4 := by rw [hW4]; exact (Below.refl _ _).alloc (Nat.le_refl _) _
    have q4 : W4.heap[Y2]? = some (.cells #[.slice dra drn drc, .slice dma dmn dmc, .slice dfa dfn dfc, .slice dea den dec, .slice dia din dic, .slice dta dtn dtc, .slice dga dgn dgc, .slice dha dhn dhc] 52 (0, 0)) := by rw [hW4, hY2]; exact heap_alloc_new _ _
    have HB44 := hid (TR.out HB4.out b4)
    have b34 : Below W3.heap.size W3 W4 := HB4'.out.trans (b4.mono HB4'.out.size)
    have q34 := (b34.block Y1 (lt_of_heap HQ3.out)).trans HQ3.out
    obtain ⟨u0, u1, u2, u3, u4, u5, u6, u7⟩ := cell_eight q34
    obtain ⟨v0, v1, v2, v3, v4, v5, v6, v7⟩ := cell_eight q4
    have K14 := same_yes W4 _ _ cx1 cx2 fs1 es1 fs2 es2 ys (HC3.out.below (Nat.le_refl _) b34) (HC2.out.below (Nat.le_refl _) b4) (HE1.out.both HE2.out) (CRd.below HJ3.out (Nat.le_refl _) b34) (CRd.below HJ2.out (Nat.le_refl _) b4) HN1.out HN2.out
    simp only [CH.v, CH.cs] at K14
    have K14 := hid K14
    obtain ⟨⟨⟨x0, x1, x2, x3⟩, x4, x5, x6, x7⟩, hw4⟩ := CL.out W4 HB44.out
    rw [← hY2, ← hW4]
    clear hY2 hW4 b4 q4 b34 q34 HC3 HC2 HJ3 HJ2 HB4' HB4 HB33 K13 hw4 HQ3 HN1 HN2 HE1 HE2
    have IS2 := hid (fun (V : World) (hV : Below W0.heap.size W0 V) => IS.out V k ys c (fun V' hV' => (KS.out V' ((CL.out V hV).2.trans (hV'.mono (CL.out V hV).2.size))).1))
    clear IS KS
    rcases hkk with rfl | rfl
    all_goals (
      go_wp2_with (first
        | (go_at_call 14; (refine (Hid.out K14).mono ?_; rintro e w5 ⟨rfl, hb5⟩; have HB5 := hid (TR.out HB44.out hb5); clear hb5 x0 x1 x2 x3 x4 x5 x6 x7 u0 u1 u2 u3 u4 u5 u6 u7 v0 v1 v2 v3 v4 v5 v6 v7; obtain ⟨⟨⟨x0, x1, x2, x3⟩, x4, x5, x6, x7⟩, hw5⟩ := CL.out w5 HB5.out; have K15 := hid (IS2.out w5 HB5.out); clear hw5))
        | (go_at_call 15; (refine (Hid.out K15).mono ?_; rintro e w6 ⟨rfl, hb6⟩; have HB6 := hid (TR.out HB5.out hb6); clear hb6)))
      go_ret
      exact ⟨rfl, (CL.out _ HB6.out).2⟩)
end Go.Proofs.Ytmhjnfibpngpmaa

namespace Go.Proofs.Ytmhjnfibpngpmaa
open Go.ChangeShapes Go.WideShapes Go.ChangeAt Go.RowKit Go.Deep
set_option linter.unusedVariables false
set_option linter.unusedSimpArgs false
set_option maxRecDepth 100000 in
theorem units_lifted (os : Os) (started : os.Started) (H : Type) (enc : TypeId × Value → H) :
    ReturnsInHanded {} Try.checked os 4 .any (Rows.flowUnitsSpec.pre6 enc Try.prog Try.f4 Rows.flowUnitsRow.domain false) (Rows.flowUnitsSpec.post enc Try.prog Try.f4 false true false false) := by
  refine returnsInHanded_of_change_sized (C := Try.checked) ownN started (by kernel_rfl) Try.func4
    (ChangeSpec.witness6 (enc := enc) (C := Try.checked) false ⟨#[], #[.agg #[.slice none 0 0, .slice none 0 0, .slice none 0 0, .slice none 0 0, .slice none 0 0, .slice none 0 0, .slice none 0 0, .slice none 0 0]], []⟩ 8 (by kernel_rfl) (by kernel_rfl) (by kernel_rfl) (by kernel_rfl)) ?_
  intro W base args ds gs before hval0 hW hcnd hsz _
  have hval : ∀ (j : Nat) t v, Try.f4.params[j]? = some t → args[j]? = some v → Value.okWide Try.prog W .any base t v := hval0
  have hW' := hW
  obtain ⟨p, q, hA0, hV, rfl, hfz, hnd⟩ := hW
  have hA : DataW.TrodAll enc Try.prog W 0 (fun _ => true) true Try.f4.params.toList args.toList ds p := hA0
  rw [Try.params4] at hA hval
  obtain ⟨v0, vs0, d0, ds0, p0, q0, hargs, rfl, rfl, h0, r0⟩ := trodAll_cons hA
  obtain ⟨rfl, rfl, rfl⟩ := trodAll_nil r0
  obtain rfl : args = #[v0] := by cases args; simp_all
  obtain ⟨rfl, rfl⟩ := trodVars_none hV
  have lt0 : ∀ x ∈ p0, x.block < W.heap.size := by obtain ⟨m, hm⟩ := h0; exact DataW.trod_lt m _ _ _ hm
  have hs : f_Sm 48 d0 := fun n hn => by
    have h1 := List.all_eq_true.1 hsz n (DataW.weights_mem_each (j := 0) (t := 48) (d := d0) rfl rfl n hn)
    exact of_decide_eq_true h1
  obtain ⟨U, pg, xs, ts, gl, el, rfl, hU⟩ := unit_arg (hval 0 48 v0 rfl rfl) h0 hs
  clear hA0 hval0
  refine (flowUnits_any W U pg xs ts gl el hU).mono fun e W' ⟨he, bel⟩ => ?_
  subst he
  exact ⟨_, rfl, _, _, _, [], _, [], hW', trodAll_mk1 (shut_bool Try.underlying4 _), (trodAll_cons_mk (Below.trod laidOut (by kernel_rfl) (of_decide_eq_true (by kernel_rfl)) h0 bel lt0) trodAll_mk0), rfl, bel.frame _, fun h => by cases h⟩
theorem flowUnits_holds : Rows.FlowUnitsSaid :=
  OpenClaim.holds_of_wide 4 Try.f4 rfl rfl rfl rfl rfl rfl rfl ⟨rfl, rfl, rfl, rfl, rfl⟩ rfl rfl rfl rfl rfl (by kernel_rfl) Try.func4 (by kernel_rfl)
    (of_decide_eq_true (by kernel_rfl)) (by unfold Func.isWrapper; first | (rw [if_pos (by decide +kernel)]; kernel_rfl) | (rw [if_neg (by decide +kernel)]; exact ⟨rfl, rfl⟩))
    (fun os started H enc _ => units_lifted os started H enc)
end Go.Proofs.Ytmhjnfibpngpmaa

