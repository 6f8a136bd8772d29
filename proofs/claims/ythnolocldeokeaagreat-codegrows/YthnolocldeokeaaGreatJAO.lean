/- The document's instructions: row. -/
import Derived.Test.YthnolocldeokeaaGreatJAN
namespace Go.Proofs.YthnolocldeokeaaGreat
open Go.RowKit Go.Deep Go.Shelf
set_option linter.unusedVariables false
set_option linter.unusedSimpArgs false
def rowR (p : Pg) (o : Opx) : Int × Int × Bool :=
  if o.c = 24 then (if blw o.k (p.recs.length : Int) = true then (o.a, (((p.recs.map (·.2)).getD o.k.toNat rc0).types.length : Int), true) else (0, 0, false))
  else if o.c = 31 then (if blw o.k (p.funcs.length : Int) = true then (o.a, (parmB (p.funcs.map (·.2)) o.k).1, true) else (0, 0, false))
  else if o.c = 34 then (if blw o.k (p.events.length : Int) = true then (o.b, (parmB (p.events.map (·.2)) o.k).1, true) else (0, 0, false))
  else if o.c = 26 ∨ o.c = 27 ∨ o.c = 28 ∨ o.c = 29 ∨ o.c = 30 then (0, 0, blw o.k (p.maps.length : Int))
  else (0, 0, true)
def rowE (p : Pg) (o : Opx) : Ending := .returned (.tuple #[.int .i64 (rowR p o).1, .int .i64 (rowR p o).2.1, .bool (rowR p o).2.2])
theorem rowE_of {p : Pg} {o : Opx} {f m : Int} {b : Bool} (h : rowR p o = (f, m, b)) : Ending.returned (.tuple #[.int .i64 f, .int .i64 m, .bool b]) = rowE p o := by unfold rowE; rw [h]
theorem RRd.recT {w : World} {a : Option Addr} {n : Nat} {rs : List (RH × Rc)} (d : RRd w a n rs) {kk : Nat} (hk : kk < n) : ∃ g : RH × Rc, rs[kk]? = some g ∧ RcRd w g.1 g.2 ∧ ∃ b off, a = some ⟨b, off, none⟩ ∧ w.cell? ⟨b, off + kk * 3 + 2, none⟩ = some (.slice g.1.ta g.1.tn g.1.tc) := by
  have hl : kk < rs.length := by rw [← d.n1]; exact hk
  have hg : rs[kk]? = some rs[kk] := List.getElem?_eq_getElem hl
  obtain ⟨b, off, e, _, hc⟩ := d.rd kk rs[kk].1.cs (by simp [hg])
  exact ⟨_, hg, d.el _ (List.getElem_mem hl), b, off, e, hc 2 (by omega)⟩
theorem blw_no {k : Int} {n : Nat} (h : blw k (n : Int) = false) : k < 0 ∨ (¬ k < 0 ∧ (n : Int) ≤ k) := by
  unfold blw at h
  simp at h
  omega
set_option maxRecDepth 100000 in
set_option maxHeartbeats 4000000 in
theorem row_any (w : World) (h : PH) (p : Pg) (d : PRd w h p) (o : Opx) : Calls Tryz.prog 102 #[h.v, .agg o.cs] w fun e w' => e = rowE p o ∧ Below w.heap.size w w' := by
  obtain ⟨ra, rn, rc, ma, mn, mc, fa, fn, fc, ea, en, ec⟩ := h
  obtain ⟨oc, od, oa, ob, ok⟩ := o
  have dm := d.m
  have df := d.f
  have de := d.e
  have dr := d.r
  simp only at dm df de dr
  simp only [PH.v, Opx.cs]
  obtain ⟨W0, hW0⟩ : ∃ W0, W0 = (w.alloc (.cells #[.slice ra rn rc, .slice ma mn mc, .slice fa fn fc, .slice ea en ec] 26)).alloc (.cells #[.int .i64 oc, .int .i64 od, .int .i64 oa, .int .i64 ob, .int .i64 ok] 54) := ⟨_, rfl⟩
  have bw : Below w.heap.size w W0 := by rw [hW0]; exact ((Below.refl _ _).alloc (Nat.le_refl _) _).alloc (by simp) _
  have m0 : W0.heap[w.heap.size]? = some (.cells #[.slice ra rn rc, .slice ma mn mc, .slice fa fn fc, .slice ea en ec] 26 (0, 0)) := by rw [hW0]; exact (Below.heap_alloc _ _ _ (by simp)).trans (heap_alloc_new w _)
  have m1 : W0.heap[w.heap.size + 1]? = some (.cells #[.int .i64 oc, .int .i64 od, .int .i64 oa, .int .i64 ob, .int .i64 ok] 54 (0, 0)) := by
    have := heap_alloc_new (w.alloc (.cells #[.slice ra rn rc, .slice ma mn mc, .slice fa fn fc, .slice ea en ec] 26)) (.cells #[.int .i64 oc, .int .i64 od, .int .i64 oa, .int .i64 ob, .int .i64 ok] 54)
    rw [World.size_alloc] at this
    rw [hW0]; exact this
  have y0 := cellOf m0 0
  have y1 := cellOf m0 1
  have y2 := cellOf m0 2
  have y3 := cellOf m0 3
  have x0 := cellOf m1 0
  have x2 := cellOf m1 2
  have x3 := cellOf m1 3
  have x4 := cellOf m1 4
  simp only [List.getElem?_toArray, List.getElem?_cons_zero, List.getElem?_cons_succ] at x0 x2 x3 x4 y0 y1 y2 y3
  have dr0 := dr.below (Nat.le_refl _) bw
  have df0 := df.below (Nat.le_refl _) bw
  have de0 := de.below (Nat.le_refl _) bw
  have BW := hid bw
  have nr : rn ≤ 9223372036854775807 := dr.n2
  have nm' : mn ≤ 9223372036854775807 := dm.n2
  have nf : fn ≤ 9223372036854775807 := df.n2
  have ne : en ≤ 9223372036854775807 := de.n2
  have er : Hid (rn = p.recs.length) := hid dr.n1
  have em : Hid (mn = p.maps.length) := hid dm.n1
  have ef : Hid (fn = p.funcs.length) := hid df.n1
  have ee : Hid (en = p.events.length) := hid de.n1
  clear d dm df de dr m0 m1 bw
  by_cases h24 : oc = 24
  · subst h24
    cases hb : blw ok (rn : Int) with
    | false =>
      have HP : Hid (rowR p ⟨24, od, oa, ob, ok⟩ = (0, 0, false)) := hid (by unfold rowR; rw [if_pos rfl]; simp only [← er.out, hb]; rfl)
      rcases blw_no hb with hk | ⟨hk, hk2⟩
      · clear hb dr0 df0 de0
        have d1 : decide (ok < 0) = true := decide_eq_true hk
        go_enter Tryz.func102, Tryz.ntmps102
        go_upto_region 1 with fail
        rw [← hW0]
        clear hW0
        go_wp2
        refine bodyPost_ret (v := .tuple #[.int .i64 0, .int .i64 0, .bool false]) (by simp [results, Tryz.results102, go_sem]) rfl ⟨rowE_of HP.out, BW.out⟩
      · clear hb dr0 df0 de0
        have d1 : decide (ok < 0) = false := decide_eq_false hk
        have d2 : decide ((rn : Int) ≤ ok) = true := decide_eq_true hk2
        go_enter Tryz.func102, Tryz.ntmps102
        go_upto_region 1 with fail
        rw [← hW0]
        clear hW0
        go_wp2
        refine bodyPost_ret (v := .tuple #[.int .i64 0, .int .i64 0, .bool false]) (by simp [results, Tryz.results102, go_sem]) rfl ⟨rowE_of HP.out, BW.out⟩
    | true =>
      obtain ⟨kk, rfl, hk⟩ := blw_nat hb
      obtain ⟨g, hg, sg, b, off, rfl, c1⟩ := dr0.recT hk
      have HP : Hid (rowR p ⟨24, od, oa, ob, (kk : Int)⟩ = (oa, (g.1.tn : Int), true)) := hid (by
        unfold rowR
        rw [if_pos rfl]
        simp only [← er.out, hb, if_true, Int.toNat_natCast, List.getD_eq_getElem?_getD, List.getElem?_map, hg, Option.map_some, Option.getD_some, sg.tn])
      have hf2 := sg.t2
      have hkI : (kk : Int) < (rn : Int) := by omega
      have hk0 : (0 : Int) ≤ (kk : Int) := by omega
      have d1 : decide ((kk : Int) < 0) = false := decide_eq_false (by omega)
      have d2 : decide ((rn : Int) ≤ (kk : Int)) = false := decide_eq_false (by omega)
      have hnk : ¬ (rn : Int) ≤ (kk : Int) := by omega
      clear hb dr0 df0 de0 hg sg
      obtain ⟨⟨gnm, gfa, gfn, gfc, gta, gtn, gtc⟩, gr⟩ := g
      simp only at c1 HP hf2
      go_enter Tryz.func102, Tryz.ntmps102
      go_upto_region 1 with fail
      rw [← hW0]
      clear hW0
      go_wp2
      go_quiet (fail)
      go_wp2
      refine bodyPost_ret (v := .tuple #[.int .i64 oa, .int .i64 (gtn : Int), .bool true]) (by simp [results, Tryz.results102, go_sem]) rfl ⟨rowE_of HP.out, bel_dN BW.out _⟩
  have b24 : (oc == 24) = false := by simp [h24]
  by_cases h31 : oc = 31
  · subst h31
    cases hb : blw ok (fn : Int) with
    | false =>
      have HP : Hid (rowR p ⟨31, od, oa, ob, ok⟩ = (0, 0, false)) := hid (by unfold rowR; rw [if_neg (by simp), if_pos rfl]; simp only [← ef.out, hb]; rfl)
      rcases blw_no hb with hk | ⟨hk, hk2⟩
      · clear hb dr0 df0 de0
        have d1 : decide (ok < 0) = true := decide_eq_true hk
        go_enter Tryz.func102, Tryz.ntmps102
        go_upto_region 1 with fail
        rw [← hW0]
        clear hW0
        go_wp2
        refine bodyPost_ret (v := .tuple #[.int .i64 0, .int .i64 0, .bool false]) (by simp [results, Tryz.results102, go_sem]) rfl ⟨rowE_of HP.out, BW.out⟩
      · clear hb dr0 df0 de0
        have d1 : decide (ok < 0) = false := decide_eq_false hk
        have d2 : decide ((fn : Int) ≤ ok) = true := decide_eq_true hk2
        go_enter Tryz.func102, Tryz.ntmps102
        go_upto_region 1 with fail
        rw [← hW0]
        clear hW0
        go_wp2
        refine bodyPost_ret (v := .tuple #[.int .i64 0, .int .i64 0, .bool false]) (by simp [results, Tryz.results102, go_sem]) rfl ⟨rowE_of HP.out, BW.out⟩
    | true =>
      obtain ⟨kk, rfl, hk⟩ := blw_nat hb
      obtain ⟨g, hg, sg, b, off, rfl, c1⟩ := df0.sig hk
      have HP : Hid (rowR p ⟨31, od, oa, ob, (kk : Int)⟩ = (oa, (g.1.pn : Int), true)) := hid (by
        unfold rowR
        rw [if_neg (by simp), if_pos rfl]
        have := parm_at hg (by rw [← ef.out]; exact hb)
        simp only [← ef.out, hb, if_true, this, sg.pn])
      have hf2 := sg.p2
      have hkI : (kk : Int) < (fn : Int) := by omega
      have hk0 : (0 : Int) ≤ (kk : Int) := by omega
      have d1 : decide ((kk : Int) < 0) = false := decide_eq_false (by omega)
      have d2 : decide ((fn : Int) ≤ (kk : Int)) = false := decide_eq_false (by omega)
      have hnk : ¬ (fn : Int) ≤ (kk : Int) := by omega
      clear hb dr0 df0 de0 hg sg
      obtain ⟨⟨nm, pa, pn, pc, kd, rr⟩, sgg⟩ := g
      simp only at c1 HP hf2
      go_enter Tryz.func102, Tryz.ntmps102
      go_upto_region 1 with fail
      rw [← hW0]
      clear hW0
      go_wp2
      go_quiet (fail)
      go_wp2
      refine bodyPost_ret (v := .tuple #[.int .i64 oa, .int .i64 (pn : Int), .bool true]) (by simp [results, Tryz.results102, go_sem]) rfl ⟨rowE_of HP.out, bel_dN BW.out _⟩
  have b31 : (oc == 31) = false := by simp [h31]
  by_cases h34 : oc = 34
  · subst h34
    cases hb : blw ok (en : Int) with
    | false =>
      have HP : Hid (rowR p ⟨34, od, oa, ob, ok⟩ = (0, 0, false)) := hid (by unfold rowR; rw [if_neg (by simp), if_neg (by simp), if_pos rfl]; simp only [← ee.out, hb]; rfl)
      rcases blw_no hb with hk | ⟨hk, hk2⟩
      · clear hb dr0 df0 de0
        have d1 : decide (ok < 0) = true := decide_eq_true hk
        go_enter Tryz.func102, Tryz.ntmps102
        go_upto_region 1 with fail
        rw [← hW0]
        clear hW0
        go_wp2
        refine bodyPost_ret (v := .tuple #[.int .i64 0, .int .i64 0, .bool false]) (by simp [results, Tryz.results102, go_sem]) rfl ⟨rowE_of HP.out, BW.out⟩
      · clear hb dr0 df0 de0
        have d1 : decide (ok < 0) = false := decide_eq_false hk
        have d2 : decide ((en : Int) ≤ ok) = true := decide_eq_true hk2
        go_enter Tryz.func102, Tryz.ntmps102
        go_upto_region 1 with fail
        rw [← hW0]
        clear hW0
        go_wp2
        refine bodyPost_ret (v := .tuple #[.int .i64 0, .int .i64 0, .bool false]) (by simp [results, Tryz.results102, go_sem]) rfl ⟨rowE_of HP.out, BW.out⟩
    | true =>
      obtain ⟨kk, rfl, hk⟩ := blw_nat hb
      obtain ⟨g, hg, sg, b, off, rfl, c1⟩ := de0.sig hk
      have HP : Hid (rowR p ⟨34, od, oa, ob, (kk : Int)⟩ = (ob, (g.1.pn : Int), true)) := hid (by
        unfold rowR
        rw [if_neg (by simp), if_neg (by simp), if_pos rfl]
        have := parm_at hg (by rw [← ee.out]; exact hb)
        simp only [← ee.out, hb, if_true, this, sg.pn])
      have hf2 := sg.p2
      have hkI : (kk : Int) < (en : Int) := by omega
      have hk0 : (0 : Int) ≤ (kk : Int) := by omega
      have d1 : decide ((kk : Int) < 0) = false := decide_eq_false (by omega)
      have d2 : decide ((en : Int) ≤ (kk : Int)) = false := decide_eq_false (by omega)
      have hnk : ¬ (en : Int) ≤ (kk : Int) := by omega
      clear hb dr0 df0 de0 hg sg
      obtain ⟨⟨nm, pa, pn, pc, kd, rr⟩, sgg⟩ := g
      simp only at c1 HP hf2
      go_enter Tryz.func102, Tryz.ntmps102
      go_upto_region 1 with fail
      rw [← hW0]
      clear hW0
      go_wp2
      go_quiet (fail)
      go_wp2
      refine bodyPost_ret (v := .tuple #[.int .i64 ob, .int .i64 (pn : Int), .bool true]) (by simp [results, Tryz.results102, go_sem]) rfl ⟨rowE_of HP.out, bel_dN BW.out _⟩
  have b34 : (oc == 34) = false := by simp [h34]
  by_cases h26 : oc = 26
  · subst h26
    have HP : Hid (rowR p ⟨26, od, oa, ob, ok⟩ = (0, 0, blw ok (mn : Int))) := hid (by unfold rowR; rw [if_neg (by simp), if_neg (by simp), if_neg (by simp), if_pos (by simp), ← em.out])
    clear dr0 df0 de0
    by_cases hk : 0 ≤ ok
    · have d1 : decide (0 ≤ ok) = true := decide_eq_true hk
      by_cases hk2 : ok < (mn : Int)
      · have d2 : decide (ok < (mn : Int)) = true := decide_eq_true hk2
        have hbl : blw ok (mn : Int) = true := by simp [blw, hk, hk2]
        rw [hbl] at HP
        clear hbl
        go_enter Tryz.func102, Tryz.ntmps102
        go_upto_region 1 with fail
        rw [← hW0]
        clear hW0
        go_wp2
        go_quiet (fail)
        go_wp2
        refine bodyPost_ret (v := .tuple #[.int .i64 0, .int .i64 0, .bool true]) (by simp [results, Tryz.results102, go_sem]) rfl ⟨rowE_of HP.out, bel_dN BW.out _⟩
      · have d2 : decide (ok < (mn : Int)) = false := decide_eq_false hk2
        have hbl : blw ok (mn : Int) = false := by simp [blw, hk2]
        rw [hbl] at HP
        clear hbl
        go_enter Tryz.func102, Tryz.ntmps102
        go_upto_region 1 with fail
        rw [← hW0]
        clear hW0
        go_wp2
        go_quiet (fail)
        go_wp2
        refine bodyPost_ret (v := .tuple #[.int .i64 0, .int .i64 0, .bool false]) (by simp [results, Tryz.results102, go_sem]) rfl ⟨rowE_of HP.out, bel_dN BW.out _⟩
    · have d1 : decide (0 ≤ ok) = false := decide_eq_false hk
      have hbl : blw ok (mn : Int) = false := by simp [blw, hk]
      rw [hbl] at HP
      clear hbl
      go_enter Tryz.func102, Tryz.ntmps102
      go_upto_region 1 with fail
      rw [← hW0]
      clear hW0
      go_wp2
      go_quiet (fail)
      go_wp2
      refine bodyPost_ret (v := .tuple #[.int .i64 0, .int .i64 0, .bool false]) (by simp [results, Tryz.results102, go_sem]) rfl ⟨rowE_of HP.out, bel_dN BW.out _⟩
  have b26 : (oc == 26) = false := by simp [h26]
  by_cases h27 : oc = 27
  · subst h27
    have HP : Hid (rowR p ⟨27, od, oa, ob, ok⟩ = (0, 0, blw ok (mn : Int))) := hid (by unfold rowR; rw [if_neg (by simp), if_neg (by simp), if_neg (by simp), if_pos (by simp), ← em.out])
    clear dr0 df0 de0
    by_cases hk : 0 ≤ ok
    · have d1 : decide (0 ≤ ok) = true := decide_eq_true hk
      by_cases hk2 : ok < (mn : Int)
      · have d2 : decide (ok < (mn : Int)) = true := decide_eq_true hk2
        have hbl : blw ok (mn : Int) = true := by simp [blw, hk, hk2]
        rw [hbl] at HP
        clear hbl
        go_enter Tryz.func102, Tryz.ntmps102
        go_upto_region 1 with fail
        rw [← hW0]
        clear hW0
        go_wp2
        go_quiet (fail)
        go_wp2
        refine bodyPost_ret (v := .tuple #[.int .i64 0, .int .i64 0, .bool true]) (by simp [results, Tryz.results102, go_sem]) rfl ⟨rowE_of HP.out, bel_dN BW.out _⟩
      · have d2 : decide (ok < (mn : Int)) = false := decide_eq_false hk2
        have hbl : blw ok (mn : Int) = false := by simp [blw, hk2]
        rw [hbl] at HP
        clear hbl
        go_enter Tryz.func102, Tryz.ntmps102
        go_upto_region 1 with fail
        rw [← hW0]
        clear hW0
        go_wp2
        go_quiet (fail)
        go_wp2
        refine bodyPost_ret (v := .tuple #[.int .i64 0, .int .i64 0, .bool false]) (by simp [results, Tryz.results102, go_sem]) rfl ⟨rowE_of HP.out, bel_dN BW.out _⟩
    · have d1 : decide (0 ≤ ok) = false := decide_eq_false hk
      have hbl : blw ok (mn : Int) = false := by simp [blw, hk]
      rw [hbl] at HP
      clear hbl
      go_enter Tryz.func102, Tryz.ntmps102
      go_upto_region 1 with fail
      rw [← hW0]
      clear hW0
      go_wp2
      go_quiet (fail)
      go_wp2
      refine bodyPost_ret (v := .tuple #[.int .i64 0, .int .i64 0, .bool false]) (by simp [results, Tryz.results102, go_sem]) rfl ⟨rowE_of HP.out, bel_dN BW.out _⟩
  have b27 : (oc == 27) = false := by simp [h27]
  by_cases h28 : oc = 28
  · subst h28
    have HP : Hid (rowR p ⟨28, od, oa, ob, ok⟩ = (0, 0, blw ok (mn : Int))) := hid (by unfold rowR; rw [if_neg (by simp), if_neg (by simp), if_neg (by simp), if_pos (by simp), ← em.out])
    clear dr0 df0 de0
    by_cases hk : 0 ≤ ok
    · have d1 : decide (0 ≤ ok) = true := decide_eq_true hk
      by_cases hk2 : ok < (mn : Int)
      · have d2 : decide (ok < (mn : Int)) = true := decide_eq_true hk2
        have hbl : blw ok (mn : Int) = true := by simp [blw, hk, hk2]
        rw [hbl] at HP
        clear hbl
        go_enter Tryz.func102, Tryz.ntmps102
        go_upto_region 1 with fail
        rw [← hW0]
        clear hW0
        go_wp2
        go_quiet (fail)
        go_wp2
        refine bodyPost_ret (v := .tuple #[.int .i64 0, .int .i64 0, .bool true]) (by simp [results, Tryz.results102, go_sem]) rfl ⟨rowE_of HP.out, bel_dN BW.out _⟩
      · have d2 : decide (ok < (mn : Int)) = false := decide_eq_false hk2
        have hbl : blw ok (mn : Int) = false := by simp [blw, hk2]
        rw [hbl] at HP
        clear hbl
        go_enter Tryz.func102, Tryz.ntmps102
        go_upto_region 1 with fail
        rw [← hW0]
        clear hW0
        go_wp2
        go_quiet (fail)
        go_wp2
        refine bodyPost_ret (v := .tuple #[.int .i64 0, .int .i64 0, .bool false]) (by simp [results, Tryz.results102, go_sem]) rfl ⟨rowE_of HP.out, bel_dN BW.out _⟩
    · have d1 : decide (0 ≤ ok) = false := decide_eq_false hk
      have hbl : blw ok (mn : Int) = false := by simp [blw, hk]
      rw [hbl] at HP
      clear hbl
      go_enter Tryz.func102, Tryz.ntmps102
      go_upto_region 1 with fail
      rw [← hW0]
      clear hW0
      go_wp2
      go_quiet (fail)
      go_wp2
      refine bodyPost_ret (v := .tuple #[.int .i64 0, .int .i64 0, .bool false]) (by simp [results, Tryz.results102, go_sem]) rfl ⟨rowE_of HP.out, bel_dN BW.out _⟩
  have b28 : (oc == 28) = false := by simp [h28]
  by_cases h29 : oc = 29
  · subst h29
    have HP : Hid (rowR p ⟨29, od, oa, ob, ok⟩ = (0, 0, blw ok (mn : Int))) := hid (by unfold rowR; rw [if_neg (by simp), if_neg (by simp), if_neg (by simp), if_pos (by simp), ← em.out])
    clear dr0 df0 de0
    by_cases hk : 0 ≤ ok
    · have d1 : decide (0 ≤ ok) = true := decide_eq_true hk
      by_cases hk2 : ok < (mn : Int)
      · have d2 : decide (ok < (mn : Int)) = true := decide_eq_true hk2
        have hbl : blw ok (mn : Int) = true := by simp [blw, hk, hk2]
        rw [hbl] at HP
        clear hbl
        go_enter Tryz.func102, Tryz.ntmps102
        go_upto_region 1 with fail
        rw [← hW0]
        clear hW0
        go_wp2
        go_quiet (fail)
        go_wp2
        refine bodyPost_ret (v := .tuple #[.int .i64 0, .int .i64 0, .bool true]) (by simp [results, Tryz.results102, go_sem]) rfl ⟨rowE_of HP.out, bel_dN BW.out _⟩
      · have d2 : decide (ok < (mn : Int)) = false := decide_eq_false hk2
        have hbl : blw ok (mn : Int) = false := by simp [blw, hk2]
        rw [hbl] at HP
        clear hbl
        go_enter Tryz.func102, Tryz.ntmps102
        go_upto_region 1 with fail
        rw [← hW0]
        clear hW0
        go_wp2
        go_quiet (fail)
        go_wp2
        refine bodyPost_ret (v := .tuple #[.int .i64 0, .int .i64 0, .bool false]) (by simp [results, Tryz.results102, go_sem]) rfl ⟨rowE_of HP.out, bel_dN BW.out _⟩
    · have d1 : decide (0 ≤ ok) = false := decide_eq_false hk
      have hbl : blw ok (mn : Int) = false := by simp [blw, hk]
      rw [hbl] at HP
      clear hbl
      go_enter Tryz.func102, Tryz.ntmps102
      go_upto_region 1 with fail
      rw [← hW0]
      clear hW0
      go_wp2
      go_quiet (fail)
      go_wp2
      refine bodyPost_ret (v := .tuple #[.int .i64 0, .int .i64 0, .bool false]) (by simp [results, Tryz.results102, go_sem]) rfl ⟨rowE_of HP.out, bel_dN BW.out _⟩
  have b29 : (oc == 29) = false := by simp [h29]
  by_cases h30 : oc = 30
  · subst h30
    have HP : Hid (rowR p ⟨30, od, oa, ob, ok⟩ = (0, 0, blw ok (mn : Int))) := hid (by unfold rowR; rw [if_neg (by simp), if_neg (by simp), if_neg (by simp), if_pos (by simp), ← em.out])
    clear dr0 df0 de0
    by_cases hk : 0 ≤ ok
    · have d1 : decide (0 ≤ ok) = true := decide_eq_true hk
      by_cases hk2 : ok < (mn : Int)
      · have d2 : decide (ok < (mn : Int)) = true := decide_eq_true hk2
        have hbl : blw ok (mn : Int) = true := by simp [blw, hk, hk2]
        rw [hbl] at HP
        clear hbl
        go_enter Tryz.func102, Tryz.ntmps102
        go_upto_region 1 with fail
        rw [← hW0]
        clear hW0
        go_wp2
        go_quiet (fail)
        go_wp2
        refine bodyPost_ret (v := .tuple #[.int .i64 0, .int .i64 0, .bool true]) (by simp [results, Tryz.results102, go_sem]) rfl ⟨rowE_of HP.out, bel_dN BW.out _⟩
      · have d2 : decide (ok < (mn : Int)) = false := decide_eq_false hk2
        have hbl : blw ok (mn : Int) = false := by simp [blw, hk2]
        rw [hbl] at HP
        clear hbl
        go_enter Tryz.func102, Tryz.ntmps102
        go_upto_region 1 with fail
        rw [← hW0]
        clear hW0
        go_wp2
        go_quiet (fail)
        go_wp2
        refine bodyPost_ret (v := .tuple #[.int .i64 0, .int .i64 0, .bool false]) (by simp [results, Tryz.results102, go_sem]) rfl ⟨rowE_of HP.out, bel_dN BW.out _⟩
    · have d1 : decide (0 ≤ ok) = false := decide_eq_false hk
      have hbl : blw ok (mn : Int) = false := by simp [blw, hk]
      rw [hbl] at HP
      clear hbl
      go_enter Tryz.func102, Tryz.ntmps102
      go_upto_region 1 with fail
      rw [← hW0]
      clear hW0
      go_wp2
      go_quiet (fail)
      go_wp2
      refine bodyPost_ret (v := .tuple #[.int .i64 0, .int .i64 0, .bool false]) (by simp [results, Tryz.results102, go_sem]) rfl ⟨rowE_of HP.out, bel_dN BW.out _⟩
  have b30 : (oc == 30) = false := by simp [h30]
  have HP : Hid (rowR p ⟨oc, od, oa, ob, ok⟩ = (0, 0, true)) := hid (by unfold rowR; simp [h24, h31, h34, h26, h27, h28, h29, h30])
  clear dr0 df0 de0
  go_enter Tryz.func102, Tryz.ntmps102
  go_upto_region 1 with fail
  rw [← hW0]
  clear hW0
  go_wp2
  refine bodyPost_ret (v := .tuple #[.int .i64 0, .int .i64 0, .bool true]) (by simp [results, Tryz.results102, go_sem]) rfl ⟨rowE_of HP.out, BW.out⟩
end Go.Proofs.YthnolocldeokeaaGreat

namespace Go.Proofs.YthnolocldeokeaaGreat
open Go.RowKit Go.Deep Go.Shelf
set_option linter.unusedVariables false
set_option linter.unusedSimpArgs false
def bad2 (fd fa fb fk fok : Bool) (o : Opx) : Bool := !fok || (!fd && o.d != 0) || (!fa && o.a != 0) || (!fb && o.b != 0) || (!fk && o.k != 0)
def bad5 (regs fr mny : Int) (okr : Bool) : Bool := !okr || decide (fr < 0) || decide (regs < fr) || decide (regs - fr < mny)
def bad7 (fd : Bool) (regs : Int) (o : Opx) : Bool := fd && (decide (regs ≤ o.d) || (decide (o.d < 0) && (o.c != 31 || o.d != -1)))
def bad9 (fa : Bool) (regs : Int) (o : Opx) : Bool := fa && o.c != 24 && o.c != 31 && (decide (regs ≤ o.a) || (decide (o.a < 0) && (o.c != 40 || o.a != -1)))
def bad11 (fb : Bool) (regs : Int) (o : Opx) : Bool := fb && o.c != 34 && (decide (o.b < 0) || decide (regs ≤ o.b))
def mostI (c : Cx) (n : Nat) (o : Opx) : Int := if o.c = 1 then (c.ints : Int) else if o.c = 2 ∨ o.c = 32 then (c.texts.length : Int) else if o.c = 3 then 2 else if o.c = 25 then 12 else if o.c = 38 ∨ o.c = 39 then (n : Int) else -1
def fin27 (m k : Int) : Bool := decide (m < 0) || (decide (0 ≤ k) && decide (k < m))
def refOp (c : Cx) (regs : Int) (n : Nat) (o : Opx) : Bool :=
  !bad2 (frm o.c).d (frm o.c).a (frm o.c).b (frm o.c).k (frm o.c).ok o && !bad5 regs (rowR c.p o).1 (rowR c.p o).2.1 (rowR c.p o).2.2 && !bad7 (frm o.c).d regs o && !bad9 (frm o.c).a regs o && !bad11 (frm o.c).b regs o && fin27 (mostI c n o) o.k
theorem rowR_bounds (c : Cx) (C : CH) (w : World) (d : PRd w C.h c.p) (o : Opx) : 0 ≤ (rowR c.p o).2.1 ∧ (rowR c.p o).2.1 ≤ 9223372036854775807 := by
  have pm : ∀ {a : Option Addr} {n : Nat} {gs : List (GH × Sg)}, GRd w a n gs → 0 ≤ (parmB (gs.map (·.2)) o.k).1 ∧ (parmB (gs.map (·.2)) o.k).1 ≤ 9223372036854775807 := by
    intro a n gs dg
    cases hb : blw o.k (gs.length : Int) with
    | false => unfold parmB; rw [List.length_map, hb]; simp
    | true =>
      obtain ⟨kk, hkk, hk⟩ := blw_nat hb
      obtain ⟨g, hg, sg, _⟩ := dg.sig (by rw [dg.n1]; exact hk)
      rw [hkk, parm_at hg (by rw [← hkk]; exact hb)]
      have h1 := sg.pn
      have h2 := sg.p2
      simp only
      omega
  unfold rowR
  split
  · cases hb : blw o.k (c.p.recs.length : Int) with
    | false => simp
    | true =>
      obtain ⟨kk, hkk, hk⟩ := blw_nat hb
      obtain ⟨g, hg, sg, _⟩ := d.r.recT (by rw [d.r.n1]; exact hk)
      have h1 := sg.tn
      have h2 := sg.t2
      simp only [if_true, hkk, Int.toNat_natCast, List.getD_eq_getElem?_getD, List.getElem?_map, hg, Option.map_some, Option.getD_some]
      omega
  · split
    · split
      · exact pm d.f
      · simp
    · split
      · split
        · exact pm d.e
        · simp
      · split
        · simp
        · simp
set_option maxRecDepth 100000 in
set_option maxHeartbeats 8000000 in
theorem refIsOp_any (w : World) (C : CH) (c : Cx) (fs es : List (FH × Fx)) (dd : CdRd w C c fs es) (regs : Int) (h0 : 0 ≤ regs) (h64 : regs ≤ 64) (n : Nat) (hn : n ≤ 9223372036854775807) (o : Opx) :
    Calls Tryz.prog 70 #[C.v, .int .i64 regs, .int .i64 (n : Int), .agg o.cs] w fun e w' => e = .returned (.bool (refOp c regs n o)) ∧ Below w.heap.size w w' := by
  obtain ⟨A1, hA1⟩ : ∃ A1, A1 = w.alloc (.cells C.cs 31) := ⟨_, rfl⟩
  obtain ⟨W0, hW0⟩ : ∃ W0, W0 = A1.alloc (.cells o.cs 54) := ⟨_, rfl⟩
  have b1 : Below w.heap.size w A1 := by rw [hA1]; exact (Below.refl _ _).alloc (Nat.le_refl _) _
  have z1 : A1.heap.size = w.heap.size + 1 := by rw [hA1]; simp
  have z2 : W0.heap.size = w.heap.size + 2 := by rw [hW0]; simp; omega
  have b2 : Below w.heap.size w W0 := by rw [hW0]; exact b1.alloc (by omega) _
  have m0 : W0.heap[w.heap.size]? = some (.cells C.cs 31 (0, 0)) := by rw [hW0, Below.heap_alloc _ _ _ (by omega), hA1]; exact heap_alloc_new w _
  have m1 : W0.heap[w.heap.size + 1]? = some (.cells o.cs 54 (0, 0)) := by rw [hW0, ← z1]; exact heap_alloc_new A1 _
  have L := dd.lns
  have RB := hid (rowR_bounds c C w dd.p o)
  obtain ⟨fo, hfo⟩ : ∃ fo, fo = frm o.c := ⟨_, rfl⟩
  have KO : Hid (Calls Tryz.prog 101 #[.int .i64 o.c] W0 fun e w' => e = .returned (.tuple #[.agg fo.cs.toArray, .bool fo.ok]) ∧ Below W0.heap.size W0 w') := hid (by rw [hfo]; exact of_any W0 o.c)
  obtain ⟨⟨fr, mny, okr⟩, hrw⟩ : ∃ rw, rw = rowR c.p o := ⟨_, rfl⟩
  have KR : Hid (∀ V : World, Below w.heap.size w V → Calls Tryz.prog 102 #[C.h.v, .agg o.cs] V fun e w' => e = .returned (.tuple #[.int .i64 fr, .int .i64 mny, .bool okr]) ∧ Below V.heap.size V w') := hid (fun V hV => by
    have := row_any V C.h c.p (dd.p.below (Nat.le_refl _) hV) o
    unfold rowE at this
    rw [← hrw] at this; exact this)
  have RB2 : 0 ≤ mny ∧ mny ≤ 9223372036854775807 := by have := RB.out; rw [← hrw] at this; exact this
  have CX := hid (fun (V : World) (hV : Below W0.heap.size W0 V) (X : Nat) (hx : V.heap[X]? = some (.cells fo.cs.toArray 155 (0, 0))) => (⟨(hV.block _ (by omega)).trans m0, (hV.block _ (by omega)).trans m1, hx, b2.trans (hV.mono b2.size)⟩ : V.heap[w.heap.size]? = some (.cells C.cs 31 (0, 0)) ∧ V.heap[w.heap.size + 1]? = some (.cells o.cs 54 (0, 0)) ∧ V.heap[X]? = some (.cells fo.cs.toArray 155 (0, 0)) ∧ Below w.heap.size w V))
  obtain ⟨res, hres⟩ : ∃ res, res = refOp c regs n o := ⟨_, rfl⟩
  rw [← hres]
  obtain ⟨mo, hmo⟩ : ∃ mo, mo = mostI c n o := ⟨_, rfl⟩
  have HRES : Hid (res = (!bad2 fo.d fo.a fo.b fo.k fo.ok o && !bad5 regs fr mny okr && !bad7 fo.d regs o && !bad9 fo.a regs o && !bad11 fo.b regs o && fin27 mo o.k)) := hid (by rw [hres, hmo, hfo]; unfold refOp; rw [← hrw])
  have MO : Hid (mo = (if o.c = 1 then (C.inn : Int) else if o.c = 2 ∨ o.c = 32 then (C.tn : Int) else if o.c = 3 then 2 else if o.c = 25 then 12 else if o.c = 38 ∨ o.c = 39 then (n : Int) else -1)) := hid (by rw [hmo, L.i1, L.t1]; rfl)
  have li := L.i2
  have lt := L.t2
  have x0' := cellOf m1 0
  clear hres hmo hrw hfo dd b1 b2 m0 m1 z1 z2 RB L
  obtain ⟨⟨ra, rn, rc, ma, mn, mc, fa', fn, fc, ea, en, ec⟩, ia, inn, ic, ta, tn, tc, ga, gn, gc, ha, hn', hc'⟩ := C
  obtain ⟨oc, od, oa, ob, ok⟩ := o
  obtain ⟨fd, fa, fb, fk, fok⟩ := fo
  obtain ⟨r0, r1⟩ := RB2
  simp only [CH.v, CH.cs, Opx.cs, PH.v, Frm.cs] at hA1 hW0 KO KR CX HRES MO li lt x0' ⊢
  have CF := hid (fun (V : World) (hV : Below W0.heap.size W0 V) (X : Nat) hx => (by
    obtain ⟨g0, g1, g2, g3⟩ := CX.out V hV X hx
    exact ⟨⟨cellOf g0 0, cellOf g0 1, cellOf g0 2, cellOf g0 3, cellOf g0 4, cellOf g0 5⟩, ⟨cellOf g1 0, cellOf g1 1, cellOf g1 2, cellOf g1 3, cellOf g1 4⟩, ⟨cellOf g2 0, cellOf g2 1, cellOf g2 2, cellOf g2 3⟩, g3⟩ : (V.cell? ⟨w.heap.size, 0, none⟩ = some (.slice ra rn rc) ∧ V.cell? ⟨w.heap.size, 1, none⟩ = some (.slice ma mn mc) ∧ V.cell? ⟨w.heap.size, 2, none⟩ = some (.slice fa' fn fc) ∧ V.cell? ⟨w.heap.size, 3, none⟩ = some (.slice ea en ec) ∧ V.cell? ⟨w.heap.size, 4, none⟩ = some (.slice ia inn ic) ∧ V.cell? ⟨w.heap.size, 5, none⟩ = some (.slice ta tn tc)) ∧ (V.cell? ⟨w.heap.size + 1, 0, none⟩ = some (.int .i64 oc) ∧ V.cell? ⟨w.heap.size + 1, 1, none⟩ = some (.int .i64 od) ∧ V.cell? ⟨w.heap.size + 1, 2, none⟩ = some (.int .i64 oa) ∧ V.cell? ⟨w.heap.size + 1, 3, none⟩ = some (.int .i64 ob) ∧ V.cell? ⟨w.heap.size + 1, 4, none⟩ = some (.int .i64 ok)) ∧ (V.cell? ⟨X, 0, none⟩ = some (.bool fd) ∧ V.cell? ⟨X, 1, none⟩ = some (.bool fa) ∧ V.cell? ⟨X, 2, none⟩ = some (.bool fb) ∧ V.cell? ⟨X, 3, none⟩ = some (.bool fk)) ∧ Below w.heap.size w V))
  simp only [List.getElem?_toArray, List.getElem?_cons_zero] at x0'
  clear CX
  go_enter Tryz.func70, Tryz.ntmps70
  go_upto_region 1 with fail
  rw [← hA1, ← hW0]
  clear hA1 hW0
  go_upto_region 2 with (go_at_call 101; (refine (Hid.out KO).mono ?_; rintro e w1 ⟨rfl, hb1⟩; have HB1 := hid hb1; clear hb1))
  obtain ⟨W1, hW1⟩ : ∃ W1, W1 = w1.alloc (.cells #[.bool fd, .bool fa, .bool fb, .bool fk] 155) := ⟨_, rfl⟩
  obtain ⟨X, hX⟩ : ∃ X, X = w1.heap.size := ⟨_, rfl⟩
  have mX : W1.heap[X]? = some (.cells #[.bool fd, .bool fa, .bool fb, .bool fk] 155 (0, 0)) := by rw [hW1, hX]; exact heap_alloc_new w1 _
  have bW1 : Below W0.heap.size W0 W1 := by rw [hW1]; exact HB1.out.alloc HB1.out.size _
  rw [← hW1, ← hX]
  clear hW1 hX x0'
  have MX := hid mX
  have BW1 := hid bW1
  obtain ⟨⟨c0, c1, c2, c3, c4, c5⟩, ⟨x0, x1, x2, x3, x4⟩, ⟨y0, y1, y2, y3⟩, gb⟩ := CF.out W1 bW1 X mX
  have GB := hid gb
  clear mX bW1 gb KO HB1
  obtain ⟨b2, hb2⟩ : ∃ b2, b2 = bad2 fd fa fb fk fok ⟨oc, od, oa, ob, ok⟩ := ⟨_, rfl⟩
  have HB2 := hid hb2
  have HRES2 : Hid (res = (!b2 && !bad5 regs fr mny okr && !bad7 fd regs ⟨oc, od, oa, ob, ok⟩ && !bad9 fa regs ⟨oc, od, oa, ob, ok⟩ && !bad11 fb regs ⟨oc, od, oa, ob, ok⟩ && fin27 mo ok)) := hid (by rw [hb2]; exact HRES.out)
  clear hb2 HRES
  go_cut [61] from 20 to 61 (fun s wc => s = .bool b2 ∧ wc = W1)
  case first =>
    clear HRES2 MO KR CF
    cases fok with
    | false =>
      go_wp2
      go_meet
      exact ⟨by rw [HB2.out]; simp [bad2, bad5, bad7, bad9, bad11, fin27, *], rfl⟩
    | true =>
      cases fd with
      | true =>
        cases fa with
        | true =>
          cases fb with
          | true =>
            cases fk with
            | true =>
              go_wp2
              go_meet
              exact ⟨by rw [HB2.out]; simp [bad2, bad5, bad7, bad9, bad11, fin27, *], rfl⟩
            | false =>
              by_cases hok : ok = 0
              · have qok : (ok != 0) = false := by simp [hok]
                go_wp2
                go_meet
                exact ⟨by rw [HB2.out]; simp [bad2, bad5, bad7, bad9, bad11, fin27, *], rfl⟩
              · have qok : (ok != 0) = true := by simp [hok]
                go_wp2
                go_meet
                exact ⟨by rw [HB2.out]; simp [bad2, bad5, bad7, bad9, bad11, fin27, *], rfl⟩
          | false =>
            by_cases hob : ob = 0
            · have qob : (ob != 0) = false := by simp [hob]
              cases fk with
              | true =>
                go_wp2
                go_meet
                exact ⟨by rw [HB2.out]; simp [bad2, bad5, bad7, bad9, bad11, fin27, *], rfl⟩
              | false =>
                by_cases hok : ok = 0
                · have qok : (ok != 0) = false := by simp [hok]
                  go_wp2
                  go_meet
                  exact ⟨by rw [HB2.out]; simp [bad2, bad5, bad7, bad9, bad11, fin27, *], rfl⟩
                · have qok : (ok != 0) = true := by simp [hok]
                  go_wp2
                  go_meet
                  exact ⟨by rw [HB2.out]; simp [bad2, bad5, bad7, bad9, bad11, fin27, *], rfl⟩
            · have qob : (ob != 0) = true := by simp [hob]
              go_wp2
              go_meet
              exact ⟨by rw [HB2.out]; simp [bad2, bad5, bad7, bad9, bad11, fin27, *], rfl⟩
        | false =>
          by_cases hoa : oa = 0
          · have qoa : (oa != 0) = false := by simp [hoa]
            cases fb with
            | true =>
              cases fk with
              | true =>
                go_wp2
                go_meet
                exact ⟨by rw [HB2.out]; simp [bad2, bad5, bad7, bad9, bad11, fin27, *], rfl⟩
              | false =>
                by_cases hok : ok = 0
                · have qok : (ok != 0) = false := by simp [hok]
                  go_wp2
                  go_meet
                  exact ⟨by rw [HB2.out]; simp [bad2, bad5, bad7, bad9, bad11, fin27, *], rfl⟩
                · have qok : (ok != 0) = true := by simp [hok]
                  go_wp2
                  go_meet
                  exact ⟨by rw [HB2.out]; simp [bad2, bad5, bad7, bad9, bad11, fin27, *], rfl⟩
            | false =>
              by_cases hob : ob = 0
              · have qob : (ob != 0) = false := by simp [hob]
                cases fk with
                | true =>
                  go_wp2
                  go_meet
                  exact ⟨by rw [HB2.out]; simp [bad2, bad5, bad7, bad9, bad11, fin27, *], rfl⟩
                | false =>
                  by_cases hok : ok = 0
                  · have qok : (ok != 0) = false := by simp [hok]
                    go_wp2
                    go_meet
                    exact ⟨by rw [HB2.out]; simp [bad2, bad5, bad7, bad9, bad11, fin27, *], rfl⟩
                  · have qok : (ok != 0) = true := by simp [hok]
                    go_wp2
                    go_meet
                    exact ⟨by rw [HB2.out]; simp [bad2, bad5, bad7, bad9, bad11, fin27, *], rfl⟩
              · have qob : (ob != 0) = true := by simp [hob]
                go_wp2
                go_meet
                exact ⟨by rw [HB2.out]; simp [bad2, bad5, bad7, bad9, bad11, fin27, *], rfl⟩
          · have qoa : (oa != 0) = true := by simp [hoa]
            go_wp2
            go_meet
            exact ⟨by rw [HB2.out]; simp [bad2, bad5, bad7, bad9, bad11, fin27, *], rfl⟩
      | false =>
        by_cases hod : od = 0
        · have qod : (od != 0) = false := by simp [hod]
          cases fa with
          | true =>
            cases fb with
            | true =>
              cases fk with
              | true =>
                go_wp2
                go_meet
                exact ⟨by rw [HB2.out]; simp [bad2, bad5, bad7, bad9, bad11, fin27, *], rfl⟩
              | false =>
                by_cases hok : ok = 0
                · have qok : (ok != 0) = false := by simp [hok]
                  go_wp2
                  go_meet
                  exact ⟨by rw [HB2.out]; simp [bad2, bad5, bad7, bad9, bad11, fin27, *], rfl⟩
                · have qok : (ok != 0) = true := by simp [hok]
                  go_wp2
                  go_meet
                  exact ⟨by rw [HB2.out]; simp [bad2, bad5, bad7, bad9, bad11, fin27, *], rfl⟩
            | false =>
              by_cases hob : ob = 0
              · have qob : (ob != 0) = false := by simp [hob]
                cases fk with
                | true =>
                  go_wp2
                  go_meet
                  exact ⟨by rw [HB2.out]; simp [bad2, bad5, bad7, bad9, bad11, fin27, *], rfl⟩
                | false =>
                  by_cases hok : ok = 0
                  · have qok : (ok != 0) = false := by simp [hok]
                    go_wp2
                    go_meet
                    exact ⟨by rw [HB2.out]; simp [bad2, bad5, bad7, bad9, bad11, fin27, *], rfl⟩
                  · have qok : (ok != 0) = true := by simp [hok]
                    go_wp2
                    go_meet
                    exact ⟨by rw [HB2.out]; simp [bad2, bad5, bad7, bad9, bad11, fin27, *], rfl⟩
              · have qob : (ob != 0) = true := by simp [hob]
                go_wp2
                go_meet
                exact ⟨by rw [HB2.out]; simp [bad2, bad5, bad7, bad9, bad11, fin27, *], rfl⟩
          | false =>
            by_cases hoa : oa = 0
            · have qoa : (oa != 0) = false := by simp [hoa]
              cases fb with
              | true =>
                cases fk with
                | true =>
                  go_wp2
                  go_meet
                  exact ⟨by rw [HB2.out]; simp [bad2, bad5, bad7, bad9, bad11, fin27, *], rfl⟩
                | false =>
                  by_cases hok : ok = 0
                  · have qok : (ok != 0) = false := by simp [hok]
                    go_wp2
                    go_meet
                    exact ⟨by rw [HB2.out]; simp [bad2, bad5, bad7, bad9, bad11, fin27, *], rfl⟩
                  · have qok : (ok != 0) = true := by simp [hok]
                    go_wp2
                    go_meet
                    exact ⟨by rw [HB2.out]; simp [bad2, bad5, bad7, bad9, bad11, fin27, *], rfl⟩
              | false =>
                by_cases hob : ob = 0
                · have qob : (ob != 0) = false := by simp [hob]
                  cases fk with
                  | true =>
                    go_wp2
                    go_meet
                    exact ⟨by rw [HB2.out]; simp [bad2, bad5, bad7, bad9, bad11, fin27, *], rfl⟩
                  | false =>
                    by_cases hok : ok = 0
                    · have qok : (ok != 0) = false := by simp [hok]
                      go_wp2
                      go_meet
                      exact ⟨by rw [HB2.out]; simp [bad2, bad5, bad7, bad9, bad11, fin27, *], rfl⟩
                    · have qok : (ok != 0) = true := by simp [hok]
                      go_wp2
                      go_meet
                      exact ⟨by rw [HB2.out]; simp [bad2, bad5, bad7, bad9, bad11, fin27, *], rfl⟩
                · have qob : (ob != 0) = true := by simp [hob]
                  go_wp2
                  go_meet
                  exact ⟨by rw [HB2.out]; simp [bad2, bad5, bad7, bad9, bad11, fin27, *], rfl⟩
            · have qoa : (oa != 0) = true := by simp [hoa]
              go_wp2
              go_meet
              exact ⟨by rw [HB2.out]; simp [bad2, bad5, bad7, bad9, bad11, fin27, *], rfl⟩
        · have qod : (od != 0) = true := by simp [hod]
          go_wp2
          go_meet
          exact ⟨by rw [HB2.out]; simp [bad2, bad5, bad7, bad9, bad11, fin27, *], rfl⟩
  case rest =>
  obtain ⟨rfl, rfl⟩ := hcut
  clear HB2
  cases b2 with
  | true =>
    have HF : Hid (res = false) := hid (by rw [HRES2.out]; simp)
    go_wp2
    go_ret
    exact ⟨by rw [HF.out]; rfl, GB.out⟩
  | false =>
  have KRw := hid (KR.out wc GB.out)
  go_upto_region 5 with (go_at_call 102; (refine (Hid.out KRw).mono ?_; rintro e w2 ⟨rfl, hb2⟩; have HBB := hid hb2; clear hb2))
  clear c0 c1 c2 c3 c4 c5 x0 x1 x2 x3 x4 y0 y1 y2 y3
  obtain ⟨⟨c0, c1, c2, c3, c4, c5⟩, ⟨x0, x1, x2, x3, x4⟩, ⟨y0, y1, y2, y3⟩, gb⟩ := CF.out w2 (BW1.out.trans (HBB.out.mono BW1.out.size)) X ((HBB.out.block _ (lt_of_heap MX.out)).trans MX.out)
  clear GB
  have GB := hid gb
  clear gb KR KRw HBB BW1 MX CF
  go_upto_region 5 with fail
  obtain ⟨b5, hb5⟩ : ∃ b5, b5 = bad5 regs fr mny okr := ⟨_, rfl⟩
  have HB := hid hb5
  have HR3 : Hid (res = (!b5 && !bad7 fd regs ⟨oc, od, oa, ob, ok⟩ && !bad9 fa regs ⟨oc, od, oa, ob, ok⟩ && !bad11 fb regs ⟨oc, od, oa, ob, ok⟩ && fin27 mo ok)) := hid (by rw [hb5, HRES2.out]; simp [Bool.and_assoc])
  clear hb5 HRES2
  have HRES2 := HR3
  clear HR3
  go_cut [87] from 70 to 87 (fun s wx => s = .bool b5 ∧ wx = w2)
  case first =>
    clear HRES2 MO
    cases okr with
    | true =>
      by_cases p1 : fr < 0
      · have dp1 : decide (fr < 0) = true := decide_eq_true p1
        go_wp2
        go_meet
        exact ⟨by rw [HB.out]; simp [bad2, bad5, bad7, bad9, bad11, fin27, *], rfl⟩
      · have dp1 : decide (fr < 0) = false := decide_eq_false p1
        by_cases p2 : regs < fr
        · have dp2 : decide (regs < fr) = true := decide_eq_true p2
          go_wp2
          go_meet
          exact ⟨by rw [HB.out]; simp [bad2, bad5, bad7, bad9, bad11, fin27, *], rfl⟩
        · have dp2 : decide (regs < fr) = false := decide_eq_false p2
          have wq : IntKind.i64.wrap (regs - fr) = regs - fr := by rw [IntKind.wrap_i64]; omega
          by_cases p3 : regs - fr < mny
          · have dp3 : decide (regs - fr < mny) = true := decide_eq_true p3
            go_wp2
            go_meet
            exact ⟨by rw [HB.out]; simp [bad2, bad5, bad7, bad9, bad11, fin27, *], rfl⟩
          · have dp3 : decide (regs - fr < mny) = false := decide_eq_false p3
            go_wp2
            go_meet
            exact ⟨by rw [HB.out]; simp [bad2, bad5, bad7, bad9, bad11, fin27, *], rfl⟩
    | false =>
      go_wp2
      go_meet
      exact ⟨by rw [HB.out]; simp [bad2, bad5, bad7, bad9, bad11, fin27, *], rfl⟩
  case rest =>
  obtain ⟨rfl, rfl⟩ := hcut
  clear HB
  cases b5 with
  | true =>
    have HF : Hid (res = false) := hid (by rw [HRES2.out]; simp)
    go_wp2
    go_ret
    exact ⟨by rw [HF.out]; rfl, GB.out⟩
  | false =>
  go_upto_region 7 with fail
  obtain ⟨b7, hb7⟩ : ∃ b7, b7 = bad7 fd regs ⟨oc, od, oa, ob, ok⟩ := ⟨_, rfl⟩
  have HB := hid hb7
  have HR3 : Hid (res = (!b7 && !bad9 fa regs ⟨oc, od, oa, ob, ok⟩ && !bad11 fb regs ⟨oc, od, oa, ob, ok⟩ && fin27 mo ok)) := hid (by rw [hb7, HRES2.out]; simp [Bool.and_assoc])
  clear hb7 HRES2
  have HRES2 := HR3
  clear HR3
  go_cut [110] from 88 to 110 (fun s wx => s = .bool b7 ∧ wx = wc)
  case first =>
    clear HRES2 MO
    cases fd with
    | true =>
      by_cases e1 : regs ≤ od
      · have de1 : decide (regs ≤ od) = true := decide_eq_true e1
        go_wp2
        go_meet
        exact ⟨by rw [HB.out]; simp [bad2, bad5, bad7, bad9, bad11, fin27, *], rfl⟩
      · have de1 : decide (regs ≤ od) = false := decide_eq_false e1
        by_cases e2 : od < 0
        · have de2 : decide (od < 0) = true := decide_eq_true e2
          by_cases e3 : oc = 31
          · have qe3 : (oc != 31) = false := by simp [e3]
            clear e3
            by_cases e4 : od = -1
            · have qe4 : (od != -1) = false := by simp [e4]
              clear e4
              go_wp2
              go_meet
              exact ⟨by rw [HB.out]; simp [bad2, bad5, bad7, bad9, bad11, fin27, *], rfl⟩
            · have qe4 : (od != -1) = true := by simp [e4]
              go_wp2
              go_meet
              exact ⟨by rw [HB.out]; simp [bad2, bad5, bad7, bad9, bad11, fin27, *], rfl⟩
          · have qe3 : (oc != 31) = true := by simp [e3]
            go_wp2
            go_meet
            exact ⟨by rw [HB.out]; simp [bad2, bad5, bad7, bad9, bad11, fin27, *], rfl⟩
        · have de2 : decide (od < 0) = false := decide_eq_false e2
          go_wp2
          go_meet
          exact ⟨by rw [HB.out]; simp [bad2, bad5, bad7, bad9, bad11, fin27, *], rfl⟩
    | false =>
      go_wp2
      go_meet
      exact ⟨by rw [HB.out]; simp [bad2, bad5, bad7, bad9, bad11, fin27, *], rfl⟩
  case rest =>
  obtain ⟨rfl, rfl⟩ := hcut
  clear HB
  cases b7 with
  | true =>
    have HF : Hid (res = false) := hid (by rw [HRES2.out]; simp)
    go_wp2
    go_ret
    exact ⟨by rw [HF.out]; rfl, GB.out⟩
  | false =>
  go_upto_region 9 with fail
  obtain ⟨b9, hb9⟩ : ∃ b9, b9 = bad9 fa regs ⟨oc, od, oa, ob, ok⟩ := ⟨_, rfl⟩
  have HB := hid hb9
  have HR3 : Hid (res = (!b9 && !bad11 fb regs ⟨oc, od, oa, ob, ok⟩ && fin27 mo ok)) := hid (by rw [hb9, HRES2.out]; simp [Bool.and_assoc])
  clear hb9 HRES2
  have HRES2 := HR3
  clear HR3
  go_cut [143] from 111 to 143 (fun s wx => s = .bool b9 ∧ wx = wc)
  case first =>
    clear HRES2 MO
    cases fa with
    | true =>
      by_cases a1 : oc = 24
      · have qa1 : (oc != 24) = false := by simp [a1]
        clear a1
        go_wp2
        go_meet
        exact ⟨by rw [HB.out]; simp [bad2, bad5, bad7, bad9, bad11, fin27, *], rfl⟩
      · have qa1 : (oc != 24) = true := by simp [a1]
        by_cases a2 : oc = 31
        · have qa2 : (oc != 31) = false := by simp [a2]
          clear a2
          go_wp2
          go_meet
          exact ⟨by rw [HB.out]; simp [bad2, bad5, bad7, bad9, bad11, fin27, *], rfl⟩
        · have qa2 : (oc != 31) = true := by simp [a2]
          by_cases e1 : regs ≤ oa
          · have de1 : decide (regs ≤ oa) = true := decide_eq_true e1
            go_wp2
            go_meet
            exact ⟨by rw [HB.out]; simp [bad2, bad5, bad7, bad9, bad11, fin27, *], rfl⟩
          · have de1 : decide (regs ≤ oa) = false := decide_eq_false e1
            by_cases e2 : oa < 0
            · have de2 : decide (oa < 0) = true := decide_eq_true e2
              by_cases e3 : oc = 40
              · have qe3 : (oc != 40) = false := by simp [e3]
                clear e3
                by_cases e4 : oa = -1
                · have qe4 : (oa != -1) = false := by simp [e4]
                  clear e4
                  go_wp2
                  go_meet
                  exact ⟨by rw [HB.out]; simp [bad2, bad5, bad7, bad9, bad11, fin27, *], rfl⟩
                · have qe4 : (oa != -1) = true := by simp [e4]
                  go_wp2
                  go_meet
                  exact ⟨by rw [HB.out]; simp [bad2, bad5, bad7, bad9, bad11, fin27, *], rfl⟩
              · have qe3 : (oc != 40) = true := by simp [e3]
                go_wp2
                go_meet
                exact ⟨by rw [HB.out]; simp [bad2, bad5, bad7, bad9, bad11, fin27, *], rfl⟩
            · have de2 : decide (oa < 0) = false := decide_eq_false e2
              go_wp2
              go_meet
              exact ⟨by rw [HB.out]; simp [bad2, bad5, bad7, bad9, bad11, fin27, *], rfl⟩
    | false =>
      go_wp2
      go_meet
      exact ⟨by rw [HB.out]; simp [bad2, bad5, bad7, bad9, bad11, fin27, *], rfl⟩
  case rest =>
  obtain ⟨rfl, rfl⟩ := hcut
  clear HB
  cases b9 with
  | true =>
    have HF : Hid (res = false) := hid (by rw [HRES2.out]; simp)
    go_wp2
    go_ret
    exact ⟨by rw [HF.out]; rfl, GB.out⟩
  | false =>
  go_upto_region 11 with fail
  obtain ⟨b11, hb11⟩ : ∃ b11, b11 = bad11 fb regs ⟨oc, od, oa, ob, ok⟩ := ⟨_, rfl⟩
  have HB := hid hb11
  have HR3 : Hid (res = (!b11 && fin27 mo ok)) := hid (by rw [hb11, HRES2.out]; simp [Bool.and_assoc])
  clear hb11 HRES2
  have HRES2 := HR3
  clear HR3
  go_cut [161] from 144 to 161 (fun s wx => s = .bool b11 ∧ wx = wc)
  case first =>
    clear HRES2 MO
    cases fb with
    | true =>
      by_cases a1 : oc = 34
      · have qa1 : (oc != 34) = false := by simp [a1]
        clear a1
        go_wp2
        go_meet
        exact ⟨by rw [HB.out]; simp [bad2, bad5, bad7, bad9, bad11, fin27, *], rfl⟩
      · have qa1 : (oc != 34) = true := by simp [a1]
        by_cases e2 : ob < 0
        · have de2 : decide (ob < 0) = true := decide_eq_true e2
          go_wp2
          go_meet
          exact ⟨by rw [HB.out]; simp [bad2, bad5, bad7, bad9, bad11, fin27, *], rfl⟩
        · have de2 : decide (ob < 0) = false := decide_eq_false e2
          by_cases e1 : regs ≤ ob
          · have de1 : decide (regs ≤ ob) = true := decide_eq_true e1
            go_wp2
            go_meet
            exact ⟨by rw [HB.out]; simp [bad2, bad5, bad7, bad9, bad11, fin27, *], rfl⟩
          · have de1 : decide (regs ≤ ob) = false := decide_eq_false e1
            go_wp2
            go_meet
            exact ⟨by rw [HB.out]; simp [bad2, bad5, bad7, bad9, bad11, fin27, *], rfl⟩
    | false =>
      go_wp2
      go_meet
      exact ⟨by rw [HB.out]; simp [bad2, bad5, bad7, bad9, bad11, fin27, *], rfl⟩
  case rest =>
  obtain ⟨rfl, rfl⟩ := hcut
  clear HB
  cases b11 with
  | true =>
    have HF : Hid (res = false) := hid (by rw [HRES2.out]; simp)
    go_wp2
    go_ret
    exact ⟨by rw [HF.out]; rfl, GB.out⟩
  | false =>
  have HR3 : Hid (res = fin27 mo ok) := hid (by rw [HRES2.out]; simp)
  clear HRES2
  go_upto_block 0 with fail
  go_cut [13] from 164 to 182 (fun s wx => s = .int .i64 mo ∧ wx = wc)
  case first =>
    clear HR3
    by_cases m1 : oc = 1
    · subst m1
      go_wp2
      go_meet
      exact ⟨by rw [MO.out]; simp [*], rfl⟩
    have n1 : (oc == 1) = false := by simp [m1]
    by_cases m2 : oc = 2
    · subst m2
      go_wp2
      go_meet
      exact ⟨by rw [MO.out]; simp [*], rfl⟩
    have n2 : (oc == 2) = false := by simp [m2]
    by_cases m32 : oc = 32
    · subst m32
      go_wp2
      go_meet
      exact ⟨by rw [MO.out]; simp [*], rfl⟩
    have n32 : (oc == 32) = false := by simp [m32]
    by_cases m3 : oc = 3
    · subst m3
      go_wp2
      go_meet
      exact ⟨by rw [MO.out]; simp [*], rfl⟩
    have n3 : (oc == 3) = false := by simp [m3]
    by_cases m25 : oc = 25
    · subst m25
      go_wp2
      go_meet
      exact ⟨by rw [MO.out]; simp [*], rfl⟩
    have n25 : (oc == 25) = false := by simp [m25]
    by_cases m38 : oc = 38
    · subst m38
      go_wp2
      go_meet
      exact ⟨by rw [MO.out]; simp [*], rfl⟩
    have n38 : (oc == 38) = false := by simp [m38]
    by_cases m39 : oc = 39
    · subst m39
      go_wp2
      go_meet
      exact ⟨by rw [MO.out]; simp [*], rfl⟩
    have n39 : (oc == 39) = false := by simp [m39]
    go_wp2
    go_meet
    exact ⟨by rw [MO.out]; simp [*], rfl⟩
  case rest =>
  obtain ⟨rfl, rfl⟩ := hcut
  clear MO
  by_cases e1 : mo < 0
  · have de1 : decide (mo < 0) = true := decide_eq_true e1
    go_wp2
    go_ret
    exact ⟨by rw [HR3.out]; simp [fin27, *], GB.out⟩
  · have de1 : decide (mo < 0) = false := decide_eq_false e1
    by_cases e2 : 0 ≤ ok
    · have de2 : decide (0 ≤ ok) = true := decide_eq_true e2
      by_cases e3 : ok < mo
      · have de3 : decide (ok < mo) = true := decide_eq_true e3
        go_wp2
        go_ret
        exact ⟨by rw [HR3.out]; simp [fin27, *], GB.out⟩
      · have de3 : decide (ok < mo) = false := decide_eq_false e3
        go_wp2
        go_ret
        exact ⟨by rw [HR3.out]; simp [fin27, *], GB.out⟩
    · have de2 : decide (0 ≤ ok) = false := decide_eq_false e2
      go_wp2
      go_ret
      exact ⟨by rw [HR3.out]; simp [fin27, *], GB.out⟩
end Go.Proofs.YthnolocldeokeaaGreat

