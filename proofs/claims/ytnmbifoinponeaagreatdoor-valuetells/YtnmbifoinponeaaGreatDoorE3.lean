/- The document's side: names of types; whether a value is of a type. -/
import Derived.Test.YtnmbifoinponeaaGreatDoorA3
import Derived.Test.YtnmbifoinponeaaGreatDoorY
import Derived.Test.YtnmbifoinponeaaGreatDoorQ2
import Derived.Test.YtnmbifoinponeaaGreatDoorA2
namespace Go.Proofs.YtnmbifoinponeaaGreatDoor
open Go.RowKit Go.Deep Go.Shelf
set_option linter.unusedVariables false
set_option linter.unusedSimpArgs false

set_option maxHeartbeats 1000000 in
theorem refName (w : World) (h : PH) (p : Pg) (d : PRd w h p) (k r : Int) :
    Calls Tryz.prog 20 #[h.v, ty k r] w fun e w' => e = .returned (.string (nameT p (k, r))) ∧ Below w.heap.size w w' := by
  have K := hid (fun w' => refIsType w' h k r d.r.n2)
  have e0 : h.rn = p.rn := d.r.n1
  have hrn := d.r.n2
  have Dr := hid d.r
  rw [e0] at K
  clear d
  obtain ⟨ra, rn, rc, ma, mn, mc, fa, fn, fc, ea, en, ec⟩ := h
  simp only at e0 hrn
  have E0 := hid e0
  clear e0
  simp only [PH.v, ty] at K ⊢
  obtain ⟨W0, hW0⟩ : ∃ W0, W0 = (w.alloc (.cells #[.slice ra rn rc, .slice ma mn mc, .slice fa fn fc, .slice ea en ec] 26)).alloc (.cells #[.int .i64 k, .int .i64 r] 28) := ⟨_, rfl⟩
  have hb0 : Below w.heap.size w W0 := by rw [hW0]; exact two_boxes _ _ _ _ _
  have b1 : W0.heap[w.heap.size]? = some (.cells #[.slice ra rn rc, .slice ma mn mc, .slice fa fn fc, .slice ea en ec] 26 (0, 0)) := by rw [hW0]; exact boxA _ _ _ _ _
  have b2 : W0.heap[w.heap.size + 1]? = some (.cells #[.int .i64 k, .int .i64 r] 28 (0, 0)) := by rw [hW0]; exact boxB _ _ _ _ _
  have FX : Hid (∀ w2 : World, Below W0.heap.size W0 w2 → w2.cell? ⟨w.heap.size, 0, none⟩ = some (.slice ra rn rc) ∧ w2.cell? ⟨w.heap.size + 1, 0, none⟩ = some (.int .i64 k) ∧ w2.cell? ⟨w.heap.size + 1, 1, none⟩ = some (.int .i64 r) ∧ Below w.heap.size w w2) := hid (fun w2 hb => by
    have bx := (hb.block _ (Array.getElem?_eq_some_iff.1 b1).1).trans b1
    have by' := (hb.block _ (Array.getElem?_eq_some_iff.1 b2).1).trans b2
    exact ⟨cellOf bx 0, cellOf by' 0, cellOf by' 1, hb0.trans (hb.mono hb0.size)⟩)
  clear b1 b2 hb0
  obtain ⟨res, hres⟩ : ∃ res, res = nameT p (k, r) := ⟨_, rfl⟩
  rw [← hres]
  have Hres := hid hres
  clear hres
  cases q : typB p.rn (k, r) with
  | false =>
    simp only [q] at K
    have HV : Hid (res = noneS) := hid (by rw [Hres.out]; unfold nameT; rw [if_pos q])
    go_enter Tryz.func20, Tryz.ntmps20
    go_wp2_with (go_at_call 27; (rw [← hW0]; refine (Hid.out K _).mono ?_; rintro e w1 ⟨rfl, hb1⟩; obtain ⟨p0, p1, p2, pb⟩ := FX.out w1 hb1))
    go_ret
    exact ⟨by rw [HV.out]; rfl, pb⟩
  | true =>
    simp only [q] at K
    have hq : ¬ typB p.rn (k, r) = false := by rw [q]; simp
    by_cases k1 : k = 1
    · subst k1
      have HV : Hid (res = ⟨#[105, 110, 116]⟩) := hid (by rw [Hres.out]; unfold nameT; rw [if_neg hq]; simp)
      clear hq
      go_enter Tryz.func20, Tryz.ntmps20
      go_wp2_with (go_at_call 27; (rw [← hW0]; refine (Hid.out K _).mono ?_; rintro e w1 ⟨rfl, hb1⟩; obtain ⟨p0, p1, p2, pb⟩ := FX.out w1 hb1))
      go_ret
      exact ⟨by rw [HV.out]; rfl, pb⟩
    · have k1' : (k == 1) = false := by simpa using k1
      by_cases k2 : k = 2
      · subst k2
        have HV : Hid (res = ⟨#[116, 101, 120, 116]⟩) := hid (by rw [Hres.out]; unfold nameT; rw [if_neg hq]; simp)
        clear hq
        go_enter Tryz.func20, Tryz.ntmps20
        go_wp2_with (go_at_call 27; (rw [← hW0]; refine (Hid.out K _).mono ?_; rintro e w1 ⟨rfl, hb1⟩; obtain ⟨p0, p1, p2, pb⟩ := FX.out w1 hb1))
        go_ret
        exact ⟨by rw [HV.out]; rfl, pb⟩
      · have k2' : (k == 2) = false := by simpa using k2
        by_cases k3 : k = 3
        · subst k3
          have HV : Hid (res = ⟨#[98, 111, 111, 108]⟩) := hid (by rw [Hres.out]; unfold nameT; rw [if_neg hq]; simp)
          clear hq
          go_enter Tryz.func20, Tryz.ntmps20
          go_wp2_with (go_at_call 27; (rw [← hW0]; refine (Hid.out K _).mono ?_; rintro e w1 ⟨rfl, hb1⟩; obtain ⟨p0, p1, p2, pb⟩ := FX.out w1 hb1))
          go_ret
          exact ⟨by rw [HV.out]; rfl, pb⟩
        · have k3' : (k == 3) = false := by simpa using k3
          have hr : 0 ≤ r ∧ r < (rn : Int) := by
            unfold typB simB at q
            rw [E0.out]
            by_cases h4 : k = 4
            · simp only [h4, if_true, Bool.and_eq_true, decide_eq_true_eq] at q
              exact q
            · simp [h4, k1, k2, k3] at q
          obtain ⟨ri, rfl⟩ : ∃ ri : Nat, r = (ri : Int) := ⟨r.toNat, by omega⟩
          have hri : ri < rn := by omega
          obtain ⟨x, hx⟩ : ∃ x, p.recs[ri]? = some x := ⟨p.recs[ri]'(by have := E0.out; unfold Pg.rn at this; omega), by rw [List.getElem?_eq_getElem]⟩
          have HV : Hid (res = x.1.name) := hid (by
            rw [Hres.out]; unfold nameT; rw [if_neg hq]
            simp only [k1, k2, k3, if_false, Int.toNat_natCast, hx, Option.map_some, Option.getD_some]
            exact (Dr.out.el x (List.mem_of_getElem? hx)).nm.symm)
          obtain ⟨b1, o1, ea', hb1, e1⟩ := Dr.out.rd ri x.1.cs (by simp [hx])
          subst ea'
          have hc := e1 0 (by omega)
          simp only [RH.cs, List.getElem?_cons_zero, Nat.add_zero] at hc
          have Hc := hid hc
          have hi0 : (0 : Int) ≤ (ri : Int) := by omega
          have hi1 : (ri : Int) < (rn : Int) := by omega
          have Hb1 := hid hb1
          clear hq hr e1 hx hc hb1
          go_enter Tryz.func20, Tryz.ntmps20
          go_wp2_with (go_at_call 27; (rw [← hW0]; refine (Hid.out K _).mono ?_; rintro e w1 ⟨rfl, hb1⟩; obtain ⟨p0, p1, p2, pb⟩ := FX.out w1 hb1; have hc1 := (pb.cell (p := ⟨b1, o1 + ri * 3, none⟩) Hb1.out).trans Hc.out))
          go_ret
          exact ⟨by rw [HV.out]; rfl, pb⟩


/- Of a right program: a field's type has no record's number, a plain value's field none either. -/
theorem fieldsAre_kinds {r : Rc} {fs : List Hd} (hl : r.fields.length = r.types.length) (ht : r.types.all simB = true) (hf : fs.all simpleB = true) : fieldsAre r fs = (decide (fs.length = r.types.length) && (List.range r.types.length).all fun i => decide (((fs[i]?).map fun f => f.kind) = some (r.types.getD i (0, 0)).1)) := by
  unfold fieldsAre
  rw [hl]
  by_cases hn : fs.length = r.types.length
  · rw [decide_eq_true hn, Bool.true_and, Bool.true_and, Bool.eq_iff_iff, List.all_eq_true, List.all_eq_true]
    refine forall_congr' fun i => ?_
    refine imp_congr_right fun hi => ?_
    have hil := List.mem_range.1 hi
    have h1 := (List.all_eq_true.1 hf) fs[i] (List.getElem_mem (by omega))
    have h2 := (List.all_eq_true.1 ht) r.types[i] (List.getElem_mem hil)
    unfold simpleB at h1
    unfold simB at h2
    simp only [Bool.and_eq_true, decide_eq_true_eq] at h1 h2
    rw [List.getD_eq_getElem?_getD, List.getElem?_eq_getElem hil, List.getElem?_eq_getElem (show i < fs.length by omega)]
    simp only [Option.map_some, Option.getD_some, Option.some.injEq, decide_eq_true_eq]
    generalize r.types[i] = q at *
    obtain ⟨a, b⟩ := q
    simp only at h2
    simp only [Prod.mk.injEq, h1.1.1, h2.1, and_true]
  · rw [decide_eq_false hn]; rfl
theorem three_boxes (w : World) (c1 c2 c3 : Array Value) (t1 t2 t3 : TypeId) : ∀ W0, W0 = (((w.alloc (.cells c1 t1)).alloc (.cells c2 t2)).alloc (.cells c3 t3)) → Below w.heap.size w W0 ∧ W0.heap[w.heap.size]? = some (.cells c1 t1 (0, 0)) ∧ W0.heap[w.heap.size + 1]? = some (.cells c2 t2 (0, 0)) ∧ W0.heap[w.heap.size + 1 + 1]? = some (.cells c3 t3 (0, 0)) := by
  rintro W0 rfl
  refine ⟨(((Below.refl _ w).alloc (Nat.le_refl _) _).alloc (by simp) _).alloc (by simp; omega) _, ?_, ?_, ?_⟩
  · rw [Below.heap_alloc _ _ _ (by simp; omega), Below.heap_alloc _ _ _ (by simp)]; exact heap_alloc_new w _
  · rw [Below.heap_alloc _ _ _ (by simp)]; have := heap_alloc_new (w.alloc (.cells c1 t1)) (.cells c2 t2); simpa using this
  · have := heap_alloc_new ((w.alloc (.cells c1 t1)).alloc (.cells c2 t2)) (.cells c3 t3); simpa using this
def kindsB (ts : List TyP) (fs : List Hd) (i : Nat) : Bool := decide (((fs[i]?).map fun f => f.kind) = some (ts.getD i (0, 0)).1)
set_option maxRecDepth 100000 in
set_option maxHeartbeats 2000000 in
theorem refIs (w : World) (g : PH) (p : Pg) (d : PRd w g p) (hR : rightB p = true) (k r : Int) (h : Hd) (fs : List Hd) (hin : h.In) (hn : h.n = fs.length) (hv : VRd w h.a fs) (hfs : ∀ f ∈ fs, f.In) :
    Calls Tryz.prog 16 #[g.v, ty k r, h.v] w fun e w' => e = .returned (.bool (isB p (k, r) h fs)) ∧ Below w.heap.size w w' := by
  obtain ⟨hl16, hrecs⟩ := right_recs hR
  have K27 := hid (fun w' => refIsType w' g k r d.r.n2)
  have e0 : g.rn = p.rn := d.r.n1
  rw [e0] at K27
  have K43 := hid (fun (w1 : World) (hb : Below w.heap.size w w1) => refPlain_any w1 h fs hin hn (hv.below (Nat.le_refl _) hb) hfs)
  obtain ⟨res, hres⟩ : ∃ res, res = isB p (k, r) h fs := ⟨_, rfl⟩
  rw [← hres]
  unfold isB at hres
  simp only at hres
  have Dr := hid d.r
  have HV := hid hv
  have E0 := hid e0
  have Hrecs := hid hrecs
  have hn9 := hin.n
  have hg9 := d.r.n2
  clear d hv hrecs e0 hR hfs hin
  obtain ⟨ra, rn, rc, ma, mn, mc, fa, fn, fc, ea, en, ec⟩ := g
  obtain ⟨hk, hi, ht, hr, ha, hm, hc⟩ := h
  simp only at hn hres hn9 hg9
  simp only [PH.v, ty, Hd.v] at K27 K43 ⊢
  obtain ⟨W0, hW0⟩ : ∃ W0, W0 = (((w.alloc (.cells #[.slice ra rn rc, .slice ma mn mc, .slice fa fn fc, .slice ea en ec] 26)).alloc (.cells #[.int .i64 k, .int .i64 r] 28)).alloc (.cells #[.int .i64 hk, .int .i64 hi, .string ht, .int .i64 hr, .slice ha hm hc] 31)) := ⟨_, rfl⟩
  obtain ⟨hb0, b1, b2, b3⟩ := three_boxes w _ _ _ 26 28 31 W0 hW0
  have FX : Hid (∀ w2 : World, Below W0.heap.size W0 w2 → w2.cell? ⟨w.heap.size, 0, none⟩ = some (.slice ra rn rc) ∧ w2.cell? ⟨w.heap.size + 1, 0, none⟩ = some (.int .i64 k) ∧ w2.cell? ⟨w.heap.size + 1, 1, none⟩ = some (.int .i64 r) ∧ w2.cell? ⟨w.heap.size + 1 + 1, 0, none⟩ = some (.int .i64 hk) ∧ w2.cell? ⟨w.heap.size + 1 + 1, 1, none⟩ = some (.int .i64 hi) ∧ w2.cell? ⟨w.heap.size + 1 + 1, 2, none⟩ = some (.string ht) ∧ w2.cell? ⟨w.heap.size + 1 + 1, 3, none⟩ = some (.int .i64 hr) ∧ w2.cell? ⟨w.heap.size + 1 + 1, 4, none⟩ = some (.slice ha hm hc) ∧ Below w.heap.size w w2) := hid (fun w2 hb => by
    have q1 := (hb.block _ (Array.getElem?_eq_some_iff.1 b1).1).trans b1
    have q2 := (hb.block _ (Array.getElem?_eq_some_iff.1 b2).1).trans b2
    have q3 := (hb.block _ (Array.getElem?_eq_some_iff.1 b3).1).trans b3
    exact ⟨cellOf q1 0, cellOf q2 0, cellOf q2 1, cellOf q3 0, cellOf q3 1, cellOf q3 2, cellOf q3 3, cellOf q3 4, hb0.trans (hb.mono hb0.size)⟩)
  have Hres := hid hres
  have Hn := hid hn
  clear b1 b2 b3 hb0 hres hn
  cases q1 : typB p.rn (k, r) with
  | false =>
    simp only [q1] at K27
    have HV2 : Hid (res = false) := hid (by rw [Hres.out, q1]; rfl)
    go_enter Tryz.func16, Tryz.ntmps16
    go_wp2_with (go_at_call 27; (rw [← hW0]; refine (Hid.out K27 _).mono ?_; rintro e w1 ⟨rfl, hb1⟩; obtain ⟨p0, p1, p2, p3, p4, p5, p6, p7, pb⟩ := FX.out w1 hb1))
    go_ret
    exact ⟨by rw [HV2.out]; rfl, pb⟩
  | true =>
    simp only [q1] at K27
    cases q2 : plainB ⟨hk, hi, ht, hr, ha, hm, hc⟩ fs with
    | false =>
      simp only [q2] at K43
      have HV2 : Hid (res = false) := hid (by rw [Hres.out, q1, q2]; rfl)
      go_enter Tryz.func16, Tryz.ntmps16
      go_wp2_with (first
        | (go_at_call 27; (rw [← hW0]; refine (Hid.out K27 _).mono ?_; rintro e w1 ⟨rfl, hb1⟩; obtain ⟨p0, p1, p2, p3, p4, p5, p6, p7, pb⟩ := FX.out w1 hb1))
        | (go_at_call 43; (refine (Hid.out K43 _ pb).mono ?_; rintro e w2 ⟨rfl, hb2⟩)))
      go_ret
      exact ⟨by rw [HV2.out]; rfl, pb.trans (hb2.mono pb.size)⟩
    | true =>
      simp only [q2] at K43
      by_cases q3 : hk = k
      · subst q3
        by_cases q4 : hk = 4
        · subst q4
          have hrr : 0 ≤ r ∧ r < (rn : Int) := by
            have q := q1
            unfold typB at q
            simp only [if_true, Bool.and_eq_true, decide_eq_true_eq] at q
            have e00 : rn = p.rn := E0.out
            rw [← e00] at q
            exact q
          obtain ⟨ri, rfl⟩ : ∃ ri : Nat, r = (ri : Int) := ⟨r.toNat, by omega⟩
          have hri : ri < rn := by omega
          obtain ⟨x, hx⟩ : ∃ x, p.recs[ri]? = some x := ⟨p.recs[ri]'(by have e00 : rn = p.rn := E0.out; unfold Pg.rn at e00; omega), by rw [List.getElem?_eq_getElem]⟩
          obtain ⟨hf12, hft, hts⟩ := Hrecs.out x (List.mem_of_getElem? hx)
          have hpl := q2
          rw [plainB_rec rfl] at hpl
          simp only [Bool.and_eq_true, decide_eq_true_eq] at hpl
          have HV2 : Hid (res = (decide (hr = (ri : Int)) && (decide (fs.length = x.2.types.length) && (List.range x.2.types.length).all (kindsB x.2.types fs)))) := hid (by
            rw [Hres.out, q1, q2]
            simp only [if_true, Int.toNat_natCast, hx, Option.map_some, Option.getD_some, decide_true, Bool.true_and]
            rw [fieldsAre_kinds hft hts hpl.2]
            rfl)
          obtain ⟨b1, o1, ea', hb1', e1⟩ := Dr.out.rd ri x.1.cs (by simp [hx])
          subst ea'
          have hc0 := e1 0 (by omega)
          have hc1 := e1 1 (by omega)
          have hc2 := e1 2 (by omega)
          simp only [RH.cs, List.getElem?_cons_zero, List.getElem?_cons_succ, Nat.add_zero] at hc0 hc1 hc2
          have hrc := Dr.out.el x (List.mem_of_getElem? hx)
          have HT := hid hrc.tr
          have Htn := hid hrc.tn
          obtain ⟨⟨nm, ga, gn, gc, ta, tn, tc⟩, rcx⟩ := x
          simp only at hc0 hc1 hc2 HV2 HT Htn hf12 hft
          have Hc := hid (show _ ∧ _ ∧ _ from ⟨hc0, hc1, hc2⟩)
          have Hb1 := hid hb1'
          have htn12 : tn ≤ 12 := by have := Htn.out; omega
          have htn12' : (tn : Int) ≤ 12 := by omega
          have hi0 : (0 : Int) ≤ (ri : Int) := by omega
          have hi1 : (ri : Int) < (rn : Int) := by omega
          have hm12 : (hm : Int) ≤ 12 := by have := hpl.1.2; omega
          clear e1 hx hc0 hc1 hc2 hb1' hrc hpl hrr q1 q2 hts hft hf12
          by_cases q5 : hr = (ri : Int)
          · subst q5
            by_cases q6 : hm = tn
            · subst q6
              have HV3 : Hid (res = (List.range hm).all (kindsB rcx.types fs)) := hid (by
                rw [HV2.out, ← Htn.out, ← Hn.out]; simp)
              clear HV2
              go_enter Tryz.func16, Tryz.ntmps16
              go_wp2_with (first
                | (go_at_call 27; (rw [← hW0]; refine (Hid.out K27 _).mono ?_; rintro e w1 ⟨rfl, hb1⟩; obtain ⟨p0, p1, p2, p3, p4, p5, p6, p7, pb⟩ := FX.out w1 hb1))
                | (go_at_call 43; (refine (Hid.out K43 _ pb).mono ?_; rintro e w2 ⟨rfl, hb2⟩; obtain ⟨P0, P1, P2, P3, P4, P5, P6, P7, PB2⟩ := FX.out w2 (hb1.trans (hb2.mono hb1.size)); have HB12 := hid (hb1.trans (hb2.mono hb1.size)); have PA := fun o => FX.out (w2.alloc o) ((hb1.trans (hb2.mono hb1.size)).alloc (Nat.le_trans hb1.size hb2.size) o); have A1 : ∀ o, (w2.alloc o).cell? ⟨w.heap.size + 1, 1, none⟩ = some (.int .i64 (ri : Int)) := fun o => (PA o).2.2.1; have A3 : ∀ o, (w2.alloc o).cell? ⟨w.heap.size + 1 + 1, 3, none⟩ = some (.int .i64 (ri : Int)) := fun o => (PA o).2.2.2.2.2.2.1; have A4 : ∀ o, (w2.alloc o).cell? ⟨w.heap.size + 1 + 1, 4, none⟩ = some (.slice ha hm hc) := fun o => (PA o).2.2.2.2.2.2.2.1; clear PA; have z0 := (PB2.cell (p := ⟨b1, o1 + ri * 3, none⟩) Hb1.out).trans Hc.out.1; have z1 := (PB2.cell (p := ⟨b1, o1 + ri * 3 + 1, none⟩) Hb1.out).trans Hc.out.2.1; have z2 := (PB2.cell (p := ⟨b1, o1 + ri * 3 + 2, none⟩) Hb1.out).trans Hc.out.2.2)))
              obtain ⟨W2, hW2⟩ : ∃ W2, W2 = w2.alloc (.cells #[.string nm, .slice ga gn gc, .slice ta hm tc] 45) := ⟨_, rfl⟩
              have hbx : W2.heap[w2.heap.size]? = some (.cells #[.string nm, .slice ga gn gc, .slice ta hm tc] 45 (0, 0)) := by rw [hW2]; exact heap_alloc_new w2 _
              have h02 : Below W0.heap.size W0 W2 := by rw [hW2]; exact HB12.out.alloc HB12.out.size _
              rw [← hW2]
              have Hbx := hid hbx
              have H02 := hid h02
              clear hbx h02 hW2 A1 A3 A4 z0 z1 z2 P0 P1 P2 P3 P4 P5 P6 P7 p0 p1 p2 p3 p4 p5 p6 p7 K27 K43
              go_loopg [8] hm (fun g ii wr => ∃ i : Nat, i + g = hm ∧ ii = .int .i64 (i : Int) ∧ Below W2.heap.size W2 wr ∧ ∀ j, j < i → kindsB rcx.types fs j = true)
              case atStart => exact ⟨0, by omega, rfl, Below.refl _ _, fun j hj => by omega⟩
              case round =>
                obtain ⟨i, hi', rfl, hbr, hacc⟩ := hrel
                have h0r : Below W0.heap.size W0 wr := H02.out.trans (hbr.mono H02.out.size)
                obtain ⟨P0, P1, P2, P3, P4, P5, P6, P7, PB3⟩ := FX.out wr h0r
                have hbx2 := (hbr.block _ (Array.getElem?_eq_some_iff.1 Hbx.out).1).trans Hbx.out
                have y2 := cellOf hbx2 2
                simp only [List.getElem?_toArray, List.getElem?_cons_zero, List.getElem?_cons_succ] at y2
                have Hacc := hid hacc
                have Hbr := hid hbr
                have HPB := hid PB3
                cases gk with
                | zero =>
                  have hin : i = hm := by omega
                  subst hin
                  clear hi' hacc hbr h0r hbx2
                  go_wp2
                  go_ret
                  refine ⟨?_, HPB.out⟩
                  have : res = true := by
                    rw [HV3.out, List.all_eq_true]
                    exact fun j hj => Hacc.out j (List.mem_range.1 hj)
                  rw [this]
                  rfl
                | succ gi =>
                  have hlt0 : i < hm := by omega
                  have hlt : (i : Int) < (hm : Int) := by omega
                  obtain ⟨f, hf⟩ : ∃ f, fs[i]? = some f := ⟨fs[i]'(by rw [← Hn.out]; exact hlt0), List.getElem?_eq_getElem _⟩
                  obtain ⟨t, ht⟩ : ∃ t, rcx.types[i]? = some t := ⟨rcx.types[i]'(by rw [← Htn.out]; exact hlt0), List.getElem?_eq_getElem _⟩
                  obtain ⟨fb, fo, ea', df⟩ := (HV.out.below (Nat.le_refl _) PB3) i f hf
                  subst ea'
                  obtain ⟨tb, to', ea', dt1, dt2⟩ := (HT.out.below (Nat.le_refl _) PB3) i t ht
                  subst ea'
                  have f0 := df 0 (by omega)
                  simp only [Hd.cs, List.getElem?_cons_zero, Nat.add_zero] at f0
                  have hkd : kindsB rcx.types fs i = decide (f.kind = t.1) := by
                    unfold kindsB
                    rw [hf, List.getD_eq_getElem?_getD, ht]
                    simp
                  obtain ⟨fk, hfk⟩ : ∃ z, z = f.kind := ⟨_, rfl⟩
                  obtain ⟨tk, htk⟩ : ∃ z, z = t.1 := ⟨_, rfl⟩
                  rw [← hfk] at f0 hkd
                  rw [← htk] at dt1 hkd
                  have Hkd := hid hkd
                  have Hi := hid hi'
                  have Hlt := hid hlt0
                  clear hi' hacc hbr h0r hbx2 df dt2 hf ht hkd hfk htk PB3 hlt0
                  by_cases hq : fk = tk
                  · subst hq
                    go_wp2
                    go_region_held3 (fun wz => wz.cell? ⟨w.heap.size + 1 + 1, 4, none⟩ = some (.slice (some ⟨fb, fo, none⟩) hm hc) ∧ wz.cell? ⟨fb, fo + i * 5, none⟩ = some (.int .i64 fk) ∧ wz.cell? ⟨w2.heap.size, 2, none⟩ = some (.slice (some ⟨tb, to', none⟩) hm tc) ∧ wz.cell? ⟨tb, to' + i * 2, none⟩ = some (.int .i64 fk)) (first | go_keep) (fail)
                    go_wp2
                    go_roundg gi
                    case measure => omega
                    case rel => exact ⟨i + 1, by have := Hi.out; omega, by go_num, Hbr.out.trans (((Below.refl _ wr).drew).mono Hbr.out.size), fun j hj => by
                      rcases Nat.lt_or_ge j i with h | h
                      · exact Hacc.out j h
                      · obtain rfl : j = i := by omega
                        rw [Hkd.out]; simp⟩
                  · have hq' : (fk == tk) = false := by simpa using hq
                    have hq2 : (fk != tk) = true := by simp [bne, hq']
                    go_wp2
                    go_region_held3 (fun wz => wz.cell? ⟨w.heap.size + 1 + 1, 4, none⟩ = some (.slice (some ⟨fb, fo, none⟩) hm hc) ∧ wz.cell? ⟨fb, fo + i * 5, none⟩ = some (.int .i64 fk) ∧ wz.cell? ⟨w2.heap.size, 2, none⟩ = some (.slice (some ⟨tb, to', none⟩) hm tc) ∧ wz.cell? ⟨tb, to' + i * 2, none⟩ = some (.int .i64 tk)) (first | go_keep) (fail)
                    go_wp2
                    go_ret
                    refine ⟨?_, HPB.out.trans (((Below.refl _ wr).drew).mono HPB.out.size)⟩
                    have : res = false := by
                      rw [HV3.out, List.all_eq_false]
                      exact ⟨i, List.mem_range.2 Hlt.out, by rw [Hkd.out]; simp [hq]⟩
                    rw [this]
                    rfl
            · have q6' : ¬ (hm : Int) = (tn : Int) := by omega
              have q6b : ((hm : Int) == (tn : Int)) = false := by simpa using q6'
              have HV3 : Hid (res = false) := hid (by rw [HV2.out, ← Htn.out, ← Hn.out, decide_eq_false q6]; simp)
              clear HV2
              go_enter Tryz.func16, Tryz.ntmps16
              go_wp2_with (first
                | (go_at_call 27; (rw [← hW0]; refine (Hid.out K27 _).mono ?_; rintro e w1 ⟨rfl, hb1⟩; obtain ⟨p0, p1, p2, p3, p4, p5, p6, p7, pb⟩ := FX.out w1 hb1))
                | (go_at_call 43; (refine (Hid.out K43 _ pb).mono ?_; rintro e w2 ⟨rfl, hb2⟩; obtain ⟨P0, P1, P2, P3, P4, P5, P6, P7, PB2⟩ := FX.out w2 (hb1.trans (hb2.mono hb1.size)); have HB12 := hid (hb1.trans (hb2.mono hb1.size)); have PA := fun o => FX.out (w2.alloc o) ((hb1.trans (hb2.mono hb1.size)).alloc (Nat.le_trans hb1.size hb2.size) o); have A1 : ∀ o, (w2.alloc o).cell? ⟨w.heap.size + 1, 1, none⟩ = some (.int .i64 (ri : Int)) := fun o => (PA o).2.2.1; have A3 : ∀ o, (w2.alloc o).cell? ⟨w.heap.size + 1 + 1, 3, none⟩ = some (.int .i64 (ri : Int)) := fun o => (PA o).2.2.2.2.2.2.1; have A4 : ∀ o, (w2.alloc o).cell? ⟨w.heap.size + 1 + 1, 4, none⟩ = some (.slice ha hm hc) := fun o => (PA o).2.2.2.2.2.2.2.1; clear PA; have z0 := (PB2.cell (p := ⟨b1, o1 + ri * 3, none⟩) Hb1.out).trans Hc.out.1; have z1 := (PB2.cell (p := ⟨b1, o1 + ri * 3 + 1, none⟩) Hb1.out).trans Hc.out.2.1; have z2 := (PB2.cell (p := ⟨b1, o1 + ri * 3 + 2, none⟩) Hb1.out).trans Hc.out.2.2)))
              go_ret
              exact ⟨by rw [HV3.out]; rfl, PB2.alloc PB2.size _⟩
          · have q5b : (hr == (ri : Int)) = false := by simpa using q5
            have HV3 : Hid (res = false) := hid (by rw [HV2.out, decide_eq_false q5]; rfl)
            clear HV2
            go_enter Tryz.func16, Tryz.ntmps16
            go_wp2_with (first
              | (go_at_call 27; (rw [← hW0]; refine (Hid.out K27 _).mono ?_; rintro e w1 ⟨rfl, hb1⟩; obtain ⟨p0, p1, p2, p3, p4, p5, p6, p7, pb⟩ := FX.out w1 hb1))
              | (go_at_call 43; (refine (Hid.out K43 _ pb).mono ?_; rintro e w2 ⟨rfl, hb2⟩; obtain ⟨P0, P1, P2, P3, P4, P5, P6, P7, PB2⟩ := FX.out w2 (hb1.trans (hb2.mono hb1.size)); have HB12 := hid (hb1.trans (hb2.mono hb1.size)); have PA := fun o => FX.out (w2.alloc o) ((hb1.trans (hb2.mono hb1.size)).alloc (Nat.le_trans hb1.size hb2.size) o); have A1 : ∀ o, (w2.alloc o).cell? ⟨w.heap.size + 1, 1, none⟩ = some (.int .i64 (ri : Int)) := fun o => (PA o).2.2.1; have A3 : ∀ o, (w2.alloc o).cell? ⟨w.heap.size + 1 + 1, 3, none⟩ = some (.int .i64 hr) := fun o => (PA o).2.2.2.2.2.2.1; have A4 : ∀ o, (w2.alloc o).cell? ⟨w.heap.size + 1 + 1, 4, none⟩ = some (.slice ha hm hc) := fun o => (PA o).2.2.2.2.2.2.2.1; clear PA; have z0 := (PB2.cell (p := ⟨b1, o1 + ri * 3, none⟩) Hb1.out).trans Hc.out.1; have z1 := (PB2.cell (p := ⟨b1, o1 + ri * 3 + 1, none⟩) Hb1.out).trans Hc.out.2.1; have z2 := (PB2.cell (p := ⟨b1, o1 + ri * 3 + 2, none⟩) Hb1.out).trans Hc.out.2.2)))
            go_ret
            exact ⟨by rw [HV3.out]; rfl, PB2.alloc PB2.size _⟩
        · have HV2 : Hid (res = true) := hid (by
            rw [Hres.out, q1, q2]
            have h1 := q1
            have h2 := q2
            unfold typB at h1
            unfold plainB at h2
            simp only [q4, if_false] at h1 h2
            unfold simB at h1
            unfold simpleB at h2
            simp only [Bool.and_eq_true, decide_eq_true_eq] at h1 h2
            simp [q4, h1.1, h2.1.1])
          go_enter Tryz.func16, Tryz.ntmps16
          go_wp2_with (first
            | (go_at_call 27; (rw [← hW0]; refine (Hid.out K27 _).mono ?_; rintro e w1 ⟨rfl, hb1⟩; obtain ⟨p0, p1, p2, p3, p4, p5, p6, p7, pb⟩ := FX.out w1 hb1))
            | (go_at_call 43; (refine (Hid.out K43 _ pb).mono ?_; rintro e w2 ⟨rfl, hb2⟩; obtain ⟨P0, P1, P2, P3, P4, P5, P6, P7, PB2⟩ := FX.out w2 (hb1.trans (hb2.mono hb1.size)))))
          go_ret
          exact ⟨by rw [HV2.out]; rfl, PB2⟩
      · have q3' : (hk == k) = false := by simpa using q3
        have HV2 : Hid (res = false) := hid (by rw [Hres.out, q1, q2, decide_eq_false q3]; simp)
        go_enter Tryz.func16, Tryz.ntmps16
        go_wp2_with (first
          | (go_at_call 27; (rw [← hW0]; refine (Hid.out K27 _).mono ?_; rintro e w1 ⟨rfl, hb1⟩; obtain ⟨p0, p1, p2, p3, p4, p5, p6, p7, pb⟩ := FX.out w1 hb1))
          | (go_at_call 43; (refine (Hid.out K43 _ pb).mono ?_; rintro e w2 ⟨rfl, hb2⟩; obtain ⟨P0, P1, P2, P3, P4, P5, P6, P7, PB2⟩ := FX.out w2 (hb1.trans (hb2.mono hb1.size)))))
        go_ret
        exact ⟨by rw [HV2.out]; rfl, PB2⟩
end Go.Proofs.YtnmbifoinponeaaGreatDoor
