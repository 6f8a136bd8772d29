/- The document's side: names of types; whether a value is of a type. -/
import Derived.Test.YtenfgahedbeekaaJAR
import Derived.BigQuiet
namespace Go.Proofs.Ytenfgahedbeekaa
open Go.RowKit Go.Deep Go.Shelf
set_option linter.unusedVariables false
set_option linter.unusedSimpArgs false

theorem right_recs {p : Pg} (h : rightB p = true) : p.recs.length ≤ 16 ∧ ∀ x ∈ p.recs, x.2.fields.length ≤ 12 ∧ x.2.fields.length = x.2.types.length ∧ x.2.types.all simB = true := by
  unfold rightB recordsB at h
  simp only [Bool.and_eq_true, decide_eq_true_eq, List.length_map] at h
  refine ⟨h.1.1.1.1.1.1, fun x hx => ?_⟩
  have h2 := (List.all_eq_true.1 h.1.1.1.1.1.2) x.2 (List.mem_map.2 ⟨x, hx, rfl⟩)
  unfold fieldsB at h2
  simp only [Bool.and_eq_true, decide_eq_true_eq] at h2
  exact ⟨h2.1.1.1.2, h2.1.1.2, h2.1.2⟩

/- Of a right program: a field's type has no record's number, a plain value's field none either. -/
theorem fieldsAre_kinds {r : Rc} {fs : List Hd} (hl : r.fields.length = r.types.length) (ht : r.types.all simB = true) (hf : fs.all simpleB = true) : fieldsAre r fs = (decide (fs.length = r.types.length) && (List.range r.types.length).all fun i => decide (((fs[i]?).map fun f => f.kind) = some (r.types.getD i (0, 0)).1)) := by
  unfold fieldsAre
  rw [hl]
  by_cases hn : fs.length = r.types.length
  · rw [decide_eq_true hn, Bool.true_and, Bool.true_and, Bool.eq_iff_iff, List.all_eq_true, List.all_eq_true]
    refine forall_congr' fun i => ?_
    refine imp_congr_right fun hi => ?_
    have hil := List.mem_range.1 hi
    have h1 := (List.all_eq_true.1 hf) fs[i] (List.getElem_mem (by omega))
    have h2 := (List.all_eq_true.1 ht) r.types[i] (List.getElem_mem hil)
    unfold simpleB at h1
    unfold simB at h2
    simp only [Bool.and_eq_true, decide_eq_true_eq] at h1 h2
    rw [List.getD_eq_getElem?_getD, List.getElem?_eq_getElem hil, List.getElem?_eq_getElem (show i < fs.length by omega)]
    simp only [Option.map_some, Option.getD_some, Option.some.injEq, decide_eq_true_eq]
    generalize r.types[i] = q at *
    obtain ⟨a, b⟩ := q
    simp only at h2
    simp only [Prod.mk.injEq, h1.1.1, h2.1, and_true]
  · rw [decide_eq_false hn]; rfl
theorem three_boxes (w : World) (c1 c2 c3 : Array Value) (t1 t2 t3 : TypeId) : ∀ W0, W0 = (((w.alloc (.cells c1 t1)).alloc (.cells c2 t2)).alloc (.cells c3 t3)) → Below w.heap.size w W0 ∧ W0.heap[w.heap.size]? = some (.cells c1 t1 (0, 0)) ∧ W0.heap[w.heap.size + 1]? = some (.cells c2 t2 (0, 0)) ∧ W0.heap[w.heap.size + 1 + 1]? = some (.cells c3 t3 (0, 0)) := by
  rintro W0 rfl
  refine ⟨(((Below.refl _ w).alloc (Nat.le_refl _) _).alloc (by simp) _).alloc (by simp; omega) _, ?_, ?_, ?_⟩
  · rw [Below.heap_alloc _ _ _ (by simp; omega), Below.heap_alloc _ _ _ (by simp)]; exact heap_alloc_new w _
  · rw [Below.heap_alloc _ _ _ (by simp)]; have := heap_alloc_new (w.alloc (.cells c1 t1)) (.cells c2 t2); simpa using this
  · have := heap_alloc_new ((w.alloc (.cells c1 t1)).alloc (.cells c2 t2)) (.cells c3 t3); simpa using this
def kindsB (ts : List TyP) (fs : List Hd) (i : Nat) : Bool := decide (((fs[i]?).map fun f => f.kind) = some (ts.getD i (0, 0)).1)
set_option maxRecDepth 100000 in
set_option maxHeartbeats 2000000 in
theorem refIs (w : World) (g : PH) (p : Pg) (d : PRd w g p) (hR : rightB p = true) (k r : Int) (h : Hd) (fs : List Hd) (hin : h.In) (hn : h.n = fs.length) (hv : VRd w h.a fs) (hfs : ∀ f ∈ fs, f.In) :
    Calls Try.prog 54 #[g.v, ty k r, h.v] w fun e w' => e = .returned (.bool (isB p (k, r) h fs)) ∧ Below w.heap.size w w' := by
  obtain ⟨hl16, hrecs⟩ := right_recs hR
  have K27 := hid (fun w' => refIsType w' g k r d.r.n2)
  have e0 : g.rn = p.rn := d.r.n1
  rw [e0] at K27
  have K43 := hid (fun (w1 : World) (hb : Below w.heap.size w w1) => refPlain_any w1 h fs hin hn (hv.below (Nat.le_refl _) hb) hfs)
  obtain ⟨res, hres⟩ : ∃ res, res = isB p (k, r) h fs := ⟨_, rfl⟩
  rw [← hres]
  unfold isB at hres
  simp only at hres
  have Dr := hid d.r
  have HV := hid hv
  have E0 := hid e0
  have Hrecs := hid hrecs
  have hn9 := hin.n
  have hg9 := d.r.n2
  clear d hv hrecs e0 hR hfs hin
  obtain ⟨ra, rn, rc, ma, mn, mc, fa, fn, fc, ea, en, ec⟩ := g
  obtain ⟨hk, hi, ht, hr, ha, hm, hc⟩ := h
  simp only at hn hres hn9 hg9
  simp only [PH.v, ty, Hd.v] at K27 K43 ⊢
  obtain ⟨W0, hW0⟩ : ∃ W0, W0 = (((w.alloc (.cells #[.slice ra rn rc, .slice ma mn mc, .slice fa fn fc, .slice ea en ec] 50)).alloc (.cells #[.int .i64 k, .int .i64 r] 73)).alloc (.cells #[.int .i64 hk, .int .i64 hi, .string ht, .int .i64 hr, .slice ha hm hc] 31)) := ⟨_, rfl⟩
  obtain ⟨hb0, b1, b2, b3⟩ := three_boxes w _ _ _ 50 73 31 W0 hW0
  have FX : Hid (∀ w2 : World, Below W0.heap.size W0 w2 → w2.cell? ⟨w.heap.size, 0, none⟩ = some (.slice ra rn rc) ∧ w2.cell? ⟨w.heap.size + 1, 0, none⟩ = some (.int .i64 k) ∧ w2.cell? ⟨w.heap.size + 1, 1, none⟩ = some (.int .i64 r) ∧ w2.cell? ⟨w.heap.size + 1 + 1, 0, none⟩ = some (.int .i64 hk) ∧ w2.cell? ⟨w.heap.size + 1 + 1, 1, none⟩ = some (.int .i64 hi) ∧ w2.cell? ⟨w.heap.size + 1 + 1, 2, none⟩ = some (.string ht) ∧ w2.cell? ⟨w.heap.size + 1 + 1, 3, none⟩ = some (.int .i64 hr) ∧ w2.cell? ⟨w.heap.size + 1 + 1, 4, none⟩ = some (.slice ha hm hc) ∧ Below w.heap.size w w2) := hid (fun w2 hb => by
    have q1 := (hb.block _ (Array.getElem?_eq_some_iff.1 b1).1).trans b1
    have q2 := (hb.block _ (Array.getElem?_eq_some_iff.1 b2).1).trans b2
    have q3 := (hb.block _ (Array.getElem?_eq_some_iff.1 b3).1).trans b3
    exact ⟨cellOf q1 0, cellOf q2 0, cellOf q2 1, cellOf q3 0, cellOf q3 1, cellOf q3 2, cellOf q3 3, cellOf q3 4, hb0.trans (hb.mono hb0.size)⟩)
  have Hres := hid hres
  have Hn := hid hn
  clear b1 b2 b3 hb0 hres hn
  cases q1 : typB p.rn (k, r) with
  | false =>
    simp only [q1] at K27
    have HV2 : Hid (res = false) := hid (by rw [Hres.out, q1]; rfl)
    go_enter Try.func54, Try.ntmps54
    go_wp2_with (go_at_call 78; (rw [← hW0]; refine (Hid.out K27 _).mono ?_; rintro e w1 ⟨rfl, hb1⟩; obtain ⟨p0, p1, p2, p3, p4, p5, p6, p7, pb⟩ := FX.out w1 hb1))
    go_ret
    exact ⟨by rw [HV2.out]; rfl, pb⟩
  | true =>
    simp only [q1] at K27
    cases q2 : plainB ⟨hk, hi, ht, hr, ha, hm, hc⟩ fs with
    | false =>
      simp only [q2] at K43
      have HV2 : Hid (res = false) := hid (by rw [Hres.out, q1, q2]; rfl)
      go_enter Try.func54, Try.ntmps54
      go_wp2_with (first
        | (go_at_call 78; (rw [← hW0]; refine (Hid.out K27 _).mono ?_; rintro e w1 ⟨rfl, hb1⟩; obtain ⟨p0, p1, p2, p3, p4, p5, p6, p7, pb⟩ := FX.out w1 hb1))
        | (go_at_call 81; (refine (Hid.out K43 _ pb).mono ?_; rintro e w2 ⟨rfl, hb2⟩)))
      go_ret
      exact ⟨by rw [HV2.out]; rfl, pb.trans (hb2.mono pb.size)⟩
    | true =>
      simp only [q2] at K43
      by_cases q3 : hk = k
      · subst q3
        by_cases q4 : hk = 4
        · subst q4
          have hrr : 0 ≤ r ∧ r < (rn : Int) := by
            have q := q1
            unfold typB at q
            simp only [if_true, Bool.and_eq_true, decide_eq_true_eq] at q
            have e00 : rn = p.rn := E0.out
            rw [← e00] at q
            exact q
          obtain ⟨ri, rfl⟩ : ∃ ri : Nat, r = (ri : Int) := ⟨r.toNat, by omega⟩
          have hri : ri < rn := by omega
          obtain ⟨x, hx⟩ : ∃ x, p.recs[ri]? = some x := ⟨p.recs[ri]'(by have e00 : rn = p.rn := E0.out; unfold Pg.rn at e00; omega), by rw [List.getElem?_eq_getElem]⟩
          obtain ⟨hf12, hft, hts⟩ := Hrecs.out x (List.mem_of_getElem? hx)
          have hpl := q2
          rw [plainB_rec rfl] at hpl
          simp only [Bool.and_eq_true, decide_eq_true_eq] at hpl
          have HV2 : Hid (res = (decide (hr = (ri : Int)) && (decide (fs.length = x.2.types.length) && (List.range x.2.types.length).all (kindsB x.2.types fs)))) := hid (by
            rw [Hres.out, q1, q2]
            simp only [if_true, Int.toNat_natCast, hx, Option.map_some, Option.getD_some, decide_true, Bool.true_and]
            rw [fieldsAre_kinds hft hts hpl.2]
            rfl)
          obtain ⟨b1, o1, ea', hb1', e1⟩ := Dr.out.rd ri x.1.cs (by simp [hx])
          subst ea'
          have hc0 := e1 0 (by omega)
          have hc1 := e1 1 (by omega)
          have hc2 := e1 2 (by omega)
          simp only [RH.cs, List.getElem?_cons_zero, List.getElem?_cons_succ, Nat.add_zero] at hc0 hc1 hc2
          have hrc := Dr.out.el x (List.mem_of_getElem? hx)
          have HT := hid hrc.tr
          have Htn := hid hrc.tn
          obtain ⟨⟨nm, ga, gn, gc, ta, tn, tc⟩, rcx⟩ := x
          simp only at hc0 hc1 hc2 HV2 HT Htn hf12 hft
          have Hc := hid (show _ ∧ _ ∧ _ from ⟨hc0, hc1, hc2⟩)
          have Hb1 := hid hb1'
          have htn12 : tn ≤ 12 := by have := Htn.out; omega
          have htn12' : (tn : Int) ≤ 12 := by omega
          have hi0 : (0 : Int) ≤ (ri : Int) := by omega
          have hi1 : (ri : Int) < (rn : Int) := by omega
          have hm12 : (hm : Int) ≤ 12 := by have := hpl.1.2; omega
          clear e1 hx hc0 hc1 hc2 hb1' hrc hpl hrr q1 q2 hts hft hf12
          by_cases q5 : hr = (ri : Int)
          · subst q5
            by_cases q6 : hm = tn
            · subst q6
              have HV3 : Hid (res = (List.range hm).all (kindsB rcx.types fs)) := hid (by
                rw [HV2.out, ← Htn.out, ← Hn.out]; simp)
              clear HV2
              go_enter Try.func54, Try.ntmps54
              go_wp2_with (first
                | (go_at_call 78; (rw [← hW0]; refine (Hid.out K27 _).mono ?_; rintro e w1 ⟨rfl, hb1⟩; obtain ⟨p0, p1, p2, p3, p4, p5, p6, p7, pb⟩ := FX.out w1 hb1))
                | (go_at_call 81; (refine (Hid.out K43 _ pb).mono ?_; rintro e w2 ⟨rfl, hb2⟩; obtain ⟨P0, P1, P2, P3, P4, P5, P6, P7, PB2⟩ := FX.out w2 (hb1.trans (hb2.mono hb1.size)); have HB12 := hid (hb1.trans (hb2.mono hb1.size)); have PA := fun o => FX.out (w2.alloc o) ((hb1.trans (hb2.mono hb1.size)).alloc (Nat.le_trans hb1.size hb2.size) o); have A1 : ∀ o, (w2.alloc o).cell? ⟨w.heap.size + 1, 1, none⟩ = some (.int .i64 (ri : Int)) := fun o => (PA o).2.2.1; have A3 : ∀ o, (w2.alloc o).cell? ⟨w.heap.size + 1 + 1, 3, none⟩ = some (.int .i64 (ri : Int)) := fun o => (PA o).2.2.2.2.2.2.1; have A4 : ∀ o, (w2.alloc o).cell? ⟨w.heap.size + 1 + 1, 4, none⟩ = some (.slice ha hm hc) := fun o => (PA o).2.2.2.2.2.2.2.1; clear PA; have z0 := (PB2.cell (p := ⟨b1, o1 + ri * 3, none⟩) Hb1.out).trans Hc.out.1; have z1 := (PB2.cell (p := ⟨b1, o1 + ri * 3 + 1, none⟩) Hb1.out).trans Hc.out.2.1; have z2 := (PB2.cell (p := ⟨b1, o1 + ri * 3 + 2, none⟩) Hb1.out).trans Hc.out.2.2)))
              obtain ⟨W2, hW2⟩ : ∃ W2, W2 = w2.alloc (.cells #[.string nm, .slice ga gn gc, .slice ta hm tc] 95) := ⟨_, rfl⟩
              have hbx : W2.heap[w2.heap.size]? = some (.cells #[.string nm, .slice ga gn gc, .slice ta hm tc] 95 (0, 0)) := by rw [hW2]; exact heap_alloc_new w2 _
              have h02 : Below W0.heap.size W0 W2 := by rw [hW2]; exact HB12.out.alloc HB12.out.size _
              rw [← hW2]
              have Hbx := hid hbx
              have H02 := hid h02
              clear hbx h02 hW2 A1 A3 A4 z0 z1 z2 P0 P1 P2 P3 P4 P5 P6 P7 p0 p1 p2 p3 p4 p5 p6 p7 K27 K43
              go_loopg [8] hm (fun g ii wr => ∃ i : Nat, i + g = hm ∧ ii = .int .i64 (i : Int) ∧ Below W2.heap.size W2 wr ∧ ∀ j, j < i → kindsB rcx.types fs j = true)
              case atStart => exact ⟨0, by omega, rfl, Below.refl _ _, fun j hj => by omega⟩
              case round =>
                obtain ⟨i, hi', rfl, hbr, hacc⟩ := hrel
                have h0r : Below W0.heap.size W0 wr := H02.out.trans (hbr.mono H02.out.size)
                obtain ⟨P0, P1, P2, P3, P4, P5, P6, P7, PB3⟩ := FX.out wr h0r
                have hbx2 := (hbr.block _ (Array.getElem?_eq_some_iff.1 Hbx.out).1).trans Hbx.out
                have y2 := cellOf hbx2 2
                simp only [List.getElem?_toArray, List.getElem?_cons_zero, List.getElem?_cons_succ] at y2
                have Hacc := hid hacc
                have Hbr := hid hbr
                have HPB := hid PB3
                cases gk with
                | zero =>
                  have hin : i = hm := by omega
                  subst hin
                  clear hi' hacc hbr h0r hbx2
                  go_wp2
                  go_ret
                  refine ⟨?_, HPB.out⟩
                  have : res = true := by
                    rw [HV3.out, List.all_eq_true]
                    exact fun j hj => Hacc.out j (List.mem_range.1 hj)
                  rw [this]
                  rfl
                | succ gi =>
                  have hlt0 : i < hm := by omega
                  have hlt : (i : Int) < (hm : Int) := by omega
                  obtain ⟨f, hf⟩ : ∃ f, fs[i]? = some f := ⟨fs[i]'(by rw [← Hn.out]; exact hlt0), List.getElem?_eq_getElem _⟩
                  obtain ⟨t, ht⟩ : ∃ t, rcx.types[i]? = some t := ⟨rcx.types[i]'(by rw [← Htn.out]; exact hlt0), List.getElem?_eq_getElem _⟩
                  obtain ⟨fb, fo, ea', df⟩ := (HV.out.below (Nat.le_refl _) PB3) i f hf
                  subst ea'
                  obtain ⟨tb, to', ea', dt1, dt2⟩ := (HT.out.below (Nat.le_refl _) PB3) i t ht
                  subst ea'
                  have f0 := df 0 (by omega)
                  simp only [Hd.cs, List.getElem?_cons_zero, Nat.add_zero] at f0
                  have hkd : kindsB rcx.types fs i = decide (f.kind = t.1) := by
                    unfold kindsB
                    rw [hf, List.getD_eq_getElem?_getD, ht]
                    simp
                  obtain ⟨fk, hfk⟩ : ∃ z, z = f.kind := ⟨_, rfl⟩
                  obtain ⟨tk, htk⟩ : ∃ z, z = t.1 := ⟨_, rfl⟩
                  rw [← hfk] at f0 hkd
                  rw [← htk] at dt1 hkd
                  have Hkd := hid hkd
                  have Hi := hid hi'
                  have Hlt := hid hlt0
                  clear hi' hacc hbr h0r hbx2 df dt2 hf ht hkd hfk htk PB3 hlt0
                  by_cases hq : fk = tk
                  · subst hq
                    go_wp2
                    go_region_held3 (fun wz => wz.cell? ⟨w.heap.size + 1 + 1, 4, none⟩ = some (.slice (some ⟨fb, fo, none⟩) hm hc) ∧ wz.cell? ⟨fb, fo + i * 5, none⟩ = some (.int .i64 fk) ∧ wz.cell? ⟨w2.heap.size, 2, none⟩ = some (.slice (some ⟨tb, to', none⟩) hm tc) ∧ wz.cell? ⟨tb, to' + i * 2, none⟩ = some (.int .i64 fk)) (first | go_keep) (fail)
                    go_wp2
                    go_roundg gi
                    case measure => omega
                    case rel => exact ⟨i + 1, by have := Hi.out; omega, by go_num, Hbr.out.trans (((Below.refl _ wr).drew).mono Hbr.out.size), fun j hj => by
                      rcases Nat.lt_or_ge j i with h | h
                      · exact Hacc.out j h
                      · obtain rfl : j = i := by omega
                        rw [Hkd.out]; simp⟩
                  · have hq' : (fk == tk) = false := by simpa using hq
                    have hq2 : (fk != tk) = true := by simp [bne, hq']
                    go_wp2
                    go_region_held3 (fun wz => wz.cell? ⟨w.heap.size + 1 + 1, 4, none⟩ = some (.slice (some ⟨fb, fo, none⟩) hm hc) ∧ wz.cell? ⟨fb, fo + i * 5, none⟩ = some (.int .i64 fk) ∧ wz.cell? ⟨w2.heap.size, 2, none⟩ = some (.slice (some ⟨tb, to', none⟩) hm tc) ∧ wz.cell? ⟨tb, to' + i * 2, none⟩ = some (.int .i64 tk)) (first | go_keep) (fail)
                    go_wp2
                    go_ret
                    refine ⟨?_, HPB.out.trans (((Below.refl _ wr).drew).mono HPB.out.size)⟩
                    have : res = false := by
                      rw [HV3.out, List.all_eq_false]
                      exact ⟨i, List.mem_range.2 Hlt.out, by rw [Hkd.out]; simp [hq]⟩
                    rw [this]
                    rfl
            · have q6' : ¬ (hm : Int) = (tn : Int) := by omega
              have q6b : ((hm : Int) == (tn : Int)) = false := by simpa using q6'
              have HV3 : Hid (res = false) := hid (by rw [HV2.out, ← Htn.out, ← Hn.out, decide_eq_false q6]; simp)
              clear HV2
              go_enter Try.func54, Try.ntmps54
              go_wp2_with (first
                | (go_at_call 78; (rw [← hW0]; refine (Hid.out K27 _).mono ?_; rintro e w1 ⟨rfl, hb1⟩; obtain ⟨p0, p1, p2, p3, p4, p5, p6, p7, pb⟩ := FX.out w1 hb1))
                | (go_at_call 81; (refine (Hid.out K43 _ pb).mono ?_; rintro e w2 ⟨rfl, hb2⟩; obtain ⟨P0, P1, P2, P3, P4, P5, P6, P7, PB2⟩ := FX.out w2 (hb1.trans (hb2.mono hb1.size)); have HB12 := hid (hb1.trans (hb2.mono hb1.size)); have PA := fun o => FX.out (w2.alloc o) ((hb1.trans (hb2.mono hb1.size)).alloc (Nat.le_trans hb1.size hb2.size) o); have A1 : ∀ o, (w2.alloc o).cell? ⟨w.heap.size + 1, 1, none⟩ = some (.int .i64 (ri : Int)) := fun o => (PA o).2.2.1; have A3 : ∀ o, (w2.alloc o).cell? ⟨w.heap.size + 1 + 1, 3, none⟩ = some (.int .i64 (ri : Int)) := fun o => (PA o).2.2.2.2.2.2.1; have A4 : ∀ o, (w2.alloc o).cell? ⟨w.heap.size + 1 + 1, 4, none⟩ = some (.slice ha hm hc) := fun o => (PA o).2.2.2.2.2.2.2.1; clear PA; have z0 := (PB2.cell (p := ⟨b1, o1 + ri * 3, none⟩) Hb1.out).trans Hc.out.1; have z1 := (PB2.cell (p := ⟨b1, o1 + ri * 3 + 1, none⟩) Hb1.out).trans Hc.out.2.1; have z2 := (PB2.cell (p := ⟨b1, o1 + ri * 3 + 2, none⟩) Hb1.out).trans Hc.out.2.2)))
              go_ret
              exact ⟨by rw [HV3.out]; rfl, PB2.alloc PB2.size _⟩
          · have q5b : (hr == (ri : Int)) = false := by simpa using q5
            have HV3 : Hid (res = false) := hid (by rw [HV2.out, decide_eq_false q5]; rfl)
            clear HV2
            go_enter Try.func54, Try.ntmps54
            go_wp2_with (first
              | (go_at_call 78; (rw [← hW0]; refine (Hid.out K27 _).mono ?_; rintro e w1 ⟨rfl, hb1⟩; obtain ⟨p0, p1, p2, p3, p4, p5, p6, p7, pb⟩ := FX.out w1 hb1))
              | (go_at_call 81; (refine (Hid.out K43 _ pb).mono ?_; rintro e w2 ⟨rfl, hb2⟩; obtain ⟨P0, P1, P2, P3, P4, P5, P6, P7, PB2⟩ := FX.out w2 (hb1.trans (hb2.mono hb1.size)); have HB12 := hid (hb1.trans (hb2.mono hb1.size)); have PA := fun o => FX.out (w2.alloc o) ((hb1.trans (hb2.mono hb1.size)).alloc (Nat.le_trans hb1.size hb2.size) o); have A1 : ∀ o, (w2.alloc o).cell? ⟨w.heap.size + 1, 1, none⟩ = some (.int .i64 (ri : Int)) := fun o => (PA o).2.2.1; have A3 : ∀ o, (w2.alloc o).cell? ⟨w.heap.size + 1 + 1, 3, none⟩ = some (.int .i64 hr) := fun o => (PA o).2.2.2.2.2.2.1; have A4 : ∀ o, (w2.alloc o).cell? ⟨w.heap.size + 1 + 1, 4, none⟩ = some (.slice ha hm hc) := fun o => (PA o).2.2.2.2.2.2.2.1; clear PA; have z0 := (PB2.cell (p := ⟨b1, o1 + ri * 3, none⟩) Hb1.out).trans Hc.out.1; have z1 := (PB2.cell (p := ⟨b1, o1 + ri * 3 + 1, none⟩) Hb1.out).trans Hc.out.2.1; have z2 := (PB2.cell (p := ⟨b1, o1 + ri * 3 + 2, none⟩) Hb1.out).trans Hc.out.2.2)))
            go_ret
            exact ⟨by rw [HV3.out]; rfl, PB2.alloc PB2.size _⟩
        · have HV2 : Hid (res = true) := hid (by
            rw [Hres.out, q1, q2]
            have h1 := q1
            have h2 := q2
            unfold typB at h1
            unfold plainB at h2
            simp only [q4, if_false] at h1 h2
            unfold simB at h1
            unfold simpleB at h2
            simp only [Bool.and_eq_true, decide_eq_true_eq] at h1 h2
            simp [q4, h1.1, h2.1.1])
          go_enter Try.func54, Try.ntmps54
          go_wp2_with (first
            | (go_at_call 78; (rw [← hW0]; refine (Hid.out K27 _).mono ?_; rintro e w1 ⟨rfl, hb1⟩; obtain ⟨p0, p1, p2, p3, p4, p5, p6, p7, pb⟩ := FX.out w1 hb1))
            | (go_at_call 81; (refine (Hid.out K43 _ pb).mono ?_; rintro e w2 ⟨rfl, hb2⟩; obtain ⟨P0, P1, P2, P3, P4, P5, P6, P7, PB2⟩ := FX.out w2 (hb1.trans (hb2.mono hb1.size)))))
          go_ret
          exact ⟨by rw [HV2.out]; rfl, PB2⟩
      · have q3' : (hk == k) = false := by simpa using q3
        have HV2 : Hid (res = false) := hid (by rw [Hres.out, q1, q2, decide_eq_false q3]; simp)
        go_enter Try.func54, Try.ntmps54
        go_wp2_with (first
          | (go_at_call 78; (rw [← hW0]; refine (Hid.out K27 _).mono ?_; rintro e w1 ⟨rfl, hb1⟩; obtain ⟨p0, p1, p2, p3, p4, p5, p6, p7, pb⟩ := FX.out w1 hb1))
          | (go_at_call 81; (refine (Hid.out K43 _ pb).mono ?_; rintro e w2 ⟨rfl, hb2⟩; obtain ⟨P0, P1, P2, P3, P4, P5, P6, P7, PB2⟩ := FX.out w2 (hb1.trans (hb2.mono hb1.size)))))
        go_ret
        exact ⟨by rw [HV2.out]; rfl, PB2⟩
end Go.Proofs.Ytenfgahedbeekaa

namespace Go.Proofs.Ytenfgahedbeekaa
open Go.RowKit Go.Deep Go.Shelf
set_option linter.unusedVariables false
set_option linter.unusedSimpArgs false

theorem bel_drewN {B : Nat} {a w : World} (h : Below B a w) (n : Nat) : Below B a (w.drewN n) := h.trans ⟨rfl, rfl, rfl, Nat.le_refl _, fun _ _ => rfl⟩
theorem run_appN1 (w : World) (ty : TypeId) (B : Nat) (v : Value) (ss : List ByteArray) (s : ByteArray) (hr : NRow w B v ss) (hB : B ≤ w.heap.size) (hl : ss.length ≤ 1000) :
    ∃ v' w', (Builtin.append_ #[92, 92] ty #[v, .slice (some ⟨w.heap.size, 0, none⟩) 1 1]).run Try.prog (w.alloc (.cells #[.string s] 9)) = .ok v' w' ∧ NRow w' B v' (ss ++ [s]) ∧ Grw w v w' v' := by
  obtain ⟨i0, hi, hz0, hz1, hz2⟩ := info_parts info9
  have hr2 : NRow (w.alloc (.cells #[.string s] 9)) B v ss := hr.below ((Below.refl _ w).alloc (Nat.le_refl _) _)
  obtain ⟨v', w', hrun, hown, hgr, _, hat⟩ := run_append_own_at (P := Try.prog) (w.alloc (.cells #[.string s] 9)) B 92 ty 9 i0 (.string ⟨#[]⟩) 1 16 Try.underlying92 hi hz0 hz1 hz2 rfl (by decide) v ss.length (ss.map strV) hr2 ⟨w.heap.size, 0, none⟩ 1 1 [.string s] rfl (by
    intro j u hu
    exact World.news_of_block (heap_alloc_new w _) j u (by simpa using hu)) (by intro u hu; simp at hu; subst hu; rfl) (by unfold maxLen; omega) (by omega) (by simp; omega)
  refine ⟨v', w', hrun, NRow.snoc hown, (World.grownBy_alloc w _ _).trans hgr, ?_⟩
  rcases hat with hat | hat
  · exact .inl hat
  · exact .inr ⟨_, hat, by simp⟩
theorem wpList_appN1 {ops : Array Oper} {rest : List Oper} {o : Oper} {a : Act} {Q : Exit → Act → World → Prop} (w : World) (hgd : o.guard = none) (sl x : Operand)
    (ho : o.op = .call { callee := .builtin .append, args := #[sl, x], argTypes := #[92, 92] }) (v : Value) (s : ByteArray) (hs : a.eval sl = v) (hx : a.eval x = .slice (some ⟨w.heap.size, 0, none⟩) 1 1)
    (B : Nat) (ss : List ByteArray) (hr : NRow w B v ss) (hB : B ≤ w.heap.size) (hl : ss.length ≤ 1000)
    (k : ∀ v' w', NRow w' B v' (ss ++ [s]) → Grw w v w' v' → wpList Try.prog ops Q rest (a.put o.dst v') w') :
    wpList Try.prog ops Q (o :: rest) a (w.alloc (.cells #[.string s] 9)) := by
  refine wpList_plain hgd fun K hK => ?_
  obtain ⟨v', w', hrun, h2, h3⟩ := run_appN1 w o.type B v ss s hr hB hl
  unfold Oper.wp execOp
  simp only [ho, resolve, invoke, builtin, Sem.run_bind, Sem.run_pure, Result.andThen_ok, List.map_toArray, List.map_cons, List.map_nil, hs, hx, hrun]
  exact hK _ _ (k v' w' h2 h3)
theorem Grw.belowN {w0 w w' : World} {v v' : Value} {B C : Nat} (hb : Below B w0 w) (h : Grw w v w' v') (hv : ∀ k, v.ownBlock = some k → C ≤ k) (hC : B ≤ C) (hB : B ≤ w.heap.size) : Below B w0 w' :=
  ⟨h.1.os.trans hb.os, h.1.tape.trans hb.tape, h.1.output.trans hb.output, Nat.le_trans hb.size h.1.size, fun j hj => (h.1.block j (by omega) (fun e => by have := hv j e.symm; omega)).trans (hb.block j hj)⟩
/- A signature that may be. -/
def sgE (rs : Bool) (n : Nat) (s : Sg) : Bool := nmdB false s.name && sigB n s && (rs || noneB s.res)
def sgsR (rs : Bool) (n : Nat) (ss : List Sg) : Bool := decide (ss.length ≤ 16) && ss.all (sgE rs n) && !dupB (ss.map Sg.name)
theorem sgs_eq (rs : Bool) (n : Nat) (ss : List Sg) : sgsR rs n ss = (sigsB n ss && (rs || nothingB ss)) := by
  unfold sgsR sigsB nothingB
  have h := namesB_split false (ss.map Sg.name)
  rw [if_neg (by decide)] at h
  rw [h]
  have e : ss.all (sgE rs n) = (ss.all (fun s => nmdB false s.name) && ss.all (sigB n) && ss.all (fun s => rs || noneB s.res)) := by
    rw [Bool.eq_iff_iff]
    simp only [Bool.and_eq_true, List.all_eq_true, sgE]
    exact ⟨fun h => ⟨⟨fun s hs => (h s hs).1.1, fun s hs => (h s hs).1.2⟩, fun s hs => (h s hs).2⟩, fun h s hs => ⟨⟨h.1.1 s hs, h.1.2 s hs⟩, h.2 s hs⟩⟩
  rw [e, List.all_map]
  have hc : ss.all (nmdB false ∘ Sg.name) = ss.all (fun s => nmdB false s.name) := rfl
  have ht : ss.all (fun s => true || noneB s.res) = true := by rw [List.all_eq_true]; intro s _; rfl
  rw [hc]
  cases rs
  · have hf : ss.all (fun s => false || noneB s.res) = ss.all (fun s => noneB s.res) := rfl
    rw [hf]
    generalize decide (ss.length ≤ 16) = A
    generalize ss.all (fun s => nmdB false s.name) = B
    generalize ss.all (sigB n) = C
    generalize ss.all (fun s => noneB s.res) = D
    generalize dupB (ss.map Sg.name) = E
    cases A <;> cases B <;> cases C <;> cases D <;> cases E <;> rfl
  · rw [ht]
    generalize decide (ss.length ≤ 16) = A
    generalize ss.all (fun s => nmdB false s.name) = B
    generalize ss.all (sigB n) = C
    generalize dupB (ss.map Sg.name) = E
    cases A <;> cases B <;> cases C <;> cases E <;> rfl
theorem sgs_no {rs : Bool} {n : Nat} {ss : List Sg} {s : Sg} (hs : s ∈ ss) (h : sgE rs n s = false) : sgsR rs n ss = false := by
  unfold sgsR
  have : ss.all (sgE rs n) = false := by rw [List.all_eq_false]; exact ⟨s, hs, by simp [h]⟩
  rw [this]; simp
set_option maxRecDepth 100000 in
set_option maxHeartbeats 4000000 in
theorem refSigs (w : World) (h : PH) (a : Option Addr) (n cap : Nat) (rs : Bool) (gs : List (GH × Sg)) (d : GRd w a n gs) (hrn : h.rn ≤ 9223372036854775807) :
    Calls Try.prog 79 #[h.v, .slice a n cap, .bool rs] w fun e w' => e = .returned (.bool (sgsR rs h.rn (gs.map (·.2)))) ∧ Below w.heap.size w w' := by
  have D := hid d
  have hn2 := d.n2
  have Hn := hid d.n1
  have KT := hid (fun w' k r => refIsType w' h k r hrn)
  have KN := hid (fun s w' => refNamed s false w')
  obtain ⟨res, hres⟩ : ∃ res, res = sgsR rs h.rn (gs.map (·.2)) := ⟨_, rfl⟩
  rw [← hres]
  have Hres := hid hres
  clear d hres
  obtain ⟨ra, rn, rc, ma, mn, mc, fa, fn, fc, ea, en, ec⟩ := h
  simp only [PH.v, ty] at KT ⊢
  have hb0 : Below w.heap.size w (w.alloc (.cells #[.slice ra rn rc, .slice ma mn mc, .slice fa fn fc, .slice ea en ec] 50)) := (Below.refl _ _).alloc (Nat.le_refl _) _
  have bx0 : (w.alloc (.cells #[.slice ra rn rc, .slice ma mn mc, .slice fa fn fc, .slice ea en ec] 50)).heap[w.heap.size]? = some (.cells #[.slice ra rn rc, .slice ma mn mc, .slice fa fn fc, .slice ea en ec] 50 (0, 0)) := heap_alloc_new w _
  have HB0 := hid hb0
  have HX0 := hid bx0
  clear hb0 bx0
  rcases Nat.lt_or_ge 16 n with h1 | h1
  · have hF : res = false := by
      rw [Hres.out]; unfold sgsR
      have : ¬ (gs.map (·.2)).length ≤ 16 := by rw [List.length_map, ← Hn.out]; omega
      rw [decide_eq_false this]; rfl
    have HF := hid hF
    clear hF
    go_enter Try.func79, Try.ntmps79
    go_wp2
    go_ret
    exact ⟨by rw [HF.out]; rfl, HB0.out⟩
  · have h1' : (n : Int) ≤ 16 := by omega
    go_enter Try.func79, Try.ntmps79
    go_wp2
    go_loopg [7, 8] n (fun g nv ii wr => ∃ i : Nat, i + g = n ∧ ii = .int .i64 (i : Int) ∧ Below w.heap.size w wr ∧ wr.heap[w.heap.size]? = some (.cells #[.slice ra rn rc, .slice ma mn mc, .slice fa fn fc, .slice ea en ec] 50 (0, 0)) ∧ NRow wr (w.heap.size + 1) nv ((gs.take i).map fun p => p.2.name) ∧ ∀ p ∈ gs.take i, sgE rs rn p.2 = true)
    case atStart => exact ⟨0, by omega, rfl, HB0.out, HX0.out, NRow.nil _ _, fun p hp => by simp at hp⟩
    case round =>
      obtain ⟨i, hi', rfl, hbe, hbx, hrow, hAc⟩ := hrel
      obtain ⟨wo, hwo⟩ : ∃ wo, wo = wr := ⟨_, rfl⟩
      subst hwo
      have Hi := hid hi'
      have Hbe := hid hbe
      have HAc := hid hAc
      have Hrow := hid hrow
      have Hbx := hid hbx
      obtain ⟨na, ncap, rfl, hnc⟩ := hrow.form
      have hlx : w.heap.size < wo.heap.size := (Array.getElem?_eq_some_iff.1 hbx).1
      clear hAc hbe hrow hbx
      have hlen : ((gs.take i).map fun p => p.2.name).length = i := by rw [List.length_map, List.length_take, ← Hn.out]; omega
      rw [hlen] at Hrow hnc ⊢
      clear hlen
      cases gk with
      | zero =>
        have hin : i = n := by omega
        clear hi'
        subst hin
        have hall : gs.take i = gs := by rw [Hn.out]; exact List.take_length
        have K := hid (refTwice wo na i ncap (gs.map fun p => p.2.name) (by rw [List.length_map]; exact Hn.out) (by omega) (by
          have h := Hrow.out; rw [hall] at h
          exact h.rd (fun s hs => by
            rw [List.mem_map] at hs
            obtain ⟨p, hp, rfl⟩ := hs
            have := (D.out.el p hp).ns; rw [(D.out.el p hp).nm] at this; exact this)))
        have hval : res = !dupB (gs.map fun p => p.2.name) := by
          rw [Hres.out]; unfold sgsR
          have e1 : (gs.map (·.2)).length ≤ 16 := by rw [List.length_map, ← Hn.out]; exact h1
          have e2 : (gs.map (·.2)).all (sgE rs rn) = true := by
            rw [List.all_eq_true]; intro r hr
            rw [List.mem_map] at hr
            obtain ⟨p, hp, rfl⟩ := hr
            exact HAc.out p (by rw [hall]; exact hp)
          rw [decide_eq_true e1, e2, List.map_map]; rfl
        have Hval := hid hval
        generalize dupB (gs.map fun p => p.2.name) = dd at *
        clear hval hall
        go_wp2_with (go_at_call 77; (refine (Hid.out K).mono ?_; rintro e w2 ⟨rfl, hb2⟩))
        go_ret
        exact ⟨by rw [Hval.out]; rfl, Hbe.out.trans (hb2.mono Hbe.out.size)⟩
      | succ g =>
        have hlt : i < n := by omega
        have hlt' : (i : Int) < (n : Int) := by omega
        clear hi'
        obtain ⟨p, hp⟩ : ∃ p, gs[i]? = some p := ⟨gs[i]'(by rw [← Hn.out]; exact hlt), by rw [List.getElem?_eq_getElem]⟩
        have DW := D.out.below (Nat.le_refl _) Hbe.out
        have el := DW.el p (List.mem_of_getElem? hp)
        obtain ⟨b1, o1, rfl, hb1, e1⟩ := DW.rd i p.1.cs (by simp [hp])
        have x0 := e1 0 (by omega)
        have x1 := e1 1 (by omega)
        have x2 := e1 2 (by omega)
        have x3 := e1 3 (by omega)
        have Hp := hid hp
        have Hel := hid el
        have Hnm := hid el.nm
        have Hpn := hid el.pn
        have hp2 := el.p2
        have Hrs := hid el.rs
        have Hb1 := hid hb1
        have HNo : Hid (sgE rs rn p.2 = false → res = false) := hid (fun e => by rw [Hres.out]; exact sgs_no (List.mem_map.2 ⟨p, List.mem_of_getElem? hp, rfl⟩) e)
        clear e1 DW el hp hb1
        obtain ⟨h, s⟩ := p
        obtain ⟨nm, pa, pn, pc, k, r⟩ := h
        simp only [GH.cs, List.getElem?_cons_zero, List.getElem?_cons_succ, Nat.add_zero] at x0 x1 x2 x3 hp2
        simp only at HNo
        have HX : Hid (∀ wz : World, Below wo.heap.size wo wz → wz.cell? ⟨b1, o1 + i * 4, none⟩ = some (.string nm) ∧ wz.cell? ⟨b1, o1 + i * 4 + 1, none⟩ = some (.slice pa pn pc) ∧ wz.cell? ⟨b1, o1 + i * 4 + 2, none⟩ = some (.int .i64 k) ∧ wz.cell? ⟨b1, o1 + i * 4 + 3, none⟩ = some (.int .i64 r)) := hid (fun wz hb =>
          ⟨(hb.cell (p := ⟨b1, o1 + i * 4, none⟩) Hb1.out).trans x0, (hb.cell (p := ⟨b1, o1 + i * 4 + 1, none⟩) Hb1.out).trans x1, (hb.cell (p := ⟨b1, o1 + i * 4 + 2, none⟩) Hb1.out).trans x2, (hb.cell (p := ⟨b1, o1 + i * 4 + 3, none⟩) Hb1.out).trans x3⟩)
        have c1 := KN.out nm wo
        have hnm : nm = s.name := Hnm.out
        cases q1 : nmdB false nm
        · rw [q1] at c1
          have HF : Hid (res = false) := hid (HNo.out (by unfold sgE; rw [← hnm, q1]; rfl))
          clear q1 hnm
          go_wp2_with (go_at_call 76; refine c1.mono ?_; rintro e wo ⟨rfl, rfl⟩)
          go_ret
          exact ⟨by rw [HF.out]; rfl, Hbe.out⟩
        · rw [q1] at c1
          have Hq1 := hid q1
          clear q1
          have hsp : pn = s.params.length := Hpn.out
          rcases Nat.lt_or_ge 12 pn with h12 | h12
          · have h12' : (12 : Int) < (pn : Int) := by omega
            have HF : Hid (res = false) := hid (HNo.out (by unfold sgE sigB; rw [decide_eq_false (by omega)]; simp))
            clear hnm hsp
            go_wp2_with (go_at_call 76; refine c1.mono ?_; rintro e wo ⟨rfl, rfl⟩)
            go_ret
            exact ⟨by rw [HF.out]; rfl, Hbe.out⟩
          · have h12' : (pn : Int) ≤ 12 := by omega
            have Hsp := hid hsp
            have Hnm2 := hid hnm
            clear hnm hsp
            go_wp2_with (go_at_call 76; refine c1.mono ?_; rintro e wo ⟨rfl, rfl⟩)
            clear x0 x1 x2 x3
            go_loopg [9] pn (fun g2 jj wx => ∃ j : Nat, j + g2 = pn ∧ jj = .int .i64 (j : Int) ∧ Below wo.heap.size wo wx ∧ ∀ t ∈ s.params.take j, typB rn t = true)
            case atStart => exact ⟨0, by omega, rfl, Below.refl _ _, fun t ht => by simp at ht⟩
            case round =>
              obtain ⟨j, hj', rfl, hbj, hAj⟩ := hrel
              have hbx2 := (hbj.block _ hlx).trans Hbx.out
              obtain ⟨y0, y1, y2, y3⟩ := HX.out wr hbj
              have k0 := cellOf hbx2 0
              have k1 := cellOf hbx2 1
              have k2 := cellOf hbx2 2
              have k3 := cellOf hbx2 3
              simp only [List.getElem?_toArray, List.getElem?_cons_zero, List.getElem?_cons_succ] at k0 k1 k2 k3
              have HAj := hid hAj
              have HBJ := hid hbj
              have Hbx2 := hid hbx2
              have hwrb : Below w.heap.size w wr := Hbe.out.trans (hbj.mono Hbe.out.size)
              have HWB := hid hwrb
              have hrow2 := Hrow.out.below hbj
              have Hrow2 := hid hrow2
              have Hj := hid hj'
              have hwsz : w.heap.size + 1 ≤ wr.heap.size := by have := hbj.size; omega
              cases gk with
              | succ g2 =>
                have hjlt : j < pn := by omega
                have hjlt' : (j : Int) < (pn : Int) := by omega
                obtain ⟨t, ht⟩ : ∃ t, s.params[j]? = some t := ⟨s.params[j]'(by rw [← Hsp.out]; exact hjlt), by rw [List.getElem?_eq_getElem]⟩
                obtain ⟨b3, o3, epa, t0, t1⟩ := (Hel.out.below (Nat.le_refl _) hbj).pr j t ht
                simp only at epa
                subst epa
                obtain ⟨tk, tr⟩ := t
                simp only at t0 t1
                have Ht := hid ht
                have cT := hid (fun wz => KT.out wz tk tr)
                clear hj' hbj hAj hbx2 hwrb hrow2 ht
                cases q2 : typB rn (tk, tr)
                · simp only [q2] at cT
                  have HF : Hid (res = false) := hid (HNo.out (by
                    unfold sgE sigB
                    have : s.params.all (typB rn) = false := by rw [List.all_eq_false]; exact ⟨(tk, tr), List.mem_of_getElem? Ht.out, by simp [q2]⟩
                    rw [this]; simp))
                  clear q2
                  go_wp2
                  go_region_held3 (fun wz => wz.cell? ⟨w.heap.size, 0, none⟩ = some (.slice ra rn rc) ∧ wz.cell? ⟨w.heap.size, 1, none⟩ = some (.slice ma mn mc) ∧ wz.cell? ⟨w.heap.size, 2, none⟩ = some (.slice fa fn fc) ∧ wz.cell? ⟨w.heap.size, 3, none⟩ = some (.slice ea en ec) ∧ wz.cell? ⟨b1, o1 + i * 4 + 1, none⟩ = some (.slice (some ⟨b3, o3, none⟩) pn pc) ∧ wz.cell? ⟨b3, o3 + j * 2, none⟩ = some (.int .i64 tk) ∧ wz.cell? ⟨b3, o3 + j * 2 + 1, none⟩ = some (.int .i64 tr)) (first | exact ⟨tt _ _ k0, tt _ _ k1, tt _ _ k2, tt _ _ k3, tt _ _ y1, tt _ _ t0, tt _ _ t1⟩ | go_keep) ((go_at_call 78; (refine (cT.out _).mono ?_; rintro e w9 ⟨rfl, hB9⟩; have tt : ∀ (p : Addr) (v : Value), wr.cell? p = some v → w9.cell? p = some v := fun p v h => (hB9.cell (p := p) (World.block_lt_of_cell? wr p h)).trans h)))
                  have Htt := hid tt
                  clear tt
                  go_wp2
                  go_ret
                  exact ⟨by rw [HF.out]; rfl, HWB.out.drew.trans (hB9.mono HWB.out.size)⟩
                · simp only [q2] at cT
                  have Hq2 := hid q2
                  clear q2
                  go_wp2
                  go_region_held3 (fun wz => wz.cell? ⟨w.heap.size, 0, none⟩ = some (.slice ra rn rc) ∧ wz.cell? ⟨w.heap.size, 1, none⟩ = some (.slice ma mn mc) ∧ wz.cell? ⟨w.heap.size, 2, none⟩ = some (.slice fa fn fc) ∧ wz.cell? ⟨w.heap.size, 3, none⟩ = some (.slice ea en ec) ∧ wz.cell? ⟨b1, o1 + i * 4 + 1, none⟩ = some (.slice (some ⟨b3, o3, none⟩) pn pc) ∧ wz.cell? ⟨b3, o3 + j * 2, none⟩ = some (.int .i64 tk) ∧ wz.cell? ⟨b3, o3 + j * 2 + 1, none⟩ = some (.int .i64 tr)) (first | exact ⟨tt _ _ k0, tt _ _ k1, tt _ _ k2, tt _ _ k3, tt _ _ y1, tt _ _ t0, tt _ _ t1⟩ | go_keep) ((go_at_call 78; (refine (cT.out _).mono ?_; rintro e w9 ⟨rfl, hB9⟩; have tt : ∀ (p : Addr) (v : Value), wr.cell? p = some v → w9.cell? p = some v := fun p v h => (hB9.cell (p := p) (World.block_lt_of_cell? wr p h)).trans h)))
                  have Htt := hid tt
                  clear tt
                  go_wp2
                  go_roundg g2
                  case measure => omega
                  case rel => exact ⟨j + 1, by have := Hj.out; omega, by go_num, HBJ.out.drew.trans (hB9.mono HBJ.out.size), take_acc Ht.out HAj.out Hq2.out⟩
              | zero =>
                have hjn : j = pn := by omega
                subst hjn
                have hpall : s.params.all (typB rn) = true := by
                  rw [List.all_eq_true]; intro t ht
                  exact hAj t (by rw [Hsp.out, List.take_length]; exact ht)
                have HPA := hid hpall
                have hsr : (k, r) = s.res := Hrs.out
                have Hsr := hid hsr
                have Hfin : Hid (∀ v4 w4 wq, sgE rs rn s = true → Below wr.heap.size wr wq → NRow w4 (w.heap.size + 1) v4 (((gs.take i).map fun p => p.2.name) ++ [nm]) → Grw wq (.slice na i ncap) w4 v4 → ∃ i' : Nat, i' + g = n ∧ Value.int .i64 ((i : Int) + 1) = .int .i64 (i' : Int) ∧ Below w.heap.size w w4 ∧ w4.heap[w.heap.size]? = some (.cells #[.slice ra rn rc, .slice ma mn mc, .slice fa fn fc, .slice ea en ec] 50 (0, 0)) ∧ NRow w4 (w.heap.size + 1) v4 ((gs.take i').map fun p => p.2.name) ∧ ∀ p ∈ gs.take i', sgE rs rn p.2 = true) := hid (fun v4 w4 wq hs hbq hr4 hg4 => by
                  have hown : ∀ k, (Value.slice na i ncap).ownBlock = some k → w.heap.size + 1 ≤ k := fun k e => (Hrow2.out.own k e).1
                  have hbwq : Below w.heap.size w wq := HWB.out.trans (hbq.mono HWB.out.size)
                  refine ⟨i + 1, by have := Hi.out; omega, by simp, Grw.belowN hbwq hg4 hown (by omega) hbwq.size, ?_, ?_, take_acc Hp.out HAc.out hs⟩
                  · rw [hg4.1.block _ (by have := hbq.size; omega) (fun e => by have := hown _ e.symm; omega), hbq.block _ (by omega)]
                    exact Hbx2.out
                  · rw [take_map_snoc _ Hp.out, show s.name = nm from Hnm2.out.symm]; exact hr4)
                have HSE : Hid (sgE rs rn s = ((noneB (k, r) || typB rn (k, r)) && (rs || noneB (k, r)))) := hid (by
                  unfold sgE sigB
                  rw [← Hnm2.out, Hq1.out, HPA.out, ← Hsr.out, decide_eq_true (show s.params.length ≤ 12 by have := Hsp.out; omega)]
                  simp)
                have cT := hid (fun wz => KT.out wz k r)
                have hal : Hid ((((gs.take i).map fun p => p.2.name)).length ≤ 1000) := hid (by rw [List.length_map, List.length_take]; omega)
                clear hj' hbj hAj hbx2 hwrb hrow2 hpall hsr
                by_cases hkz : k = 0
                · subst hkz
                  by_cases hrz : r = 0
                  · subst hrz
                    have HSE2 : Hid (sgE rs rn s = true) := hid (by rw [HSE.out]; simp [noneB])
                    go_wp2
                    go_quiet (fail)
                    go_wp2_with (at_builtin; refine wpList_appN1 _ rfl _ _ rfl _ nm (by rfl) (by rfl) (w.heap.size + 1) ((gs.take i).map fun p => p.2.name) (Hrow2.out.below (bel_drewN (Below.refl _ wr) _)) hwsz hal.out ?_; intro v4 w4 hr4 hg4)
                    go_roundg g
                    case measure => omega
                    case rel => exact Hfin.out v4 w4 _ HSE2.out (bel_drewN (Below.refl _ wr) _) hr4 hg4
                  · have hrb : (r == 0) = false := by simpa using hrz
                    cases rs
                    · have HF : Hid (res = false) := hid (HNo.out (by rw [HSE.out]; simp [noneB, hrz]))
                      go_wp2
                      go_quiet (fail)
                      go_wp2
                      go_ret
                      exact ⟨by rw [HF.out]; rfl, bel_drewN HWB.out _⟩
                    · cases q2 : typB rn (0, r)
                      · simp only [q2] at cT
                        have HF : Hid (res = false) := hid (HNo.out (by rw [HSE.out, q2]; simp [noneB, hrz]))
                        clear q2
                        go_wp2
                        go_region_held3 (fun wz => wz.cell? ⟨w.heap.size, 0, none⟩ = some (.slice ra rn rc) ∧ wz.cell? ⟨w.heap.size, 1, none⟩ = some (.slice ma mn mc) ∧ wz.cell? ⟨w.heap.size, 2, none⟩ = some (.slice fa fn fc) ∧ wz.cell? ⟨w.heap.size, 3, none⟩ = some (.slice ea en ec) ∧ wz.cell? ⟨b1, o1 + i * 4 + 2, none⟩ = some (.int .i64 0) ∧ wz.cell? ⟨b1, o1 + i * 4 + 3, none⟩ = some (.int .i64 r)) (first | exact ⟨tt _ _ k0, tt _ _ k1, tt _ _ k2, tt _ _ k3, tt _ _ y2, tt _ _ y3⟩ | go_keep) ((go_at_call 78; (refine (cT.out _).mono ?_; rintro e w9 ⟨rfl, hB9⟩; have tt : ∀ (p : Addr) (v : Value), wr.cell? p = some v → w9.cell? p = some v := fun p v h => (hB9.cell (p := p) (World.block_lt_of_cell? wr p h)).trans h)))
                        have Htt := hid tt
                        clear tt
                        go_wp2
                        go_ret
                        exact ⟨by rw [HF.out]; rfl, HWB.out.drew.trans (hB9.mono HWB.out.size)⟩
                      · simp only [q2] at cT
                        have HSE2 : Hid (sgE true rn s = true) := hid (by rw [HSE.out, q2]; simp)
                        clear q2
                        go_wp2
                        go_region_held3 (fun wz => wz.cell? ⟨w.heap.size, 0, none⟩ = some (.slice ra rn rc) ∧ wz.cell? ⟨w.heap.size, 1, none⟩ = some (.slice ma mn mc) ∧ wz.cell? ⟨w.heap.size, 2, none⟩ = some (.slice fa fn fc) ∧ wz.cell? ⟨w.heap.size, 3, none⟩ = some (.slice ea en ec) ∧ wz.cell? ⟨b1, o1 + i * 4 + 2, none⟩ = some (.int .i64 0) ∧ wz.cell? ⟨b1, o1 + i * 4 + 3, none⟩ = some (.int .i64 r)) (first | exact ⟨tt _ _ k0, tt _ _ k1, tt _ _ k2, tt _ _ k3, tt _ _ y2, tt _ _ y3⟩ | go_keep) ((go_at_call 78; (refine (cT.out _).mono ?_; rintro e w9 ⟨rfl, hB9⟩; have tt : ∀ (p : Addr) (v : Value), wr.cell? p = some v → w9.cell? p = some v := fun p v h => (hB9.cell (p := p) (World.block_lt_of_cell? wr p h)).trans h)))
                        have z0 := tt _ _ y0
                        have Htt := hid tt
                        clear tt
                        go_wp2_with (at_builtin; refine wpList_appN1 _ rfl _ _ rfl _ nm (by rfl) (by rfl) (w.heap.size + 1) ((gs.take i).map fun p => p.2.name) (Hrow2.out.below ((Below.refl _ wr).drew.trans (hB9.mono (Nat.le_refl _)))) (Nat.le_trans hwsz ((Below.refl _ wr).drew.trans (hB9.mono (Nat.le_refl _))).size) hal.out ?_; intro v4 w4 hr4 hg4)
                        go_roundg g
                        case measure => omega
                        case rel => exact Hfin.out v4 w4 _ HSE2.out ((Below.refl _ wr).drew.trans (hB9.mono (Nat.le_refl _))) hr4 hg4
                · have hkb : (k == 0) = false := by simpa using hkz
                  cases rs
                  · have HF : Hid (res = false) := hid (HNo.out (by rw [HSE.out]; simp [noneB, hkz]))
                    go_wp2
                    go_quiet (fail)
                    go_wp2
                    go_ret
                    exact ⟨by rw [HF.out]; rfl, bel_drewN HWB.out _⟩
                  · cases q2 : typB rn (k, r)
                    · simp only [q2] at cT
                      have HF : Hid (res = false) := hid (HNo.out (by rw [HSE.out, q2]; simp [noneB, hkz]))
                      clear q2
                      go_wp2
                      go_region_held3 (fun wz => wz.cell? ⟨w.heap.size, 0, none⟩ = some (.slice ra rn rc) ∧ wz.cell? ⟨w.heap.size, 1, none⟩ = some (.slice ma mn mc) ∧ wz.cell? ⟨w.heap.size, 2, none⟩ = some (.slice fa fn fc) ∧ wz.cell? ⟨w.heap.size, 3, none⟩ = some (.slice ea en ec) ∧ wz.cell? ⟨b1, o1 + i * 4 + 2, none⟩ = some (.int .i64 k) ∧ wz.cell? ⟨b1, o1 + i * 4 + 3, none⟩ = some (.int .i64 r)) (first | exact ⟨tt _ _ k0, tt _ _ k1, tt _ _ k2, tt _ _ k3, tt _ _ y2, tt _ _ y3⟩ | go_keep) ((go_at_call 78; (refine (cT.out _).mono ?_; rintro e w9 ⟨rfl, hB9⟩; have tt : ∀ (p : Addr) (v : Value), wr.cell? p = some v → w9.cell? p = some v := fun p v h => (hB9.cell (p := p) (World.block_lt_of_cell? wr p h)).trans h)))
                      have Htt := hid tt
                      clear tt
                      go_wp2
                      go_ret
                      exact ⟨by rw [HF.out]; rfl, HWB.out.drew.trans (hB9.mono HWB.out.size)⟩
                    · simp only [q2] at cT
                      have HSE2 : Hid (sgE true rn s = true) := hid (by rw [HSE.out, q2]; simp)
                      clear q2
                      go_wp2
                      go_region_held3 (fun wz => wz.cell? ⟨w.heap.size, 0, none⟩ = some (.slice ra rn rc) ∧ wz.cell? ⟨w.heap.size, 1, none⟩ = some (.slice ma mn mc) ∧ wz.cell? ⟨w.heap.size, 2, none⟩ = some (.slice fa fn fc) ∧ wz.cell? ⟨w.heap.size, 3, none⟩ = some (.slice ea en ec) ∧ wz.cell? ⟨b1, o1 + i * 4 + 2, none⟩ = some (.int .i64 k) ∧ wz.cell? ⟨b1, o1 + i * 4 + 3, none⟩ = some (.int .i64 r)) (first | exact ⟨tt _ _ k0, tt _ _ k1, tt _ _ k2, tt _ _ k3, tt _ _ y2, tt _ _ y3⟩ | go_keep) ((go_at_call 78; (refine (cT.out _).mono ?_; rintro e w9 ⟨rfl, hB9⟩; have tt : ∀ (p : Addr) (v : Value), wr.cell? p = some v → w9.cell? p = some v := fun p v h => (hB9.cell (p := p) (World.block_lt_of_cell? wr p h)).trans h)))
                      have z0 := tt _ _ y0
                      have Htt := hid tt
                      clear tt
                      go_wp2_with (at_builtin; refine wpList_appN1 _ rfl _ _ rfl _ nm (by rfl) (by rfl) (w.heap.size + 1) ((gs.take i).map fun p => p.2.name) (Hrow2.out.below ((Below.refl _ wr).drew.trans (hB9.mono (Nat.le_refl _)))) (Nat.le_trans hwsz ((Below.refl _ wr).drew.trans (hB9.mono (Nat.le_refl _))).size) hal.out ?_; intro v4 w4 hr4 hg4)
                      go_roundg g
                      case measure => omega
                      case rel => exact Hfin.out v4 w4 _ HSE2.out ((Below.refl _ wr).drew.trans (hB9.mono (Nat.le_refl _))) hr4 hg4
end Go.Proofs.Ytenfgahedbeekaa

