/- The document's side: programs that may be. -/
import Derived.Test.YthnolocldeokeaaGreatJAJ
namespace Go.Proofs.YthnolocldeokeaaGreat
set_option maxRecDepth 100000
open Go.RowKit Go.Deep Go.Shelf
set_option linter.unusedVariables false
set_option linter.unusedSimpArgs false

def recE (r : Rc) : Bool := nmdB true r.name && fieldsB r
def mapE (n : Nat) (m : Mp) : Bool := nmdB false m.name && mapB n m
theorem and_all {α : Type} (l : List α) (p q : α → Bool) : l.all (fun x => p x && q x) = (l.all p && l.all q) := by
  rw [Bool.eq_iff_iff]
  simp only [Bool.and_eq_true, List.all_eq_true]
  exact ⟨fun h => ⟨fun x hx => (h x hx).1, fun x hx => (h x hx).2⟩, fun h x hx => ⟨h.1 x hx, h.2 x hx⟩⟩
theorem records_eq (rs : List Rc) : recordsB rs = (decide (rs.length ≤ 16) && rs.all recE && !dupB (rs.map Rc.name)) := by
  unfold recordsB
  have h := namesB_split true (rs.map Rc.name)
  rw [if_pos rfl] at h
  have e : rs.all recE = (rs.all (fun r => nmdB true r.name) && rs.all fieldsB) := and_all rs _ _
  rw [h, e, List.all_map]
  have hc : rs.all (nmdB true ∘ Rc.name) = rs.all (fun r => nmdB true r.name) := rfl
  rw [hc]
  generalize decide (rs.length ≤ 16) = A
  generalize rs.all (fun r => nmdB true r.name) = B
  generalize rs.all fieldsB = C
  generalize dupB (rs.map Rc.name) = E
  cases A <;> cases B <;> cases C <;> cases E <;> rfl
theorem maps_eq (n : Nat) (ms : List Mp) : mapsB n ms = (decide (ms.length ≤ 16) && ms.all (mapE n) && !dupB (ms.map Mp.name)) := by
  unfold mapsB
  have h := namesB_split false (ms.map Mp.name)
  rw [if_neg (by decide)] at h
  have e : ms.all (mapE n) = (ms.all (fun r => nmdB false r.name) && ms.all (mapB n)) := and_all ms _ _
  rw [h, e, List.all_map]
  have hc : ms.all (nmdB false ∘ Mp.name) = ms.all (fun r => nmdB false r.name) := rfl
  rw [hc]
  generalize decide (ms.length ≤ 16) = A
  generalize ms.all (fun r => nmdB false r.name) = B
  generalize ms.all (mapB n) = C
  generalize dupB (ms.map Mp.name) = E
  cases A <;> cases B <;> cases C <;> cases E <;> rfl
theorem right_eq (p : Pg) : rightB p = ((decide ((p.recs.map (·.2)).length ≤ 16) && (p.recs.map (·.2)).all recE && !dupB ((p.recs.map (·.2)).map Rc.name)) && (decide (p.maps.length ≤ 16) && p.maps.all (mapE p.rn) && !dupB (p.maps.map Mp.name)) && sgsR true p.rn (p.funcs.map (·.2)) && sgsR false p.rn (p.events.map (·.2))) := by
  unfold rightB
  rw [records_eq, maps_eq, sgs_eq, sgs_eq]
  simp only [Bool.true_or, Bool.and_true, Bool.false_or, Bool.and_assoc]
/- A record's fields, one by one. -/
def fldE (r : Rc) (j : Nat) : Bool := nmdB false (r.fields.getD j ByteArray.empty) && simB (r.types.getD j (0, 0))
theorem rec_parts (r : Rc) : recE r = (nmdB true r.name && (decide (1 ≤ r.fields.length) && decide (r.fields.length ≤ 12) && decide (r.fields.length = r.types.length) && !dupB r.fields && (List.range r.fields.length).all (fldE r))) := by
  unfold recE fieldsB
  have h := namesB_split false r.fields
  rw [if_neg (by decide)] at h
  rw [h]
  by_cases hl : r.fields.length = r.types.length
  · have e : (List.range r.fields.length).all (fldE r) = (r.fields.all (nmdB false) && r.types.all simB) := by
      rw [Bool.eq_iff_iff]
      simp only [Bool.and_eq_true, List.all_eq_true, fldE]
      constructor
      · intro h
        constructor
        · intro x hx
          obtain ⟨j, hj⟩ := List.getElem?_of_mem hx
          have := (h j (List.mem_range.2 (List.getElem?_eq_some_iff.1 hj).1)).1
          rw [List.getD_eq_getElem?_getD, hj] at this
          exact this
        · intro x hx
          obtain ⟨j, hj⟩ := List.getElem?_of_mem hx
          have := (h j (List.mem_range.2 (by rw [hl]; exact (List.getElem?_eq_some_iff.1 hj).1))).2
          rw [List.getD_eq_getElem?_getD, hj] at this
          exact this
      · rintro ⟨h1, h2⟩ j hj
        have hjl := List.mem_range.1 hj
        rw [List.getD_eq_getElem?_getD, List.getD_eq_getElem?_getD, List.getElem?_eq_getElem hjl, List.getElem?_eq_getElem (show j < r.types.length by omega)]
        exact ⟨h1 _ (List.getElem_mem _), h2 _ (List.getElem_mem _)⟩
    rw [e]
    generalize nmdB true r.name = A
    generalize decide (1 ≤ r.fields.length) = B
    generalize decide (r.fields.length ≤ 12) = C
    generalize decide (r.fields.length = r.types.length) = D
    generalize r.types.all simB = E
    generalize r.fields.all (nmdB false) = F
    generalize dupB r.fields = G
    cases A <;> cases B <;> cases C <;> cases D <;> cases E <;> cases F <;> cases G <;> rfl
  · rw [decide_eq_false hl]; simp
theorem all_no {α : Type} {l : List α} {x : α} {p : α → Bool} (hx : x ∈ l) (h : p x = false) : l.all p = false := by rw [List.all_eq_false]; exact ⟨x, hx, by simp [h]⟩
theorem box_alloc {wo wr : World} {c : Array Value} {t : TypeId} (h : Below (wo.alloc (.cells c t)).heap.size (wo.alloc (.cells c t)) wr) : wr.heap[wo.heap.size]? = some (.cells c t (0, 0)) := by
  rw [h.block _ (by simp)]; exact heap_alloc_new wo _
set_option maxRecDepth 100000 in
set_option maxHeartbeats 4000000 in
theorem refRight (w : World) (h : PH) (p : Pg) (d : PRd w h p) : Calls Tryz.prog 34 #[h.v] w fun e w' => e = .returned (.bool (rightB p)) ∧ Below w.heap.size w w' := by
  have D := hid d
  have Hrn := hid d.r.n1
  have hrn2 := d.r.n2
  have Hmn := hid d.m.n1
  have hmn2 := d.m.n2
  have KT := hid (fun w' k r => refIsType w' h k r d.r.n2)
  have KN := hid (fun s g w' => refNamed s g w')
  have KF := hid (fun (w1 : World) (hb : Below w.heap.size w w1) => refSigs w1 h h.fa h.fn h.fc true p.funcs (d.f.below (Nat.le_refl _) hb) d.r.n2)
  have KE := hid (fun (w1 : World) (hb : Below w.heap.size w w1) => refSigs w1 h h.ea h.en h.ec false p.events (d.e.below (Nat.le_refl _) hb) d.r.n2)
  obtain ⟨res, hres⟩ : ∃ res, res = rightB p := ⟨_, rfl⟩
  rw [← hres]
  rw [right_eq] at hres
  rw [show p.rn = h.rn from d.r.n1.symm] at hres
  obtain ⟨sf, hsf⟩ : ∃ b, b = sgsR true h.rn (p.funcs.map (·.2)) := ⟨_, rfl⟩
  obtain ⟨se, hse⟩ : ∃ b, b = sgsR false h.rn (p.events.map (·.2)) := ⟨_, rfl⟩
  rw [← hsf, ← hse] at hres
  rw [← hsf] at KF
  rw [← hse] at KE
  have Hres := hid hres
  clear d hres hsf hse
  obtain ⟨ra, rn, rc, ma, mn, mc, fa, fn, fc, ea, en, ec⟩ := h
  simp only at hrn2 hmn2
  simp only [PH.v, ty] at KT KF KE ⊢
  have hb0 : Below w.heap.size w (w.alloc (.cells #[.slice ra rn rc, .slice ma mn mc, .slice fa fn fc, .slice ea en ec] 26)) := (Below.refl _ _).alloc (Nat.le_refl _) _
  have bx0 : (w.alloc (.cells #[.slice ra rn rc, .slice ma mn mc, .slice fa fn fc, .slice ea en ec] 26)).heap[w.heap.size]? = some (.cells #[.slice ra rn rc, .slice ma mn mc, .slice fa fn fc, .slice ea en ec] 26 (0, 0)) := heap_alloc_new w _
  have HB0 := hid hb0
  have HX0 := hid bx0
  clear hb0 bx0
  have hrl : rn = p.recs.length := Hrn.out
  have hml : mn = p.maps.length := Hmn.out
  by_cases h1 : 16 < rn
  · have h1' : (16 : Int) < (rn : Int) := by omega
    have HF : Hid (res = false) := hid (by rw [Hres.out, decide_eq_false (show ¬ (p.recs.map (·.2)).length ≤ 16 by rw [List.length_map]; omega)]; simp)
    clear hrl hml
    go_enter Tryz.func34, Tryz.ntmps34
    go_wp2
    go_ret
    exact ⟨by rw [HF.out]; rfl, HB0.out⟩
  · have h1' : (rn : Int) ≤ 16 := by omega
    by_cases h2 : 16 < mn
    · have h2' : (16 : Int) < (mn : Int) := by omega
      have HF : Hid (res = false) := hid (by rw [Hres.out, decide_eq_false (show ¬ p.maps.length ≤ 16 by omega)]; simp)
      clear hrl hml
      go_enter Tryz.func34, Tryz.ntmps34
      go_wp2
      go_ret
      exact ⟨by rw [HF.out]; rfl, HB0.out⟩
    · have h2' : (mn : Int) ≤ 16 := by omega
      have Hrl := hid hrl
      have Hml := hid hml
      have Hres2 : Hid (res = (((p.recs.map (·.2)).all recE && !dupB ((p.recs.map (·.2)).map Rc.name)) && (p.maps.all (mapE rn) && !dupB (p.maps.map Mp.name)) && sf && se)) := hid (by
        rw [Hres.out, decide_eq_true (show (p.recs.map (·.2)).length ≤ 16 by rw [List.length_map]; omega), decide_eq_true (show p.maps.length ≤ 16 by omega)]; simp)
      clear hrl hml Hres
      go_enter Tryz.func34, Tryz.ntmps34
      go_wp2
      go_loopg [3, 4] rn (fun g nv ii wr => ∃ i : Nat, i + g = rn ∧ ii = .int .i64 (i : Int) ∧ Below w.heap.size w wr ∧ wr.heap[w.heap.size]? = some (.cells #[.slice ra rn rc, .slice ma mn mc, .slice fa fn fc, .slice ea en ec] 26 (0, 0)) ∧ NRow wr (w.heap.size + 1) nv ((p.recs.take i).map fun p => p.2.name) ∧ ∀ x ∈ p.recs.take i, recE x.2 = true)
      case atStart => exact ⟨0, by omega, rfl, HB0.out, HX0.out, NRow.nil _ _, fun x hx => by simp at hx⟩
      case round =>
        obtain ⟨i, hi', rfl, hbe, hbx, hrow, hAc⟩ := hrel
        obtain ⟨wo, hwo⟩ : ∃ wo, wo = wr := ⟨_, rfl⟩
        subst hwo
        have Hi := hid hi'
        have Hbe := hid hbe
        have HAc := hid hAc
        have Hrow := hid hrow
        have Hbx := hid hbx
        obtain ⟨na, ncap, rfl, hnc⟩ := hrow.form
        have hlx : w.heap.size < wo.heap.size := (Array.getElem?_eq_some_iff.1 hbx).1
        have k0 := cellOf hbx 0
        have k1 := cellOf hbx 1
        simp only [List.getElem?_toArray, List.getElem?_cons_zero, List.getElem?_cons_succ] at k0 k1
        clear hAc hbe hrow hbx
        have hlen : ((p.recs.take i).map fun p => p.2.name).length = i := by rw [List.length_map, List.length_take, ← Hrl.out]; omega
        rw [hlen] at Hrow hnc ⊢
        clear hlen
        cases gk with
        | succ g =>
          have hlt : i < rn := by omega
          have hlt' : (i : Int) < (rn : Int) := by omega
          clear hi'
          obtain ⟨x, hx⟩ : ∃ x, p.recs[i]? = some x := ⟨p.recs[i]'(by rw [← Hrl.out]; exact hlt), by rw [List.getElem?_eq_getElem]⟩
          have DW := D.out.r.below (Nat.le_refl _) Hbe.out
          have el := DW.el x (List.mem_of_getElem? hx)
          obtain ⟨b1, o1, ea', hb1, e1⟩ := DW.rd i x.1.cs (by simp [hx])
          simp only at ea'
          subst ea'
          have x0 := e1 0 (by omega)
          have x1 := e1 1 (by omega)
          have x2 := e1 2 (by omega)
          have Hx := hid hx
          have Hel := hid el
          have HNo : Hid (recE x.2 = false → res = false) := hid (fun e => by rw [Hres2.out, all_no (List.mem_map.2 ⟨x, List.mem_of_getElem? hx, rfl⟩) e]; rfl)
          clear e1 DW el hx hb1
          obtain ⟨hh, rcx⟩ := x
          obtain ⟨nm, ga, gn, gc, ta, tn, tc⟩ := hh
          simp only [RH.cs, List.getElem?_cons_zero, List.getElem?_cons_succ, Nat.add_zero] at x0 x1 x2
          simp only at HNo
          have hnm : nm = rcx.name := Hel.out.nm
          have hgn : gn = rcx.fields.length := Hel.out.fn
          have htn : tn = rcx.types.length := Hel.out.tn
          have hrp := rec_parts rcx
          rw [← hnm, ← hgn, ← htn] at hrp
          have hba : Below wo.heap.size wo (wo.alloc (.cells #[.string nm, .slice ga gn gc, .slice ta tn tc] 63)) := (Below.refl _ _).alloc (Nat.le_refl _) _
          have HBA := hid hba
          have A0 : (wo.alloc (.cells #[.string nm, .slice ga gn gc, .slice ta tn tc] 63)).cell? ⟨wo.heap.size, 0, none⟩ = some (.string nm) := cellOf (heap_alloc_new wo _) 0
          have A1 : (wo.alloc (.cells #[.string nm, .slice ga gn gc, .slice ta tn tc] 63)).cell? ⟨wo.heap.size, 1, none⟩ = some (.slice ga gn gc) := cellOf (heap_alloc_new wo _) 1
          have A2 : (wo.alloc (.cells #[.string nm, .slice ga gn gc, .slice ta tn tc] 63)).cell? ⟨wo.heap.size, 2, none⟩ = some (.slice ta tn tc) := cellOf (heap_alloc_new wo _) 2
          have c1 := KN.out nm true (wo.alloc (.cells #[.string nm, .slice ga gn gc, .slice ta tn tc] 63))
          have cTw := hid (refTwice (wo.alloc (.cells #[.string nm, .slice ga gn gc, .slice ta tn tc] 63)) ga gn gc rcx.fields hgn)
          have Hgn := hid hgn
          have Htn := hid htn
          have Hnm := hid hnm
          have HRP := hid hrp
          have hgn2 : gn ≤ 9223372036854775807 := Hel.out.f2
          have htn2 : tn ≤ 9223372036854775807 := Hel.out.t2
          clear hnm hgn htn hrp hba
          cases q1 : nmdB true nm
          · rw [q1] at c1
            have HF : Hid (res = false) := hid (HNo.out (by rw [HRP.out]; rw [q1]; rfl))
            go_wp2_with (go_at_call 66; refine c1.mono ?_; rintro e wz ⟨rfl, rfl⟩)
            go_ret
            exact ⟨by rw [HF.out]; rfl, Hbe.out.trans (HBA.out.mono Hbe.out.size)⟩
          · rw [q1] at c1
            by_cases g1 : gn < 1
            · have g1' : (gn : Int) < 1 := by omega
              have HF : Hid (res = false) := hid (HNo.out (by rw [HRP.out]; rw [decide_eq_false (show ¬ 1 ≤ gn by omega)]; simp))
              go_wp2_with (go_at_call 66; refine c1.mono ?_; rintro e wz ⟨rfl, rfl⟩)
              go_ret
              exact ⟨by rw [HF.out]; rfl, Hbe.out.trans (HBA.out.mono Hbe.out.size)⟩
            · have g1' : ¬ (gn : Int) < 1 := by omega
              by_cases g2 : 12 < gn
              · have g2' : (12 : Int) < (gn : Int) := by omega
                have HF : Hid (res = false) := hid (HNo.out (by rw [HRP.out]; rw [decide_eq_false (show ¬ gn ≤ 12 by omega)]; simp))
                go_wp2_with (go_at_call 66; refine c1.mono ?_; rintro e wz ⟨rfl, rfl⟩)
                go_ret
                exact ⟨by rw [HF.out]; rfl, Hbe.out.trans (HBA.out.mono Hbe.out.size)⟩
              · have g2' : (gn : Int) ≤ 12 := by omega
                by_cases g3 : gn = tn
                · subst g3
                  have cT2 := cTw.out (by omega) (Hel.out.fr.below (Nat.le_refl _) HBA.out)
                  cases q2 : dupB rcx.fields
                  · rw [q2] at cT2
                    have HRP2 : Hid (recE rcx = (List.range gn).all (fldE rcx)) := hid (by rw [HRP.out, q1, q2, decide_eq_true (show 1 ≤ gn by omega), decide_eq_true (show gn ≤ 12 by omega)]; simp)
                    clear q1 q2 HRP cTw
                    go_wp2_with (first | (go_at_call 66; refine c1.mono ?_; rintro e wz ⟨rfl, rfl⟩) | (go_at_call 67; refine cT2.mono ?_; rintro e w2 ⟨rfl, hb2⟩; have y0 := cellOf (box_alloc hb2) 0; have y1 := cellOf (box_alloc hb2) 1; have y2 := cellOf (box_alloc hb2) 2; simp only [List.getElem?_toArray, List.getElem?_cons_zero, List.getElem?_cons_succ] at y0 y1 y2))
                    have HB2 := hid hb2
                    clear hb2 y0 y1 y2 x0 x1 x2 A0 A1 A2 c1 cT2
                    go_loopg [6] gn (fun g2 jj wx => ∃ j : Nat, j + g2 = gn ∧ jj = .int .i64 (j : Int) ∧ Below (wo.alloc (.cells #[.string nm, .slice ga gn gc, .slice ta gn tc] 63)).heap.size (wo.alloc (.cells #[.string nm, .slice ga gn gc, .slice ta gn tc] 63)) wx ∧ ∀ y, y < j → fldE rcx y = true)
                    case atStart => exact ⟨0, by omega, rfl, HB2.out, fun y hy => by omega⟩
                    case round =>
                      obtain ⟨j, hj', rfl, hbj, hAj⟩ := hrel
                      have y0 := cellOf (box_alloc hbj) 0
                      have y1 := cellOf (box_alloc hbj) 1
                      have y2 := cellOf (box_alloc hbj) 2
                      simp only [List.getElem?_toArray, List.getElem?_cons_zero, List.getElem?_cons_succ] at y0 y1 y2
                      have hwj : Below wo.heap.size wo wr := HBA.out.trans (hbj.mono HBA.out.size)
                      have HWJ := hid hwj
                      have HBJ := hid hbj
                      have HAj := hid hAj
                      have Hj := hid hj'
                      have HWB := hid (Hbe.out.trans (hwj.mono Hbe.out.size))
                      cases gk with
                      | succ g2' =>
                        have hjlt : j < gn := by omega
                        have hjlt' : (j : Int) < (gn : Int) := by omega
                        obtain ⟨s, hs⟩ : ∃ s, rcx.fields[j]? = some s := ⟨rcx.fields[j]'(by rw [← Hgn.out]; exact hjlt), by rw [List.getElem?_eq_getElem]⟩
                        obtain ⟨t, ht⟩ : ∃ t, rcx.types[j]? = some t := ⟨rcx.types[j]'(by rw [← Htn.out]; exact hjlt), by rw [List.getElem?_eq_getElem]⟩
                        obtain ⟨_, fb, fo, ea', s0⟩ := (Hel.out.fr.below (Nat.le_refl _) hwj) j s hs
                        simp only at ea'
                        subst ea'
                        obtain ⟨tb, to', ea', t0, t1⟩ := (Hel.out.tr.below (Nat.le_refl _) hwj) j t ht
                        simp only at ea'
                        subst ea'
                        obtain ⟨tk, tr⟩ := t
                        simp only at t0 t1
                        have Hfl : Hid (fldE rcx j = (nmdB false s && simB (tk, tr))) := hid (by unfold fldE; rw [List.getD_eq_getElem?_getD, List.getD_eq_getElem?_getD, hs, ht]; rfl)
                        have HNj : Hid (fldE rcx j = false → res = false) := hid (fun e => HNo.out (by rw [HRP2.out]; exact all_no (List.mem_range.2 hjlt) e))
                        have c1 := KN.out s false wr
                        clear hj' hbj hAj hwj hs ht
                        cases q3 : nmdB false s
                        · rw [q3] at c1
                          have HF : Hid (res = false) := hid (HNj.out (by rw [Hfl.out]; rw [q3]; rfl))
                          go_wp2_with (go_at_call 66; refine c1.mono ?_; rintro e wr ⟨rfl, rfl⟩)
                          go_ret
                          exact ⟨by rw [HF.out]; rfl, HWB.out⟩
                        · rw [q3] at c1
                          by_cases u1 : tk < 1
                          · have HF : Hid (res = false) := hid (HNj.out (by rw [Hfl.out]; simp [simB]; omega))
                            go_wp2_with (go_at_call 66; refine c1.mono ?_; rintro e wr ⟨rfl, rfl⟩)
                            go_ret
                            exact ⟨by rw [HF.out]; rfl, HWB.out⟩
                          · by_cases u2 : 3 < tk
                            · have HF : Hid (res = false) := hid (HNj.out (by rw [Hfl.out]; simp [simB]; omega))
                              go_wp2_with (go_at_call 66; refine c1.mono ?_; rintro e wr ⟨rfl, rfl⟩)
                              go_ret
                              exact ⟨by rw [HF.out]; rfl, HWB.out⟩
                            · by_cases u3 : tr = 0
                              · subst u3
                                have Hok : Hid (fldE rcx j = true) := hid (by rw [Hfl.out, q3]; simp [simB]; omega)
                                clear q3
                                go_wp2_with (go_at_call 66; refine c1.mono ?_; rintro e wr ⟨rfl, rfl⟩)
                                go_roundg g2'
                                case measure => omega
                                case rel => exact ⟨j + 1, by have := Hj.out; omega, by go_num, HBJ.out, fun y hy => by
                                  rcases Nat.lt_or_ge y j with h | h
                                  · exact HAj.out y h
                                  · obtain rfl : y = j := by omega
                                    exact Hok.out⟩
                              · have u3b : (tr == 0) = false := by simpa using u3
                                have u3c : (tr != 0) = true := by simp [bne, u3b]
                                have HF : Hid (res = false) := hid (HNj.out (by rw [Hfl.out]; simp [simB, u3]))
                                go_wp2_with (go_at_call 66; refine c1.mono ?_; rintro e wr ⟨rfl, rfl⟩)
                                go_ret
                                exact ⟨by rw [HF.out]; rfl, HWB.out⟩
                      | zero =>
                        have hjn : j = gn := by omega
                        subst hjn
                        have hrec : recE rcx = true := by rw [HRP2.out, List.all_eq_true]; exact fun y hy => hAj y (List.mem_range.1 hy)
                        have Hrec := hid hrec
                        have Hrow2 := hid (Hrow.out.below hwj)
                        have hwsz : w.heap.size + 1 ≤ wr.heap.size := by have := hwj.size; omega
                        have hal : Hid ((((p.recs.take i).map fun p => p.2.name)).length ≤ 1000) := hid (by rw [List.length_map, List.length_take]; omega)
                        clear hj' hbj hAj hwj hrec
                        go_wp2_with (at_builtin; refine wpList_appN1 _ rfl _ _ rfl _ nm (by rfl) (by rfl) (w.heap.size + 1) ((p.recs.take i).map fun p => p.2.name) Hrow2.out hwsz hal.out ?_; intro v4 w4 hr4 hg4)
                        go_roundg g
                        case measure => omega
                        case rel =>
                          have hown : ∀ k, (Value.slice na i ncap).ownBlock = some k → w.heap.size + 1 ≤ k := fun k e => (Hrow2.out.own k e).1
                          refine ⟨i + 1, by have := Hi.out; omega, by go_num, Grw.belowN HWB.out hg4 hown (by omega) HWB.out.size, ?_, ?_, take_acc Hx.out HAc.out Hrec.out⟩
                          · rw [hg4.1.block _ (by omega) (fun e => by have := hown _ e.symm; omega), HWJ.out.block _ hlx]
                            exact Hbx.out
                          · rw [take_map_snoc _ Hx.out, show rcx.name = nm from Hnm.out.symm]; exact hr4
                  · rw [q2] at cT2
                    have HF : Hid (res = false) := hid (HNo.out (by rw [HRP.out, q2]; simp))
                    go_wp2_with (first | (go_at_call 66; refine c1.mono ?_; rintro e wz ⟨rfl, rfl⟩) | (go_at_call 67; refine cT2.mono ?_; rintro e w2 ⟨rfl, hb2⟩))
                    go_ret
                    exact ⟨by rw [HF.out]; rfl, (Hbe.out.trans (HBA.out.mono Hbe.out.size)).trans (hb2.mono (Hbe.out.trans (HBA.out.mono Hbe.out.size)).size)⟩
                · have g3' : ¬ (tn : Int) = (gn : Int) := by omega
                  have g3b : ((tn : Int) == (gn : Int)) = false := by simpa using g3'
                  have HF : Hid (res = false) := hid (HNo.out (by rw [HRP.out]; rw [decide_eq_false g3]; simp))
                  go_wp2_with (go_at_call 66; refine c1.mono ?_; rintro e wz ⟨rfl, rfl⟩)
                  go_ret
                  exact ⟨by rw [HF.out]; rfl, Hbe.out.trans (HBA.out.mono Hbe.out.size)⟩
        | zero =>
          have hin : i = rn := by omega
          clear hi'
          subst hin
          have hall : p.recs.take i = p.recs := by rw [Hrl.out]; exact List.take_length
          have K26 := refTwice wo na i ncap (p.recs.map fun x => x.2.name) (by rw [List.length_map]; exact Hrl.out) (by omega) (by
            have h := Hrow.out; rw [hall] at h
            exact h.rd (fun s hs => by
              rw [List.mem_map] at hs
              obtain ⟨x, hx, rfl⟩ := hs
              have := (D.out.r.el x hx).ns; rw [(D.out.r.el x hx).nm] at this; exact this))
          have hres3 : res = (!dupB (p.recs.map fun x => x.2.name) && (p.maps.all (mapE i) && !dupB (p.maps.map Mp.name)) && sf && se) := by
            rw [Hres2.out]
            have e2 : (p.recs.map (·.2)).all recE = true := by
              rw [List.all_eq_true]; intro r hr
              rw [List.mem_map] at hr
              obtain ⟨x, hx, rfl⟩ := hr
              exact HAc.out x (by rw [hall]; exact hx)
            rw [e2, List.map_map]; rfl
          have Hres3 := hid hres3
          clear hres3 hall
          cases dd : dupB (p.recs.map fun x => x.2.name)
          · rw [dd] at K26
            have Hres4 : Hid (res = (p.maps.all (mapE i) && !dupB (p.maps.map Mp.name) && sf && se)) := hid (by rw [Hres3.out, dd]; simp)
            clear dd Hres3
            go_wp2_with (go_at_call 67; (refine K26.mono ?_; rintro e w2 ⟨rfl, hb2⟩))
            have hbw2 : Below w.heap.size w w2 := Hbe.out.trans (hb2.mono Hbe.out.size)
            have hbx2 := (hb2.block _ hlx).trans Hbx.out
            have HBW2 := hid hbw2
            have HBX2 := hid hbx2
            clear hbw2 hbx2 hb2 k0 k1 K26
            go_loopg [3, 7] mn (fun g nv ii wr => ∃ j : Nat, j + g = mn ∧ ii = .int .i64 (j : Int) ∧ Below w.heap.size w wr ∧ wr.heap[w.heap.size]? = some (.cells #[.slice ra i rc, .slice ma mn mc, .slice fa fn fc, .slice ea en ec] 26 (0, 0)) ∧ NRow wr (w.heap.size + 1) nv ((p.maps.take j).map Mp.name) ∧ ∀ m ∈ p.maps.take j, mapE i m = true)
            case atStart => exact ⟨0, by omega, rfl, HBW2.out, HBX2.out, NRow.nil _ _, fun x hx => by simp at hx⟩
            case round =>
              obtain ⟨j, hj', rfl, hbe3, hbx3, hrow3, hAc3⟩ := hrel
              obtain ⟨wv, hwv⟩ : ∃ wv, wv = wr := ⟨_, rfl⟩
              subst hwv
              have Hj := hid hj'
              have Hbe3 := hid hbe3
              have HAc3 := hid hAc3
              have Hrow3 := hid hrow3
              have Hbx3 := hid hbx3
              obtain ⟨na3, ncap3, rfl, hnc3⟩ := hrow3.form
              have hlx3 : w.heap.size < wv.heap.size := (Array.getElem?_eq_some_iff.1 hbx3).1
              have k0 := cellOf hbx3 0
              have k1' := cellOf hbx3 1
              have k2' := cellOf hbx3 2
              have k3' := cellOf hbx3 3
              simp only [List.getElem?_toArray, List.getElem?_cons_zero, List.getElem?_cons_succ] at k0 k1' k2' k3'
              clear hAc3 hbe3 hrow3 hbx3
              have hlen : ((p.maps.take j).map Mp.name).length = j := by rw [List.length_map, List.length_take, ← Hml.out]; omega
              rw [hlen] at Hrow3 hnc3 ⊢
              clear hlen
              cases gk with
              | succ g3 =>
                have hlt : j < mn := by omega
                have hlt' : (j : Int) < (mn : Int) := by omega
                clear hj'
                obtain ⟨m, hm⟩ : ∃ m, p.maps[j]? = some m := ⟨p.maps[j]'(by rw [← Hml.out]; exact hlt), by rw [List.getElem?_eq_getElem]⟩
                obtain ⟨b1, o1, ea', hb1, e1⟩ := (D.out.m.below (Nat.le_refl _) Hbe3.out).rd j m.cs (by simp [hm])
                simp only at ea'
                subst ea'
                have x0 := e1 0 (by omega)
                have x1 := e1 1 (by omega)
                have x2 := e1 2 (by omega)
                have x3 := e1 3 (by omega)
                have x4 := e1 4 (by omega)
                have Hm := hid hm
                have HNo : Hid (mapE i m = false → res = false) := hid (fun e => by rw [Hres4.out, all_no (List.mem_of_getElem? hm) e]; rfl)
                have HEq : Hid (mapE i m = (nmdB false m.name && (keyB m.key && typB i m.val))) := hid rfl
                clear e1 hm hb1
                obtain ⟨nm, ⟨k1, r1⟩, ⟨k2, r2⟩⟩ := m
                simp only [Mp.cs, List.getElem?_cons_zero, List.getElem?_cons_succ, Nat.add_zero] at x0 x1 x2 x3 x4
                simp only at HNo HEq
                have HBA : Hid (Below wv.heap.size wv (wv.alloc (.cells #[.string nm, .int .i64 k1, .int .i64 r1, .int .i64 k2, .int .i64 r2] 67))) := hid ((Below.refl _ _).alloc (Nat.le_refl _) _)
                have HBW := hid (Hbe3.out.trans (HBA.out.mono Hbe3.out.size))
                have A0 : (wv.alloc (.cells #[.string nm, .int .i64 k1, .int .i64 r1, .int .i64 k2, .int .i64 r2] 67)).cell? ⟨wv.heap.size, 0, none⟩ = some (.string nm) := cellOf (heap_alloc_new wv _) 0
                have A1 : (wv.alloc (.cells #[.string nm, .int .i64 k1, .int .i64 r1, .int .i64 k2, .int .i64 r2] 67)).cell? ⟨wv.heap.size, 1, none⟩ = some (.int .i64 k1) := cellOf (heap_alloc_new wv _) 1
                have A2 : (wv.alloc (.cells #[.string nm, .int .i64 k1, .int .i64 r1, .int .i64 k2, .int .i64 r2] 67)).cell? ⟨wv.heap.size, 2, none⟩ = some (.int .i64 r1) := cellOf (heap_alloc_new wv _) 2
                have A3 : (wv.alloc (.cells #[.string nm, .int .i64 k1, .int .i64 r1, .int .i64 k2, .int .i64 r2] 67)).cell? ⟨wv.heap.size, 3, none⟩ = some (.int .i64 k2) := cellOf (heap_alloc_new wv _) 3
                have A4 : (wv.alloc (.cells #[.string nm, .int .i64 k1, .int .i64 r1, .int .i64 k2, .int .i64 r2] 67)).cell? ⟨wv.heap.size, 4, none⟩ = some (.int .i64 r2) := cellOf (heap_alloc_new wv _) 4
                have hbx4 := (HBA.out.block _ hlx3).trans Hbx3.out
                have B0 := cellOf hbx4 0
                have B1 := cellOf hbx4 1
                have B2 := cellOf hbx4 2
                have B3 := cellOf hbx4 3
                simp only [List.getElem?_toArray, List.getElem?_cons_zero, List.getElem?_cons_succ] at B0 B1 B2 B3
                have c1 := KN.out nm false (wv.alloc (.cells #[.string nm, .int .i64 k1, .int .i64 r1, .int .i64 k2, .int .i64 r2] 67))
                have cT := KT.out (wv.alloc (.cells #[.string nm, .int .i64 k1, .int .i64 r1, .int .i64 k2, .int .i64 r2] 67)) k2 r2
                clear hbx4
                cases q1 : nmdB false nm
                · rw [q1] at c1
                  have HF : Hid (res = false) := hid (HNo.out (by rw [HEq.out]; rw [q1]; rfl))
                  go_wp2_with (go_at_call 66; refine c1.mono ?_; rintro e wz ⟨rfl, rfl⟩)
                  go_ret
                  exact ⟨by rw [HF.out]; rfl, HBW.out⟩
                · rw [q1] at c1
                  by_cases u1 : r1 = 0
                  · subst u1
                    by_cases u2 : k1 = 1 ∨ k1 = 2
                    · cases q2 : typB i (k2, r2)
                      · simp only [q2] at cT
                        have HF : Hid (res = false) := hid (HNo.out (by rw [HEq.out, q2]; simp))
                        clear q1 q2
                        rcases u2 with rfl | rfl <;>
                          (go_wp2_with (first | (go_at_call 66; refine c1.mono ?_; rintro e wz ⟨rfl, rfl⟩) | (go_at_call 68; refine cT.mono ?_; rintro e w9 ⟨rfl, hb9⟩))
                           go_ret
                           exact ⟨by rw [HF.out]; rfl, HBW.out.trans (hb9.mono HBW.out.size)⟩)
                      · simp only [q2] at cT
                        have HOk : Hid (mapE i ⟨nm, (k1, 0), (k2, r2)⟩ = true) := hid (by rw [HEq.out, q1, q2]; unfold keyB; rcases u2 with rfl | rfl <;> rfl)
                        have hal : Hid ((((p.maps.take j).map Mp.name)).length ≤ 1000) := hid (by rw [List.length_map, List.length_take]; omega)
                        clear q1 q2
                        rcases u2 with rfl | rfl <;>
                          (go_wp2_with (first
                             | (go_at_call 66; refine c1.mono ?_; rintro e wz ⟨rfl, rfl⟩)
                             | (go_at_call 68; refine cT.mono ?_; rintro e w9 ⟨rfl, hb9⟩; have y0 := cellOf (box_alloc hb9) 0; simp only [List.getElem?_toArray, List.getElem?_cons_zero] at y0)
                             | (at_builtin; refine wpList_appN1 _ rfl _ _ rfl _ nm (by rfl) (by rfl) (w.heap.size + 1) ((p.maps.take j).map Mp.name) (Hrow3.out.below (HBA.out.trans (hb9.mono HBA.out.size))) (Nat.le_trans hlx3 (Nat.le_trans HBA.out.size hb9.size)) hal.out ?_; intro v4 w4 hr4 hg4))
                           go_roundg g3
                           case measure => omega
                           case rel =>
                             have hwq : Below wv.heap.size wv w9 := HBA.out.trans (hb9.mono HBA.out.size)
                             have hown : ∀ k, (Value.slice na3 j ncap3).ownBlock = some k → w.heap.size + 1 ≤ k := fun k e => (Hrow3.out.own k e).1
                             have hbq : Below w.heap.size w w9 := Hbe3.out.trans (hwq.mono Hbe3.out.size)
                             refine ⟨j + 1, by have := Hj.out; omega, by go_num, Grw.belowN hbq hg4 hown (by omega) hbq.size, ?_, ?_, take_acc Hm.out HAc3.out HOk.out⟩
                             · rw [hg4.1.block _ (by have := hwq.size; omega) (fun e => by have := hown _ e.symm; omega), hwq.block _ hlx3]
                               exact Hbx3.out
                             · rw [take_map_snoc _ Hm.out]; exact hr4)
                    · have v1 : ¬ k1 = 1 := fun e => u2 (.inl e)
                      have v2 : ¬ k1 = 2 := fun e => u2 (.inr e)
                      have v1b : (k1 == 1) = false := by simpa using v1
                      have v2b : (k1 == 2) = false := by simpa using v2
                      have v1c : (k1 != 1) = true := by simp [bne, v1b]
                      have v2c : (k1 != 2) = true := by simp [bne, v2b]
                      have HF : Hid (res = false) := hid (HNo.out (by rw [HEq.out]; unfold keyB; simp [v1, v2]))
                      go_wp2_with (go_at_call 66; refine c1.mono ?_; rintro e wz ⟨rfl, rfl⟩)
                      go_ret
                      exact ⟨by rw [HF.out]; rfl, HBW.out⟩
                  · have u1b : (r1 == 0) = false := by simpa using u1
                    have u1c : (r1 != 0) = true := by simp [bne, u1b]
                    have HF : Hid (res = false) := hid (HNo.out (by rw [HEq.out]; unfold keyB; simp [u1]))
                    go_wp2_with (go_at_call 66; refine c1.mono ?_; rintro e wz ⟨rfl, rfl⟩)
                    go_ret
                    exact ⟨by rw [HF.out]; rfl, HBW.out⟩
              | zero =>
                have hjn : j = mn := by omega
                clear hj'
                subst hjn
                have hall : p.maps.take j = p.maps := by rw [Hml.out]; exact List.take_length
                have K26 := refTwice wv na3 j ncap3 (p.maps.map Mp.name) (by rw [List.length_map]; exact Hml.out) (by omega) (by
                  have h := Hrow3.out; rw [hall] at h
                  exact h.rd (fun s hs => by
                    rw [List.mem_map] at hs
                    obtain ⟨x, hx, rfl⟩ := hs
                    exact D.out.m.ns x hx))
                have Hres5 : Hid (res = (!dupB (p.maps.map Mp.name) && sf && se)) := hid (by
                  rw [Hres4.out]
                  have e2 : p.maps.all (mapE i) = true := by
                    rw [List.all_eq_true]; intro r hr
                    exact HAc3.out r (by rw [hall]; exact hr)
                  rw [e2]; rfl)
                clear hall
                have HX : Hid (∀ wz : World, Below wv.heap.size wv wz → wz.cell? ⟨w.heap.size, 0, none⟩ = some (.slice ra i rc) ∧ wz.cell? ⟨w.heap.size, 1, none⟩ = some (.slice ma j mc) ∧ wz.cell? ⟨w.heap.size, 2, none⟩ = some (.slice fa fn fc) ∧ wz.cell? ⟨w.heap.size, 3, none⟩ = some (.slice ea en ec) ∧ Below w.heap.size w wz) := hid (fun wz hb => by
                  have q := (hb.block _ hlx3).trans Hbx3.out
                  exact ⟨cellOf q 0, cellOf q 1, cellOf q 2, cellOf q 3, Hbe3.out.trans (hb.mono Hbe3.out.size)⟩)
                generalize dupB (p.maps.map Mp.name) = dm at *
                cases dm <;> cases sf <;> cases se <;>
                  (go_wp2_with (first
                     | (go_at_call 67; (refine K26.mono ?_; rintro e w5 ⟨rfl, hb5⟩; obtain ⟨z0, z1, z2, z3, zb⟩ := HX.out w5 hb5))
                     | (go_at_call 69; have hno := zb6; clear hno; (refine (KE.out _ zb6).mono ?_; rintro e w7 ⟨rfl, hb7⟩))
                     | (go_at_call 69; (refine (KF.out _ zb).mono ?_; rintro e w6 ⟨rfl, hb6⟩; obtain ⟨t0, t1, t2, t3, zb6⟩ := HX.out w6 (hb5.trans (hb6.mono hb5.size)))))
                   go_ret
                   first
                     | exact ⟨by rw [Hres5.out]; rfl, zb6.trans (hb7.mono zb6.size)⟩
                     | exact ⟨by rw [Hres5.out]; rfl, zb6⟩
                     | exact ⟨by rw [Hres5.out]; rfl, zb⟩)
          · rw [dd] at K26
            have HF : Hid (res = false) := hid (by rw [Hres3.out, dd]; rfl)
            go_wp2_with (go_at_call 67; (refine K26.mono ?_; rintro e w2 ⟨rfl, hb2⟩))
            go_ret
            exact ⟨by rw [HF.out]; rfl, Hbe.out.trans (hb2.mono Hbe.out.size)⟩
end Go.Proofs.YthnolocldeokeaaGreat

namespace Go.Proofs.YthnolocldeokeaaGreat
open Go.RowKit Go.Deep Go.Shelf
set_option linter.unusedVariables false
set_option linter.unusedSimpArgs false
def shortB (s : ByteArray) : Bool := decide (s.size ≤ 64)
def refIsB (c : Cx) (fs es : List (FH × Fx)) : Bool := rightB c.p && decide (c.ints ≤ 1000) && decide (c.texts.length ≤ 1000) && c.texts.all shortB && refFnsB c c.p.funcs fs && refFnsB c c.p.events es
set_option maxRecDepth 100000 in
set_option maxHeartbeats 8000000 in
theorem refIs_any (w : World) (C : CH) (c : Cx) (fs es : List (FH × Fx)) (dd : CdRd w C c fs es) :
    Calls Tryz.prog 9 #[C.v] w fun e w' => e = .returned (.bool (refIsB c fs es)) ∧ Below w.heap.size w w' := by
  obtain ⟨W0, hW0⟩ : ∃ W0, W0 = w.alloc (.cells C.cs 31) := ⟨_, rfl⟩
  have b0 : Below w.heap.size w W0 := by rw [hW0]; exact (Below.refl _ _).alloc (Nat.le_refl _) _
  have m0 : W0.heap[w.heap.size]? = some (.cells C.cs 31 (0, 0)) := by rw [hW0]; exact heap_alloc_new w _
  have GT : Hid (∀ V : World, Below W0.heap.size W0 V → V.heap[w.heap.size]? = some (.cells C.cs 31 (0, 0)) ∧ Below w.heap.size w V) := hid (fun V hV => ⟨(hV.block _ (lt_of_heap m0)).trans m0, b0.trans (hV.mono b0.size)⟩)
  have KR := hid (refRight W0 C.h c.p (dd.p.below (Nat.le_refl _) b0))
  have KF := hid (fun (V : World) (hV : Below w.heap.size w V) => refIsFns_any V C c fs es (dd.below (Nat.le_refl _) hV) C.fa C.fn C.fc fs (dd.f.below (Nat.le_refl _) hV) C.h.fa C.h.fn C.h.fc c.p.funcs (dd.p.f.below (Nat.le_refl _) hV))
  have KE := hid (fun (V : World) (hV : Below w.heap.size w V) => refIsFns_any V C c fs es (dd.below (Nat.le_refl _) hV) C.ea C.en C.ec es (dd.e.below (Nat.le_refl _) hV) C.h.ea C.h.en C.h.ec c.p.events (dd.p.e.below (Nat.le_refl _) hV))
  have i1 := hid dd.i1
  have t1 := hid dd.t1
  have i2 := dd.i2
  have t2 := dd.t2
  have TR := hid (fun (V : World) (hV : Below w.heap.size w V) => dd.tr.below (Nat.le_refl _) hV)
  obtain ⟨res, hres⟩ : ∃ res, res = refIsB c fs es := ⟨_, rfl⟩
  rw [← hres]
  have HRES : Hid (res = (rightB c.p && decide (C.inn ≤ 1000) && decide (C.tn ≤ 1000) && c.texts.all shortB && refFnsB c c.p.funcs fs && refFnsB c c.p.events es)) := hid (by rw [hres, dd.i1, dd.t1]; rfl)
  clear hres dd b0 m0
  generalize rightB c.p = rb at KR HRES
  generalize refFnsB c c.p.funcs fs = f1 at KF HRES
  generalize refFnsB c c.p.events es = f2 at KE HRES
  obtain ⟨⟨ra, rn, rc, ma, mn, mc, fa, fn, fc, ea, en, ec⟩, ia, inn, ic, ta, tn, tc, ga, gn, gc, ha, hn, hc⟩ := C
  simp only [CH.v, CH.cs, PH.v] at hW0 GT KR KF KE i1 t1 i2 t2 TR HRES ⊢
  have CL : Hid (∀ V : World, Below W0.heap.size W0 V → (V.cell? ⟨w.heap.size, 0, none⟩ = some (.slice ra rn rc) ∧ V.cell? ⟨w.heap.size, 1, none⟩ = some (.slice ma mn mc) ∧ V.cell? ⟨w.heap.size, 2, none⟩ = some (.slice fa fn fc) ∧ V.cell? ⟨w.heap.size, 3, none⟩ = some (.slice ea en ec)) ∧ V.cell? ⟨w.heap.size, 4, none⟩ = some (.slice ia inn ic) ∧ V.cell? ⟨w.heap.size, 5, none⟩ = some (.slice ta tn tc) ∧ V.cell? ⟨w.heap.size, 6, none⟩ = some (.slice ga gn gc) ∧ V.cell? ⟨w.heap.size, 7, none⟩ = some (.slice ha hn hc)) := hid (fun V hV => by
    obtain ⟨g, _⟩ := GT.out V hV
    exact ⟨⟨cellOf g 0, cellOf g 1, cellOf g 2, cellOf g 3⟩, cellOf g 4, cellOf g 5, cellOf g 6, cellOf g 7⟩)
  have inI : (inn : Int) ≤ 9223372036854775807 := by omega
  have tnI : (tn : Int) ≤ 9223372036854775807 := by omega
  obtain ⟨⟨c0, c1, c2, c3⟩, c4, c5, c6, c7⟩ := CL.out W0 (Below.refl _ _)
  cases rb with
  | false =>
    have HF : Hid (res = false) := hid (by rw [HRES.out]; simp)
    go_enter Tryz.func9, Tryz.ntmps9
    go_upto_region 1 with fail
    rw [← hW0]
    clear hW0
    go_wp2_with (go_at_call 34; (refine (Hid.out KR).mono ?_; rintro e w1 ⟨rfl, hb1⟩; have HB := hid (GT.out w1 hb1).2; clear hb1 c0 c1 c2 c3 c4 c5 c6 c7))
    go_ret
    exact ⟨by rw [HF.out]; rfl, HB.out⟩
  | true =>
    by_cases h1 : (1000 : Int) < (inn : Int)
    · have HF : Hid (res = false) := hid (by rw [HRES.out]; have : ¬ inn ≤ 1000 := by omega
                                             simp [this])
      have d1 : decide ((1000 : Int) < (inn : Int)) = true := decide_eq_true h1
      go_enter Tryz.func9, Tryz.ntmps9
      go_upto_region 1 with fail
      rw [← hW0]
      clear hW0
      go_wp2_with (go_at_call 34; (refine (Hid.out KR).mono ?_; rintro e w1 ⟨rfl, hb1⟩; have HB := hid (GT.out w1 hb1).2; clear c0 c1 c2 c3 c4 c5 c6 c7; obtain ⟨⟨c0, c1, c2, c3⟩, c4, c5, c6, c7⟩ := CL.out w1 hb1; clear hb1))
      go_ret
      exact ⟨by rw [HF.out]; rfl, HB.out⟩
    have d1 : decide ((1000 : Int) < (inn : Int)) = false := decide_eq_false h1
    by_cases h2 : (1000 : Int) < (tn : Int)
    · have HF : Hid (res = false) := hid (by rw [HRES.out]; have : ¬ tn ≤ 1000 := by omega
                                             simp [this])
      have d2 : decide ((1000 : Int) < (tn : Int)) = true := decide_eq_true h2
      go_enter Tryz.func9, Tryz.ntmps9
      go_upto_region 1 with fail
      rw [← hW0]
      clear hW0
      go_wp2_with (go_at_call 34; (refine (Hid.out KR).mono ?_; rintro e w1 ⟨rfl, hb1⟩; have HB := hid (GT.out w1 hb1).2; clear c0 c1 c2 c3 c4 c5 c6 c7; obtain ⟨⟨c0, c1, c2, c3⟩, c4, c5, c6, c7⟩ := CL.out w1 hb1; clear hb1))
      go_ret
      exact ⟨by rw [HF.out]; rfl, HB.out⟩
    have d2 : decide ((1000 : Int) < (tn : Int)) = false := decide_eq_false h2
    have HR2 : Hid (res = (c.texts.all shortB && f1 && f2)) := hid (by
      rw [HRES.out]
      have q1 : inn ≤ 1000 := by omega
      have q2 : tn ≤ 1000 := by omega
      simp [q1, q2])
    clear HRES
    go_enter Tryz.func9, Tryz.ntmps9
    go_upto_region 1 with fail
    rw [← hW0]
    clear hW0
    go_wp2_with (go_at_call 34; (refine (Hid.out KR).mono ?_; rintro e w1 ⟨rfl, hb1⟩; have HB1 := hid hb1; clear c0 c1 c2 c3 c4 c5 c6 c7; obtain ⟨⟨c0, c1, c2, c3⟩, c4, c5, c6, c7⟩ := CL.out w1 hb1; clear hb1))
    go_loopg [3] tn (fun g x wr => ∃ j : Nat, j + g = tn ∧ x = .int .i64 (j : Int) ∧ (c.texts.take j).all shortB = true ∧ wr = w1)
    case atStart => exact ⟨0, by omega, rfl, by simp, rfl⟩
    case round =>
      obtain ⟨j, hj, rfl, hp, rfl⟩ := hrel
      cases gk with
      | zero =>
        have hjn : j = tn := by omega
        subst hjn
        have HR4 : Hid (res = (f1 && f2)) := hid (by rw [HR2.out]; rw [t1.out, List.take_of_length_le (Nat.le_refl _)] at hp; rw [hp]; simp)
        have gw := (GT.out wr HB1.out).2
        have KF1 := hid (KF.out wr gw)
        clear hp
        cases f1 with
        | false =>
          have HF : Hid (res = false) := hid (by rw [HR4.out]; simp)
          go_wp2_with (go_at_call 35; (refine (Hid.out KF1).mono ?_; rintro e w2 ⟨rfl, hb2⟩; have HB := hid (gw.trans (hb2.mono gw.size)); clear hb2))
          go_ret
          exact ⟨by rw [HF.out]; rfl, HB.out⟩
        | true =>
          have HF : Hid (res = f2) := hid (by rw [HR4.out]; simp)
          have KE2 := hid (fun (w2 : World) (hb2 : Below wr.heap.size wr w2) => KE.out w2 (gw.trans (hb2.mono gw.size)))
          have CL2 := hid (fun (w2 : World) (hb2 : Below wr.heap.size wr w2) => CL.out w2 (HB1.out.trans (hb2.mono HB1.out.size)))
          have GW := hid gw
          clear gw
          go_wp2_with (first
            | (have hno := hfirst; (go_at_call 35; (refine (KE2.out w2 hb2).mono ?_; rintro e w3 ⟨rfl, hb3⟩; have HB := hid ((GW.out.trans (hb2.mono GW.out.size)).trans (hb3.mono (GW.out.trans (hb2.mono GW.out.size)).size)))))
            | (go_at_call 35; (refine (Hid.out KF1).mono ?_; rintro e w2 ⟨rfl, hb2⟩; clear c0 c1 c2 c3 c4 c5 c6 c7; obtain ⟨⟨c0, c1, c2, c3⟩, c4, c5, c6, c7⟩ := CL2.out w2 hb2; have hfirst : True := trivial)))
          go_ret
          exact ⟨by rw [HF.out]; rfl, HB.out⟩
      | succ g =>
        obtain ⟨s, hs⟩ : ∃ s, c.texts[j]? = some s := ⟨c.texts[j]'(by have := t1.out; omega), List.getElem?_eq_getElem _⟩
        obtain ⟨hsz, b, off, rfl, hcs⟩ := (TR.out wr (GT.out wr HB1.out).2) j s hs
        have hjI : (j : Int) < (tn : Int) := by omega
        have hj0 : (0 : Int) ≤ (j : Int) := by omega
        have hszI : (s.size : Int) ≤ 9223372036854775807 := by omega
        have ht : Hid (c.texts.take (j + 1) = c.texts.take j ++ [s]) := hid (by rw [List.take_add_one, hs]; rfl)
        have hmem := List.mem_of_getElem? hs
        have HP := hid hp
        clear hp hs
        by_cases hl : (64 : Int) < (s.size : Int)
        · have HF : Hid (res = false) := hid (by
            rw [HR2.out]
            have : c.texts.all shortB = false := by
              rw [List.all_eq_false]
              have : ¬ s.size ≤ 64 := by omega
              exact ⟨s, hmem, by simp [shortB, this]⟩
            simp [this])
          have GW := hid (GT.out wr HB1.out).2
          go_wp2
          go_ret
          exact ⟨by rw [HF.out]; rfl, GW.out⟩
        · have HS : Hid (shortB s = true) := hid (by have : s.size ≤ 64 := by omega
                                                     simp [shortB, this])
          go_wp2
          go_roundg g
          case measure => omega
          exact ⟨j + 1, by omega, by go_num, by rw [ht.out, List.all_append, HP.out]; simp [HS.out], rfl⟩
end Go.Proofs.YthnolocldeokeaaGreat

namespace Go.Proofs.YthnolocldeokeaaGreat
open Go.RowKit Go.Deep Go.Shelf
set_option linter.unusedVariables false
set_option linter.unusedSimpArgs false
def fl (s : Shp) (o : Opx) (i : Fin 4) : Int × Int := match i with
  | 0 => (s.d, o.d)
  | 1 => (s.a, o.a)
  | 2 => (s.b, o.b)
  | 3 => (s.k, o.k)
def encS (s : Shp) (o : Opx) (i : Fin 4) : Array Value := #[.int .u8 (fl s o i).1, .int .i64 (fl s o i).2]
def fourL : List (Fin 4) := [0, 1, 2, 3]
/- The two boxes stay. -/
def K2 (X : Nat) (W W' : World) : Prop := W'.heap[X]? = W.heap[X]? ∧ W'.heap[X + 1]? = W.heap[X + 1]?
theorem K2_t {X : Nat} {A B C : World} (h : K2 X A B) (k : K2 X B C) : K2 X A C := ⟨k.1.trans h.1, k.2.trans h.2⟩
theorem K2_b {X : Nat} {w : World} (hB : X + 1 < w.heap.size) (W : World) (l : Nat) (o o' : Obj) (hl : w.heap.size ≤ l) (h : W.heap[l]? = some o) (hc : o.isCells = false) (hw : o.isWalk = false) : K2 X W (W.putObj l o') :=
  ⟨(grownBy_putObj' W l o').block X (by have := (Array.getElem?_eq_some_iff.1 h).1; omega) (fun e => by cases e; omega), (grownBy_putObj' W l o').block (X + 1) (by have := (Array.getElem?_eq_some_iff.1 h).1; omega) (fun e => by cases e; omega)⟩
theorem K2_of {X : Nat} {W W' : World} (h : Below W.heap.size W W') (hB : X + 1 < W.heap.size) : K2 X W W' := ⟨h.block X (by omega), h.block _ hB⟩
set_option maxRecDepth 100000 in
theorem fields_in (F : Fence) (n : Nat) (h26 : F.fn 56) (hro : F.round = none) (s : Shp) (o : Opx) (w : World) : CallsIn F n Tryz.prog 56 #[.agg s.cs.toArray, .agg o.cs] w fun e w' => e = .returned (.func (.func 90) #[] #[.pointer (some ⟨w.heap.size, 0, none⟩), .pointer (some ⟨w.heap.size + 1, 0, none⟩)]) ∧ w' = (w.alloc (.cells s.cs.toArray 105)).alloc (.cells o.cs 54) := by
  obtain ⟨nm, sd, sa, sb, sk⟩ := s
  obtain ⟨oc, od, oa, ob, ok⟩ := o
  simp only [Shp.cs, Opx.cs]
  refine callsIn_of_wp Tryz.func56 rfl h26 ?_ hro
  simp only [Tryz.ntmps56, List.size_toArray, List.length_cons, List.length_nil, Nat.reduceAdd, Nat.reduceSub, Array.replicate_succ, Array.replicate_zero, List.push_toArray, List.append_toArray, List.nil_append, List.cons_append]
  gi_wp2
  refine bodyPost_ret (v := .func (.func 90) #[] #[.pointer (some ⟨w.heap.size, 0, none⟩), .pointer (some ⟨w.heap.size + 1, 0, none⟩)]) (by simp [results, Tryz.results56, go_sem]) rfl ⟨rfl, rfl⟩
theorem yield_bool {α : Type} {F : Fence} {n l : Nat} {J Jx : List α → World → Prop} {encs : α → Array Value} {Kp : World → World → Prop} {W : World} {pre : List α} {x : α}
    (h : YieldAt F n Tryz.prog l (encs x) W fun e W' => (e = .returned (.bool true) ∧ J (pre ++ [x]) W' ∧ Kp W W') ∨ (e = .returned (.bool false) ∧ Jx (pre ++ [x]) W')) :
    YieldAt F n Tryz.prog l (encs x) W fun e W' => ∃ b : Bool, e = .returned (.bool b) ∧ ((b = true → J (pre ++ [x]) W' ∧ Kp W W') ∧ (b = false → Jx (pre ++ [x]) W')) := by
  obtain ⟨fn', tmps, assign, body, hy, hRd⟩ := h
  refine ⟨fn', tmps, assign, body, hy, hRd.mono ?_⟩
  rintro e W' (⟨rfl, h1, h2⟩ | ⟨rfl, h1⟩)
  · exact ⟨true, rfl, ⟨fun _ => ⟨h1, h2⟩, fun h => (by cases h)⟩⟩
  · exact ⟨false, rfl, ⟨fun h => (by cases h), fun _ => h1⟩⟩
set_option maxRecDepth 100000 in
set_option maxHeartbeats 1000000 in
theorem fields_stops (s : Shp) (o : Opx) (X n : Nat) (hn : 1 ≤ n) (w : World) (hs : w.heap[X]? = some (.cells s.cs.toArray 105 (0, 0))) (ho : w.heap[X + 1]? = some (.cells o.cs 54 (0, 0))) :
    SeqStopsK Fence.wide n Tryz.prog 90 #[.pointer (some ⟨X, 0, none⟩), .pointer (some ⟨X + 1, 0, none⟩)] (encS s o) (K2 X) (fun xs => xs = fourL) (fun pre => ∃ k, pre = fourL.take k) 4 w := by
  intro l J Jx W hb hJa hJxa hY h0
  have hro : Fence.wide.round = none := rfl
  have bs : W.heap[X]? = some (.cells s.cs.toArray 105 (0, 0)) := (hb.block X (lt_of_heap hs)).trans hs
  have bo : W.heap[X + 1]? = some (.cells o.cs 54 (0, 0)) := (hb.block _ (lt_of_heap ho)).trans ho
  obtain ⟨nm, sd, sa, sb, sk⟩ := s
  obtain ⟨oc, od, oa, ob, ok⟩ := o
  have CB : Hid (∀ V : World, K2 X W V → (V.cell? ⟨X, 1, none⟩ = some (.int .u8 sd) ∧ V.cell? ⟨X, 2, none⟩ = some (.int .u8 sa) ∧ V.cell? ⟨X, 3, none⟩ = some (.int .u8 sb) ∧ V.cell? ⟨X, 4, none⟩ = some (.int .u8 sk)) ∧ V.cell? ⟨X + 1, 1, none⟩ = some (.int .i64 od) ∧ V.cell? ⟨X + 1, 2, none⟩ = some (.int .i64 oa) ∧ V.cell? ⟨X + 1, 3, none⟩ = some (.int .i64 ob) ∧ V.cell? ⟨X + 1, 4, none⟩ = some (.int .i64 ok)) := hid (fun V hV => by
    have e1 := hV.1.trans bs
    have e2 := hV.2.trans bo
    exact ⟨⟨cellOf e1 1, cellOf e1 2, cellOf e1 3, cellOf e1 4⟩, cellOf e2 1, cellOf e2 2, cellOf e2 3, cellOf e2 4⟩)
  clear hs ho bs bo hb
  refine callsIn_of_wp Tryz.func90 rfl trivial ?_ hro
  simp only [Tryz.ntmps90, List.size_toArray, List.length_cons, List.length_nil, Nat.reduceAdd, Nat.reduceSub, Array.replicate_succ, Array.replicate_zero, List.push_toArray, List.append_toArray, List.nil_append, List.cons_append]
  have HY := hid hY
  clear hY hJa hJxa
  obtain ⟨⟨x1, x2, x3, x4⟩, y1, y2, y3, y4⟩ := CB.out W ⟨rfl, rfl⟩
  obtain ⟨fn', tmps, assign, body, hy, hRd⟩ := yield_bool (HY.out [] 0 W h0 (by simp))
  have HRd := hid hRd
  simp only [encS, fl] at hy HRd
  clear hRd
  gi_wp2
  refine (Hid.out HRd).mono ?_
  rintro e W1 ⟨bb, rfl, hor⟩
  clear hy HRd x1 x2 x3 x4 y1 y2 y3 y4
  cases bb with
  | false =>
    have hor' := hid (hor.2 rfl)
    clear hor
    gi_wp2_with (refine ⟨(fun _ h => by cases h), ?_⟩)
    refine bodyPost_end (results_none rfl _ _ _) rfl ?_
    exact ⟨⟨_, rfl⟩, .inr ⟨_, ⟨1, rfl⟩, hor'.out⟩⟩
  | true =>
    obtain ⟨hJ1, hk1⟩ := hor.1 rfl
    obtain ⟨⟨x1, x2, x3, x4⟩, y1, y2, y3, y4⟩ := CB.out W1 hk1
    obtain ⟨fn', tmps, assign, body, hy, hRd⟩ := yield_bool (HY.out [0] 1 W1 hJ1 (by simp))
    have HRd := hid hRd
    simp only [encS, fl] at hy HRd
    have HK1 := hid hk1
    clear hRd hor hJ1 hk1
    gi_wp2
    refine (Hid.out HRd).mono ?_
    rintro e W2 ⟨bb, rfl, hor⟩
    clear hy HRd x1 x2 x3 x4 y1 y2 y3 y4
    cases bb with
    | false =>
      have hor' := hid (hor.2 rfl)
      clear hor
      gi_wp2_with (refine ⟨(fun _ h => by cases h), ?_⟩)
      refine bodyPost_end (results_none rfl _ _ _) rfl ?_
      exact ⟨⟨_, rfl⟩, .inr ⟨_, ⟨2, rfl⟩, hor'.out⟩⟩
    | true =>
      obtain ⟨hJ1, hk1⟩ := hor.1 rfl
      have hk2 := K2_t HK1.out hk1
      obtain ⟨⟨x1, x2, x3, x4⟩, y1, y2, y3, y4⟩ := CB.out W2 hk2
      obtain ⟨fn', tmps, assign, body, hy, hRd⟩ := yield_bool (HY.out [0, 1] 2 W2 hJ1 (by simp))
      have HRd := hid hRd
      simp only [encS, fl] at hy HRd
      have HK2 := hid hk2
      clear hRd hor hJ1 hk1 hk2
      gi_wp2
      refine (Hid.out HRd).mono ?_
      rintro e W3 ⟨bb, rfl, hor⟩
      clear hy HRd x1 x2 x3 x4 y1 y2 y3 y4
      cases bb with
      | false =>
        have hor' := hid (hor.2 rfl)
        clear hor
        gi_wp2_with (refine ⟨(fun _ h => by cases h), ?_⟩)
        refine bodyPost_end (results_none rfl _ _ _) rfl ?_
        exact ⟨⟨_, rfl⟩, .inr ⟨_, ⟨3, rfl⟩, hor'.out⟩⟩
      | true =>
        obtain ⟨hJ1, hk1⟩ := hor.1 rfl
        have hk3 := K2_t HK2.out hk1
        obtain ⟨⟨x1, x2, x3, x4⟩, y1, y2, y3, y4⟩ := CB.out W3 hk3
        obtain ⟨fn', tmps, assign, body, hy, hRd⟩ := yield_bool (HY.out [0, 1, 2] 3 W3 hJ1 (by simp))
        have HRd := hid hRd
        simp only [encS, fl] at hy HRd
        clear hRd hor hJ1 hk1 hk3
        gi_wp2
        refine (Hid.out HRd).mono ?_
        rintro e W4 ⟨bb, rfl, hor⟩
        clear hy HRd x1 x2 x3 x4 y1 y2 y3 y4
        cases bb with
        | false =>
          have hor' := hid (hor.2 rfl)
          clear hor
          gi_wp2_with (refine ⟨(fun _ h => by cases h), ?_⟩)
          refine bodyPost_end (results_none rfl _ _ _) rfl ?_
          exact ⟨⟨_, rfl⟩, .inr ⟨_, ⟨4, rfl⟩, hor'.out⟩⟩
        | true =>
          have hor' := hid (hor.1 rfl).1
          clear hor
          gi_wp2_with (refine ⟨(fun _ h => by cases h), ?_⟩)
          refine bodyPost_end (results_none rfl _ _ _) rfl ?_
          exact ⟨⟨_, rfl⟩, .inl ⟨_, rfl, hor'.out⟩⟩
end Go.Proofs.YthnolocldeokeaaGreat

