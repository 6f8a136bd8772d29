/- The document's side: programs that may be. -/
import Derived.Test.YtenfgahedbeekaaJAS
namespace Go.Proofs.Ytenfgahedbeekaa
open Go.RowKit Go.Deep Go.Shelf
set_option linter.unusedVariables false
set_option linter.unusedSimpArgs false

def recE (r : Rc) : Bool := nmdB true r.name && fieldsB r
def mapE (n : Nat) (m : Mp) : Bool := nmdB false m.name && mapB n m
theorem and_all {α : Type} (l : List α) (p q : α → Bool) : l.all (fun x => p x && q x) = (l.all p && l.all q) := by
  rw [Bool.eq_iff_iff]
  simp only [Bool.and_eq_true, List.all_eq_true]
  exact ⟨fun h => ⟨fun x hx => (h x hx).1, fun x hx => (h x hx).2⟩, fun h x hx => ⟨h.1 x hx, h.2 x hx⟩⟩
theorem records_eq (rs : List Rc) : recordsB rs = (decide (rs.length ≤ 16) && rs.all recE && !dupB (rs.map Rc.name)) := by
  unfold recordsB
  have h := namesB_split true (rs.map Rc.name)
  rw [if_pos rfl] at h
  have e : rs.all recE = (rs.all (fun r => nmdB true r.name) && rs.all fieldsB) := and_all rs _ _
  rw [h, e, List.all_map]
  have hc : rs.all (nmdB true ∘ Rc.name) = rs.all (fun r => nmdB true r.name) := rfl
  rw [hc]
  generalize decide (rs.length ≤ 16) = A
  generalize rs.all (fun r => nmdB true r.name) = B
  generalize rs.all fieldsB = C
  generalize dupB (rs.map Rc.name) = E
  cases A <;> cases B <;> cases C <;> cases E <;> rfl
theorem maps_eq (n : Nat) (ms : List Mp) : mapsB n ms = (decide (ms.length ≤ 16) && ms.all (mapE n) && !dupB (ms.map Mp.name)) := by
  unfold mapsB
  have h := namesB_split false (ms.map Mp.name)
  rw [if_neg (by decide)] at h
  have e : ms.all (mapE n) = (ms.all (fun r => nmdB false r.name) && ms.all (mapB n)) := and_all ms _ _
  rw [h, e, List.all_map]
  have hc : ms.all (nmdB false ∘ Mp.name) = ms.all (fun r => nmdB false r.name) := rfl
  rw [hc]
  generalize decide (ms.length ≤ 16) = A
  generalize ms.all (fun r => nmdB false r.name) = B
  generalize ms.all (mapB n) = C
  generalize dupB (ms.map Mp.name) = E
  cases A <;> cases B <;> cases C <;> cases E <;> rfl
theorem right_eq (p : Pg) : rightB p = ((decide ((p.recs.map (·.2)).length ≤ 16) && (p.recs.map (·.2)).all recE && !dupB ((p.recs.map (·.2)).map Rc.name)) && (decide (p.maps.length ≤ 16) && p.maps.all (mapE p.rn) && !dupB (p.maps.map Mp.name)) && sgsR true p.rn (p.funcs.map (·.2)) && sgsR false p.rn (p.events.map (·.2))) := by
  unfold rightB
  rw [records_eq, maps_eq, sgs_eq, sgs_eq]
  simp only [Bool.true_or, Bool.and_true, Bool.false_or, Bool.and_assoc]
/- A record's fields, one by one. -/
def fldE (r : Rc) (j : Nat) : Bool := nmdB false (r.fields.getD j ByteArray.empty) && simB (r.types.getD j (0, 0))
theorem rec_parts (r : Rc) : recE r = (nmdB true r.name && (decide (1 ≤ r.fields.length) && decide (r.fields.length ≤ 12) && decide (r.fields.length = r.types.length) && !dupB r.fields && (List.range r.fields.length).all (fldE r))) := by
  unfold recE fieldsB
  have h := namesB_split false r.fields
  rw [if_neg (by decide)] at h
  rw [h]
  by_cases hl : r.fields.length = r.types.length
  · have e : (List.range r.fields.length).all (fldE r) = (r.fields.all (nmdB false) && r.types.all simB) := by
      rw [Bool.eq_iff_iff]
      simp only [Bool.and_eq_true, List.all_eq_true, fldE]
      constructor
      · intro h
        constructor
        · intro x hx
          obtain ⟨j, hj⟩ := List.getElem?_of_mem hx
          have := (h j (List.mem_range.2 (List.getElem?_eq_some_iff.1 hj).1)).1
          rw [List.getD_eq_getElem?_getD, hj] at this
          exact this
        · intro x hx
          obtain ⟨j, hj⟩ := List.getElem?_of_mem hx
          have := (h j (List.mem_range.2 (by rw [hl]; exact (List.getElem?_eq_some_iff.1 hj).1))).2
          rw [List.getD_eq_getElem?_getD, hj] at this
          exact this
      · rintro ⟨h1, h2⟩ j hj
        have hjl := List.mem_range.1 hj
        rw [List.getD_eq_getElem?_getD, List.getD_eq_getElem?_getD, List.getElem?_eq_getElem hjl, List.getElem?_eq_getElem (show j < r.types.length by omega)]
        exact ⟨h1 _ (List.getElem_mem _), h2 _ (List.getElem_mem _)⟩
    rw [e]
    generalize nmdB true r.name = A
    generalize decide (1 ≤ r.fields.length) = B
    generalize decide (r.fields.length ≤ 12) = C
    generalize decide (r.fields.length = r.types.length) = D
    generalize r.types.all simB = E
    generalize r.fields.all (nmdB false) = F
    generalize dupB r.fields = G
    cases A <;> cases B <;> cases C <;> cases D <;> cases E <;> cases F <;> cases G <;> rfl
  · rw [decide_eq_false hl]; simp
theorem all_no {α : Type} {l : List α} {x : α} {p : α → Bool} (hx : x ∈ l) (h : p x = false) : l.all p = false := by rw [List.all_eq_false]; exact ⟨x, hx, by simp [h]⟩
theorem box_alloc {wo wr : World} {c : Array Value} {t : TypeId} (h : Below (wo.alloc (.cells c t)).heap.size (wo.alloc (.cells c t)) wr) : wr.heap[wo.heap.size]? = some (.cells c t (0, 0)) := by
  rw [h.block _ (by simp)]; exact heap_alloc_new wo _
set_option maxRecDepth 100000 in
set_option maxHeartbeats 4000000 in
theorem refRight (w : World) (h : PH) (p : Pg) (d : PRd w h p) : Calls Try.prog 52 #[h.v] w fun e w' => e = .returned (.bool (rightB p)) ∧ Below w.heap.size w w' := by
  have D := hid d
  have Hrn := hid d.r.n1
  have hrn2 := d.r.n2
  have Hmn := hid d.m.n1
  have hmn2 := d.m.n2
  have KT := hid (fun w' k r => refIsType w' h k r d.r.n2)
  have KN := hid (fun s g w' => refNamed s g w')
  have KF := hid (fun (w1 : World) (hb : Below w.heap.size w w1) => refSigs w1 h h.fa h.fn h.fc true p.funcs (d.f.below (Nat.le_refl _) hb) d.r.n2)
  have KE := hid (fun (w1 : World) (hb : Below w.heap.size w w1) => refSigs w1 h h.ea h.en h.ec false p.events (d.e.below (Nat.le_refl _) hb) d.r.n2)
  obtain ⟨res, hres⟩ : ∃ res, res = rightB p := ⟨_, rfl⟩
  rw [← hres]
  rw [right_eq] at hres
  rw [show p.rn = h.rn from d.r.n1.symm] at hres
  obtain ⟨sf, hsf⟩ : ∃ b, b = sgsR true h.rn (p.funcs.map (·.2)) := ⟨_, rfl⟩
  obtain ⟨se, hse⟩ : ∃ b, b = sgsR false h.rn (p.events.map (·.2)) := ⟨_, rfl⟩
  rw [← hsf, ← hse] at hres
  rw [← hsf] at KF
  rw [← hse] at KE
  have Hres := hid hres
  clear d hres hsf hse
  obtain ⟨ra, rn, rc, ma, mn, mc, fa, fn, fc, ea, en, ec⟩ := h
  simp only at hrn2 hmn2
  simp only [PH.v, ty] at KT KF KE ⊢
  have hb0 : Below w.heap.size w (w.alloc (.cells #[.slice ra rn rc, .slice ma mn mc, .slice fa fn fc, .slice ea en ec] 50)) := (Below.refl _ _).alloc (Nat.le_refl _) _
  have bx0 : (w.alloc (.cells #[.slice ra rn rc, .slice ma mn mc, .slice fa fn fc, .slice ea en ec] 50)).heap[w.heap.size]? = some (.cells #[.slice ra rn rc, .slice ma mn mc, .slice fa fn fc, .slice ea en ec] 50 (0, 0)) := heap_alloc_new w _
  have HB0 := hid hb0
  have HX0 := hid bx0
  clear hb0 bx0
  have hrl : rn = p.recs.length := Hrn.out
  have hml : mn = p.maps.length := Hmn.out
  by_cases h1 : 16 < rn
  · have h1' : (16 : Int) < (rn : Int) := by omega
    have HF : Hid (res = false) := hid (by rw [Hres.out, decide_eq_false (show ¬ (p.recs.map (·.2)).length ≤ 16 by rw [List.length_map]; omega)]; simp)
    clear hrl hml
    go_enter Try.func52, Try.ntmps52
    go_wp2
    go_ret
    exact ⟨by rw [HF.out]; rfl, HB0.out⟩
  · have h1' : (rn : Int) ≤ 16 := by omega
    by_cases h2 : 16 < mn
    · have h2' : (16 : Int) < (mn : Int) := by omega
      have HF : Hid (res = false) := hid (by rw [Hres.out, decide_eq_false (show ¬ p.maps.length ≤ 16 by omega)]; simp)
      clear hrl hml
      go_enter Try.func52, Try.ntmps52
      go_wp2
      go_ret
      exact ⟨by rw [HF.out]; rfl, HB0.out⟩
    · have h2' : (mn : Int) ≤ 16 := by omega
      have Hrl := hid hrl
      have Hml := hid hml
      have Hres2 : Hid (res = (((p.recs.map (·.2)).all recE && !dupB ((p.recs.map (·.2)).map Rc.name)) && (p.maps.all (mapE rn) && !dupB (p.maps.map Mp.name)) && sf && se)) := hid (by
        rw [Hres.out, decide_eq_true (show (p.recs.map (·.2)).length ≤ 16 by rw [List.length_map]; omega), decide_eq_true (show p.maps.length ≤ 16 by omega)]; simp)
      clear hrl hml Hres
      go_enter Try.func52, Try.ntmps52
      go_wp2
      go_loopg [3, 4] rn (fun g nv ii wr => ∃ i : Nat, i + g = rn ∧ ii = .int .i64 (i : Int) ∧ Below w.heap.size w wr ∧ wr.heap[w.heap.size]? = some (.cells #[.slice ra rn rc, .slice ma mn mc, .slice fa fn fc, .slice ea en ec] 50 (0, 0)) ∧ NRow wr (w.heap.size + 1) nv ((p.recs.take i).map fun p => p.2.name) ∧ ∀ x ∈ p.recs.take i, recE x.2 = true)
      case atStart => exact ⟨0, by omega, rfl, HB0.out, HX0.out, NRow.nil _ _, fun x hx => by simp at hx⟩
      case round =>
        obtain ⟨i, hi', rfl, hbe, hbx, hrow, hAc⟩ := hrel
        obtain ⟨wo, hwo⟩ : ∃ wo, wo = wr := ⟨_, rfl⟩
        subst hwo
        have Hi := hid hi'
        have Hbe := hid hbe
        have HAc := hid hAc
        have Hrow := hid hrow
        have Hbx := hid hbx
        obtain ⟨na, ncap, rfl, hnc⟩ := hrow.form
        have hlx : w.heap.size < wo.heap.size := (Array.getElem?_eq_some_iff.1 hbx).1
        have k0 := cellOf hbx 0
        have k1 := cellOf hbx 1
        simp only [List.getElem?_toArray, List.getElem?_cons_zero, List.getElem?_cons_succ] at k0 k1
        clear hAc hbe hrow hbx
        have hlen : ((p.recs.take i).map fun p => p.2.name).length = i := by rw [List.length_map, List.length_take, ← Hrl.out]; omega
        rw [hlen] at Hrow hnc ⊢
        clear hlen
        cases gk with
        | succ g =>
          have hlt : i < rn := by omega
          have hlt' : (i : Int) < (rn : Int) := by omega
          clear hi'
          obtain ⟨x, hx⟩ : ∃ x, p.recs[i]? = some x := ⟨p.recs[i]'(by rw [← Hrl.out]; exact hlt), by rw [List.getElem?_eq_getElem]⟩
          have DW := D.out.r.below (Nat.le_refl _) Hbe.out
          have el := DW.el x (List.mem_of_getElem? hx)
          obtain ⟨b1, o1, ea', hb1, e1⟩ := DW.rd i x.1.cs (by simp [hx])
          simp only at ea'
          subst ea'
          have x0 := e1 0 (by omega)
          have x1 := e1 1 (by omega)
          have x2 := e1 2 (by omega)
          have Hx := hid hx
          have Hel := hid el
          have HNo : Hid (recE x.2 = false → res = false) := hid (fun e => by rw [Hres2.out, all_no (List.mem_map.2 ⟨x, List.mem_of_getElem? hx, rfl⟩) e]; rfl)
          clear e1 DW el hx hb1
          obtain ⟨hh, rcx⟩ := x
          obtain ⟨nm, ga, gn, gc, ta, tn, tc⟩ := hh
          simp only [RH.cs, List.getElem?_cons_zero, List.getElem?_cons_succ, Nat.add_zero] at x0 x1 x2
          simp only at HNo
          have hnm : nm = rcx.name := Hel.out.nm
          have hgn : gn = rcx.fields.length := Hel.out.fn
          have htn : tn = rcx.types.length := Hel.out.tn
          have hrp := rec_parts rcx
          rw [← hnm, ← hgn, ← htn] at hrp
          have hba : Below wo.heap.size wo (wo.alloc (.cells #[.string nm, .slice ga gn gc, .slice ta tn tc] 95)) := (Below.refl _ _).alloc (Nat.le_refl _) _
          have HBA := hid hba
          have A0 : (wo.alloc (.cells #[.string nm, .slice ga gn gc, .slice ta tn tc] 95)).cell? ⟨wo.heap.size, 0, none⟩ = some (.string nm) := cellOf (heap_alloc_new wo _) 0
          have A1 : (wo.alloc (.cells #[.string nm, .slice ga gn gc, .slice ta tn tc] 95)).cell? ⟨wo.heap.size, 1, none⟩ = some (.slice ga gn gc) := cellOf (heap_alloc_new wo _) 1
          have A2 : (wo.alloc (.cells #[.string nm, .slice ga gn gc, .slice ta tn tc] 95)).cell? ⟨wo.heap.size, 2, none⟩ = some (.slice ta tn tc) := cellOf (heap_alloc_new wo _) 2
          have c1 := KN.out nm true (wo.alloc (.cells #[.string nm, .slice ga gn gc, .slice ta tn tc] 95))
          have cTw := hid (refTwice (wo.alloc (.cells #[.string nm, .slice ga gn gc, .slice ta tn tc] 95)) ga gn gc rcx.fields hgn)
          have Hgn := hid hgn
          have Htn := hid htn
          have Hnm := hid hnm
          have HRP := hid hrp
          have hgn2 : gn ≤ 9223372036854775807 := Hel.out.f2
          have htn2 : tn ≤ 9223372036854775807 := Hel.out.t2
          clear hnm hgn htn hrp hba
          cases q1 : nmdB true nm
          · rw [q1] at c1
            have HF : Hid (res = false) := hid (HNo.out (by rw [HRP.out]; rw [q1]; rfl))
            go_wp2_with (go_at_call 76; refine c1.mono ?_; rintro e wz ⟨rfl, rfl⟩)
            go_ret
            exact ⟨by rw [HF.out]; rfl, Hbe.out.trans (HBA.out.mono Hbe.out.size)⟩
          · rw [q1] at c1
            by_cases g1 : gn < 1
            · have g1' : (gn : Int) < 1 := by omega
              have HF : Hid (res = false) := hid (HNo.out (by rw [HRP.out]; rw [decide_eq_false (show ¬ 1 ≤ gn by omega)]; simp))
              go_wp2_with (go_at_call 76; refine c1.mono ?_; rintro e wz ⟨rfl, rfl⟩)
              go_ret
              exact ⟨by rw [HF.out]; rfl, Hbe.out.trans (HBA.out.mono Hbe.out.size)⟩
            · have g1' : ¬ (gn : Int) < 1 := by omega
              by_cases g2 : 12 < gn
              · have g2' : (12 : Int) < (gn : Int) := by omega
                have HF : Hid (res = false) := hid (HNo.out (by rw [HRP.out]; rw [decide_eq_false (show ¬ gn ≤ 12 by omega)]; simp))
                go_wp2_with (go_at_call 76; refine c1.mono ?_; rintro e wz ⟨rfl, rfl⟩)
                go_ret
                exact ⟨by rw [HF.out]; rfl, Hbe.out.trans (HBA.out.mono Hbe.out.size)⟩
              · have g2' : (gn : Int) ≤ 12 := by omega
                by_cases g3 : gn = tn
                · subst g3
                  have cT2 := cTw.out (by omega) (Hel.out.fr.below (Nat.le_refl _) HBA.out)
                  cases q2 : dupB rcx.fields
                  · rw [q2] at cT2
                    have HRP2 : Hid (recE rcx = (List.range gn).all (fldE rcx)) := hid (by rw [HRP.out, q1, q2, decide_eq_true (show 1 ≤ gn by omega), decide_eq_true (show gn ≤ 12 by omega)]; simp)
                    clear q1 q2 HRP cTw
                    go_wp2_with (first | (go_at_call 76; refine c1.mono ?_; rintro e wz ⟨rfl, rfl⟩) | (go_at_call 77; refine cT2.mono ?_; rintro e w2 ⟨rfl, hb2⟩; have y0 := cellOf (box_alloc hb2) 0; have y1 := cellOf (box_alloc hb2) 1; have y2 := cellOf (box_alloc hb2) 2; simp only [List.getElem?_toArray, List.getElem?_cons_zero, List.getElem?_cons_succ] at y0 y1 y2))
                    have HB2 := hid hb2
                    clear hb2 y0 y1 y2 x0 x1 x2 A0 A1 A2 c1 cT2
                    go_loopg [6] gn (fun g2 jj wx => ∃ j : Nat, j + g2 = gn ∧ jj = .int .i64 (j : Int) ∧ Below (wo.alloc (.cells #[.string nm, .slice ga gn gc, .slice ta gn tc] 95)).heap.size (wo.alloc (.cells #[.string nm, .slice ga gn gc, .slice ta gn tc] 95)) wx ∧ ∀ y, y < j → fldE rcx y = true)
                    case atStart => exact ⟨0, by omega, rfl, HB2.out, fun y hy => by omega⟩
                    case round =>
                      obtain ⟨j, hj', rfl, hbj, hAj⟩ := hrel
                      have y0 := cellOf (box_alloc hbj) 0
                      have y1 := cellOf (box_alloc hbj) 1
                      have y2 := cellOf (box_alloc hbj) 2
                      simp only [List.getElem?_toArray, List.getElem?_cons_zero, List.getElem?_cons_succ] at y0 y1 y2
                      have hwj : Below wo.heap.size wo wr := HBA.out.trans (hbj.mono HBA.out.size)
                      have HWJ := hid hwj
                      have HBJ := hid hbj
                      have HAj := hid hAj
                      have Hj := hid hj'
                      have HWB := hid (Hbe.out.trans (hwj.mono Hbe.out.size))
                      cases gk with
                      | succ g2' =>
                        have hjlt : j < gn := by omega
                        have hjlt' : (j : Int) < (gn : Int) := by omega
                        obtain ⟨s, hs⟩ : ∃ s, rcx.fields[j]? = some s := ⟨rcx.fields[j]'(by rw [← Hgn.out]; exact hjlt), by rw [List.getElem?_eq_getElem]⟩
                        obtain ⟨t, ht⟩ : ∃ t, rcx.types[j]? = some t := ⟨rcx.types[j]'(by rw [← Htn.out]; exact hjlt), by rw [List.getElem?_eq_getElem]⟩
                        obtain ⟨_, fb, fo, ea', s0⟩ := (Hel.out.fr.below (Nat.le_refl _) hwj) j s hs
                        simp only at ea'
                        subst ea'
                        obtain ⟨tb, to', ea', t0, t1⟩ := (Hel.out.tr.below (Nat.le_refl _) hwj) j t ht
                        simp only at ea'
                        subst ea'
                        obtain ⟨tk, tr⟩ := t
                        simp only at t0 t1
                        have Hfl : Hid (fldE rcx j = (nmdB false s && simB (tk, tr))) := hid (by unfold fldE; rw [List.getD_eq_getElem?_getD, List.getD_eq_getElem?_getD, hs, ht]; rfl)
                        have HNj : Hid (fldE rcx j = false → res = false) := hid (fun e => HNo.out (by rw [HRP2.out]; exact all_no (List.mem_range.2 hjlt) e))
                        have c1 := KN.out s false wr
                        clear hj' hbj hAj hwj hs ht
                        cases q3 : nmdB false s
                        · rw [q3] at c1
                          have HF : Hid (res = false) := hid (HNj.out (by rw [Hfl.out]; rw [q3]; rfl))
                          go_wp2_with (go_at_call 76; refine c1.mono ?_; rintro e wr ⟨rfl, rfl⟩)
                          go_ret
                          exact ⟨by rw [HF.out]; rfl, HWB.out⟩
                        · rw [q3] at c1
                          by_cases u1 : tk < 1
                          · have HF : Hid (res = false) := hid (HNj.out (by rw [Hfl.out]; simp [simB]; omega))
                            go_wp2_with (go_at_call 76; refine c1.mono ?_; rintro e wr ⟨rfl, rfl⟩)
                            go_ret
                            exact ⟨by rw [HF.out]; rfl, HWB.out⟩
                          · by_cases u2 : 3 < tk
                            · have HF : Hid (res = false) := hid (HNj.out (by rw [Hfl.out]; simp [simB]; omega))
                              go_wp2_with (go_at_call 76; refine c1.mono ?_; rintro e wr ⟨rfl, rfl⟩)
                              go_ret
                              exact ⟨by rw [HF.out]; rfl, HWB.out⟩
                            · by_cases u3 : tr = 0
                              · subst u3
                                have Hok : Hid (fldE rcx j = true) := hid (by rw [Hfl.out, q3]; simp [simB]; omega)
                                clear q3
                                go_wp2_with (go_at_call 76; refine c1.mono ?_; rintro e wr ⟨rfl, rfl⟩)
                                go_roundg g2'
                                case measure => omega
                                case rel => exact ⟨j + 1, by have := Hj.out; omega, by go_num, HBJ.out, fun y hy => by
                                  rcases Nat.lt_or_ge y j with h | h
                                  · exact HAj.out y h
                                  · obtain rfl : y = j := by omega
                                    exact Hok.out⟩
                              · have u3b : (tr == 0) = false := by simpa using u3
                                have u3c : (tr != 0) = true := by simp [bne, u3b]
                                have HF : Hid (res = false) := hid (HNj.out (by rw [Hfl.out]; simp [simB, u3]))
                                go_wp2_with (go_at_call 76; refine c1.mono ?_; rintro e wr ⟨rfl, rfl⟩)
                                go_ret
                                exact ⟨by rw [HF.out]; rfl, HWB.out⟩
                      | zero =>
                        have hjn : j = gn := by omega
                        subst hjn
                        have hrec : recE rcx = true := by rw [HRP2.out, List.all_eq_true]; exact fun y hy => hAj y (List.mem_range.1 hy)
                        have Hrec := hid hrec
                        have Hrow2 := hid (Hrow.out.below hwj)
                        have hwsz : w.heap.size + 1 ≤ wr.heap.size := by have := hwj.size; omega
                        have hal : Hid ((((p.recs.take i).map fun p => p.2.name)).length ≤ 1000) := hid (by rw [List.length_map, List.length_take]; omega)
                        clear hj' hbj hAj hwj hrec
                        go_wp2_with (at_builtin; refine wpList_appN1 _ rfl _ _ rfl _ nm (by rfl) (by rfl) (w.heap.size + 1) ((p.recs.take i).map fun p => p.2.name) Hrow2.out hwsz hal.out ?_; intro v4 w4 hr4 hg4)
                        go_roundg g
                        case measure => omega
                        case rel =>
                          have hown : ∀ k, (Value.slice na i ncap).ownBlock = some k → w.heap.size + 1 ≤ k := fun k e => (Hrow2.out.own k e).1
                          refine ⟨i + 1, by have := Hi.out; omega, by go_num, Grw.belowN HWB.out hg4 hown (by omega) HWB.out.size, ?_, ?_, take_acc Hx.out HAc.out Hrec.out⟩
                          · rw [hg4.1.block _ (by omega) (fun e => by have := hown _ e.symm; omega), HWJ.out.block _ hlx]
                            exact Hbx.out
                          · rw [take_map_snoc _ Hx.out, show rcx.name = nm from Hnm.out.symm]; exact hr4
                  · rw [q2] at cT2
                    have HF : Hid (res = false) := hid (HNo.out (by rw [HRP.out, q2]; simp))
                    go_wp2_with (first | (go_at_call 76; refine c1.mono ?_; rintro e wz ⟨rfl, rfl⟩) | (go_at_call 77; refine cT2.mono ?_; rintro e w2 ⟨rfl, hb2⟩))
                    go_ret
                    exact ⟨by rw [HF.out]; rfl, (Hbe.out.trans (HBA.out.mono Hbe.out.size)).trans (hb2.mono (Hbe.out.trans (HBA.out.mono Hbe.out.size)).size)⟩
                · have g3' : ¬ (tn : Int) = (gn : Int) := by omega
                  have g3b : ((tn : Int) == (gn : Int)) = false := by simpa using g3'
                  have HF : Hid (res = false) := hid (HNo.out (by rw [HRP.out]; rw [decide_eq_false g3]; simp))
                  go_wp2_with (go_at_call 76; refine c1.mono ?_; rintro e wz ⟨rfl, rfl⟩)
                  go_ret
                  exact ⟨by rw [HF.out]; rfl, Hbe.out.trans (HBA.out.mono Hbe.out.size)⟩
        | zero =>
          have hin : i = rn := by omega
          clear hi'
          subst hin
          have hall : p.recs.take i = p.recs := by rw [Hrl.out]; exact List.take_length
          have K26 := refTwice wo na i ncap (p.recs.map fun x => x.2.name) (by rw [List.length_map]; exact Hrl.out) (by omega) (by
            have h := Hrow.out; rw [hall] at h
            exact h.rd (fun s hs => by
              rw [List.mem_map] at hs
              obtain ⟨x, hx, rfl⟩ := hs
              have := (D.out.r.el x hx).ns; rw [(D.out.r.el x hx).nm] at this; exact this))
          have hres3 : res = (!dupB (p.recs.map fun x => x.2.name) && (p.maps.all (mapE i) && !dupB (p.maps.map Mp.name)) && sf && se) := by
            rw [Hres2.out]
            have e2 : (p.recs.map (·.2)).all recE = true := by
              rw [List.all_eq_true]; intro r hr
              rw [List.mem_map] at hr
              obtain ⟨x, hx, rfl⟩ := hr
              exact HAc.out x (by rw [hall]; exact hx)
            rw [e2, List.map_map]; rfl
          have Hres3 := hid hres3
          clear hres3 hall
          cases dd : dupB (p.recs.map fun x => x.2.name)
          · rw [dd] at K26
            have Hres4 : Hid (res = (p.maps.all (mapE i) && !dupB (p.maps.map Mp.name) && sf && se)) := hid (by rw [Hres3.out, dd]; simp)
            clear dd Hres3
            go_wp2_with (go_at_call 77; (refine K26.mono ?_; rintro e w2 ⟨rfl, hb2⟩))
            have hbw2 : Below w.heap.size w w2 := Hbe.out.trans (hb2.mono Hbe.out.size)
            have hbx2 := (hb2.block _ hlx).trans Hbx.out
            have HBW2 := hid hbw2
            have HBX2 := hid hbx2
            clear hbw2 hbx2 hb2 k0 k1 K26
            go_loopg [3, 7] mn (fun g nv ii wr => ∃ j : Nat, j + g = mn ∧ ii = .int .i64 (j : Int) ∧ Below w.heap.size w wr ∧ wr.heap[w.heap.size]? = some (.cells #[.slice ra i rc, .slice ma mn mc, .slice fa fn fc, .slice ea en ec] 50 (0, 0)) ∧ NRow wr (w.heap.size + 1) nv ((p.maps.take j).map Mp.name) ∧ ∀ m ∈ p.maps.take j, mapE i m = true)
            case atStart => exact ⟨0, by omega, rfl, HBW2.out, HBX2.out, NRow.nil _ _, fun x hx => by simp at hx⟩
            case round =>
              obtain ⟨j, hj', rfl, hbe3, hbx3, hrow3, hAc3⟩ := hrel
              obtain ⟨wv, hwv⟩ : ∃ wv, wv = wr := ⟨_, rfl⟩
              subst hwv
              have Hj := hid hj'
              have Hbe3 := hid hbe3
              have HAc3 := hid hAc3
              have Hrow3 := hid hrow3
              have Hbx3 := hid hbx3
              obtain ⟨na3, ncap3, rfl, hnc3⟩ := hrow3.form
              have hlx3 : w.heap.size < wv.heap.size := (Array.getElem?_eq_some_iff.1 hbx3).1
              have k0 := cellOf hbx3 0
              have k1' := cellOf hbx3 1
              have k2' := cellOf hbx3 2
              have k3' := cellOf hbx3 3
              simp only [List.getElem?_toArray, List.getElem?_cons_zero, List.getElem?_cons_succ] at k0 k1' k2' k3'
              clear hAc3 hbe3 hrow3 hbx3
              have hlen : ((p.maps.take j).map Mp.name).length = j := by rw [List.length_map, List.length_take, ← Hml.out]; omega
              rw [hlen] at Hrow3 hnc3 ⊢
              clear hlen
              cases gk with
              | succ g3 =>
                have hlt : j < mn := by omega
                have hlt' : (j : Int) < (mn : Int) := by omega
                clear hj'
                obtain ⟨m, hm⟩ : ∃ m, p.maps[j]? = some m := ⟨p.maps[j]'(by rw [← Hml.out]; exact hlt), by rw [List.getElem?_eq_getElem]⟩
                obtain ⟨b1, o1, ea', hb1, e1⟩ := (D.out.m.below (Nat.le_refl _) Hbe3.out).rd j m.cs (by simp [hm])
                simp only at ea'
                subst ea'
                have x0 := e1 0 (by omega)
                have x1 := e1 1 (by omega)
                have x2 := e1 2 (by omega)
                have x3 := e1 3 (by omega)
                have x4 := e1 4 (by omega)
                have Hm := hid hm
                have HNo : Hid (mapE i m = false → res = false) := hid (fun e => by rw [Hres4.out, all_no (List.mem_of_getElem? hm) e]; rfl)
                have HEq : Hid (mapE i m = (nmdB false m.name && (keyB m.key && typB i m.val))) := hid rfl
                clear e1 hm hb1
                obtain ⟨nm, ⟨k1, r1⟩, ⟨k2, r2⟩⟩ := m
                simp only [Mp.cs, List.getElem?_cons_zero, List.getElem?_cons_succ, Nat.add_zero] at x0 x1 x2 x3 x4
                simp only at HNo HEq
                have HBA : Hid (Below wv.heap.size wv (wv.alloc (.cells #[.string nm, .int .i64 k1, .int .i64 r1, .int .i64 k2, .int .i64 r2] 75))) := hid ((Below.refl _ _).alloc (Nat.le_refl _) _)
                have HBW := hid (Hbe3.out.trans (HBA.out.mono Hbe3.out.size))
                have A0 : (wv.alloc (.cells #[.string nm, .int .i64 k1, .int .i64 r1, .int .i64 k2, .int .i64 r2] 75)).cell? ⟨wv.heap.size, 0, none⟩ = some (.string nm) := cellOf (heap_alloc_new wv _) 0
                have A1 : (wv.alloc (.cells #[.string nm, .int .i64 k1, .int .i64 r1, .int .i64 k2, .int .i64 r2] 75)).cell? ⟨wv.heap.size, 1, none⟩ = some (.int .i64 k1) := cellOf (heap_alloc_new wv _) 1
                have A2 : (wv.alloc (.cells #[.string nm, .int .i64 k1, .int .i64 r1, .int .i64 k2, .int .i64 r2] 75)).cell? ⟨wv.heap.size, 2, none⟩ = some (.int .i64 r1) := cellOf (heap_alloc_new wv _) 2
                have A3 : (wv.alloc (.cells #[.string nm, .int .i64 k1, .int .i64 r1, .int .i64 k2, .int .i64 r2] 75)).cell? ⟨wv.heap.size, 3, none⟩ = some (.int .i64 k2) := cellOf (heap_alloc_new wv _) 3
                have A4 : (wv.alloc (.cells #[.string nm, .int .i64 k1, .int .i64 r1, .int .i64 k2, .int .i64 r2] 75)).cell? ⟨wv.heap.size, 4, none⟩ = some (.int .i64 r2) := cellOf (heap_alloc_new wv _) 4
                have hbx4 := (HBA.out.block _ hlx3).trans Hbx3.out
                have B0 := cellOf hbx4 0
                have B1 := cellOf hbx4 1
                have B2 := cellOf hbx4 2
                have B3 := cellOf hbx4 3
                simp only [List.getElem?_toArray, List.getElem?_cons_zero, List.getElem?_cons_succ] at B0 B1 B2 B3
                have c1 := KN.out nm false (wv.alloc (.cells #[.string nm, .int .i64 k1, .int .i64 r1, .int .i64 k2, .int .i64 r2] 75))
                have cT := KT.out (wv.alloc (.cells #[.string nm, .int .i64 k1, .int .i64 r1, .int .i64 k2, .int .i64 r2] 75)) k2 r2
                clear hbx4
                cases q1 : nmdB false nm
                · rw [q1] at c1
                  have HF : Hid (res = false) := hid (HNo.out (by rw [HEq.out]; rw [q1]; rfl))
                  go_wp2_with (go_at_call 76; refine c1.mono ?_; rintro e wz ⟨rfl, rfl⟩)
                  go_ret
                  exact ⟨by rw [HF.out]; rfl, HBW.out⟩
                · rw [q1] at c1
                  by_cases u1 : r1 = 0
                  · subst u1
                    by_cases u2 : k1 = 1 ∨ k1 = 2
                    · cases q2 : typB i (k2, r2)
                      · simp only [q2] at cT
                        have HF : Hid (res = false) := hid (HNo.out (by rw [HEq.out, q2]; simp))
                        clear q1 q2
                        rcases u2 with rfl | rfl <;>
                          (go_wp2_with (first | (go_at_call 76; refine c1.mono ?_; rintro e wz ⟨rfl, rfl⟩) | (go_at_call 78; refine cT.mono ?_; rintro e w9 ⟨rfl, hb9⟩))
                           go_ret
                           exact ⟨by rw [HF.out]; rfl, HBW.out.trans (hb9.mono HBW.out.size)⟩)
                      · simp only [q2] at cT
                        have HOk : Hid (mapE i ⟨nm, (k1, 0), (k2, r2)⟩ = true) := hid (by rw [HEq.out, q1, q2]; unfold keyB; rcases u2 with rfl | rfl <;> rfl)
                        have hal : Hid ((((p.maps.take j).map Mp.name)).length ≤ 1000) := hid (by rw [List.length_map, List.length_take]; omega)
                        clear q1 q2
                        rcases u2 with rfl | rfl <;>
                          (go_wp2_with (first
                             | (go_at_call 76; refine c1.mono ?_; rintro e wz ⟨rfl, rfl⟩)
                             | (go_at_call 78; refine cT.mono ?_; rintro e w9 ⟨rfl, hb9⟩; have y0 := cellOf (box_alloc hb9) 0; simp only [List.getElem?_toArray, List.getElem?_cons_zero] at y0)
                             | (at_builtin; refine wpList_appN1 _ rfl _ _ rfl _ nm (by rfl) (by rfl) (w.heap.size + 1) ((p.maps.take j).map Mp.name) (Hrow3.out.below (HBA.out.trans (hb9.mono HBA.out.size))) (Nat.le_trans hlx3 (Nat.le_trans HBA.out.size hb9.size)) hal.out ?_; intro v4 w4 hr4 hg4))
                           go_roundg g3
                           case measure => omega
                           case rel =>
                             have hwq : Below wv.heap.size wv w9 := HBA.out.trans (hb9.mono HBA.out.size)
                             have hown : ∀ k, (Value.slice na3 j ncap3).ownBlock = some k → w.heap.size + 1 ≤ k := fun k e => (Hrow3.out.own k e).1
                             have hbq : Below w.heap.size w w9 := Hbe3.out.trans (hwq.mono Hbe3.out.size)
                             refine ⟨j + 1, by have := Hj.out; omega, by go_num, Grw.belowN hbq hg4 hown (by omega) hbq.size, ?_, ?_, take_acc Hm.out HAc3.out HOk.out⟩
                             · rw [hg4.1.block _ (by have := hwq.size; omega) (fun e => by have := hown _ e.symm; omega), hwq.block _ hlx3]
                               exact Hbx3.out
                             · rw [take_map_snoc _ Hm.out]; exact hr4)
                    · have v1 : ¬ k1 = 1 := fun e => u2 (.inl e)
                      have v2 : ¬ k1 = 2 := fun e => u2 (.inr e)
                      have v1b : (k1 == 1) = false := by simpa using v1
                      have v2b : (k1 == 2) = false := by simpa using v2
                      have v1c : (k1 != 1) = true := by simp [bne, v1b]
                      have v2c : (k1 != 2) = true := by simp [bne, v2b]
                      have HF : Hid (res = false) := hid (HNo.out (by rw [HEq.out]; unfold keyB; simp [v1, v2]))
                      go_wp2_with (go_at_call 76; refine c1.mono ?_; rintro e wz ⟨rfl, rfl⟩)
                      go_ret
                      exact ⟨by rw [HF.out]; rfl, HBW.out⟩
                  · have u1b : (r1 == 0) = false := by simpa using u1
                    have u1c : (r1 != 0) = true := by simp [bne, u1b]
                    have HF : Hid (res = false) := hid (HNo.out (by rw [HEq.out]; unfold keyB; simp [u1]))
                    go_wp2_with (go_at_call 76; refine c1.mono ?_; rintro e wz ⟨rfl, rfl⟩)
                    go_ret
                    exact ⟨by rw [HF.out]; rfl, HBW.out⟩
              | zero =>
                have hjn : j = mn := by omega
                clear hj'
                subst hjn
                have hall : p.maps.take j = p.maps := by rw [Hml.out]; exact List.take_length
                have K26 := refTwice wv na3 j ncap3 (p.maps.map Mp.name) (by rw [List.length_map]; exact Hml.out) (by omega) (by
                  have h := Hrow3.out; rw [hall] at h
                  exact h.rd (fun s hs => by
                    rw [List.mem_map] at hs
                    obtain ⟨x, hx, rfl⟩ := hs
                    exact D.out.m.ns x hx))
                have Hres5 : Hid (res = (!dupB (p.maps.map Mp.name) && sf && se)) := hid (by
                  rw [Hres4.out]
                  have e2 : p.maps.all (mapE i) = true := by
                    rw [List.all_eq_true]; intro r hr
                    exact HAc3.out r (by rw [hall]; exact hr)
                  rw [e2]; rfl)
                clear hall
                have HX : Hid (∀ wz : World, Below wv.heap.size wv wz → wz.cell? ⟨w.heap.size, 0, none⟩ = some (.slice ra i rc) ∧ wz.cell? ⟨w.heap.size, 1, none⟩ = some (.slice ma j mc) ∧ wz.cell? ⟨w.heap.size, 2, none⟩ = some (.slice fa fn fc) ∧ wz.cell? ⟨w.heap.size, 3, none⟩ = some (.slice ea en ec) ∧ Below w.heap.size w wz) := hid (fun wz hb => by
                  have q := (hb.block _ hlx3).trans Hbx3.out
                  exact ⟨cellOf q 0, cellOf q 1, cellOf q 2, cellOf q 3, Hbe3.out.trans (hb.mono Hbe3.out.size)⟩)
                generalize dupB (p.maps.map Mp.name) = dm at *
                cases dm <;> cases sf <;> cases se <;>
                  (go_wp2_with (first
                     | (go_at_call 77; (refine K26.mono ?_; rintro e w5 ⟨rfl, hb5⟩; obtain ⟨z0, z1, z2, z3, zb⟩ := HX.out w5 hb5))
                     | (go_at_call 79; have hno := zb6; clear hno; (refine (KE.out _ zb6).mono ?_; rintro e w7 ⟨rfl, hb7⟩))
                     | (go_at_call 79; (refine (KF.out _ zb).mono ?_; rintro e w6 ⟨rfl, hb6⟩; obtain ⟨t0, t1, t2, t3, zb6⟩ := HX.out w6 (hb5.trans (hb6.mono hb5.size)))))
                   go_ret
                   first
                     | exact ⟨by rw [Hres5.out]; rfl, zb6.trans (hb7.mono zb6.size)⟩
                     | exact ⟨by rw [Hres5.out]; rfl, zb6⟩
                     | exact ⟨by rw [Hres5.out]; rfl, zb⟩)
          · rw [dd] at K26
            have HF : Hid (res = false) := hid (by rw [Hres3.out, dd]; rfl)
            go_wp2_with (go_at_call 77; (refine K26.mono ?_; rintro e w2 ⟨rfl, hb2⟩))
            go_ret
            exact ⟨by rw [HF.out]; rfl, Hbe.out.trans (hb2.mono Hbe.out.size)⟩
end Go.Proofs.Ytenfgahedbeekaa

namespace Go.Proofs.Ytenfgahedbeekaa
open Go.RowKit Go.Deep Go.Shelf
set_option linter.unusedVariables false
set_option linter.unusedSimpArgs false

theorem right_recs {p : Pg} (h : rightB p = true) : p.recs.length ≤ 16 ∧ ∀ x ∈ p.recs, x.2.fields.length ≤ 12 ∧ x.2.fields.length = x.2.types.length ∧ x.2.types.all simB = true := by
  unfold rightB recordsB at h
  simp only [Bool.and_eq_true, decide_eq_true_eq, List.length_map] at h
  refine ⟨h.1.1.1.1.1.1, fun x hx => ?_⟩
  have h2 := (List.all_eq_true.1 h.1.1.1.1.1.2) x.2 (List.mem_map.2 ⟨x, hx, rfl⟩)
  unfold fieldsB at h2
  simp only [Bool.and_eq_true, decide_eq_true_eq] at h2
  exact ⟨h2.1.1.1.2, h2.1.1.2, h2.1.2⟩

/- Of a right program: a field's type has no record's number, a plain value's field none either. -/
theorem fieldsAre_kinds {r : Rc} {fs : List Hd} (hl : r.fields.length = r.types.length) (ht : r.types.all simB = true) (hf : fs.all simpleB = true) : fieldsAre r fs = (decide (fs.length = r.types.length) && (List.range r.types.length).all fun i => decide (((fs[i]?).map fun f => f.kind) = some (r.types.getD i (0, 0)).1)) := by
  unfold fieldsAre
  rw [hl]
  by_cases hn : fs.length = r.types.length
  · rw [decide_eq_true hn, Bool.true_and, Bool.true_and, Bool.eq_iff_iff, List.all_eq_true, List.all_eq_true]
    refine forall_congr' fun i => ?_
    refine imp_congr_right fun hi => ?_
    have hil := List.mem_range.1 hi
    have h1 := (List.all_eq_true.1 hf) fs[i] (List.getElem_mem (by omega))
    have h2 := (List.all_eq_true.1 ht) r.types[i] (List.getElem_mem hil)
    unfold simpleB at h1
    unfold simB at h2
    simp only [Bool.and_eq_true, decide_eq_true_eq] at h1 h2
    rw [List.getD_eq_getElem?_getD, List.getElem?_eq_getElem hil, List.getElem?_eq_getElem (show i < fs.length by omega)]
    simp only [Option.map_some, Option.getD_some, Option.some.injEq, decide_eq_true_eq]
    generalize r.types[i] = q at *
    obtain ⟨a, b⟩ := q
    simp only at h2
    simp only [Prod.mk.injEq, h1.1.1, h2.1, and_true]
  · rw [decide_eq_false hn]; rfl
theorem three_boxes (w : World) (c1 c2 c3 : Array Value) (t1 t2 t3 : TypeId) : ∀ W0, W0 = (((w.alloc (.cells c1 t1)).alloc (.cells c2 t2)).alloc (.cells c3 t3)) → Below w.heap.size w W0 ∧ W0.heap[w.heap.size]? = some (.cells c1 t1 (0, 0)) ∧ W0.heap[w.heap.size + 1]? = some (.cells c2 t2 (0, 0)) ∧ W0.heap[w.heap.size + 1 + 1]? = some (.cells c3 t3 (0, 0)) := by
  rintro W0 rfl
  refine ⟨(((Below.refl _ w).alloc (Nat.le_refl _) _).alloc (by simp) _).alloc (by simp; omega) _, ?_, ?_, ?_⟩
  · rw [Below.heap_alloc _ _ _ (by simp; omega), Below.heap_alloc _ _ _ (by simp)]; exact heap_alloc_new w _
  · rw [Below.heap_alloc _ _ _ (by simp)]; have := heap_alloc_new (w.alloc (.cells c1 t1)) (.cells c2 t2); simpa using this
  · have := heap_alloc_new ((w.alloc (.cells c1 t1)).alloc (.cells c2 t2)) (.cells c3 t3); simpa using this
def kindsB (ts : List TyP) (fs : List Hd) (i : Nat) : Bool := decide (((fs[i]?).map fun f => f.kind) = some (ts.getD i (0, 0)).1)
set_option maxRecDepth 100000 in
set_option maxHeartbeats 2000000 in
theorem refIs (w : World) (g : PH) (p : Pg) (d : PRd w g p) (hR : rightB p = true) (k r : Int) (h : Hd) (fs : List Hd) (hin : h.In) (hn : h.n = fs.length) (hv : VRd w h.a fs) (hfs : ∀ f ∈ fs, f.In) :
    Calls Try.prog 54 #[g.v, ty k r, h.v] w fun e w' => e = .returned (.bool (isB p (k, r) h fs)) ∧ Below w.heap.size w w' := by
  obtain ⟨hl16, hrecs⟩ := right_recs hR
  have K27 := hid (fun w' => refIsType w' g k r d.r.n2)
  have e0 : g.rn = p.rn := d.r.n1
  rw [e0] at K27
  have K43 := hid (fun (w1 : World) (hb : Below w.heap.size w w1) => refPlain_any w1 h fs hin hn (hv.below (Nat.le_refl _) hb) hfs)
  obtain ⟨res, hres⟩ : ∃ res, res = isB p (k, r) h fs := ⟨_, rfl⟩
  rw [← hres]
  unfold isB at hres
  simp only at hres
  have Dr := hid d.r
  have HV := hid hv
  have E0 := hid e0
  have Hrecs := hid hrecs
  have hn9 := hin.n
  have hg9 := d.r.n2
  clear d hv hrecs e0 hR hfs hin
  obtain ⟨ra, rn, rc, ma, mn, mc, fa, fn, fc, ea, en, ec⟩ := g
  obtain ⟨hk, hi, ht, hr, ha, hm, hc⟩ := h
  simp only at hn hres hn9 hg9
  simp only [PH.v, ty, Hd.v] at K27 K43 ⊢
  obtain ⟨W0, hW0⟩ : ∃ W0, W0 = (((w.alloc (.cells #[.slice ra rn rc, .slice ma mn mc, .slice fa fn fc, .slice ea en ec] 50)).alloc (.cells #[.int .i64 k, .int .i64 r] 73)).alloc (.cells #[.int .i64 hk, .int .i64 hi, .string ht, .int .i64 hr, .slice ha hm hc] 31)) := ⟨_, rfl⟩
  obtain ⟨hb0, b1, b2, b3⟩ := three_boxes w _ _ _ 50 73 31 W0 hW0
  have FX : Hid (∀ w2 : World, Below W0.heap.size W0 w2 → w2.cell? ⟨w.heap.size, 0, none⟩ = some (.slice ra rn rc) ∧ w2.cell? ⟨w.heap.size + 1, 0, none⟩ = some (.int .i64 k) ∧ w2.cell? ⟨w.heap.size + 1, 1, none⟩ = some (.int .i64 r) ∧ w2.cell? ⟨w.heap.size + 1 + 1, 0, none⟩ = some (.int .i64 hk) ∧ w2.cell? ⟨w.heap.size + 1 + 1, 1, none⟩ = some (.int .i64 hi) ∧ w2.cell? ⟨w.heap.size + 1 + 1, 2, none⟩ = some (.string ht) ∧ w2.cell? ⟨w.heap.size + 1 + 1, 3, none⟩ = some (.int .i64 hr) ∧ w2.cell? ⟨w.heap.size + 1 + 1, 4, none⟩ = some (.slice ha hm hc) ∧ Below w.heap.size w w2) := hid (fun w2 hb => by
    have q1 := (hb.block _ (Array.getElem?_eq_some_iff.1 b1).1).trans b1
    have q2 := (hb.block _ (Array.getElem?_eq_some_iff.1 b2).1).trans b2
    have q3 := (hb.block _ (Array.getElem?_eq_some_iff.1 b3).1).trans b3
    exact ⟨cellOf q1 0, cellOf q2 0, cellOf q2 1, cellOf q3 0, cellOf q3 1, cellOf q3 2, cellOf q3 3, cellOf q3 4, hb0.trans (hb.mono hb0.size)⟩)
  have Hres := hid hres
  have Hn := hid hn
  clear b1 b2 b3 hb0 hres hn
  cases q1 : typB p.rn (k, r) with
  | false =>
    simp only [q1] at K27
    have HV2 : Hid (res = false) := hid (by rw [Hres.out, q1]; rfl)
    go_enter Try.func54, Try.ntmps54
    go_wp2_with (go_at_call 78; (rw [← hW0]; refine (Hid.out K27 _).mono ?_; rintro e w1 ⟨rfl, hb1⟩; obtain ⟨p0, p1, p2, p3, p4, p5, p6, p7, pb⟩ := FX.out w1 hb1))
    go_ret
    exact ⟨by rw [HV2.out]; rfl, pb⟩
  | true =>
    simp only [q1] at K27
    cases q2 : plainB ⟨hk, hi, ht, hr, ha, hm, hc⟩ fs with
    | false =>
      simp only [q2] at K43
      have HV2 : Hid (res = false) := hid (by rw [Hres.out, q1, q2]; rfl)
      go_enter Try.func54, Try.ntmps54
      go_wp2_with (first
        | (go_at_call 78; (rw [← hW0]; refine (Hid.out K27 _).mono ?_; rintro e w1 ⟨rfl, hb1⟩; obtain ⟨p0, p1, p2, p3, p4, p5, p6, p7, pb⟩ := FX.out w1 hb1))
        | (go_at_call 81; (refine (Hid.out K43 _ pb).mono ?_; rintro e w2 ⟨rfl, hb2⟩)))
      go_ret
      exact ⟨by rw [HV2.out]; rfl, pb.trans (hb2.mono pb.size)⟩
    | true =>
      simp only [q2] at K43
      by_cases q3 : hk = k
      · subst q3
        by_cases q4 : hk = 4
        · subst q4
          have hrr : 0 ≤ r ∧ r < (rn : Int) := by
            have q := q1
            unfold typB at q
            simp only [if_true, Bool.and_eq_true, decide_eq_true_eq] at q
            have e00 : rn = p.rn := E0.out
            rw [← e00] at q
            exact q
          obtain ⟨ri, rfl⟩ : ∃ ri : Nat, r = (ri : Int) := ⟨r.toNat, by omega⟩
          have hri : ri < rn := by omega
          obtain ⟨x, hx⟩ : ∃ x, p.recs[ri]? = some x := ⟨p.recs[ri]'(by have e00 : rn = p.rn := E0.out; unfold Pg.rn at e00; omega), by rw [List.getElem?_eq_getElem]⟩
          obtain ⟨hf12, hft, hts⟩ := Hrecs.out x (List.mem_of_getElem? hx)
          have hpl := q2
          rw [plainB_rec rfl] at hpl
          simp only [Bool.and_eq_true, decide_eq_true_eq] at hpl
          have HV2 : Hid (res = (decide (hr = (ri : Int)) && (decide (fs.length = x.2.types.length) && (List.range x.2.types.length).all (kindsB x.2.types fs)))) := hid (by
            rw [Hres.out, q1, q2]
            simp only [if_true, Int.toNat_natCast, hx, Option.map_some, Option.getD_some, decide_true, Bool.true_and]
            rw [fieldsAre_kinds hft hts hpl.2]
            rfl)
          obtain ⟨b1, o1, ea', hb1', e1⟩ := Dr.out.rd ri x.1.cs (by simp [hx])
          subst ea'
          have hc0 := e1 0 (by omega)
          have hc1 := e1 1 (by omega)
          have hc2 := e1 2 (by omega)
          simp only [RH.cs, List.getElem?_cons_zero, List.getElem?_cons_succ, Nat.add_zero] at hc0 hc1 hc2
          have hrc := Dr.out.el x (List.mem_of_getElem? hx)
          have HT := hid hrc.tr
          have Htn := hid hrc.tn
          obtain ⟨⟨nm, ga, gn, gc, ta, tn, tc⟩, rcx⟩ := x
          simp only at hc0 hc1 hc2 HV2 HT Htn hf12 hft
          have Hc := hid (show _ ∧ _ ∧ _ from ⟨hc0, hc1, hc2⟩)
          have Hb1 := hid hb1'
          have htn12 : tn ≤ 12 := by have := Htn.out; omega
          have htn12' : (tn : Int) ≤ 12 := by omega
          have hi0 : (0 : Int) ≤ (ri : Int) := by omega
          have hi1 : (ri : Int) < (rn : Int) := by omega
          have hm12 : (hm : Int) ≤ 12 := by have := hpl.1.2; omega
          clear e1 hx hc0 hc1 hc2 hb1' hrc hpl hrr q1 q2 hts hft hf12
          by_cases q5 : hr = (ri : Int)
          · subst q5
            by_cases q6 : hm = tn
            · subst q6
              have HV3 : Hid (res = (List.range hm).all (kindsB rcx.types fs)) := hid (by
                rw [HV2.out, ← Htn.out, ← Hn.out]; simp)
              clear HV2
              go_enter Try.func54, Try.ntmps54
              go_wp2_with (first
                | (go_at_call 78; (rw [← hW0]; refine (Hid.out K27 _).mono ?_; rintro e w1 ⟨rfl, hb1⟩; obtain ⟨p0, p1, p2, p3, p4, p5, p6, p7, pb⟩ := FX.out w1 hb1))
                | (go_at_call 81; (refine (Hid.out K43 _ pb).mono ?_; rintro e w2 ⟨rfl, hb2⟩; obtain ⟨P0, P1, P2, P3, P4, P5, P6, P7, PB2⟩ := FX.out w2 (hb1.trans (hb2.mono hb1.size)); have HB12 := hid (hb1.trans (hb2.mono hb1.size)); have PA := fun o => FX.out (w2.alloc o) ((hb1.trans (hb2.mono hb1.size)).alloc (Nat.le_trans hb1.size hb2.size) o); have A1 : ∀ o, (w2.alloc o).cell? ⟨w.heap.size + 1, 1, none⟩ = some (.int .i64 (ri : Int)) := fun o => (PA o).2.2.1; have A3 : ∀ o, (w2.alloc o).cell? ⟨w.heap.size + 1 + 1, 3, none⟩ = some (.int .i64 (ri : Int)) := fun o => (PA o).2.2.2.2.2.2.1; have A4 : ∀ o, (w2.alloc o).cell? ⟨w.heap.size + 1 + 1, 4, none⟩ = some (.slice ha hm hc) := fun o => (PA o).2.2.2.2.2.2.2.1; clear PA; have z0 := (PB2.cell (p := ⟨b1, o1 + ri * 3, none⟩) Hb1.out).trans Hc.out.1; have z1 := (PB2.cell (p := ⟨b1, o1 + ri * 3 + 1, none⟩) Hb1.out).trans Hc.out.2.1; have z2 := (PB2.cell (p := ⟨b1, o1 + ri * 3 + 2, none⟩) Hb1.out).trans Hc.out.2.2)))
              obtain ⟨W2, hW2⟩ : ∃ W2, W2 = w2.alloc (.cells #[.string nm, .slice ga gn gc, .slice ta hm tc] 95) := ⟨_, rfl⟩
              have hbx : W2.heap[w2.heap.size]? = some (.cells #[.string nm, .slice ga gn gc, .slice ta hm tc] 95 (0, 0)) := by rw [hW2]; exact heap_alloc_new w2 _
              have h02 : Below W0.heap.size W0 W2 := by rw [hW2]; exact HB12.out.alloc HB12.out.size _
              rw [← hW2]
              have Hbx := hid hbx
              have H02 := hid h02
              clear hbx h02 hW2 A1 A3 A4 z0 z1 z2 P0 P1 P2 P3 P4 P5 P6 P7 p0 p1 p2 p3 p4 p5 p6 p7 K27 K43
              go_loopg [8] hm (fun g ii wr => ∃ i : Nat, i + g = hm ∧ ii = .int .i64 (i : Int) ∧ Below W2.heap.size W2 wr ∧ ∀ j, j < i → kindsB rcx.types fs j = true)
              case atStart => exact ⟨0, by omega, rfl, Below.refl _ _, fun j hj => by omega⟩
              case round =>
                obtain ⟨i, hi', rfl, hbr, hacc⟩ := hrel
                have h0r : Below W0.heap.size W0 wr := H02.out.trans (hbr.mono H02.out.size)
                obtain ⟨P0, P1, P2, P3, P4, P5, P6, P7, PB3⟩ := FX.out wr h0r
                have hbx2 := (hbr.block _ (Array.getElem?_eq_some_iff.1 Hbx.out).1).trans Hbx.out
                have y2 := cellOf hbx2 2
                simp only [List.getElem?_toArray, List.getElem?_cons_zero, List.getElem?_cons_succ] at y2
                have Hacc := hid hacc
                have Hbr := hid hbr
                have HPB := hid PB3
                cases gk with
                | zero =>
                  have hin : i = hm := by omega
                  subst hin
                  clear hi' hacc hbr h0r hbx2
                  go_wp2
                  go_ret
                  refine ⟨?_, HPB.out⟩
                  have : res = true := by
                    rw [HV3.out, List.all_eq_true]
                    exact fun j hj => Hacc.out j (List.mem_range.1 hj)
                  rw [this]
                  rfl
                | succ gi =>
                  have hlt0 : i < hm := by omega
                  have hlt : (i : Int) < (hm : Int) := by omega
                  obtain ⟨f, hf⟩ : ∃ f, fs[i]? = some f := ⟨fs[i]'(by rw [← Hn.out]; exact hlt0), List.getElem?_eq_getElem _⟩
                  obtain ⟨t, ht⟩ : ∃ t, rcx.types[i]? = some t := ⟨rcx.types[i]'(by rw [← Htn.out]; exact hlt0), List.getElem?_eq_getElem _⟩
                  obtain ⟨fb, fo, ea', df⟩ := (HV.out.below (Nat.le_refl _) PB3) i f hf
                  subst ea'
                  obtain ⟨tb, to', ea', dt1, dt2⟩ := (HT.out.below (Nat.le_refl _) PB3) i t ht
                  subst ea'
                  have f0 := df 0 (by omega)
                  simp only [Hd.cs, List.getElem?_cons_zero, Nat.add_zero] at f0
                  have hkd : kindsB rcx.types fs i = decide (f.kind = t.1) := by
                    unfold kindsB
                    rw [hf, List.getD_eq_getElem?_getD, ht]
                    simp
                  obtain ⟨fk, hfk⟩ : ∃ z, z = f.kind := ⟨_, rfl⟩
                  obtain ⟨tk, htk⟩ : ∃ z, z = t.1 := ⟨_, rfl⟩
                  rw [← hfk] at f0 hkd
                  rw [← htk] at dt1 hkd
                  have Hkd := hid hkd
                  have Hi := hid hi'
                  have Hlt := hid hlt0
                  clear hi' hacc hbr h0r hbx2 df dt2 hf ht hkd hfk htk PB3 hlt0
                  by_cases hq : fk = tk
                  · subst hq
                    go_wp2
                    go_region_held3 (fun wz => wz.cell? ⟨w.heap.size + 1 + 1, 4, none⟩ = some (.slice (some ⟨fb, fo, none⟩) hm hc) ∧ wz.cell? ⟨fb, fo + i * 5, none⟩ = some (.int .i64 fk) ∧ wz.cell? ⟨w2.heap.size, 2, none⟩ = some (.slice (some ⟨tb, to', none⟩) hm tc) ∧ wz.cell? ⟨tb, to' + i * 2, none⟩ = some (.int .i64 fk)) (first | go_keep) (fail)
                    go_wp2
                    go_roundg gi
                    case measure => omega
                    case rel => exact ⟨i + 1, by have := Hi.out; omega, by go_num, Hbr.out.trans (((Below.refl _ wr).drew).mono Hbr.out.size), fun j hj => by
                      rcases Nat.lt_or_ge j i with h | h
                      · exact Hacc.out j h
                      · obtain rfl : j = i := by omega
                        rw [Hkd.out]; simp⟩
                  · have hq' : (fk == tk) = false := by simpa using hq
                    have hq2 : (fk != tk) = true := by simp [bne, hq']
                    go_wp2
                    go_region_held3 (fun wz => wz.cell? ⟨w.heap.size + 1 + 1, 4, none⟩ = some (.slice (some ⟨fb, fo, none⟩) hm hc) ∧ wz.cell? ⟨fb, fo + i * 5, none⟩ = some (.int .i64 fk) ∧ wz.cell? ⟨w2.heap.size, 2, none⟩ = some (.slice (some ⟨tb, to', none⟩) hm tc) ∧ wz.cell? ⟨tb, to' + i * 2, none⟩ = some (.int .i64 tk)) (first | go_keep) (fail)
                    go_wp2
                    go_ret
                    refine ⟨?_, HPB.out.trans (((Below.refl _ wr).drew).mono HPB.out.size)⟩
                    have : res = false := by
                      rw [HV3.out, List.all_eq_false]
                      exact ⟨i, List.mem_range.2 Hlt.out, by rw [Hkd.out]; simp [hq]⟩
                    rw [this]
                    rfl
            · have q6' : ¬ (hm : Int) = (tn : Int) := by omega
              have q6b : ((hm : Int) == (tn : Int)) = false := by simpa using q6'
              have HV3 : Hid (res = false) := hid (by rw [HV2.out, ← Htn.out, ← Hn.out, decide_eq_false q6]; simp)
              clear HV2
              go_enter Try.func54, Try.ntmps54
              go_wp2_with (first
                | (go_at_call 78; (rw [← hW0]; refine (Hid.out K27 _).mono ?_; rintro e w1 ⟨rfl, hb1⟩; obtain ⟨p0, p1, p2, p3, p4, p5, p6, p7, pb⟩ := FX.out w1 hb1))
                | (go_at_call 81; (refine (Hid.out K43 _ pb).mono ?_; rintro e w2 ⟨rfl, hb2⟩; obtain ⟨P0, P1, P2, P3, P4, P5, P6, P7, PB2⟩ := FX.out w2 (hb1.trans (hb2.mono hb1.size)); have HB12 := hid (hb1.trans (hb2.mono hb1.size)); have PA := fun o => FX.out (w2.alloc o) ((hb1.trans (hb2.mono hb1.size)).alloc (Nat.le_trans hb1.size hb2.size) o); have A1 : ∀ o, (w2.alloc o).cell? ⟨w.heap.size + 1, 1, none⟩ = some (.int .i64 (ri : Int)) := fun o => (PA o).2.2.1; have A3 : ∀ o, (w2.alloc o).cell? ⟨w.heap.size + 1 + 1, 3, none⟩ = some (.int .i64 (ri : Int)) := fun o => (PA o).2.2.2.2.2.2.1; have A4 : ∀ o, (w2.alloc o).cell? ⟨w.heap.size + 1 + 1, 4, none⟩ = some (.slice ha hm hc) := fun o => (PA o).2.2.2.2.2.2.2.1; clear PA; have z0 := (PB2.cell (p := ⟨b1, o1 + ri * 3, none⟩) Hb1.out).trans Hc.out.1; have z1 := (PB2.cell (p := ⟨b1, o1 + ri * 3 + 1, none⟩) Hb1.out).trans Hc.out.2.1; have z2 := (PB2.cell (p := ⟨b1, o1 + ri * 3 + 2, none⟩) Hb1.out).trans Hc.out.2.2)))
              go_ret
              exact ⟨by rw [HV3.out]; rfl, PB2.alloc PB2.size _⟩
          · have q5b : (hr == (ri : Int)) = false := by simpa using q5
            have HV3 : Hid (res = false) := hid (by rw [HV2.out, decide_eq_false q5]; rfl)
            clear HV2
            go_enter Try.func54, Try.ntmps54
            go_wp2_with (first
              | (go_at_call 78; (rw [← hW0]; refine (Hid.out K27 _).mono ?_; rintro e w1 ⟨rfl, hb1⟩; obtain ⟨p0, p1, p2, p3, p4, p5, p6, p7, pb⟩ := FX.out w1 hb1))
              | (go_at_call 81; (refine (Hid.out K43 _ pb).mono ?_; rintro e w2 ⟨rfl, hb2⟩; obtain ⟨P0, P1, P2, P3, P4, P5, P6, P7, PB2⟩ := FX.out w2 (hb1.trans (hb2.mono hb1.size)); have HB12 := hid (hb1.trans (hb2.mono hb1.size)); have PA := fun o => FX.out (w2.alloc o) ((hb1.trans (hb2.mono hb1.size)).alloc (Nat.le_trans hb1.size hb2.size) o); have A1 : ∀ o, (w2.alloc o).cell? ⟨w.heap.size + 1, 1, none⟩ = some (.int .i64 (ri : Int)) := fun o => (PA o).2.2.1; have A3 : ∀ o, (w2.alloc o).cell? ⟨w.heap.size + 1 + 1, 3, none⟩ = some (.int .i64 hr) := fun o => (PA o).2.2.2.2.2.2.1; have A4 : ∀ o, (w2.alloc o).cell? ⟨w.heap.size + 1 + 1, 4, none⟩ = some (.slice ha hm hc) := fun o => (PA o).2.2.2.2.2.2.2.1; clear PA; have z0 := (PB2.cell (p := ⟨b1, o1 + ri * 3, none⟩) Hb1.out).trans Hc.out.1; have z1 := (PB2.cell (p := ⟨b1, o1 + ri * 3 + 1, none⟩) Hb1.out).trans Hc.out.2.1; have z2 := (PB2.cell (p := ⟨b1, o1 + ri * 3 + 2, none⟩) Hb1.out).trans Hc.out.2.2)))
            go_ret
            exact ⟨by rw [HV3.out]; rfl, PB2.alloc PB2.size _⟩
        · have HV2 : Hid (res = true) := hid (by
            rw [Hres.out, q1, q2]
            have h1 := q1
            have h2 := q2
            unfold typB at h1
            unfold plainB at h2
            simp only [q4, if_false] at h1 h2
            unfold simB at h1
            unfold simpleB at h2
            simp only [Bool.and_eq_true, decide_eq_true_eq] at h1 h2
            simp [q4, h1.1, h2.1.1])
          go_enter Try.func54, Try.ntmps54
          go_wp2_with (first
            | (go_at_call 78; (rw [← hW0]; refine (Hid.out K27 _).mono ?_; rintro e w1 ⟨rfl, hb1⟩; obtain ⟨p0, p1, p2, p3, p4, p5, p6, p7, pb⟩ := FX.out w1 hb1))
            | (go_at_call 81; (refine (Hid.out K43 _ pb).mono ?_; rintro e w2 ⟨rfl, hb2⟩; obtain ⟨P0, P1, P2, P3, P4, P5, P6, P7, PB2⟩ := FX.out w2 (hb1.trans (hb2.mono hb1.size)))))
          go_ret
          exact ⟨by rw [HV2.out]; rfl, PB2⟩
      · have q3' : (hk == k) = false := by simpa using q3
        have HV2 : Hid (res = false) := hid (by rw [Hres.out, q1, q2, decide_eq_false q3]; simp)
        go_enter Try.func54, Try.ntmps54
        go_wp2_with (first
          | (go_at_call 78; (rw [← hW0]; refine (Hid.out K27 _).mono ?_; rintro e w1 ⟨rfl, hb1⟩; obtain ⟨p0, p1, p2, p3, p4, p5, p6, p7, pb⟩ := FX.out w1 hb1))
          | (go_at_call 81; (refine (Hid.out K43 _ pb).mono ?_; rintro e w2 ⟨rfl, hb2⟩; obtain ⟨P0, P1, P2, P3, P4, P5, P6, P7, PB2⟩ := FX.out w2 (hb1.trans (hb2.mono hb1.size)))))
        go_ret
        exact ⟨by rw [HV2.out]; rfl, PB2⟩
end Go.Proofs.Ytenfgahedbeekaa

