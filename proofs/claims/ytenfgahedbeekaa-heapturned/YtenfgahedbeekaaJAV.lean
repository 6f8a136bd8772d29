/- The document's side: programs that may be. -/
import Derived.Test.YtenfgahedbeekaaJAU
import Derived.Deep.RegionHeld3
namespace Go.Proofs.Ytenfgahedbeekaa
open Go.RowKit Go.Deep Go.Shelf
set_option linter.unusedVariables false
set_option linter.unusedSimpArgs false

def recE (r : Rc) : Bool := nmdB true r.name && fieldsB r
def mapE (n : Nat) (m : Mp) : Bool := nmdB false m.name && mapB n m
theorem and_all {α : Type} (l : List α) (p q : α → Bool) : l.all (fun x => p x && q x) = (l.all p && l.all q) := by
  rw [Bool.eq_iff_iff]
  simp only [Bool.and_eq_true, List.all_eq_true]
  exact ⟨fun h => ⟨fun x hx => (h x hx).1, fun x hx => (h x hx).2⟩, fun h x hx => ⟨h.1 x hx, h.2 x hx⟩⟩
theorem records_eq (rs : List Rc) : recordsB rs = (decide (rs.length ≤ 16) && rs.all recE && !dupB (rs.map Rc.name)) := by
  unfold recordsB
  have h := namesB_split true (rs.map Rc.name)
  rw [if_pos rfl] at h
  have e : rs.all recE = (rs.all (fun r => nmdB true r.name) && rs.all fieldsB) := and_all rs _ _
  rw [h, e, List.all_map]
  have hc : rs.all (nmdB true ∘ Rc.name) = rs.all (fun r => nmdB true r.name) := rfl
  rw [hc]
  generalize decide (rs.length ≤ 16) = A
  generalize rs.all (fun r => nmdB true r.name) = B
  generalize rs.all fieldsB = C
  generalize dupB (rs.map Rc.name) = E
  cases A <;> cases B <;> cases C <;> cases E <;> rfl
theorem maps_eq (n : Nat) (ms : List Mp) : mapsB n ms = (decide (ms.length ≤ 16) && ms.all (mapE n) && !dupB (ms.map Mp.name)) := by
  unfold mapsB
  have h := namesB_split false (ms.map Mp.name)
  rw [if_neg (by decide)] at h
  have e : ms.all (mapE n) = (ms.all (fun r => nmdB false r.name) && ms.all (mapB n)) := and_all ms _ _
  rw [h, e, List.all_map]
  have hc : ms.all (nmdB false ∘ Mp.name) = ms.all (fun r => nmdB false r.name) := rfl
  rw [hc]
  generalize decide (ms.length ≤ 16) = A
  generalize ms.all (fun r => nmdB false r.name) = B
  generalize ms.all (mapB n) = C
  generalize dupB (ms.map Mp.name) = E
  cases A <;> cases B <;> cases C <;> cases E <;> rfl
theorem right_eq (p : Pg) : rightB p = ((decide ((p.recs.map (·.2)).length ≤ 16) && (p.recs.map (·.2)).all recE && !dupB ((p.recs.map (·.2)).map Rc.name)) && (decide (p.maps.length ≤ 16) && p.maps.all (mapE p.rn) && !dupB (p.maps.map Mp.name)) && sgsR true p.rn (p.funcs.map (·.2)) && sgsR false p.rn (p.events.map (·.2))) := by
  unfold rightB
  rw [records_eq, maps_eq, sgs_eq, sgs_eq]
  simp only [Bool.true_or, Bool.and_true, Bool.false_or, Bool.and_assoc]
/- A record's fields, one by one. -/
def fldE (r : Rc) (j : Nat) : Bool := nmdB false (r.fields.getD j ByteArray.empty) && simB (r.types.getD j (0, 0))
theorem rec_parts (r : Rc) : recE r = (nmdB true r.name && (decide (1 ≤ r.fields.length) && decide (r.fields.length ≤ 12) && decide (r.fields.length = r.types.length) && !dupB r.fields && (List.range r.fields.length).all (fldE r))) := by
  unfold recE fieldsB
  have h := namesB_split false r.fields
  rw [if_neg (by decide)] at h
  rw [h]
  by_cases hl : r.fields.length = r.types.length
  · have e : (List.range r.fields.length).all (fldE r) = (r.fields.all (nmdB false) && r.types.all simB) := by
      rw [Bool.eq_iff_iff]
      simp only [Bool.and_eq_true, List.all_eq_true, fldE]
      constructor
      · intro h
        constructor
        · intro x hx
          obtain ⟨j, hj⟩ := List.getElem?_of_mem hx
          have := (h j (List.mem_range.2 (List.getElem?_eq_some_iff.1 hj).1)).1
          rw [List.getD_eq_getElem?_getD, hj] at this
          exact this
        · intro x hx
          obtain ⟨j, hj⟩ := List.getElem?_of_mem hx
          have := (h j (List.mem_range.2 (by rw [hl]; exact (List.getElem?_eq_some_iff.1 hj).1))).2
          rw [List.getD_eq_getElem?_getD, hj] at this
          exact this
      · rintro ⟨h1, h2⟩ j hj
        have hjl := List.mem_range.1 hj
        rw [List.getD_eq_getElem?_getD, List.getD_eq_getElem?_getD, List.getElem?_eq_getElem hjl, List.getElem?_eq_getElem (show j < r.types.length by omega)]
        exact ⟨h1 _ (List.getElem_mem _), h2 _ (List.getElem_mem _)⟩
    rw [e]
    generalize nmdB true r.name = A
    generalize decide (1 ≤ r.fields.length) = B
    generalize decide (r.fields.length ≤ 12) = C
    generalize decide (r.fields.length = r.types.length) = D
    generalize r.types.all simB = E
    generalize r.fields.all (nmdB false) = F
    generalize dupB r.fields = G
    cases A <;> cases B <;> cases C <;> cases D <;> cases E <;> cases F <;> cases G <;> rfl
  · rw [decide_eq_false hl]; simp
theorem all_no {α : Type} {l : List α} {x : α} {p : α → Bool} (hx : x ∈ l) (h : p x = false) : l.all p = false := by rw [List.all_eq_false]; exact ⟨x, hx, by simp [h]⟩
theorem box_alloc {wo wr : World} {c : Array Value} {t : TypeId} (h : Below (wo.alloc (.cells c t)).heap.size (wo.alloc (.cells c t)) wr) : wr.heap[wo.heap.size]? = some (.cells c t (0, 0)) := by
  rw [h.block _ (by simp)]; exact heap_alloc_new wo _
set_option maxRecDepth 100000 in
set_option maxHeartbeats 4000000 in
theorem refRight (w : World) (h : PH) (p : Pg) (d : PRd w h p) : Calls Try.prog 52 #[h.v] w fun e w' => e = .returned (.bool (rightB p)) ∧ Below w.heap.size w w' := by
  have D := hid d
  have Hrn := hid d.r.n1
  have hrn2 := d.r.n2
  have Hmn := hid d.m.n1
  have hmn2 := d.m.n2
  have KT := hid (fun w' k r => refIsType w' h k r d.r.n2)
  have KN := hid (fun s g w' => refNamed s g w')
  have KF := hid (fun (w1 : World) (hb : Below w.heap.size w w1) => refSigs w1 h h.fa h.fn h.fc true p.funcs (d.f.below (Nat.le_refl _) hb) d.r.n2)
  have KE := hid (fun (w1 : World) (hb : Below w.heap.size w w1) => refSigs w1 h h.ea h.en h.ec false p.events (d.e.below (Nat.le_refl _) hb) d.r.n2)
  obtain ⟨res, hres⟩ : ∃ res, res = rightB p := ⟨_, rfl⟩
  rw [← hres]
  rw [right_eq] at hres
  rw [show p.rn = h.rn from d.r.n1.symm] at hres
  obtain ⟨sf, hsf⟩ : ∃ b, b = sgsR true h.rn (p.funcs.map (·.2)) := ⟨_, rfl⟩
  obtain ⟨se, hse⟩ : ∃ b, b = sgsR false h.rn (p.events.map (·.2)) := ⟨_, rfl⟩
  rw [← hsf, ← hse] at hres
  rw [← hsf] at KF
  rw [← hse] at KE
  have Hres := hid hres
  clear d hres hsf hse
  obtain ⟨ra, rn, rc, ma, mn, mc, fa, fn, fc, ea, en, ec⟩ := h
  simp only at hrn2 hmn2
  simp only [PH.v, ty] at KT KF KE ⊢
  have hb0 : Below w.heap.size w (w.alloc (.cells #[.slice ra rn rc, .slice ma mn mc, .slice fa fn fc, .slice ea en ec] 50)) := (Below.refl _ _).alloc (Nat.le_refl _) _
  have bx0 : (w.alloc (.cells #[.slice ra rn rc, .slice ma mn mc, .slice fa fn fc, .slice ea en ec] 50)).heap[w.heap.size]? = some (.cells #[.slice ra rn rc, .slice ma mn mc, .slice fa fn fc, .slice ea en ec] 50 (0, 0)) := heap_alloc_new w _
  have HB0 := hid hb0
  have HX0 := hid bx0
  clear hb0 bx0
  have hrl : rn = p.recs.length := Hrn.out
  have hml : mn = p.maps.length := Hmn.out
  by_cases h1 : 16 < rn
  · have h1' : (16 : Int) < (rn : Int) := by omega
    have HF : Hid (res = false) := hid (by rw [Hres.out, decide_eq_false (show ¬ (p.recs.map (·.2)).length ≤ 16 by rw [List.length_map]; omega)]; simp)
    clear hrl hml
    go_enter Try.func52, Try.ntmps52
    go_wp2
    go_ret
    exact ⟨by rw [HF.out]; rfl, HB0.out⟩
  · have h1' : (rn : Int) ≤ 16 := by omega
    by_cases h2 : 16 < mn
    · have h2' : (16 : Int) < (mn : Int) := by omega
      have HF : Hid (res = false) := hid (by rw [Hres.out, decide_eq_false (show ¬ p.maps.length ≤ 16 by omega)]; simp)
      clear hrl hml
      go_enter Try.func52, Try.ntmps52
      go_wp2
      go_ret
      exact ⟨by rw [HF.out]; rfl, HB0.out⟩
    · have h2' : (mn : Int) ≤ 16 := by omega
      have Hrl := hid hrl
      have Hml := hid hml
      have Hres2 : Hid (res = (((p.recs.map (·.2)).all recE && !dupB ((p.recs.map (·.2)).map Rc.name)) && (p.maps.all (mapE rn) && !dupB (p.maps.map Mp.name)) && sf && se)) := hid (by
        rw [Hres.out, decide_eq_true (show (p.recs.map (·.2)).length ≤ 16 by rw [List.length_map]; omega), decide_eq_true (show p.maps.length ≤ 16 by omega)]; simp)
      clear hrl hml Hres
      go_enter Try.func52, Try.ntmps52
      go_wp2
      go_loopg [3, 4] rn (fun g nv ii wr => ∃ i : Nat, i + g = rn ∧ ii = .int .i64 (i : Int) ∧ Below w.heap.size w wr ∧ wr.heap[w.heap.size]? = some (.cells #[.slice ra rn rc, .slice ma mn mc, .slice fa fn fc, .slice ea en ec] 50 (0, 0)) ∧ NRow wr (w.heap.size + 1) nv ((p.recs.take i).map fun p => p.2.name) ∧ ∀ x ∈ p.recs.take i, recE x.2 = true)
      case atStart => exact ⟨0, by omega, rfl, HB0.out, HX0.out, NRow.nil _ _, fun x hx => by simp at hx⟩
      case round =>
        obtain ⟨i, hi', rfl, hbe, hbx, hrow, hAc⟩ := hrel
        obtain ⟨wo, hwo⟩ : ∃ wo, wo = wr := ⟨_, rfl⟩
        subst hwo
        have Hi := hid hi'
        have Hbe := hid hbe
        have HAc := hid hAc
        have Hrow := hid hrow
        have Hbx := hid hbx
        obtain ⟨na, ncap, rfl, hnc⟩ := hrow.form
        have hlx : w.heap.size < wo.heap.size := (Array.getElem?_eq_some_iff.1 hbx).1
        have k0 := cellOf hbx 0
        have k1 := cellOf hbx 1
        simp only [List.getElem?_toArray, List.getElem?_cons_zero, List.getElem?_cons_succ] at k0 k1
        clear hAc hbe hrow hbx
        have hlen : ((p.recs.take i).map fun p => p.2.name).length = i := by rw [List.length_map, List.length_take, ← Hrl.out]; omega
        rw [hlen] at Hrow hnc ⊢
        clear hlen
        cases gk with
        | succ g =>
          have hlt : i < rn := by omega
          have hlt' : (i : Int) < (rn : Int) := by omega
          clear hi'
          obtain ⟨x, hx⟩ : ∃ x, p.recs[i]? = some x := ⟨p.recs[i]'(by rw [← Hrl.out]; exact hlt), by rw [List.getElem?_eq_getElem]⟩
          have DW := D.out.r.below (Nat.le_refl _) Hbe.out
          have el := DW.el x (List.mem_of_getElem? hx)
          obtain ⟨b1, o1, ea', hb1, e1⟩ := DW.rd i x.1.cs (by simp [hx])
          simp only at ea'
          subst ea'
          have x0 := e1 0 (by omega)
          have x1 := e1 1 (by omega)
          have x2 := e1 2 (by omega)
          have Hx := hid hx
          have Hel := hid el
          have HNo : Hid (recE x.2 = false → res = false) := hid (fun e => by rw [Hres2.out, all_no (List.mem_map.2 ⟨x, List.mem_of_getElem? hx, rfl⟩) e]; rfl)
          clear e1 DW el hx hb1
          obtain ⟨hh, rcx⟩ := x
          obtain ⟨nm, ga, gn, gc, ta, tn, tc⟩ := hh
          simp only [RH.cs, List.getElem?_cons_zero, List.getElem?_cons_succ, Nat.add_zero] at x0 x1 x2
          simp only at HNo
          have hnm : nm = rcx.name := Hel.out.nm
          have hgn : gn = rcx.fields.length := Hel.out.fn
          have htn : tn = rcx.types.length := Hel.out.tn
          have hrp := rec_parts rcx
          rw [← hnm, ← hgn, ← htn] at hrp
          have hba : Below wo.heap.size wo (wo.alloc (.cells #[.string nm, .slice ga gn gc, .slice ta tn tc] 95)) := (Below.refl _ _).alloc (Nat.le_refl _) _
          have HBA := hid hba
          have A0 : (wo.alloc (.cells #[.string nm, .slice ga gn gc, .slice ta tn tc] 95)).cell? ⟨wo.heap.size, 0, none⟩ = some (.string nm) := cellOf (heap_alloc_new wo _) 0
          have A1 : (wo.alloc (.cells #[.string nm, .slice ga gn gc, .slice ta tn tc] 95)).cell? ⟨wo.heap.size, 1, none⟩ = some (.slice ga gn gc) := cellOf (heap_alloc_new wo _) 1
          have A2 : (wo.alloc (.cells #[.string nm, .slice ga gn gc, .slice ta tn tc] 95)).cell? ⟨wo.heap.size, 2, none⟩ = some (.slice ta tn tc) := cellOf (heap_alloc_new wo _) 2
          have c1 := KN.out nm true (wo.alloc (.cells #[.string nm, .slice ga gn gc, .slice ta tn tc] 95))
          have cTw := hid (refTwice (wo.alloc (.cells #[.string nm, .slice ga gn gc, .slice ta tn tc] 95)) ga gn gc rcx.fields hgn)
          have Hgn := hid hgn
          have Htn := hid htn
          have Hnm := hid hnm
          have HRP := hid hrp
          have hgn2 : gn ≤ 9223372036854775807 := Hel.out.f2
          have htn2 : tn ≤ 9223372036854775807 := Hel.out.t2
          clear hnm hgn htn hrp hba
          cases q1 : nmdB true nm
          · rw [q1] at c1
            have HF : Hid (res = false) := hid (HNo.out (by rw [HRP.out]; rw [q1]; rfl))
            go_wp2_with (go_at_call 76; refine c1.mono ?_; rintro e wz ⟨rfl, rfl⟩)
            go_ret
            exact ⟨by rw [HF.out]; rfl, Hbe.out.trans (HBA.out.mono Hbe.out.size)⟩
          · rw [q1] at c1
            by_cases g1 : gn < 1
            · have g1' : (gn : Int) < 1 := by omega
              have HF : Hid (res = false) := hid (HNo.out (by rw [HRP.out]; rw [decide_eq_false (show ¬ 1 ≤ gn by omega)]; simp))
              go_wp2_with (go_at_call 76; refine c1.mono ?_; rintro e wz ⟨rfl, rfl⟩)
              go_ret
              exact ⟨by rw [HF.out]; rfl, Hbe.out.trans (HBA.out.mono Hbe.out.size)⟩
            · have g1' : ¬ (gn : Int) < 1 := by omega
              by_cases g2 : 12 < gn
              · have g2' : (12 : Int) < (gn : Int) := by omega
                have HF : Hid (res = false) := hid (HNo.out (by rw [HRP.out]; rw [decide_eq_false (show ¬ gn ≤ 12 by omega)]; simp))
                go_wp2_with (go_at_call 76; refine c1.mono ?_; rintro e wz ⟨rfl, rfl⟩)
                go_ret
                exact ⟨by rw [HF.out]; rfl, Hbe.out.trans (HBA.out.mono Hbe.out.size)⟩
              · have g2' : (gn : Int) ≤ 12 := by omega
                by_cases g3 : gn = tn
                · subst g3
                  have cT2 := cTw.out (by omega) (Hel.out.fr.below (Nat.le_refl _) HBA.out)
                  cases q2 : dupB rcx.fields
                  · rw [q2] at cT2
                    have HRP2 : Hid (recE rcx = (List.range gn).all (fldE rcx)) := hid (by rw [HRP.out, q1, q2, decide_eq_true (show 1 ≤ gn by omega), decide_eq_true (show gn ≤ 12 by omega)]; simp)
                    clear q1 q2 HRP cTw
                    go_wp2_with (first | (go_at_call 76; refine c1.mono ?_; rintro e wz ⟨rfl, rfl⟩) | (go_at_call 77; refine cT2.mono ?_; rintro e w2 ⟨rfl, hb2⟩; have y0 := cellOf (box_alloc hb2) 0; have y1 := cellOf (box_alloc hb2) 1; have y2 := cellOf (box_alloc hb2) 2; simp only [List.getElem?_toArray, List.getElem?_cons_zero, List.getElem?_cons_succ] at y0 y1 y2))
                    have HB2 := hid hb2
                    clear hb2 y0 y1 y2 x0 x1 x2 A0 A1 A2 c1 cT2
                    go_loopg [6] gn (fun g2 jj wx => ∃ j : Nat, j + g2 = gn ∧ jj = .int .i64 (j : Int) ∧ Below (wo.alloc (.cells #[.string nm, .slice ga gn gc, .slice ta gn tc] 95)).heap.size (wo.alloc (.cells #[.string nm, .slice ga gn gc, .slice ta gn tc] 95)) wx ∧ ∀ y, y < j → fldE rcx y = true)
                    case atStart => exact ⟨0, by omega, rfl, HB2.out, fun y hy => by omega⟩
                    case round =>
                      obtain ⟨j, hj', rfl, hbj, hAj⟩ := hrel
                      have y0 := cellOf (box_alloc hbj) 0
                      have y1 := cellOf (box_alloc hbj) 1
                      have y2 := cellOf (box_alloc hbj) 2
                      simp only [List.getElem?_toArray, List.getElem?_cons_zero, List.getElem?_cons_succ] at y0 y1 y2
                      have hwj : Below wo.heap.size wo wr := HBA.out.trans (hbj.mono HBA.out.size)
                      have HWJ := hid hwj
                      have HBJ := hid hbj
                      have HAj := hid hAj
                      have Hj := hid hj'
                      have HWB := hid (Hbe.out.trans (hwj.mono Hbe.out.size))
                      cases gk with
                      | succ g2' =>
                        have hjlt : j < gn := by omega
                        have hjlt' : (j : Int) < (gn : Int) := by omega
                        obtain ⟨s, hs⟩ : ∃ s, rcx.fields[j]? = some s := ⟨rcx.fields[j]'(by rw [← Hgn.out]; exact hjlt), by rw [List.getElem?_eq_getElem]⟩
                        obtain ⟨t, ht⟩ : ∃ t, rcx.types[j]? = some t := ⟨rcx.types[j]'(by rw [← Htn.out]; exact hjlt), by rw [List.getElem?_eq_getElem]⟩
                        obtain ⟨_, fb, fo, ea', s0⟩ := (Hel.out.fr.below (Nat.le_refl _) hwj) j s hs
                        simp only at ea'
                        subst ea'
                        obtain ⟨tb, to', ea', t0, t1⟩ := (Hel.out.tr.below (Nat.le_refl _) hwj) j t ht
                        simp only at ea'
                        subst ea'
                        obtain ⟨tk, tr⟩ := t
                        simp only at t0 t1
                        have Hfl : Hid (fldE rcx j = (nmdB false s && simB (tk, tr))) := hid (by unfold fldE; rw [List.getD_eq_getElem?_getD, List.getD_eq_getElem?_getD, hs, ht]; rfl)
                        have HNj : Hid (fldE rcx j = false → res = false) := hid (fun e => HNo.out (by rw [HRP2.out]; exact all_no (List.mem_range.2 hjlt) e))
                        have c1 := KN.out s false wr
                        clear hj' hbj hAj hwj hs ht
                        cases q3 : nmdB false s
                        · rw [q3] at c1
                          have HF : Hid (res = false) := hid (HNj.out (by rw [Hfl.out]; rw [q3]; rfl))
                          go_wp2_with (go_at_call 76; refine c1.mono ?_; rintro e wr ⟨rfl, rfl⟩)
                          go_ret
                          exact ⟨by rw [HF.out]; rfl, HWB.out⟩
                        · rw [q3] at c1
                          by_cases u1 : tk < 1
                          · have HF : Hid (res = false) := hid (HNj.out (by rw [Hfl.out]; simp [simB]; omega))
                            go_wp2_with (go_at_call 76; refine c1.mono ?_; rintro e wr ⟨rfl, rfl⟩)
                            go_ret
                            exact ⟨by rw [HF.out]; rfl, HWB.out⟩
                          · by_cases u2 : 3 < tk
                            · have HF : Hid (res = false) := hid (HNj.out (by rw [Hfl.out]; simp [simB]; omega))
                              go_wp2_with (go_at_call 76; refine c1.mono ?_; rintro e wr ⟨rfl, rfl⟩)
                              go_ret
                              exact ⟨by rw [HF.out]; rfl, HWB.out⟩
                            · by_cases u3 : tr = 0
                              · subst u3
                                have Hok : Hid (fldE rcx j = true) := hid (by rw [Hfl.out, q3]; simp [simB]; omega)
                                clear q3
                                go_wp2_with (go_at_call 76; refine c1.mono ?_; rintro e wr ⟨rfl, rfl⟩)
                                go_roundg g2'
                                case measure => omega
                                case rel => exact ⟨j + 1, by have := Hj.out; omega, by go_num, HBJ.out, fun y hy => by
                                  rcases Nat.lt_or_ge y j with h | h
                                  · exact HAj.out y h
                                  · obtain rfl : y = j := by omega
                                    exact Hok.out⟩
                              · have u3b : (tr == 0) = false := by simpa using u3
                                have u3c : (tr != 0) = true := by simp [bne, u3b]
                                have HF : Hid (res = false) := hid (HNj.out (by rw [Hfl.out]; simp [simB, u3]))
                                go_wp2_with (go_at_call 76; refine c1.mono ?_; rintro e wr ⟨rfl, rfl⟩)
                                go_ret
                                exact ⟨by rw [HF.out]; rfl, HWB.out⟩
                      | zero =>
                        have hjn : j = gn := by omega
                        subst hjn
                        have hrec : recE rcx = true := by rw [HRP2.out, List.all_eq_true]; exact fun y hy => hAj y (List.mem_range.1 hy)
                        have Hrec := hid hrec
                        have Hrow2 := hid (Hrow.out.below hwj)
                        have hwsz : w.heap.size + 1 ≤ wr.heap.size := by have := hwj.size; omega
                        have hal : Hid ((((p.recs.take i).map fun p => p.2.name)).length ≤ 1000) := hid (by rw [List.length_map, List.length_take]; omega)
                        clear hj' hbj hAj hwj hrec
                        go_wp2_with (at_builtin; refine wpList_appN1 _ rfl _ _ rfl _ nm (by rfl) (by rfl) (w.heap.size + 1) ((p.recs.take i).map fun p => p.2.name) Hrow2.out hwsz hal.out ?_; intro v4 w4 hr4 hg4)
                        go_roundg g
                        case measure => omega
                        case rel =>
                          have hown : ∀ k, (Value.slice na i ncap).ownBlock = some k → w.heap.size + 1 ≤ k := fun k e => (Hrow2.out.own k e).1
                          refine ⟨i + 1, by have := Hi.out; omega, by go_num, Grw.belowN HWB.out hg4 hown (by omega) HWB.out.size, ?_, ?_, take_acc Hx.out HAc.out Hrec.out⟩
                          · rw [hg4.1.block _ (by omega) (fun e => by have := hown _ e.symm; omega), HWJ.out.block _ hlx]
                            exact Hbx.out
                          · rw [take_map_snoc _ Hx.out, show rcx.name = nm from Hnm.out.symm]; exact hr4
                  · rw [q2] at cT2
                    have HF : Hid (res = false) := hid (HNo.out (by rw [HRP.out, q2]; simp))
                    go_wp2_with (first | (go_at_call 76; refine c1.mono ?_; rintro e wz ⟨rfl, rfl⟩) | (go_at_call 77; refine cT2.mono ?_; rintro e w2 ⟨rfl, hb2⟩))
                    go_ret
                    exact ⟨by rw [HF.out]; rfl, (Hbe.out.trans (HBA.out.mono Hbe.out.size)).trans (hb2.mono (Hbe.out.trans (HBA.out.mono Hbe.out.size)).size)⟩
                · have g3' : ¬ (tn : Int) = (gn : Int) := by omega
                  have g3b : ((tn : Int) == (gn : Int)) = false := by simpa using g3'
                  have HF : Hid (res = false) := hid (HNo.out (by rw [HRP.out]; rw [decide_eq_false g3]; simp))
                  go_wp2_with (go_at_call 76; refine c1.mono ?_; rintro e wz ⟨rfl, rfl⟩)
                  go_ret
                  exact ⟨by rw [HF.out]; rfl, Hbe.out.trans (HBA.out.mono Hbe.out.size)⟩
        | zero =>
          have hin : i = rn := by omega
          clear hi'
          subst hin
          have hall : p.recs.take i = p.recs := by rw [Hrl.out]; exact List.take_length
          have K26 := refTwice wo na i ncap (p.recs.map fun x => x.2.name) (by rw [List.length_map]; exact Hrl.out) (by omega) (by
            have h := Hrow.out; rw [hall] at h
            exact h.rd (fun s hs => by
              rw [List.mem_map] at hs
              obtain ⟨x, hx, rfl⟩ := hs
              have := (D.out.r.el x hx).ns; rw [(D.out.r.el x hx).nm] at this; exact this))
          have hres3 : res = (!dupB (p.recs.map fun x => x.2.name) && (p.maps.all (mapE i) && !dupB (p.maps.map Mp.name)) && sf && se) := by
            rw [Hres2.out]
            have e2 : (p.recs.map (·.2)).all recE = true := by
              rw [List.all_eq_true]; intro r hr
              rw [List.mem_map] at hr
              obtain ⟨x, hx, rfl⟩ := hr
              exact HAc.out x (by rw [hall]; exact hx)
            rw [e2, List.map_map]; rfl
          have Hres3 := hid hres3
          clear hres3 hall
          cases dd : dupB (p.recs.map fun x => x.2.name)
          · rw [dd] at K26
            have Hres4 : Hid (res = (p.maps.all (mapE i) && !dupB (p.maps.map Mp.name) && sf && se)) := hid (by rw [Hres3.out, dd]; simp)
            clear dd Hres3
            go_wp2_with (go_at_call 77; (refine K26.mono ?_; rintro e w2 ⟨rfl, hb2⟩))
            have hbw2 : Below w.heap.size w w2 := Hbe.out.trans (hb2.mono Hbe.out.size)
            have hbx2 := (hb2.block _ hlx).trans Hbx.out
            have HBW2 := hid hbw2
            have HBX2 := hid hbx2
            clear hbw2 hbx2 hb2 k0 k1 K26
            go_loopg [3, 7] mn (fun g nv ii wr => ∃ j : Nat, j + g = mn ∧ ii = .int .i64 (j : Int) ∧ Below w.heap.size w wr ∧ wr.heap[w.heap.size]? = some (.cells #[.slice ra i rc, .slice ma mn mc, .slice fa fn fc, .slice ea en ec] 50 (0, 0)) ∧ NRow wr (w.heap.size + 1) nv ((p.maps.take j).map Mp.name) ∧ ∀ m ∈ p.maps.take j, mapE i m = true)
            case atStart => exact ⟨0, by omega, rfl, HBW2.out, HBX2.out, NRow.nil _ _, fun x hx => by simp at hx⟩
            case round =>
              obtain ⟨j, hj', rfl, hbe3, hbx3, hrow3, hAc3⟩ := hrel
              obtain ⟨wv, hwv⟩ : ∃ wv, wv = wr := ⟨_, rfl⟩
              subst hwv
              have Hj := hid hj'
              have Hbe3 := hid hbe3
              have HAc3 := hid hAc3
              have Hrow3 := hid hrow3
              have Hbx3 := hid hbx3
              obtain ⟨na3, ncap3, rfl, hnc3⟩ := hrow3.form
              have hlx3 : w.heap.size < wv.heap.size := (Array.getElem?_eq_some_iff.1 hbx3).1
              have k0 := cellOf hbx3 0
              have k1' := cellOf hbx3 1
              have k2' := cellOf hbx3 2
              have k3' := cellOf hbx3 3
              simp only [List.getElem?_toArray, List.getElem?_cons_zero, List.getElem?_cons_succ] at k0 k1' k2' k3'
              clear hAc3 hbe3 hrow3 hbx3
              have hlen : ((p.maps.take j).map Mp.name).length = j := by rw [List.length_map, List.length_take, ← Hml.out]; omega
              rw [hlen] at Hrow3 hnc3 ⊢
              clear hlen
              cases gk with
              | succ g3 =>
                have hlt : j < mn := by omega
                have hlt' : (j : Int) < (mn : Int) := by omega
                clear hj'
                obtain ⟨m, hm⟩ : ∃ m, p.maps[j]? = some m := ⟨p.maps[j]'(by rw [← Hml.out]; exact hlt), by rw [List.getElem?_eq_getElem]⟩
                obtain ⟨b1, o1, ea', hb1, e1⟩ := (D.out.m.below (Nat.le_refl _) Hbe3.out).rd j m.cs (by simp [hm])
                simp only at ea'
                subst ea'
                have x0 := e1 0 (by omega)
                have x1 := e1 1 (by omega)
                have x2 := e1 2 (by omega)
                have x3 := e1 3 (by omega)
                have x4 := e1 4 (by omega)
                have Hm := hid hm
                have HNo : Hid (mapE i m = false → res = false) := hid (fun e => by rw [Hres4.out, all_no (List.mem_of_getElem? hm) e]; rfl)
                have HEq : Hid (mapE i m = (nmdB false m.name && (keyB m.key && typB i m.val))) := hid rfl
                clear e1 hm hb1
                obtain ⟨nm, ⟨k1, r1⟩, ⟨k2, r2⟩⟩ := m
                simp only [Mp.cs, List.getElem?_cons_zero, List.getElem?_cons_succ, Nat.add_zero] at x0 x1 x2 x3 x4
                simp only at HNo HEq
                have HBA : Hid (Below wv.heap.size wv (wv.alloc (.cells #[.string nm, .int .i64 k1, .int .i64 r1, .int .i64 k2, .int .i64 r2] 75))) := hid ((Below.refl _ _).alloc (Nat.le_refl _) _)
                have HBW := hid (Hbe3.out.trans (HBA.out.mono Hbe3.out.size))
                have A0 : (wv.alloc (.cells #[.string nm, .int .i64 k1, .int .i64 r1, .int .i64 k2, .int .i64 r2] 75)).cell? ⟨wv.heap.size, 0, none⟩ = some (.string nm) := cellOf (heap_alloc_new wv _) 0
                have A1 : (wv.alloc (.cells #[.string nm, .int .i64 k1, .int .i64 r1, .int .i64 k2, .int .i64 r2] 75)).cell? ⟨wv.heap.size, 1, none⟩ = some (.int .i64 k1) := cellOf (heap_alloc_new wv _) 1
                have A2 : (wv.alloc (.cells #[.string nm, .int .i64 k1, .int .i64 r1, .int .i64 k2, .int .i64 r2] 75)).cell? ⟨wv.heap.size, 2, none⟩ = some (.int .i64 r1) := cellOf (heap_alloc_new wv _) 2
                have A3 : (wv.alloc (.cells #[.string nm, .int .i64 k1, .int .i64 r1, .int .i64 k2, .int .i64 r2] 75)).cell? ⟨wv.heap.size, 3, none⟩ = some (.int .i64 k2) := cellOf (heap_alloc_new wv _) 3
                have A4 : (wv.alloc (.cells #[.string nm, .int .i64 k1, .int .i64 r1, .int .i64 k2, .int .i64 r2] 75)).cell? ⟨wv.heap.size, 4, none⟩ = some (.int .i64 r2) := cellOf (heap_alloc_new wv _) 4
                have hbx4 := (HBA.out.block _ hlx3).trans Hbx3.out
                have B0 := cellOf hbx4 0
                have B1 := cellOf hbx4 1
                have B2 := cellOf hbx4 2
                have B3 := cellOf hbx4 3
                simp only [List.getElem?_toArray, List.getElem?_cons_zero, List.getElem?_cons_succ] at B0 B1 B2 B3
                have c1 := KN.out nm false (wv.alloc (.cells #[.string nm, .int .i64 k1, .int .i64 r1, .int .i64 k2, .int .i64 r2] 75))
                have cT := KT.out (wv.alloc (.cells #[.string nm, .int .i64 k1, .int .i64 r1, .int .i64 k2, .int .i64 r2] 75)) k2 r2
                clear hbx4
                cases q1 : nmdB false nm
                · rw [q1] at c1
                  have HF : Hid (res = false) := hid (HNo.out (by rw [HEq.out]; rw [q1]; rfl))
                  go_wp2_with (go_at_call 76; refine c1.mono ?_; rintro e wz ⟨rfl, rfl⟩)
                  go_ret
                  exact ⟨by rw [HF.out]; rfl, HBW.out⟩
                · rw [q1] at c1
                  by_cases u1 : r1 = 0
                  · subst u1
                    by_cases u2 : k1 = 1 ∨ k1 = 2
                    · cases q2 : typB i (k2, r2)
                      · simp only [q2] at cT
                        have HF : Hid (res = false) := hid (HNo.out (by rw [HEq.out, q2]; simp))
                        clear q1 q2
                        rcases u2 with rfl | rfl <;>
                          (go_wp2_with (first | (go_at_call 76; refine c1.mono ?_; rintro e wz ⟨rfl, rfl⟩) | (go_at_call 78; refine cT.mono ?_; rintro e w9 ⟨rfl, hb9⟩))
                           go_ret
                           exact ⟨by rw [HF.out]; rfl, HBW.out.trans (hb9.mono HBW.out.size)⟩)
                      · simp only [q2] at cT
                        have HOk : Hid (mapE i ⟨nm, (k1, 0), (k2, r2)⟩ = true) := hid (by rw [HEq.out, q1, q2]; unfold keyB; rcases u2 with rfl | rfl <;> rfl)
                        have hal : Hid ((((p.maps.take j).map Mp.name)).length ≤ 1000) := hid (by rw [List.length_map, List.length_take]; omega)
                        clear q1 q2
                        rcases u2 with rfl | rfl <;>
                          (go_wp2_with (first
                             | (go_at_call 76; refine c1.mono ?_; rintro e wz ⟨rfl, rfl⟩)
                             | (go_at_call 78; refine cT.mono ?_; rintro e w9 ⟨rfl, hb9⟩; have y0 := cellOf (box_alloc hb9) 0; simp only [List.getElem?_toArray, List.getElem?_cons_zero] at y0)
                             | (at_builtin; refine wpList_appN1 _ rfl _ _ rfl _ nm (by rfl) (by rfl) (w.heap.size + 1) ((p.maps.take j).map Mp.name) (Hrow3.out.below (HBA.out.trans (hb9.mono HBA.out.size))) (Nat.le_trans hlx3 (Nat.le_trans HBA.out.size hb9.size)) hal.out ?_; intro v4 w4 hr4 hg4))
                           go_roundg g3
                           case measure => omega
                           case rel =>
                             have hwq : Below wv.heap.size wv w9 := HBA.out.trans (hb9.mono HBA.out.size)
                             have hown : ∀ k, (Value.slice na3 j ncap3).ownBlock = some k → w.heap.size + 1 ≤ k := fun k e => (Hrow3.out.own k e).1
                             have hbq : Below w.heap.size w w9 := Hbe3.out.trans (hwq.mono Hbe3.out.size)
                             refine ⟨j + 1, by have := Hj.out; omega, by go_num, Grw.belowN hbq hg4 hown (by omega) hbq.size, ?_, ?_, take_acc Hm.out HAc3.out HOk.out⟩
                             · rw [hg4.1.block _ (by have := hwq.size; omega) (fun e => by have := hown _ e.symm; omega), hwq.block _ hlx3]
                               exact Hbx3.out
                             · rw [take_map_snoc _ Hm.out]; exact hr4)
                    · have v1 : ¬ k1 = 1 := fun e => u2 (.inl e)
                      have v2 : ¬ k1 = 2 := fun e => u2 (.inr e)
                      have v1b : (k1 == 1) = false := by simpa using v1
                      have v2b : (k1 == 2) = false := by simpa using v2
                      have v1c : (k1 != 1) = true := by simp [bne, v1b]
                      have v2c : (k1 != 2) = true := by simp [bne, v2b]
                      have HF : Hid (res = false) := hid (HNo.out (by rw [HEq.out]; unfold keyB; simp [v1, v2]))
                      go_wp2_with (go_at_call 76; refine c1.mono ?_; rintro e wz ⟨rfl, rfl⟩)
                      go_ret
                      exact ⟨by rw [HF.out]; rfl, HBW.out⟩
                  · have u1b : (r1 == 0) = false := by simpa using u1
                    have u1c : (r1 != 0) = true := by simp [bne, u1b]
                    have HF : Hid (res = false) := hid (HNo.out (by rw [HEq.out]; unfold keyB; simp [u1]))
                    go_wp2_with (go_at_call 76; refine c1.mono ?_; rintro e wz ⟨rfl, rfl⟩)
                    go_ret
                    exact ⟨by rw [HF.out]; rfl, HBW.out⟩
              | zero =>
                have hjn : j = mn := by omega
                clear hj'
                subst hjn
                have hall : p.maps.take j = p.maps := by rw [Hml.out]; exact List.take_length
                have K26 := refTwice wv na3 j ncap3 (p.maps.map Mp.name) (by rw [List.length_map]; exact Hml.out) (by omega) (by
                  have h := Hrow3.out; rw [hall] at h
                  exact h.rd (fun s hs => by
                    rw [List.mem_map] at hs
                    obtain ⟨x, hx, rfl⟩ := hs
                    exact D.out.m.ns x hx))
                have Hres5 : Hid (res = (!dupB (p.maps.map Mp.name) && sf && se)) := hid (by
                  rw [Hres4.out]
                  have e2 : p.maps.all (mapE i) = true := by
                    rw [List.all_eq_true]; intro r hr
                    exact HAc3.out r (by rw [hall]; exact hr)
                  rw [e2]; rfl)
                clear hall
                have HX : Hid (∀ wz : World, Below wv.heap.size wv wz → wz.cell? ⟨w.heap.size, 0, none⟩ = some (.slice ra i rc) ∧ wz.cell? ⟨w.heap.size, 1, none⟩ = some (.slice ma j mc) ∧ wz.cell? ⟨w.heap.size, 2, none⟩ = some (.slice fa fn fc) ∧ wz.cell? ⟨w.heap.size, 3, none⟩ = some (.slice ea en ec) ∧ Below w.heap.size w wz) := hid (fun wz hb => by
                  have q := (hb.block _ hlx3).trans Hbx3.out
                  exact ⟨cellOf q 0, cellOf q 1, cellOf q 2, cellOf q 3, Hbe3.out.trans (hb.mono Hbe3.out.size)⟩)
                generalize dupB (p.maps.map Mp.name) = dm at *
                cases dm <;> cases sf <;> cases se <;>
                  (go_wp2_with (first
                     | (go_at_call 77; (refine K26.mono ?_; rintro e w5 ⟨rfl, hb5⟩; obtain ⟨z0, z1, z2, z3, zb⟩ := HX.out w5 hb5))
                     | (go_at_call 79; have hno := zb6; clear hno; (refine (KE.out _ zb6).mono ?_; rintro e w7 ⟨rfl, hb7⟩))
                     | (go_at_call 79; (refine (KF.out _ zb).mono ?_; rintro e w6 ⟨rfl, hb6⟩; obtain ⟨t0, t1, t2, t3, zb6⟩ := HX.out w6 (hb5.trans (hb6.mono hb5.size)))))
                   go_ret
                   first
                     | exact ⟨by rw [Hres5.out]; rfl, zb6.trans (hb7.mono zb6.size)⟩
                     | exact ⟨by rw [Hres5.out]; rfl, zb6⟩
                     | exact ⟨by rw [Hres5.out]; rfl, zb⟩)
          · rw [dd] at K26
            have HF : Hid (res = false) := hid (by rw [Hres3.out, dd]; rfl)
            go_wp2_with (go_at_call 77; (refine K26.mono ?_; rintro e w2 ⟨rfl, hb2⟩))
            go_ret
            exact ⟨by rw [HF.out]; rfl, Hbe.out.trans (hb2.mono Hbe.out.size)⟩
end Go.Proofs.Ytenfgahedbeekaa

namespace Go.Proofs.Ytenfgahedbeekaa
open Go.RowKit Go.Deep Go.Shelf
set_option linter.unusedVariables false
set_option linter.unusedSimpArgs false

set_option maxRecDepth 100000 in
set_option maxHeartbeats 1000000 in
theorem refNew_any (k : Nat) (w : World) (h : PH) (p : Pg) (d : PRd w h p) : Calls Try.prog 28 #[h.v] w (NwP k w p) := by
  have hmn := d.m.n1
  have K51 := hid (fun (w1 : World) (hb : Below w.heap.size w w1) => refRight w1 h p (d.below (Nat.le_refl _) hb))
  have H16 : Hid (rightB p = true → p.maps.length ≤ 16) := hid right_maps
  obtain ⟨n, hn⟩ : ∃ n, n = p.maps.length := ⟨_, rfl⟩
  unfold NwP
  rw [← hn] at hmn H16 ⊢
  clear hn d
  obtain ⟨ra, rn, rc, ma, mn, mc, fa, fn, fc, ea, en, ec⟩ := h
  simp only [PH.v] at K51 hmn ⊢
  subst hmn
  obtain ⟨W0, hW0⟩ : ∃ W0, W0 = (w.alloc (.cells #[.slice ra rn rc, .slice ma mn mc, .slice fa fn fc, .slice ea en ec] 50)).alloc (.cells #[.slice none 0 0] 27) := ⟨_, rfl⟩
  have q1 : W0.heap[w.heap.size]? = some (.cells #[.slice ra rn rc, .slice ma mn mc, .slice fa fn fc, .slice ea en ec] 50 (0, 0)) := by rw [hW0]; exact (Below.heap_alloc _ _ _ (by simp)).trans (heap_alloc_new w _)
  have q2 : W0.heap[w.heap.size + 1]? = some (.cells #[.slice none 0 0] 27 (0, 0)) := by
    have := heap_alloc_new (w.alloc (.cells #[.slice ra rn rc, .slice ma mn mc, .slice fa fn fc, .slice ea en ec] 50)) (.cells #[.slice none 0 0] 27)
    rw [World.size_alloc] at this
    rw [hW0]; exact this
  have hb0 : Below w.heap.size w W0 := by rw [hW0]; exact boxes2 _ _ _ _ _
  have FX : Hid (∀ w2 : World, Below W0.heap.size W0 w2 → w2.cell? ⟨w.heap.size, 1, none⟩ = some (.slice ma mn mc) ∧ w2.heap[w.heap.size + 1]? = some (.cells #[.slice none 0 0] 27 (0, 0)) ∧ Below w.heap.size w w2) := hid (fun w2 hb => ⟨cellOf ((hb.block _ (Array.getElem?_eq_some_iff.1 q1).1).trans q1) 1, (hb.block _ (Array.getElem?_eq_some_iff.1 q2).1).trans q2, hb0.trans (hb.mono hb0.size)⟩)
  have HB0 := hid hb0
  have HZ := hid (Array.getElem?_eq_some_iff.1 q2).1
  clear q1 q2 hb0
  cases hr : rightB p with
  | false =>
    rw [hr] at K51
    go_enter Try.func28, Try.ntmps28
    go_wp2_with (go_at_call 52; (rw [← hW0]; refine (K51.out _ HB0.out).mono ?_; rintro e w1 ⟨rfl, hb1⟩; obtain ⟨_, g2, bb⟩ := FX.out w1 hb1; have e0 := cellOf g2 0; have f0 := freeOf g2 0; simp only [List.getElem?_toArray, List.getElem?_cons_zero] at e0; have G2 := hid g2; have BB := hid bb; clear g2 hb1 bb))
    have h5 := set_cells G2.out (.slice none 0 0)
    have r0 := cellOf h5 0
    simp only [List.getElem?_toArray, List.getElem?_cons_zero] at r0
    have hb5 := BB.out.setCell (p := ⟨w.heap.size + 1, 0, none⟩) (by show w.heap.size ≤ w.heap.size + 1; omega) (.slice none 0 0)
    generalize w1.setCell ⟨w.heap.size + 1, 0, none⟩ (.slice none 0 0) = W5 at *
    exact bodyPost_ret (v := .tuple #[.agg #[.slice none 0 0], .int .i64 40]) (by simp [results, Try.results28, go_sem, r0]) rfl ⟨hb5, .inl ⟨trivial, rfl⟩⟩
  | true =>
    have h16 := H16.out hr
    rw [hr] at K51
    have hI : (mn : Int) ≤ 16 := by omega
    have hI0 : (0 : Int) ≤ (mn : Int) := by omega
    have MK := hid (fun W : World => run_mk W mn (by omega))
    go_enter Try.func28, Try.ntmps28
    go_wp2_with (go_at_call 52; (rw [← hW0]; refine (K51.out _ HB0.out).mono ?_; rintro e w1 ⟨rfl, hb1⟩; obtain ⟨c1, g2, bb⟩ := FX.out w1 hb1; have mk := MK.out w1; have e0 := fun o => cellOf (al1N g2 o) 0; have f0 := fun o => freeOf (al1N g2 o) 0; simp only [List.getElem?_toArray, List.getElem?_cons_zero] at e0; have G2 := hid g2; have BB := hid bb; have B1 := hid hb1; clear g2 hb1 bb))
    have al := heap_alloc_new w1 (.cells (List.replicate mn (.slice none 0 0)).toArray 70)
    rw [List.toArray_replicate] at al
    have h5 := set_cells (al1N G2.out (.cells (Array.replicate mn (.slice none 0 0)) 70)) (.slice (some ⟨w1.heap.size, 0, none⟩) mn mn)
    have r0 := cellOf h5 0
    simp only [List.getElem?_toArray, List.getElem?_cons_zero] at r0
    have hlt : w.heap.size + 1 < w1.heap.size := (Array.getElem?_eq_some_iff.1 G2.out).1
    have hb5 := (BB.out.alloc BB.out.size (.cells (Array.replicate mn (.slice none 0 0)) 70)).setCell (p := ⟨w.heap.size + 1, 0, none⟩) (by show w.heap.size ≤ w.heap.size + 1; omega) (.slice (some ⟨w1.heap.size, 0, none⟩) mn mn)
    have hg5 : ((w1.alloc (.cells (Array.replicate mn (.slice none 0 0)) 70)).setCell ⟨w.heap.size + 1, 0, none⟩ (.slice (some ⟨w1.heap.size, 0, none⟩) mn mn)).heap[w1.heap.size]? = some (.cells (Array.replicate mn (.slice none 0 0)) 70 (0, 0)) := (Below.heap_setCell _ _ _ _ (by show w1.heap.size ≠ w.heap.size + 1; omega)).trans al
    generalize (w1.alloc (.cells (Array.replicate mn (.slice none 0 0)) 70)).setCell ⟨w.heap.size + 1, 0, none⟩ (.slice (some ⟨w1.heap.size, 0, none⟩) mn mn) = W5 at *
    have hs5 := (Array.getElem?_eq_some_iff.1 hg5).1
    exact bodyPost_ret (v := .tuple #[.agg #[.slice (some ⟨w1.heap.size, 0, none⟩) mn mn], .int .i64 0]) (by simp [results, Try.results28, go_sem, r0]) rfl ⟨hb5, .inr ⟨trivial, w1.heap.size, rfl, st_make (by rw [List.toArray_replicate]; exact hg5) ⟨by omega, hs5⟩ (by omega)⟩⟩
end Go.Proofs.Ytenfgahedbeekaa

namespace Go.Proofs.Ytenfgahedbeekaa
open Go.RowKit Go.Deep Go.Shelf
set_option linter.unusedVariables false
set_option linter.unusedSimpArgs false

theorem ret_boolG {a b : Bool} (h : a = true ↔ b = true) : Ending.returned (.bool a) = .returned (.bool b) := congrArg _ (congrArg _ (Bool.eq_iff_iff.2 h))
def ordI (a b : Bool) : Int := if a then -1 else if b then 1 else 0
theorem refOrder (a b : Bool) (w : World) : Calls Try.prog 69 #[.bool a, .bool b] w fun e w' => e = .returned (.int .i64 (ordI a b)) ∧ w' = w := by
  cases a <;> cases b <;>
    (go_enter Try.func69, Try.ntmps69
     go_wp2
     go_ret
     exact ⟨rfl, rfl⟩)
theorem ci_ord (a b : Int) : ordI (decide (a < b)) (decide (b < a)) = ci a b := by
  unfold ordI ci
  by_cases h1 : a < b <;> by_cases h2 : b < a <;> simp [h1, h2]
theorem cS_less {s t : ByteArray} : Op.bytesLess s.toList t.toList = decide (cS s t = -1) := by
  unfold cS cB
  cases Op.bytesLess s.toList t.toList
  · cases s.toList == t.toList <;> rfl
  · rfl
theorem cS_ord (s t : ByteArray) : ordI (Op.bytesLess s.toList t.toList) (Op.bytesLess t.toList s.toList) = cS s t := by
  have h1 := ord_cS.anti s t
  rw [cS_less, cS_less]
  have h2 : cS s t = -1 ∨ cS s t = 0 ∨ cS s t = 1 := by
    unfold cS cB
    split
    · exact .inl rfl
    · split
      · exact .inr (.inl rfl)
      · exact .inr (.inr rfl)
  unfold ordI
  rcases h2 with h | h | h
  · simp [h]
  · have : cS t s = 0 := by omega
    simp [h, this]
  · have : cS t s = -1 := by omega
    simp [h, this]
theorem cS_ord2 (s t : ByteArray) : ordI (Op.bytesLess s.toList t.toList) (!Op.bytesLess s.toList t.toList && !(s.toList == t.toList)) = cS s t := by
  unfold cS cB ordI
  cases Op.bytesLess s.toList t.toList <;> cases s.toList == t.toList <;> rfl
theorem cmpL_drop {α : Type} {f : α → α → Int} {l m : List α} {i : Nat} {x y : α} (hx : l[i]? = some x) (hy : m[i]? = some y) : cmpL f (l.drop i) (m.drop i) = if f x y = 0 then cmpL f (l.drop (i + 1)) (m.drop (i + 1)) else f x y := by
  obtain ⟨h1, e1⟩ := List.getElem?_eq_some_iff.1 hx
  obtain ⟨h2, e2⟩ := List.getElem?_eq_some_iff.1 hy
  rw [List.drop_eq_getElem_cons h1, List.drop_eq_getElem_cons h2, e1, e2, cmpL]
theorem cmpL_end {α : Type} {f : α → α → Int} {l m : List α} {i : Nat} (h1 : i ≤ l.length) (h2 : i ≤ m.length) (h : i = l.length ∨ i = m.length) : cmpL f (l.drop i) (m.drop i) = ci l.length m.length := by
  have d1 : (l.drop i).length = l.length - i := List.length_drop
  have d2 : (m.drop i).length = m.length - i := List.length_drop
  unfold ci
  cases hl : l.drop i with
  | nil =>
    rw [hl] at d1
    simp at d1
    cases hm : m.drop i with
    | nil => rw [hm] at d2; simp at d2; rw [cmpL, if_neg (by omega), if_neg (by omega)]
    | cons b t => rw [hm] at d2; simp at d2; rw [cmpL, if_pos (by omega)]
  | cons a t =>
    rw [hl] at d1
    simp at d1
    cases hm : m.drop i with
    | nil => rw [hm] at d2; simp at d2; rw [cmpL, if_neg (by omega), if_pos (by omega)]
    | cons b u => rw [hm] at d2; simp at d2; omega
theorem two_cells (w : World) (c1 c2 : Array Value) (t : TypeId) {wr : World} (h : Below (w.heap.size + 2) ((w.alloc (.cells c1 t)).alloc (.cells c2 t)) wr) : wr.heap[w.heap.size]? = some (.cells c1 t (0, 0)) ∧ wr.heap[w.heap.size + 1]? = some (.cells c2 t (0, 0)) := by
  constructor
  · rw [h.block _ (by omega), Below.heap_alloc _ _ _ (by simp)]; exact heap_alloc_new w _
  · rw [h.block _ (by omega)]
    have := heap_alloc_new (w.alloc (.cells c1 t)) (.cells c2 t)
    rw [World.size_alloc] at this
    exact this
def CmR (R : Int) {α : Type} (f : α → α → Int) (l m : List α) (i : Nat) (c : Int) : Prop := (c = 0 ∧ i ≤ l.length ∧ i ≤ m.length ∧ cmpL f (l.drop i) (m.drop i) = R) ∨ (¬ c = 0 ∧ c = R)
set_option maxRecDepth 100000 in
set_option maxHeartbeats 4000000 in
theorem refCmp_step (k : Nat) (ih : ∀ (w : World) (s t : VT k), Rds k w s → Rds k w t → Calls Try.prog 48 #[(hdT k s).v, (hdT k t).v] w fun e w' => e = .returned (.int .i64 (cmpT k s t)) ∧ Below w.heap.size w w') (w : World) (s t : VT (k + 1)) (hs : Rds (k + 1) w s) (ht : Rds (k + 1) w t) :
    Calls Try.prog 48 #[(hdT (k + 1) s).v, (hdT (k + 1) t).v] w fun e w' => e = .returned (.int .i64 (cmpT (k + 1) s t)) ∧ Below w.heap.size w w' := by
  obtain ⟨⟨k1, i1, t1, r1, a1, m1, c1⟩, l⟩ := s
  obtain ⟨⟨k2, i2, t2, r2, a2, m2, c2⟩, m⟩ := t
  obtain ⟨hin1, hn1, hb1, hv1, hr1⟩ := hs
  obtain ⟨hin2, hn2, hb2, hv2, hr2⟩ := ht
  simp only at hn1 hn2 hb1 hb2 hv1 hv2
  obtain ⟨R, hR⟩ : ∃ R, R = cmpT (k + 1) (⟨k1, i1, t1, r1, a1, m1, c1⟩, l) (⟨k2, i2, t2, r2, a2, m2, c2⟩, m) := ⟨_, rfl⟩
  have hR2 : R = if cH ⟨k1, i1, t1, r1, a1, m1, c1⟩ ⟨k2, i2, t2, r2, a2, m2, c2⟩ = 0 then cmpL (cmpT k) l m else cH ⟨k1, i1, t1, r1, a1, m1, c1⟩ ⟨k2, i2, t2, r2, a2, m2, c2⟩ := by rw [hR]; rfl
  have hcH : cH ⟨k1, i1, t1, r1, a1, m1, c1⟩ ⟨k2, i2, t2, r2, a2, m2, c2⟩ = orL [ci k1 k2, ci i1 i2, cS t1 t2, ci r1 r2] := rfl
  rw [← hR]
  simp only [hdT, Hd.v]
  have ho := hid (fun a b w => refOrder a b w)
  have hff : ordI false false = 0 := rfl
  have hB0 : Below w.heap.size w ((w.alloc (.cells #[.int .i64 k1, .int .i64 i1, .string t1, .int .i64 r1, .slice a1 m1 c1] 31)).alloc (.cells #[.int .i64 k2, .int .i64 i2, .string t2, .int .i64 r2, .slice a2 m2 c2] 31)) := ((Below.refl _ _).alloc (Nat.le_refl _) _).alloc (by simp) _
  have l1 : (m1 : Int) ≤ 1000 := by omega
  have l2 : (m2 : Int) ≤ 1000 := by omega
  rw [hcH] at hR2
  clear hR hcH hin1 hin2
  by_cases e1 : ci k1 k2 = 0
  · obtain rfl := ci_zero e1
    by_cases e2 : ci i1 i2 = 0
    · obtain rfl := ci_zero e2
      by_cases e3 : cS t1 t2 = 0
      · obtain rfl := cS_zero e3
        have hbl : Op.bytesLess t1.toList t1.toList = false := by rw [cS_less, e3]; rfl
        by_cases e4 : ci r1 r2 = 0
        · obtain rfl := ci_zero e4
          simp only [orL, e1, e2, e3, e4, if_true] at hR2
          have HB0 := hid hB0
          have HR2 := hid hR2
          have HV1 := hid hv1
          have HV2 := hid hv2
          have HR1' := hid hr1
          have HR2' := hid hr2
          have Hn1 := hid hn1
          have Hn2 := hid hn2
          clear hB0 hR2 hv1 hv2 hr1 hr2 hn1 hn2 e1 e2 e3 e4
          go_enter Try.func48, Try.ntmps48
          go_wp2_with (go_at_call 69; (refine (Hid.out ho _ _ _).mono ?_; rintro e w2 ⟨rfl, rfl⟩))
          go_loopg [5, 6] (min m1 m2 + 1) (fun g cc ii wr => ∃ (i : Nat) (c : Int), cc = .int .i64 c ∧ ii = .int .i64 (i : Int) ∧ min m1 m2 + 1 ≤ i + g ∧ i ≤ 1000 ∧ CmR R (cmpT k) l m i c ∧ Below (w.heap.size + 2) ((w.alloc (.cells #[.int .i64 k1, .int .i64 i1, .string t1, .int .i64 r1, .slice a1 m1 c1] 31)).alloc (.cells #[.int .i64 k1, .int .i64 i1, .string t1, .int .i64 r1, .slice a2 m2 c2] 31)) wr)
          case atStart => exact ⟨0, 0, rfl, rfl, by omega, by omega, .inl ⟨rfl, by omega, by omega, HR2.out.symm⟩, Below.refl _ _⟩
          case round =>
            obtain ⟨i, c, rfl, rfl, hg, hi1000, hcm, hbel⟩ := hrel
            have Hbel := hid hbel
            obtain ⟨p1, p2⟩ := two_cells w _ _ 31 hbel
            have s14 := cellOf p1 4
            have s24 := cellOf p2 4
            simp only [List.getElem?_toArray, List.getElem?_cons_zero, List.getElem?_cons_succ] at s14 s24
            have hbw : Below w.heap.size w wr := HB0.out.trans (hbel.mono (by omega))
            have Hbw := hid hbw
            have q1 := hid (HV1.out.below (Nat.le_refl _) hbw)
            have q2 := hid (HV2.out.below (Nat.le_refl _) hbw)
            clear p1 p2 hbel hbw
            have hi1000' : (i : Int) ≤ 1000 := by omega
            have Hg := hid hg
            clear hg
            rcases hcm with ⟨rfl, hil, him, hcm⟩ | ⟨hc0, hcR⟩
            · by_cases hlt : i < m1 ∧ i < m2
              · have hx1 : (i : Int) < (m1 : Int) := by omega
                have hx2 : (i : Int) < (m2 : Int) := by omega
                obtain ⟨g', rfl⟩ : ∃ g', gk = g' + 1 := ⟨gk - 1, by have := Hg.out; omega⟩
                obtain ⟨x, hx⟩ : ∃ x, l[i]? = some x := ⟨l[i]'(by rw [← Hn1.out]; exact hlt.1), List.getElem?_eq_getElem _⟩
                obtain ⟨y, hy⟩ : ∃ y, m[i]? = some y := ⟨m[i]'(by rw [← Hn2.out]; exact hlt.2), List.getElem?_eq_getElem _⟩
                have hcd := cmpL_drop (f := cmpT k) hx hy
                rw [hcm] at hcd
                have hxr := HR1'.out x (List.mem_of_getElem? hx)
                have hyr := HR2'.out y (List.mem_of_getElem? hy)
                obtain ⟨b1, o1, ea, d1⟩ := q1.out i (hdT k x) (by rw [List.getElem?_map, hx]; rfl)
                subst ea
                obtain ⟨b2, o2, ea, d2⟩ := q2.out i (hdT k y) (by rw [List.getElem?_map, hy]; rfl)
                subst ea
                have K := hid (fun (w1 : World) (hb : Below w.heap.size w w1) => ih w1 x y (Rds.below k hxr (Nat.le_refl _) hb) (Rds.below k hyr (Nat.le_refl _) hb))
                obtain ⟨C, hC⟩ : ∃ C, C = cmpT k x y := ⟨_, rfl⟩
                rw [← hC] at K hcd
                generalize hdT k x = f at *
                generalize hdT k y = h at *
                obtain ⟨fk, fi, ft, fr, fa, fn, fc⟩ := f
                obtain ⟨gk2, gi, gt, gr, ga, gn, gc⟩ := h
                have x0 := d1 0 (by omega)
                have x1 := d1 1 (by omega)
                have x2 := d1 2 (by omega)
                have x3 := d1 3 (by omega)
                have x4 := d1 4 (by omega)
                have y0 := d2 0 (by omega)
                have y1 := d2 1 (by omega)
                have y2 := d2 2 (by omega)
                have y3 := d2 3 (by omega)
                have y4 := d2 4 (by omega)
                simp only [Hd.cs, List.getElem?_cons_zero, List.getElem?_cons_succ, Nat.add_zero] at x0 x1 x2 x3 x4 y0 y1 y2 y3 y4
                simp only [Hd.v] at K
                have Hcd := hid hcd
                have Hlt := hid hlt
                clear d1 d2 hx hy hxr hyr hcd hC hcm hlt q1 q2 hil him ih
                go_wp2_with fail
                go_region_held3 (fun w2 => w2.cell? ⟨w.heap.size, 4, none⟩ = some (.slice (some ⟨b1, o1, none⟩) m1 c1) ∧ w2.cell? ⟨w.heap.size + 1, 4, none⟩ = some (.slice (some ⟨b2, o2, none⟩) m2 c2) ∧ w2.cell? ⟨b1, o1 + i * 5, none⟩ = some (.int .i64 fk) ∧ w2.cell? ⟨b1, o1 + i * 5 + 1, none⟩ = some (.int .i64 fi) ∧ w2.cell? ⟨b1, o1 + i * 5 + 2, none⟩ = some (.string ft) ∧ w2.cell? ⟨b1, o1 + i * 5 + 3, none⟩ = some (.int .i64 fr) ∧ w2.cell? ⟨b1, o1 + i * 5 + 4, none⟩ = some (.slice fa fn fc) ∧ w2.cell? ⟨b2, o2 + i * 5, none⟩ = some (.int .i64 gk2) ∧ w2.cell? ⟨b2, o2 + i * 5 + 1, none⟩ = some (.int .i64 gi) ∧ w2.cell? ⟨b2, o2 + i * 5 + 2, none⟩ = some (.string gt) ∧ w2.cell? ⟨b2, o2 + i * 5 + 3, none⟩ = some (.int .i64 gr) ∧ w2.cell? ⟨b2, o2 + i * 5 + 4, none⟩ = some (.slice ga gn gc)) (first | exact ⟨tt _ _ s14, tt _ _ s24, tt _ _ x0, tt _ _ x1, tt _ _ x2, tt _ _ x3, tt _ _ x4, tt _ _ y0, tt _ _ y1, tt _ _ y2, tt _ _ y3, tt _ _ y4⟩ | go_keep) ((go_at_call 48; (refine (K.out _ (Hbw.out.drew)).mono ?_; rintro e w9 ⟨rfl, hB9⟩; have tt : ∀ (p : Addr) (v : Value), wr.cell? p = some v → w9.cell? p = some v := fun p v h => (hB9.cell (p := p) (World.block_lt_of_cell? wr p h)).trans h)))
                have Htt := hid tt
                clear tt
                go_wp2
                go_roundg g'
                case measure => omega
                case rel =>
                  refine ⟨i + 1, C, rfl, by go_num, by have := Hg.out; omega, by have := Hlt.out; omega, ?_, (Hbel.out.drew).trans (hB9.mono (by have := Hbel.out.size; simp at this; exact this))⟩
                  have := Hcd.out
                  have := Hlt.out
                  have := Hn1.out
                  have := Hn2.out
                  by_cases hC0 : C = 0
                  · refine .inl ⟨hC0, by omega, by omega, ?_⟩
                    have h5 := Hcd.out
                    rw [if_pos hC0] at h5
                    exact h5.symm
                  · refine .inr ⟨hC0, ?_⟩
                    have h5 := Hcd.out
                    rw [if_neg hC0] at h5
                    exact h5.symm
              · have hend := cmpL_end (f := cmpT k) hil him (by have := Hn1.out; have := Hn2.out; omega)
                rw [hcm] at hend
                rw [← Hn1.out, ← Hn2.out] at hend
                have ho2 := ci_ord (m1 : Int) (m2 : Int)
                rw [← hend] at ho2
                have ho3 : ordI (decide (m1 < m2)) (decide (m2 < m1)) = R := by simpa using ho2
                have Hlt : ¬ ((i : Int) < (m1 : Int) ∧ (i : Int) < (m2 : Int)) := by omega
                have hHlt := hid Hlt
                clear hcm hil him hend
                by_cases hx1 : (i : Int) < (m1 : Int)
                · have hx2 : ¬ (i : Int) < (m2 : Int) := fun h => Hlt ⟨hx1, h⟩
                  clear Hlt hlt
                  go_wp2_with (go_at_call 69; (refine (Hid.out ho _ _ _).mono ?_; rintro e w2 ⟨rfl, rfl⟩))
                  go_ret
                  exact ⟨by first | rfl | (rw [ho2]; rfl) | (simp; exact ho2) | (simp; exact ho3), Hbw.out⟩
                · clear Hlt hlt
                  go_wp2_with (go_at_call 69; (refine (Hid.out ho _ _ _).mono ?_; rintro e w2 ⟨rfl, rfl⟩))
                  go_ret
                  exact ⟨by first | rfl | (rw [ho2]; rfl) | (simp; exact ho2) | (simp; exact ho3), Hbw.out⟩
            · have hc1 : (c == 0) = false := by simpa using hc0
              have HcR := hid hcR
              clear hcR
              go_wp2
              all_goals (go_ret; exact ⟨by rw [← HcR.out]; rfl, Hbw.out⟩)
        · simp only [orL, e1, e2, e3, e4, if_true, if_false] at hR2
          have ho1 := ci_ord r1 r2
          rw [← hR2] at ho1
          have hRn : ¬ R = 0 := by rw [hR2]; exact e4
          have hRb : (R == 0) = false := by simpa using hRn
          have HB0 := hid hB0
          clear hB0 hR2 hv1 hv2 hr1 hr2 hn1 hn2 e1 e2 e3 e4 ih
          go_enter Try.func48, Try.ntmps48
          go_wp2_with (go_at_call 69; (refine (Hid.out ho _ _ _).mono ?_; rintro e w2 ⟨rfl, rfl⟩))
          refine wp_loop_rounds 1 ?_
          rw [rounds_succ]
          go_wp2
          all_goals (go_ret; exact ⟨rfl, HB0.out⟩)
      · simp only [orL, e1, e2, e3, if_true, if_false] at hR2
        have ho1 := cS_ord2 t1 t2
        rw [← hR2] at ho1
        have hRn : ¬ R = 0 := by rw [hR2]; exact e3
        have hRb : (R == 0) = false := by simpa using hRn
        have HB0 := hid hB0
        clear hB0 hR2 hv1 hv2 hr1 hr2 hn1 hn2 e1 e2 e3 ih
        go_enter Try.func48, Try.ntmps48
        go_wp2_with (go_at_call 69; (refine (Hid.out ho _ _ _).mono ?_; rintro e w2 ⟨rfl, rfl⟩))
        refine wp_loop_rounds 1 ?_
        rw [rounds_succ]
        go_wp2
        all_goals (go_ret; exact ⟨rfl, HB0.out⟩)
    · simp only [orL, e1, e2, if_true, if_false] at hR2
      have ho1 := ci_ord i1 i2
      rw [← hR2] at ho1
      have hRn : ¬ R = 0 := by rw [hR2]; exact e2
      have hRb : (R == 0) = false := by simpa using hRn
      have HB0 := hid hB0
      clear hB0 hR2 hv1 hv2 hr1 hr2 hn1 hn2 e1 e2 ih
      go_enter Try.func48, Try.ntmps48
      go_wp2_with (go_at_call 69; (refine (Hid.out ho _ _ _).mono ?_; rintro e w2 ⟨rfl, rfl⟩))
      refine wp_loop_rounds 1 ?_
      rw [rounds_succ]
      go_wp2
      all_goals (go_ret; exact ⟨rfl, HB0.out⟩)
  · simp only [orL, e1, if_true, if_false] at hR2
    have ho1 := ci_ord k1 k2
    rw [← hR2] at ho1
    have hRn : ¬ R = 0 := by rw [hR2]; exact e1
    have hRb : (R == 0) = false := by simpa using hRn
    have HB0 := hid hB0
    clear hB0 hR2 hv1 hv2 hr1 hr2 hn1 hn2 e1 ih
    go_enter Try.func48, Try.ntmps48
    go_wp2_with (go_at_call 69; (refine (Hid.out ho _ _ _).mono ?_; rintro e w2 ⟨rfl, rfl⟩))
    refine wp_loop_rounds 1 ?_
    rw [rounds_succ]
    go_wp2
    all_goals (go_ret; exact ⟨rfl, HB0.out⟩)
theorem refCmp : ∀ (k : Nat) (w : World) (s t : VT k), Rds k w s → Rds k w t → Calls Try.prog 48 #[(hdT k s).v, (hdT k t).v] w fun e w' => e = .returned (.int .i64 (cmpT k s t)) ∧ Below w.heap.size w w'
  | 0, _, _, _, h, _ => h.elim
  | k + 1, w, s, t, hs, ht => refCmp_step k (refCmp k) w s t hs ht
theorem refSame (k : Nat) (w : World) (s t : VT k) (hs : Rds k w s) (ht : Rds k w t) : Calls Try.prog 23 #[(hdT k s).v, (hdT k t).v] w fun e w' => e = .returned (.bool (cmpT k s t == 0)) ∧ Below w.heap.size w w' := by
  have K := hid (fun (w1 : World) (hb : Below w.heap.size w w1) => refCmp k w1 s t (Rds.below k hs (Nat.le_refl _) hb) (Rds.below k ht (Nat.le_refl _) hb))
  clear hs ht
  generalize cmpT k s t = c at *
  generalize hdT k s = h at *
  generalize hdT k t = g at *
  obtain ⟨k1, i1, t1, r1, a1, m1, c1⟩ := h
  obtain ⟨k2, i2, t2, r2, a2, m2, c2⟩ := g
  simp only [Hd.v] at K ⊢
  go_enter Try.func23, Try.ntmps23
  go_wp2_with (go_at_call 48; (refine (K.out _ (by first | exact Below.refl _ _ | exact (((Below.refl _ _).alloc (Nat.le_refl _) _).alloc (by simp) _))).mono ?_; rintro e w9 ⟨rfl, hB9⟩))
  go_ret
  first | exact ⟨rfl, hB9⟩ | exact ⟨rfl, (((Below.refl _ _).alloc (Nat.le_refl _) _).alloc (by simp) _).trans (hB9.mono (by simp; omega))⟩
end Go.Proofs.Ytenfgahedbeekaa

