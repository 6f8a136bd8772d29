/- rightSigs. -/
import Derived.Test.YtnmbifoinponeaaGreatDoorV
namespace Go.Proofs.YtnmbifoinponeaaGreatDoor
open Go.RowKit Go.Deep Go.Shelf
set_option linter.unusedVariables false
set_option linter.unusedSimpArgs false

structure Sg where
  name : ByteArray
  params : List TyP
  res : TyP
structure GH where
  name : ByteArray
  pa : Option Addr
  pn : Nat
  pc : Nat
  k : Int
  r : Int
def GH.cs (h : GH) : List Value := [.string h.name, .slice h.pa h.pn h.pc, .int .i64 h.k, .int .i64 h.r]
structure SgRd (w : World) (h : GH) (s : Sg) : Prop where
  nm : h.name = s.name
  ns : h.name.size ≤ 9223372036854775807
  pn : h.pn = s.params.length
  p2 : h.pn ≤ 9223372036854775807
  pr : TRd w h.pa s.params
  rs : (h.k, h.r) = s.res
theorem SgRd.below {w w' : World} {h : GH} {s : Sg} {B : Nat} (d : SgRd w h s) (hB : w.heap.size ≤ B) (k : Below B w w') : SgRd w' h s := ⟨d.nm, d.ns, d.pn, d.p2, d.pr.below hB k, d.rs⟩
structure GRd (w : World) (a : Option Addr) (n : Nat) (gs : List (GH × Sg)) : Prop where
  n1 : n = gs.length
  n2 : n ≤ 9223372036854775807
  rd : CRd w a 4 (gs.map fun p => p.1.cs)
  el : ∀ p ∈ gs, SgRd w p.1 p.2
theorem GRd.below {w w' : World} {a : Option Addr} {n : Nat} {gs : List (GH × Sg)} {B : Nat} (d : GRd w a n gs) (hB : w.heap.size ≤ B) (k : Below B w w') : GRd w' a n gs :=
  ⟨d.n1, d.n2, d.rd.below hB k, fun p hp => (d.el p hp).below hB k⟩
def sigB (n : Nat) (s : Sg) : Bool := decide (s.params.length ≤ 12) && (noneB s.res || typB n s.res) && s.params.all (typB n)
def sigsB (n : Nat) (ss : List Sg) : Bool := decide (ss.length ≤ 16) && ss.all (sigB n) && namesB smB (ss.map Sg.name)

set_option maxRecDepth 100000 in
set_option maxHeartbeats 2000000 in
theorem rightSigs_any (w : World) (h : PH) (a : Option Addr) (n cap : Nat) (gs : List (GH × Sg)) (d : GRd w a n gs) (hrn : h.rn ≤ 9223372036854775807) :
    Calls Tryz.prog 23 #[h.v, .slice a n cap] w fun e w' => e = .returned (.bool (sigsB h.rn (gs.map (·.2)))) ∧ Below w.heap.size w w' := by
  have D := hid d
  have hn2 := d.n2
  have Hn := hid d.n1
  have KT := hid (fun w' k r => isType_any w' h k r hrn)
  obtain ⟨res, hres⟩ : ∃ res, res = sigsB h.rn (gs.map (·.2)) := ⟨_, rfl⟩
  rw [← hres]
  have Hres := hid hres
  obtain ⟨i0, hi, hz0, hz1, hz2⟩ := info_parts info9
  clear d hres
  obtain ⟨ra, rn, rc, ma, mn, mc, fa, fn, fc, ea, en, ec⟩ := h
  simp only [PH.v, ty] at KT ⊢
  have hb0 : Below w.heap.size w (w.alloc (.cells #[.slice ra rn rc, .slice ma mn mc, .slice fa fn fc, .slice ea en ec] 26)) := (Below.refl _ _).alloc (Nat.le_refl _) _
  have bx0 : (w.alloc (.cells #[.slice ra rn rc, .slice ma mn mc, .slice fa fn fc, .slice ea en ec] 26)).heap[w.heap.size]? = some (.cells #[.slice ra rn rc, .slice ma mn mc, .slice fa fn fc, .slice ea en ec] 26 (0, 0)) := heap_alloc_new w _
  have HB0 := hid hb0
  have HX0 := hid bx0
  clear hb0 bx0
  rcases Nat.lt_or_ge 16 n with h1 | h1
  · have hF : res = false := by
      rw [Hres.out]; unfold sigsB
      have : ¬ (gs.map (·.2)).length ≤ 16 := by rw [List.length_map, ← Hn.out]; omega
      rw [decide_eq_false this]; rfl
    have HF := hid hF
    clear hF
    go_enter Tryz.func23, Tryz.ntmps23
    go_wp2
    go_ret
    exact ⟨by rw [HF.out]; rfl, HB0.out⟩
  · go_enter Tryz.func23, Tryz.ntmps23
    go_wp2
    go_loopg [5, 15] n (fun g nv ii wr => ∃ i : Nat, i + g = n ∧ ii = .int .i64 (i : Int) ∧ Below w.heap.size w wr ∧ wr.heap[w.heap.size]? = some (.cells #[.slice ra rn rc, .slice ma mn mc, .slice fa fn fc, .slice ea en ec] 26 (0, 0)) ∧ NRow wr (w.heap.size + 1) nv ((gs.take i).map fun p => p.2.name) ∧ ∀ p ∈ gs.take i, sigB rn p.2 = true)
    case atStart => exact ⟨0, by omega, rfl, HB0.out, HX0.out, NRow.nil _ _, fun p hp => by simp at hp⟩
    case round =>
      obtain ⟨i, hi', rfl, hbe, hbx, hrow, hAc⟩ := hrel
      obtain ⟨wo, hwo⟩ : ∃ wo, wo = wr := ⟨_, rfl⟩
      subst hwo
      have Hi := hid hi'
      have Hbe := hid hbe
      have HAc := hid hAc
      have Hrow := hid hrow
      have Hbx := hid hbx
      obtain ⟨na, ncap, rfl, hnc⟩ := hrow.form
      have hlx : w.heap.size < wo.heap.size := (Array.getElem?_eq_some_iff.1 hbx).1
      clear hAc hbe hrow hbx
      have hlen : ((gs.take i).map fun p => p.2.name).length = i := by rw [List.length_map, List.length_take, ← Hn.out]; omega
      rw [hlen] at Hrow hnc ⊢
      clear hlen
      cases gk with
      | zero =>
        have hin : i = n := by omega
        clear hi'
        subst hin
        have hall : gs.take i = gs := by rw [Hn.out]; exact List.take_length
        have K := hid (rightNames_42 wo na i ncap (gs.map fun p => p.2.name) (by rw [List.length_map]; exact Hn.out) hn2 hnc (by
          have h := Hrow.out; rw [hall] at h
          exact h.rd (fun s hs => by
            rw [List.mem_map] at hs
            obtain ⟨p, hp, rfl⟩ := hs
            have := (D.out.el p hp).ns; rw [(D.out.el p hp).nm] at this; exact this)))
        have hval : res = namesB smB (gs.map fun p => p.2.name) := by
          rw [Hres.out]; unfold sigsB
          have e1 : (gs.map (·.2)).length ≤ 16 := by rw [List.length_map, ← Hn.out]; exact h1
          have e2 : (gs.map (·.2)).all (sigB rn) = true := by
            rw [List.all_eq_true]; intro r hr
            rw [List.mem_map] at hr
            obtain ⟨p, hp, rfl⟩ := hr
            exact HAc.out p (by rw [hall]; exact hp)
          rw [decide_eq_true e1, e2, List.map_map]; rfl
        have Hval := hid hval
        clear hval hall
        go_wp2_with (go_at_call 46; (refine (Hid.out K).mono ?_; rintro e w2 ⟨rfl, hb2⟩))
        go_ret
        exact ⟨by rw [Hval.out]; rfl, Hbe.out.trans (hb2.mono Hbe.out.size)⟩
      | succ g =>
        have hlt : i < n := by omega
        clear hi'
        obtain ⟨p, hp⟩ : ∃ p, gs[i]? = some p := ⟨gs[i]'(by rw [← Hn.out]; exact hlt), by rw [List.getElem?_eq_getElem]⟩
        have DW := D.out.below (Nat.le_refl _) Hbe.out
        have el := DW.el p (List.mem_of_getElem? hp)
        obtain ⟨b1, o1, rfl, hb1, e1⟩ := DW.rd i p.1.cs (by simp [hp])
        have x0 := e1 0 (by omega)
        have x1 := e1 1 (by omega)
        have x2 := e1 2 (by omega)
        have x3 := e1 3 (by omega)
        have Hp := hid hp
        have Hel := hid el
        have Hnm := hid el.nm
        have Hpn := hid el.pn
        have hp2 := el.p2
        have Hrs := hid el.rs
        clear e1 DW el hp hb1
        obtain ⟨h, s⟩ := p
        obtain ⟨nm, pa, pn, pc, k, r⟩ := h
        simp only [GH.cs, List.getElem?_cons_zero, List.getElem?_cons_succ, Nat.add_zero] at x0 x1 x2 x3 hp2
        have hba : Below wo.heap.size wo (wo.alloc (.cells #[.string nm, .slice pa pn pc, .int .i64 k, .int .i64 r] 47)) := (Below.refl _ _).alloc (Nat.le_refl _) _
        have HN : Hid (sigB rn s = false → res = false) := hid (fun hq => by
          rw [Hres.out]; unfold sigsB
          have : (gs.map (·.2)).all (sigB rn) = false := by
            rw [List.all_eq_false]
            exact ⟨s, by rw [List.mem_map]; exact ⟨_, List.mem_of_getElem? Hp.out, rfl⟩, by simp [hq]⟩
          rw [this]; simp)
        rcases Nat.lt_or_ge 12 pn with h12 | h12
        · go_wp2
          go_ret
          refine ⟨?_, Hbe.out.trans (hba.mono Hbe.out.size)⟩
          rw [HN.out (by
            have : ¬ s.params.length ≤ 12 := by rw [← show pn = s.params.length from Hpn.out]; omega
            unfold sigB; rw [decide_eq_false this]; rfl)]
          rfl
        · have K1 : Hid (∀ w' : World, Calls Tryz.prog 50 #[.agg #[.int .i64 k, .int .i64 r]] w' fun e w'' => e = .returned (.bool (noneB (k, r))) ∧ Below w'.heap.size w' w'') := hid (fun w' => isNone_any w' k r)
          have K2 := hid (fun w' => KT.out w' k r)
          have e12 : s.params.length ≤ 12 := by rw [← show pn = s.params.length from Hpn.out]; exact h12
          have HE12 := hid e12
          clear e12
          cases q1 : noneB (k, r) with
          | true =>
            rw [q1] at K1
            have Hq : Hid ((noneB s.res || typB rn s.res) = true) := hid (by rw [← show (k, r) = s.res from Hrs.out, q1]; rfl)
            go_wp2_with (go_at_call 50; (refine (Hid.out K1 _).mono ?_; rintro e w4 ⟨rfl, hb4'⟩; have hb04 : Below wo.heap.size wo w4 := hba.trans (hb4'.mono hba.size); have bx4 := (hb4'.block wo.heap.size (by simp)).trans (heap_alloc_new wo (.cells #[.string nm, .slice pa pn pc, .int .i64 k, .int .i64 r] 47)); have y1 : w4.cell? ⟨wo.heap.size, 1, none⟩ = some (.slice pa pn pc) := cellOf bx4 1; have HX4 := hid bx4; clear bx4))
            go_loopg [39] pn (fun g2 jj wr => ∃ j : Nat, j + g2 = pn ∧ jj = .int .i64 (j : Int) ∧ Below w4.heap.size w4 wr ∧ ∀ t ∈ s.params.take j, typB rn t = true)
            case atStart => exact ⟨0, by omega, rfl, Below.refl _ _, fun t ht => by simp at ht⟩
            case round =>
              obtain ⟨j, hj', rfl, hbj, hAj⟩ := hrel
              have Hj := hid hj'
              have Hbj := hid hbj
              have HAj := hid hAj
              have hb0j : Below wo.heap.size wo wr := hb04.trans (hbj.mono hb04.size)
              have bxj := (hbj.block wo.heap.size (Array.getElem?_eq_some_iff.1 HX4.out).1).trans HX4.out
              have j0 : wr.cell? ⟨wo.heap.size, 0, none⟩ = some (.string nm) := cellOf bxj 0
              have byj := (hb0j.block _ hlx).trans Hbx.out
              have HBX := hid byj
              have HB0J := hid hb0j
              clear hAj hbj bxj byj hb0j
              cases gk with
              | zero =>
                have hjn : j = pn := by omega
                clear hj'
                subst hjn
                have hrow2 := Hrow.out.below HB0J.out
                have hpall : s.params.all (typB rn) = true := by
                  rw [List.all_eq_true]; intro t ht
                  exact HAj.out t (by rw [show j = s.params.length from Hpn.out, List.take_length]; exact ht)
                have HPA := hid hpall
                clear hpall
                go_wp2_with (at_builtin; (refine wpList_append_own _ rfl _ _ 42 rfl (w.heap.size + 1) 9 i0 (.string ⟨#[]⟩) 1 16 Tryz.underlying42 hi hz0 hz1 hz2 rfl (by decide) _ _ _ rfl (hrow2.below ((Below.refl _ wr).alloc (Nat.le_refl _) _)) ⟨wr.heap.size, 0, none⟩ 1 1 [.string nm] rfl rfl (cell_one_new _ _ _) (by simp [Value.oneCell']) (by rw [List.length_map, List.length_take]; unfold maxLen; omega) (by rw [List.length_map, List.length_take]; omega) (by have h1 := Hbe.out.size; have h2 := HB0J.out.size; simp; omega) ?_; intro v3 w3 hrow3 hg3 _))
                go_roundg g
                case measure => omega
                case rel => exact ⟨i + 1, by have := Hi.out; omega, by go_num, below_app2 (by omega) (Hbe.out.trans (HB0J.out.mono Hbe.out.size)) hrow2 hg3, by
                  rw [hg3.block _ (by have h1 := HB0J.out.size; simp; omega) (fun e => by have := (hrow2.own _ e.symm).1; omega)]
                  exact (Below.heap_alloc _ _ _ (by have h1 := HB0J.out.size; omega)).trans HBX.out, by rw [take_map_snoc _ Hp.out, show s.name = nm from Hnm.out.symm]; exact NRow.snoc hrow3, take_acc Hp.out HAc.out (by unfold sigB; rw [decide_eq_true HE12.out, Hq.out, HPA.out]; rfl)⟩
              | succ g2 =>
                have hjlt : j < pn := by omega
                clear hj'
                obtain ⟨t, ht⟩ : ∃ t, s.params[j]? = some t := ⟨s.params[j]'(by rw [← show pn = s.params.length from Hpn.out]; exact hjlt), by rw [List.getElem?_eq_getElem]⟩
                obtain ⟨b3, o3, epa, t0, t1⟩ := (Hel.out.below (Nat.le_refl _) HB0J.out).pr j t ht
                have Ht := hid ht
                have c0 := cellOf HBX.out 0
                have c1 := cellOf HBX.out 1
                have c2 := cellOf HBX.out 2
                have c3 := cellOf HBX.out 3
                simp only [List.getElem?_toArray, List.getElem?_cons_zero, List.getElem?_cons_succ] at c0 c1 c2 c3
                have al : ∀ (o : Obj) (p : Addr) (v : Value), wr.cell? p = some v → (wr.alloc o).cell? p = some v := fun o p v h => (World.cell?_of_block (Below.heap_alloc _ _ _ (World.block_lt_of_cell? wr p h))).trans h
                have c0' := fun o => al o _ _ c0
                have c1' := fun o => al o _ _ c1
                have c2' := fun o => al o _ _ c2
                have c3' := fun o => al o _ _ c3
                obtain ⟨tk, tr⟩ := t
                simp only at epa
                subst epa
                simp only at t0 t1
                have hbt : Below wr.heap.size wr (wr.alloc (.cells #[.int .i64 tk, .int .i64 tr] 28)) := (Below.refl _ _).alloc (Nat.le_refl _) _
                have K3 := hid (fun w' => KT.out w' tk tr)
                clear al ht
                cases q3 : typB rn (tk, tr) with
                | false =>
                  simp only [q3] at K3
                  go_wp2_with (go_at_call 39; (refine (Hid.out K3 _).mono ?_; rintro e w6 ⟨rfl, hb6⟩))
                  go_ret
                  refine ⟨?_, Hbe.out.trans ((HB0J.out.trans ((hbt.trans (hb6.mono hbt.size)).mono HB0J.out.size)).mono Hbe.out.size)⟩
                  rw [HN.out (by
                    have : s.params.all (typB rn) = false := by
                      rw [List.all_eq_false]
                      exact ⟨_, List.mem_of_getElem? Ht.out, by simp [q3]⟩
                    unfold sigB; rw [this]; simp)]
                  rfl
                | true =>
                  simp only [q3] at K3
                  go_wp2_with (go_at_call 39; (refine (Hid.out K3 _).mono ?_; rintro e w6 ⟨rfl, hb6⟩))
                  go_roundg g2
                  case measure => omega
                  case rel => exact ⟨j + 1, by have := Hj.out; omega, by go_num, Hbj.out.trans ((hbt.trans (hb6.mono hbt.size)).mono Hbj.out.size), take_acc Ht.out HAj.out q3⟩
          | false =>
            rw [q1] at K1
            cases q2 : typB rn (k, r) with
            | false =>
              simp only [q2] at K2
              go_wp2_with (first
                | (go_at_call 50; (refine (Hid.out K1 _).mono ?_; rintro e w2 ⟨rfl, hb2⟩; have hb02 : Below wo.heap.size wo w2 := hba.trans (hb2.mono hba.size); have bx := (hb2.block wo.heap.size (by simp)).trans (heap_alloc_new wo (.cells #[.string nm, .slice pa pn pc, .int .i64 k, .int .i64 r] 47)); have y2 := cellOf bx 2; have y3 := cellOf bx 3; have by0 := (hb02.block _ hlx).trans Hbx.out; have z0 := cellOf by0 0; have z1 := cellOf by0 1; have z2 := cellOf by0 2; have z3 := cellOf by0 3; simp only [List.getElem?_toArray, List.getElem?_cons_zero, List.getElem?_cons_succ] at y2 y3 z0 z1 z2 z3; clear bx by0))
                | (go_at_call 39; (refine (Hid.out K2 _).mono ?_; rintro e w4 ⟨rfl, hb4⟩)))
              go_ret
              refine ⟨?_, Hbe.out.trans ((hb02.trans (hb4.mono hb02.size)).mono Hbe.out.size)⟩
              rw [HN.out (by unfold sigB; rw [← show (k, r) = s.res from Hrs.out, q1, q2]; simp)]
              rfl
            | true =>
              simp only [q2] at K2
              have Hq : Hid ((noneB s.res || typB rn s.res) = true) := hid (by rw [← show (k, r) = s.res from Hrs.out, q2]; simp)
              go_wp2_with (first
                | (go_at_call 50; (refine (Hid.out K1 _).mono ?_; rintro e w2 ⟨rfl, hb2⟩; have hb02 : Below wo.heap.size wo w2 := hba.trans (hb2.mono hba.size); have bx := (hb2.block wo.heap.size (by simp)).trans (heap_alloc_new wo (.cells #[.string nm, .slice pa pn pc, .int .i64 k, .int .i64 r] 47)); have y2 := cellOf bx 2; have y3 := cellOf bx 3; have by0 := (hb02.block _ hlx).trans Hbx.out; have z0 := cellOf by0 0; have z1 := cellOf by0 1; have z2 := cellOf by0 2; have z3 := cellOf by0 3; simp only [List.getElem?_toArray, List.getElem?_cons_zero, List.getElem?_cons_succ] at y2 y3 z0 z1 z2 z3; have Hbx2 := hid bx; clear bx by0))
                | (go_at_call 39; (refine (Hid.out K2 _).mono ?_; rintro e w4 ⟨rfl, hb4⟩; have hb04 : Below wo.heap.size wo w4 := hb02.trans (hb4.mono hb02.size); have bx4 := (hb4.block wo.heap.size (Array.getElem?_eq_some_iff.1 Hbx2.out).1).trans Hbx2.out; have y1 : w4.cell? ⟨wo.heap.size, 1, none⟩ = some (.slice pa pn pc) := cellOf bx4 1; have HX4 := hid bx4; clear bx4)))
              go_loopg [39] pn (fun g2 jj wr => ∃ j : Nat, j + g2 = pn ∧ jj = .int .i64 (j : Int) ∧ Below w4.heap.size w4 wr ∧ ∀ t ∈ s.params.take j, typB rn t = true)
              case atStart => exact ⟨0, by omega, rfl, Below.refl _ _, fun t ht => by simp at ht⟩
              case round =>
                obtain ⟨j, hj', rfl, hbj, hAj⟩ := hrel
                have Hj := hid hj'
                have Hbj := hid hbj
                have HAj := hid hAj
                have hb0j : Below wo.heap.size wo wr := hb04.trans (hbj.mono hb04.size)
                have bxj := (hbj.block wo.heap.size (Array.getElem?_eq_some_iff.1 HX4.out).1).trans HX4.out
                have j0 : wr.cell? ⟨wo.heap.size, 0, none⟩ = some (.string nm) := cellOf bxj 0
                have byj := (hb0j.block _ hlx).trans Hbx.out
                have HBX := hid byj
                have HB0J := hid hb0j
                clear hAj hbj bxj byj hb0j
                cases gk with
                | zero =>
                  have hjn : j = pn := by omega
                  clear hj'
                  subst hjn
                  have hrow2 := Hrow.out.below HB0J.out
                  have hpall : s.params.all (typB rn) = true := by
                    rw [List.all_eq_true]; intro t ht
                    exact HAj.out t (by rw [show j = s.params.length from Hpn.out, List.take_length]; exact ht)
                  have HPA := hid hpall
                  clear hpall
                  go_wp2_with (at_builtin; (refine wpList_append_own _ rfl _ _ 42 rfl (w.heap.size + 1) 9 i0 (.string ⟨#[]⟩) 1 16 Tryz.underlying42 hi hz0 hz1 hz2 rfl (by decide) _ _ _ rfl (hrow2.below ((Below.refl _ wr).alloc (Nat.le_refl _) _)) ⟨wr.heap.size, 0, none⟩ 1 1 [.string nm] rfl rfl (cell_one_new _ _ _) (by simp [Value.oneCell']) (by rw [List.length_map, List.length_take]; unfold maxLen; omega) (by rw [List.length_map, List.length_take]; omega) (by have h1 := Hbe.out.size; have h2 := HB0J.out.size; simp; omega) ?_; intro v3 w3 hrow3 hg3 _))
                  go_roundg g
                  case measure => omega
                  case rel => exact ⟨i + 1, by have := Hi.out; omega, by go_num, below_app2 (by omega) (Hbe.out.trans (HB0J.out.mono Hbe.out.size)) hrow2 hg3, by
                    rw [hg3.block _ (by have h1 := HB0J.out.size; simp; omega) (fun e => by have := (hrow2.own _ e.symm).1; omega)]
                    exact (Below.heap_alloc _ _ _ (by have h1 := HB0J.out.size; omega)).trans HBX.out, by rw [take_map_snoc _ Hp.out, show s.name = nm from Hnm.out.symm]; exact NRow.snoc hrow3, take_acc Hp.out HAc.out (by unfold sigB; rw [decide_eq_true HE12.out, Hq.out, HPA.out]; rfl)⟩
                | succ g2 =>
                  have hjlt : j < pn := by omega
                  clear hj'
                  obtain ⟨t, ht⟩ : ∃ t, s.params[j]? = some t := ⟨s.params[j]'(by rw [← show pn = s.params.length from Hpn.out]; exact hjlt), by rw [List.getElem?_eq_getElem]⟩
                  obtain ⟨b3, o3, epa, t0, t1⟩ := (Hel.out.below (Nat.le_refl _) HB0J.out).pr j t ht
                  have Ht := hid ht
                  have c0 := cellOf HBX.out 0
                  have c1 := cellOf HBX.out 1
                  have c2 := cellOf HBX.out 2
                  have c3 := cellOf HBX.out 3
                  simp only [List.getElem?_toArray, List.getElem?_cons_zero, List.getElem?_cons_succ] at c0 c1 c2 c3
                  have al : ∀ (o : Obj) (p : Addr) (v : Value), wr.cell? p = some v → (wr.alloc o).cell? p = some v := fun o p v h => (World.cell?_of_block (Below.heap_alloc _ _ _ (World.block_lt_of_cell? wr p h))).trans h
                  have c0' := fun o => al o _ _ c0
                  have c1' := fun o => al o _ _ c1
                  have c2' := fun o => al o _ _ c2
                  have c3' := fun o => al o _ _ c3
                  obtain ⟨tk, tr⟩ := t
                  simp only at epa
                  subst epa
                  simp only at t0 t1
                  have hbt : Below wr.heap.size wr (wr.alloc (.cells #[.int .i64 tk, .int .i64 tr] 28)) := (Below.refl _ _).alloc (Nat.le_refl _) _
                  have K3 := hid (fun w' => KT.out w' tk tr)
                  clear al ht
                  cases q3 : typB rn (tk, tr) with
                  | false =>
                    simp only [q3] at K3
                    go_wp2_with (go_at_call 39; (refine (Hid.out K3 _).mono ?_; rintro e w6 ⟨rfl, hb6⟩))
                    go_ret
                    refine ⟨?_, Hbe.out.trans ((HB0J.out.trans ((hbt.trans (hb6.mono hbt.size)).mono HB0J.out.size)).mono Hbe.out.size)⟩
                    rw [HN.out (by
                      have : s.params.all (typB rn) = false := by
                        rw [List.all_eq_false]
                        exact ⟨_, List.mem_of_getElem? Ht.out, by simp [q3]⟩
                      unfold sigB; rw [this]; simp)]
                    rfl
                  | true =>
                    simp only [q3] at K3
                    go_wp2_with (go_at_call 39; (refine (Hid.out K3 _).mono ?_; rintro e w6 ⟨rfl, hb6⟩))
                    go_roundg g2
                    case measure => omega
                    case rel => exact ⟨j + 1, by have := Hj.out; omega, by go_num, Hbj.out.trans ((hbt.trans (hb6.mono hbt.size)).mono Hbj.out.size), take_acc Ht.out HAj.out q3⟩
end Go.Proofs.YtnmbifoinponeaaGreatDoor
