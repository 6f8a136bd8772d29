/- rightSigs. -/
import Derived.Test.YthnolocldeokeaaGreatDoorJAB
import Derived.Test.YthnolocldeokeaaGreatDoorRows
import Derived.WalkKit
import Derived.WalkSpells
import Derived.WalkLawsBesides
import Derived.Deep.OwnRows
import Derived.Maps.AppendAt
import Derived.Deep.AppendLies
import Derived.Lib.AppendStr
import Derived.Deep.LoopGhost
import Derived.Below
import Derived.RangeFuncNested
import Derived.RangeFuncBound
import Derived.RangeFuncCalls
import Derived.RangeFuncLeaves
import Derived.LoopIn
import Derived.LoopNIn
import Derived.OwnWalkIn
import Derived.TacticsInMore
import Derived.BigRegionIn
import Derived.BigQuiet
import Derived.Deep.RegionHeld3
import Derived.Shelf.RegionOpen
import Derived.Shelf.Abstract
import Derived.Sort.LoopGhostIn
import Derived.Deep.CutBlock
import Derived.Deep.DeepCutAuto
namespace Go.Proofs.YthnolocldeokeaaGreatDoor
set_option maxRecDepth 100000
open Go.RowKit Go.Deep Go.Shelf
set_option linter.unusedVariables false
set_option linter.unusedSimpArgs false

structure Sg where
  name : ByteArray
  params : List TyP
  res : TyP
structure GH where
  name : ByteArray
  pa : Option Addr
  pn : Nat
  pc : Nat
  k : Int
  r : Int
def GH.cs (h : GH) : List Value := [.string h.name, .slice h.pa h.pn h.pc, .int .i64 h.k, .int .i64 h.r]
structure SgRd (w : World) (h : GH) (s : Sg) : Prop where
  nm : h.name = s.name
  ns : h.name.size ≤ 9223372036854775807
  pn : h.pn = s.params.length
  p2 : h.pn ≤ 9223372036854775807
  pr : TRd w h.pa s.params
  rs : (h.k, h.r) = s.res
theorem SgRd.below {w w' : World} {h : GH} {s : Sg} {B : Nat} (d : SgRd w h s) (hB : w.heap.size ≤ B) (k : Below B w w') : SgRd w' h s := ⟨d.nm, d.ns, d.pn, d.p2, d.pr.below hB k, d.rs⟩
structure GRd (w : World) (a : Option Addr) (n : Nat) (gs : List (GH × Sg)) : Prop where
  n1 : n = gs.length
  n2 : n ≤ 9223372036854775807
  rd : CRd w a 4 (gs.map fun p => p.1.cs)
  el : ∀ p ∈ gs, SgRd w p.1 p.2
theorem GRd.below {w w' : World} {a : Option Addr} {n : Nat} {gs : List (GH × Sg)} {B : Nat} (d : GRd w a n gs) (hB : w.heap.size ≤ B) (k : Below B w w') : GRd w' a n gs :=
  ⟨d.n1, d.n2, d.rd.below hB k, fun p hp => (d.el p hp).below hB k⟩
def sigB (n : Nat) (s : Sg) : Bool := decide (s.params.length ≤ 12) && (noneB s.res || typB n s.res) && s.params.all (typB n)
def sigsB (n : Nat) (ss : List Sg) : Bool := decide (ss.length ≤ 16) && ss.all (sigB n) && namesB smB (ss.map Sg.name)

set_option maxRecDepth 100000 in
set_option maxHeartbeats 2000000 in
theorem rightSigs_any (w : World) (h : PH) (a : Option Addr) (n cap : Nat) (gs : List (GH × Sg)) (d : GRd w a n gs) (hrn : h.rn ≤ 9223372036854775807) :
    Calls Tryz.prog 71 #[h.v, .slice a n cap] w fun e w' => e = .returned (.bool (sigsB h.rn (gs.map (·.2)))) ∧ Below w.heap.size w w' := by
  have D := hid d
  have hn2 := d.n2
  have Hn := hid d.n1
  have KT := hid (fun w' k r => isType_any w' h k r hrn)
  obtain ⟨res, hres⟩ : ∃ res, res = sigsB h.rn (gs.map (·.2)) := ⟨_, rfl⟩
  rw [← hres]
  have Hres := hid hres
  obtain ⟨i0, hi, hz0, hz1, hz2⟩ := info_parts info9
  clear d hres
  obtain ⟨ra, rn, rc, ma, mn, mc, fa, fn, fc, ea, en, ec⟩ := h
  simp only [PH.v, ty] at KT ⊢
  have hb0 : Below w.heap.size w (w.alloc (.cells #[.slice ra rn rc, .slice ma mn mc, .slice fa fn fc, .slice ea en ec] 40)) := (Below.refl _ _).alloc (Nat.le_refl _) _
  have bx0 : (w.alloc (.cells #[.slice ra rn rc, .slice ma mn mc, .slice fa fn fc, .slice ea en ec] 40)).heap[w.heap.size]? = some (.cells #[.slice ra rn rc, .slice ma mn mc, .slice fa fn fc, .slice ea en ec] 40 (0, 0)) := heap_alloc_new w _
  have HB0 := hid hb0
  have HX0 := hid bx0
  clear hb0 bx0
  rcases Nat.lt_or_ge 16 n with h1 | h1
  · have hF : res = false := by
      rw [Hres.out]; unfold sigsB
      have : ¬ (gs.map (·.2)).length ≤ 16 := by rw [List.length_map, ← Hn.out]; omega
      rw [decide_eq_false this]; rfl
    have HF := hid hF
    clear hF
    go_enter Tryz.func71, Tryz.ntmps71
    go_wp2
    go_ret
    exact ⟨by rw [HF.out]; rfl, HB0.out⟩
  · go_enter Tryz.func71, Tryz.ntmps71
    go_wp2
    go_loopg [5, 15] n (fun g nv ii wr => ∃ i : Nat, i + g = n ∧ ii = .int .i64 (i : Int) ∧ Below w.heap.size w wr ∧ wr.heap[w.heap.size]? = some (.cells #[.slice ra rn rc, .slice ma mn mc, .slice fa fn fc, .slice ea en ec] 40 (0, 0)) ∧ NRow wr (w.heap.size + 1) nv ((gs.take i).map fun p => p.2.name) ∧ ∀ p ∈ gs.take i, sigB rn p.2 = true)
    case atStart => exact ⟨0, by omega, rfl, HB0.out, HX0.out, NRow.nil _ _, fun p hp => by simp at hp⟩
    case round =>
      obtain ⟨i, hi', rfl, hbe, hbx, hrow, hAc⟩ := hrel
      obtain ⟨wo, hwo⟩ : ∃ wo, wo = wr := ⟨_, rfl⟩
      subst hwo
      have Hi := hid hi'
      have Hbe := hid hbe
      have HAc := hid hAc
      have Hrow := hid hrow
      have Hbx := hid hbx
      obtain ⟨na, ncap, rfl, hnc⟩ := hrow.form
      have hlx : w.heap.size < wo.heap.size := (Array.getElem?_eq_some_iff.1 hbx).1
      clear hAc hbe hrow hbx
      have hlen : ((gs.take i).map fun p => p.2.name).length = i := by rw [List.length_map, List.length_take, ← Hn.out]; omega
      rw [hlen] at Hrow hnc ⊢
      clear hlen
      cases gk with
      | zero =>
        have hin : i = n := by omega
        clear hi'
        subst hin
        have hall : gs.take i = gs := by rw [Hn.out]; exact List.take_length
        have K := hid (rightNames_42 wo na i ncap (gs.map fun p => p.2.name) (by rw [List.length_map]; exact Hn.out) hn2 hnc (by
          have h := Hrow.out; rw [hall] at h
          exact h.rd (fun s hs => by
            rw [List.mem_map] at hs
            obtain ⟨p, hp, rfl⟩ := hs
            have := (D.out.el p hp).ns; rw [(D.out.el p hp).nm] at this; exact this)))
        have hval : res = namesB smB (gs.map fun p => p.2.name) := by
          rw [Hres.out]; unfold sigsB
          have e1 : (gs.map (·.2)).length ≤ 16 := by rw [List.length_map, ← Hn.out]; exact h1
          have e2 : (gs.map (·.2)).all (sigB rn) = true := by
            rw [List.all_eq_true]; intro r hr
            rw [List.mem_map] at hr
            obtain ⟨p, hp, rfl⟩ := hr
            exact HAc.out p (by rw [hall]; exact hp)
          rw [decide_eq_true e1, e2, List.map_map]; rfl
        have Hval := hid hval
        clear hval hall
        go_wp2_with (go_at_call 85; (refine (Hid.out K).mono ?_; rintro e w2 ⟨rfl, hb2⟩))
        go_ret
        exact ⟨by rw [Hval.out]; rfl, Hbe.out.trans (hb2.mono Hbe.out.size)⟩
      | succ g =>
        have hlt : i < n := by omega
        clear hi'
        obtain ⟨p, hp⟩ : ∃ p, gs[i]? = some p := ⟨gs[i]'(by rw [← Hn.out]; exact hlt), by rw [List.getElem?_eq_getElem]⟩
        have DW := D.out.below (Nat.le_refl _) Hbe.out
        have el := DW.el p (List.mem_of_getElem? hp)
        obtain ⟨b1, o1, rfl, hb1, e1⟩ := DW.rd i p.1.cs (by simp [hp])
        have x0 := e1 0 (by omega)
        have x1 := e1 1 (by omega)
        have x2 := e1 2 (by omega)
        have x3 := e1 3 (by omega)
        have Hp := hid hp
        have Hel := hid el
        have Hnm := hid el.nm
        have Hpn := hid el.pn
        have hp2 := el.p2
        have Hrs := hid el.rs
        clear e1 DW el hp hb1
        obtain ⟨h, s⟩ := p
        obtain ⟨nm, pa, pn, pc, k, r⟩ := h
        simp only [GH.cs, List.getElem?_cons_zero, List.getElem?_cons_succ, Nat.add_zero] at x0 x1 x2 x3 hp2
        have hba : Below wo.heap.size wo (wo.alloc (.cells #[.string nm, .slice pa pn pc, .int .i64 k, .int .i64 r] 35)) := (Below.refl _ _).alloc (Nat.le_refl _) _
        have HN : Hid (sigB rn s = false → res = false) := hid (fun hq => by
          rw [Hres.out]; unfold sigsB
          have : (gs.map (·.2)).all (sigB rn) = false := by
            rw [List.all_eq_false]
            exact ⟨s, by rw [List.mem_map]; exact ⟨_, List.mem_of_getElem? Hp.out, rfl⟩, by simp [hq]⟩
          rw [this]; simp)
        rcases Nat.lt_or_ge 12 pn with h12 | h12
        · go_wp2
          go_ret
          refine ⟨?_, Hbe.out.trans (hba.mono Hbe.out.size)⟩
          rw [HN.out (by
            have : ¬ s.params.length ≤ 12 := by rw [← show pn = s.params.length from Hpn.out]; omega
            unfold sigB; rw [decide_eq_false this]; rfl)]
          rfl
        · have K1 : Hid (∀ w' : World, Calls Tryz.prog 90 #[.agg #[.int .i64 k, .int .i64 r]] w' fun e w'' => e = .returned (.bool (noneB (k, r))) ∧ Below w'.heap.size w' w'') := hid (fun w' => isNone_any w' k r)
          have K2 := hid (fun w' => KT.out w' k r)
          have e12 : s.params.length ≤ 12 := by rw [← show pn = s.params.length from Hpn.out]; exact h12
          have HE12 := hid e12
          clear e12
          cases q1 : noneB (k, r) with
          | true =>
            rw [q1] at K1
            have Hq : Hid ((noneB s.res || typB rn s.res) = true) := hid (by rw [← show (k, r) = s.res from Hrs.out, q1]; rfl)
            go_wp2_with (go_at_call 90; (refine (Hid.out K1 _).mono ?_; rintro e w4 ⟨rfl, hb4'⟩; have hb04 : Below wo.heap.size wo w4 := hba.trans (hb4'.mono hba.size); have bx4 := (hb4'.block wo.heap.size (by simp)).trans (heap_alloc_new wo (.cells #[.string nm, .slice pa pn pc, .int .i64 k, .int .i64 r] 35)); have y1 : w4.cell? ⟨wo.heap.size, 1, none⟩ = some (.slice pa pn pc) := cellOf bx4 1; have HX4 := hid bx4; clear bx4))
            go_loopg [39] pn (fun g2 jj wr => ∃ j : Nat, j + g2 = pn ∧ jj = .int .i64 (j : Int) ∧ Below w4.heap.size w4 wr ∧ ∀ t ∈ s.params.take j, typB rn t = true)
            case atStart => exact ⟨0, by omega, rfl, Below.refl _ _, fun t ht => by simp at ht⟩
            case round =>
              obtain ⟨j, hj', rfl, hbj, hAj⟩ := hrel
              have Hj := hid hj'
              have Hbj := hid hbj
              have HAj := hid hAj
              have hb0j : Below wo.heap.size wo wr := hb04.trans (hbj.mono hb04.size)
              have bxj := (hbj.block wo.heap.size (Array.getElem?_eq_some_iff.1 HX4.out).1).trans HX4.out
              have j0 : wr.cell? ⟨wo.heap.size, 0, none⟩ = some (.string nm) := cellOf bxj 0
              have byj := (hb0j.block _ hlx).trans Hbx.out
              have HBX := hid byj
              have HB0J := hid hb0j
              clear hAj hbj bxj byj hb0j
              cases gk with
              | zero =>
                have hjn : j = pn := by omega
                clear hj'
                subst hjn
                have hrow2 := Hrow.out.below HB0J.out
                have hpall : s.params.all (typB rn) = true := by
                  rw [List.all_eq_true]; intro t ht
                  exact HAj.out t (by rw [show j = s.params.length from Hpn.out, List.take_length]; exact ht)
                have HPA := hid hpall
                clear hpall
                go_wp2_with (at_builtin; (refine wpList_append_own _ rfl _ _ 49 rfl (w.heap.size + 1) 9 i0 (.string ⟨#[]⟩) 1 16 Tryz.underlying49 hi hz0 hz1 hz2 rfl (by decide) _ _ _ rfl (hrow2.below ((Below.refl _ wr).alloc (Nat.le_refl _) _)) ⟨wr.heap.size, 0, none⟩ 1 1 [.string nm] rfl rfl (cell_one_new _ _ _) (by simp [Value.oneCell']) (by rw [List.length_map, List.length_take]; unfold maxLen; omega) (by rw [List.length_map, List.length_take]; omega) (by have h1 := Hbe.out.size; have h2 := HB0J.out.size; simp; omega) ?_; intro v3 w3 hrow3 hg3 _))
                go_roundg g
                case measure => omega
                case rel => exact ⟨i + 1, by have := Hi.out; omega, by go_num, below_app2 (by omega) (Hbe.out.trans (HB0J.out.mono Hbe.out.size)) hrow2 hg3, by
                  rw [hg3.block _ (by have h1 := HB0J.out.size; simp; omega) (fun e => by have := (hrow2.own _ e.symm).1; omega)]
                  exact (Below.heap_alloc _ _ _ (by have h1 := HB0J.out.size; omega)).trans HBX.out, by rw [take_map_snoc _ Hp.out, show s.name = nm from Hnm.out.symm]; exact NRow.snoc hrow3, take_acc Hp.out HAc.out (by unfold sigB; rw [decide_eq_true HE12.out, Hq.out, HPA.out]; rfl)⟩
              | succ g2 =>
                have hjlt : j < pn := by omega
                clear hj'
                obtain ⟨t, ht⟩ : ∃ t, s.params[j]? = some t := ⟨s.params[j]'(by rw [← show pn = s.params.length from Hpn.out]; exact hjlt), by rw [List.getElem?_eq_getElem]⟩
                obtain ⟨b3, o3, epa, t0, t1⟩ := (Hel.out.below (Nat.le_refl _) HB0J.out).pr j t ht
                have Ht := hid ht
                have c0 := cellOf HBX.out 0
                have c1 := cellOf HBX.out 1
                have c2 := cellOf HBX.out 2
                have c3 := cellOf HBX.out 3
                simp only [List.getElem?_toArray, List.getElem?_cons_zero, List.getElem?_cons_succ] at c0 c1 c2 c3
                have al : ∀ (o : Obj) (p : Addr) (v : Value), wr.cell? p = some v → (wr.alloc o).cell? p = some v := fun o p v h => (World.cell?_of_block (Below.heap_alloc _ _ _ (World.block_lt_of_cell? wr p h))).trans h
                have c0' := fun o => al o _ _ c0
                have c1' := fun o => al o _ _ c1
                have c2' := fun o => al o _ _ c2
                have c3' := fun o => al o _ _ c3
                obtain ⟨tk, tr⟩ := t
                simp only at epa
                subst epa
                simp only at t0 t1
                have hbt : Below wr.heap.size wr (wr.alloc (.cells #[.int .i64 tk, .int .i64 tr] 32)) := (Below.refl _ _).alloc (Nat.le_refl _) _
                have K3 := hid (fun w' => KT.out w' tk tr)
                clear al ht
                cases q3 : typB rn (tk, tr) with
                | false =>
                  simp only [q3] at K3
                  go_wp2_with (go_at_call 88; (refine (Hid.out K3 _).mono ?_; rintro e w6 ⟨rfl, hb6⟩))
                  go_ret
                  refine ⟨?_, Hbe.out.trans ((HB0J.out.trans ((hbt.trans (hb6.mono hbt.size)).mono HB0J.out.size)).mono Hbe.out.size)⟩
                  rw [HN.out (by
                    have : s.params.all (typB rn) = false := by
                      rw [List.all_eq_false]
                      exact ⟨_, List.mem_of_getElem? Ht.out, by simp [q3]⟩
                    unfold sigB; rw [this]; simp)]
                  rfl
                | true =>
                  simp only [q3] at K3
                  go_wp2_with (go_at_call 88; (refine (Hid.out K3 _).mono ?_; rintro e w6 ⟨rfl, hb6⟩))
                  go_roundg g2
                  case measure => omega
                  case rel => exact ⟨j + 1, by have := Hj.out; omega, by go_num, Hbj.out.trans ((hbt.trans (hb6.mono hbt.size)).mono Hbj.out.size), take_acc Ht.out HAj.out q3⟩
          | false =>
            rw [q1] at K1
            cases q2 : typB rn (k, r) with
            | false =>
              simp only [q2] at K2
              go_wp2_with (first
                | (go_at_call 90; (refine (Hid.out K1 _).mono ?_; rintro e w2 ⟨rfl, hb2⟩; have hb02 : Below wo.heap.size wo w2 := hba.trans (hb2.mono hba.size); have bx := (hb2.block wo.heap.size (by simp)).trans (heap_alloc_new wo (.cells #[.string nm, .slice pa pn pc, .int .i64 k, .int .i64 r] 35)); have y2 := cellOf bx 2; have y3 := cellOf bx 3; have by0 := (hb02.block _ hlx).trans Hbx.out; have z0 := cellOf by0 0; have z1 := cellOf by0 1; have z2 := cellOf by0 2; have z3 := cellOf by0 3; simp only [List.getElem?_toArray, List.getElem?_cons_zero, List.getElem?_cons_succ] at y2 y3 z0 z1 z2 z3; clear bx by0))
                | (go_at_call 88; (refine (Hid.out K2 _).mono ?_; rintro e w4 ⟨rfl, hb4⟩)))
              go_ret
              refine ⟨?_, Hbe.out.trans ((hb02.trans (hb4.mono hb02.size)).mono Hbe.out.size)⟩
              rw [HN.out (by unfold sigB; rw [← show (k, r) = s.res from Hrs.out, q1, q2]; simp)]
              rfl
            | true =>
              simp only [q2] at K2
              have Hq : Hid ((noneB s.res || typB rn s.res) = true) := hid (by rw [← show (k, r) = s.res from Hrs.out, q2]; simp)
              go_wp2_with (first
                | (go_at_call 90; (refine (Hid.out K1 _).mono ?_; rintro e w2 ⟨rfl, hb2⟩; have hb02 : Below wo.heap.size wo w2 := hba.trans (hb2.mono hba.size); have bx := (hb2.block wo.heap.size (by simp)).trans (heap_alloc_new wo (.cells #[.string nm, .slice pa pn pc, .int .i64 k, .int .i64 r] 35)); have y2 := cellOf bx 2; have y3 := cellOf bx 3; have by0 := (hb02.block _ hlx).trans Hbx.out; have z0 := cellOf by0 0; have z1 := cellOf by0 1; have z2 := cellOf by0 2; have z3 := cellOf by0 3; simp only [List.getElem?_toArray, List.getElem?_cons_zero, List.getElem?_cons_succ] at y2 y3 z0 z1 z2 z3; have Hbx2 := hid bx; clear bx by0))
                | (go_at_call 88; (refine (Hid.out K2 _).mono ?_; rintro e w4 ⟨rfl, hb4⟩; have hb04 : Below wo.heap.size wo w4 := hb02.trans (hb4.mono hb02.size); have bx4 := (hb4.block wo.heap.size (Array.getElem?_eq_some_iff.1 Hbx2.out).1).trans Hbx2.out; have y1 : w4.cell? ⟨wo.heap.size, 1, none⟩ = some (.slice pa pn pc) := cellOf bx4 1; have HX4 := hid bx4; clear bx4)))
              go_loopg [39] pn (fun g2 jj wr => ∃ j : Nat, j + g2 = pn ∧ jj = .int .i64 (j : Int) ∧ Below w4.heap.size w4 wr ∧ ∀ t ∈ s.params.take j, typB rn t = true)
              case atStart => exact ⟨0, by omega, rfl, Below.refl _ _, fun t ht => by simp at ht⟩
              case round =>
                obtain ⟨j, hj', rfl, hbj, hAj⟩ := hrel
                have Hj := hid hj'
                have Hbj := hid hbj
                have HAj := hid hAj
                have hb0j : Below wo.heap.size wo wr := hb04.trans (hbj.mono hb04.size)
                have bxj := (hbj.block wo.heap.size (Array.getElem?_eq_some_iff.1 HX4.out).1).trans HX4.out
                have j0 : wr.cell? ⟨wo.heap.size, 0, none⟩ = some (.string nm) := cellOf bxj 0
                have byj := (hb0j.block _ hlx).trans Hbx.out
                have HBX := hid byj
                have HB0J := hid hb0j
                clear hAj hbj bxj byj hb0j
                cases gk with
                | zero =>
                  have hjn : j = pn := by omega
                  clear hj'
                  subst hjn
                  have hrow2 := Hrow.out.below HB0J.out
                  have hpall : s.params.all (typB rn) = true := by
                    rw [List.all_eq_true]; intro t ht
                    exact HAj.out t (by rw [show j = s.params.length from Hpn.out, List.take_length]; exact ht)
                  have HPA := hid hpall
                  clear hpall
                  go_wp2_with (at_builtin; (refine wpList_append_own _ rfl _ _ 49 rfl (w.heap.size + 1) 9 i0 (.string ⟨#[]⟩) 1 16 Tryz.underlying49 hi hz0 hz1 hz2 rfl (by decide) _ _ _ rfl (hrow2.below ((Below.refl _ wr).alloc (Nat.le_refl _) _)) ⟨wr.heap.size, 0, none⟩ 1 1 [.string nm] rfl rfl (cell_one_new _ _ _) (by simp [Value.oneCell']) (by rw [List.length_map, List.length_take]; unfold maxLen; omega) (by rw [List.length_map, List.length_take]; omega) (by have h1 := Hbe.out.size; have h2 := HB0J.out.size; simp; omega) ?_; intro v3 w3 hrow3 hg3 _))
                  go_roundg g
                  case measure => omega
                  case rel => exact ⟨i + 1, by have := Hi.out; omega, by go_num, below_app2 (by omega) (Hbe.out.trans (HB0J.out.mono Hbe.out.size)) hrow2 hg3, by
                    rw [hg3.block _ (by have h1 := HB0J.out.size; simp; omega) (fun e => by have := (hrow2.own _ e.symm).1; omega)]
                    exact (Below.heap_alloc _ _ _ (by have h1 := HB0J.out.size; omega)).trans HBX.out, by rw [take_map_snoc _ Hp.out, show s.name = nm from Hnm.out.symm]; exact NRow.snoc hrow3, take_acc Hp.out HAc.out (by unfold sigB; rw [decide_eq_true HE12.out, Hq.out, HPA.out]; rfl)⟩
                | succ g2 =>
                  have hjlt : j < pn := by omega
                  clear hj'
                  obtain ⟨t, ht⟩ : ∃ t, s.params[j]? = some t := ⟨s.params[j]'(by rw [← show pn = s.params.length from Hpn.out]; exact hjlt), by rw [List.getElem?_eq_getElem]⟩
                  obtain ⟨b3, o3, epa, t0, t1⟩ := (Hel.out.below (Nat.le_refl _) HB0J.out).pr j t ht
                  have Ht := hid ht
                  have c0 := cellOf HBX.out 0
                  have c1 := cellOf HBX.out 1
                  have c2 := cellOf HBX.out 2
                  have c3 := cellOf HBX.out 3
                  simp only [List.getElem?_toArray, List.getElem?_cons_zero, List.getElem?_cons_succ] at c0 c1 c2 c3
                  have al : ∀ (o : Obj) (p : Addr) (v : Value), wr.cell? p = some v → (wr.alloc o).cell? p = some v := fun o p v h => (World.cell?_of_block (Below.heap_alloc _ _ _ (World.block_lt_of_cell? wr p h))).trans h
                  have c0' := fun o => al o _ _ c0
                  have c1' := fun o => al o _ _ c1
                  have c2' := fun o => al o _ _ c2
                  have c3' := fun o => al o _ _ c3
                  obtain ⟨tk, tr⟩ := t
                  simp only at epa
                  subst epa
                  simp only at t0 t1
                  have hbt : Below wr.heap.size wr (wr.alloc (.cells #[.int .i64 tk, .int .i64 tr] 32)) := (Below.refl _ _).alloc (Nat.le_refl _) _
                  have K3 := hid (fun w' => KT.out w' tk tr)
                  clear al ht
                  cases q3 : typB rn (tk, tr) with
                  | false =>
                    simp only [q3] at K3
                    go_wp2_with (go_at_call 88; (refine (Hid.out K3 _).mono ?_; rintro e w6 ⟨rfl, hb6⟩))
                    go_ret
                    refine ⟨?_, Hbe.out.trans ((HB0J.out.trans ((hbt.trans (hb6.mono hbt.size)).mono HB0J.out.size)).mono Hbe.out.size)⟩
                    rw [HN.out (by
                      have : s.params.all (typB rn) = false := by
                        rw [List.all_eq_false]
                        exact ⟨_, List.mem_of_getElem? Ht.out, by simp [q3]⟩
                      unfold sigB; rw [this]; simp)]
                    rfl
                  | true =>
                    simp only [q3] at K3
                    go_wp2_with (go_at_call 88; (refine (Hid.out K3 _).mono ?_; rintro e w6 ⟨rfl, hb6⟩))
                    go_roundg g2
                    case measure => omega
                    case rel => exact ⟨j + 1, by have := Hj.out; omega, by go_num, Hbj.out.trans ((hbt.trans (hb6.mono hbt.size)).mono Hbj.out.size), take_acc Ht.out HAj.out q3⟩
end Go.Proofs.YthnolocldeokeaaGreatDoor

namespace Go.Proofs.YthnolocldeokeaaGreatDoor
set_option maxRecDepth 100000
open Go.RowKit Go.Deep Go.Shelf
set_option linter.unusedVariables false
set_option linter.unusedSimpArgs false

def nothingB (ss : List Sg) : Bool := ss.all fun s => noneB s.res
set_option maxRecDepth 100000 in
set_option maxHeartbeats 1000000 in
theorem answerNothing_any (w : World) (a : Option Addr) (n cap : Nat) (gs : List (GH × Sg)) (d : GRd w a n gs) :
    Calls Tryz.prog 72 #[.slice a n cap] w fun e w' => e = .returned (.bool (nothingB (gs.map (·.2)))) ∧ Below w.heap.size w w' := by
  have D := hid d
  have hn2 := d.n2
  have Hn := hid d.n1
  obtain ⟨res, hres⟩ : ∃ res, res = nothingB (gs.map (·.2)) := ⟨_, rfl⟩
  rw [← hres]
  have Hres := hid hres
  clear d hres
  go_enter Tryz.func72, Tryz.ntmps72
  go_wp2
  go_loopg [7] n (fun g ii wr => ∃ i : Nat, i + g = n ∧ ii = .int .i64 (i : Int) ∧ Below w.heap.size w wr ∧ ∀ p ∈ gs.take i, noneB p.2.res = true)
  case atStart => exact ⟨0, by omega, rfl, Below.refl _ _, fun p hp => by simp at hp⟩
  case round =>
    obtain ⟨i, hi', rfl, hbe, hAc⟩ := hrel
    have Hi := hid hi'
    have Hbe := hid hbe
    have HAc := hid hAc
    clear hAc hbe
    cases gk with
    | zero =>
      have hin : i = n := by omega
      clear hi'
      subst hin
      have hval : res = true := by
        rw [Hres.out]; unfold nothingB
        rw [List.all_eq_true]; intro r hr
        rw [List.mem_map] at hr
        obtain ⟨p, hp, rfl⟩ := hr
        exact HAc.out p (by rw [Hn.out, List.take_length]; exact hp)
      have Hval := hid hval
      clear hval
      go_wp2
      go_ret
      exact ⟨by rw [Hval.out]; rfl, Hbe.out⟩
    | succ g =>
      have hlt : i < n := by omega
      clear hi'
      obtain ⟨p, hp⟩ : ∃ p, gs[i]? = some p := ⟨gs[i]'(by rw [← Hn.out]; exact hlt), by rw [List.getElem?_eq_getElem]⟩
      have DW := D.out.below (Nat.le_refl _) Hbe.out
      have el := DW.el p (List.mem_of_getElem? hp)
      obtain ⟨b1, o1, rfl, hb1, e1⟩ := DW.rd i p.1.cs (by simp [hp])
      have x0 := e1 0 (by omega)
      have x1 := e1 1 (by omega)
      have x2 := e1 2 (by omega)
      have x3 := e1 3 (by omega)
      have Hp := hid hp
      have Hrs := hid el.rs
      clear e1 DW el hp hb1
      obtain ⟨h, s⟩ := p
      obtain ⟨nm, pa, pn, pc, k, r⟩ := h
      simp only [GH.cs, List.getElem?_cons_zero, List.getElem?_cons_succ, Nat.add_zero] at x0 x1 x2 x3
      have hba : Below wr.heap.size wr (wr.alloc (.cells #[.string nm, .slice pa pn pc, .int .i64 k, .int .i64 r] 35)) := (Below.refl _ _).alloc (Nat.le_refl _) _
      have K1 : Hid (∀ w' : World, Calls Tryz.prog 90 #[.agg #[.int .i64 k, .int .i64 r]] w' fun e w'' => e = .returned (.bool (noneB (k, r))) ∧ Below w'.heap.size w' w'') := hid (fun w' => isNone_any w' k r)
      cases q1 : noneB (k, r) with
      | false =>
        rw [q1] at K1
        go_wp2_with (go_at_call 90; (refine (Hid.out K1 _).mono ?_; rintro e w4 ⟨rfl, hb4⟩))
        go_ret
        have : res = false := by
          rw [Hres.out]; unfold nothingB; rw [List.all_eq_false]
          exact ⟨s, by rw [List.mem_map]; exact ⟨_, List.mem_of_getElem? Hp.out, rfl⟩, by rw [← show (k, r) = s.res from Hrs.out, q1]; simp⟩
        exact ⟨by rw [this]; rfl, Hbe.out.trans ((hba.trans (hb4.mono hba.size)).mono Hbe.out.size)⟩
      | true =>
        rw [q1] at K1
        go_wp2_with (go_at_call 90; (refine (Hid.out K1 _).mono ?_; rintro e w4 ⟨rfl, hb4⟩))
        go_roundg g
        case measure => omega
        case rel => exact ⟨i + 1, by have := Hi.out; omega, by go_num, Hbe.out.trans ((hba.trans (hb4.mono hba.size)).mono Hbe.out.size), take_acc Hp.out HAc.out (by rw [← show (k, r) = s.res from Hrs.out, q1])⟩

structure Pg where
  recs : List (RH × Rc)
  maps : List Mp
  funcs : List (GH × Sg)
  events : List (GH × Sg)
structure PRd (w : World) (h : PH) (p : Pg) : Prop where
  r : RRd w h.ra h.rn p.recs
  m : MRd w h.ma h.mn p.maps
  f : GRd w h.fa h.fn p.funcs
  e : GRd w h.ea h.en p.events
theorem PRd.below {w w' : World} {h : PH} {p : Pg} {B : Nat} (d : PRd w h p) (hB : w.heap.size ≤ B) (k : Below B w w') : PRd w' h p := ⟨d.r.below hB k, d.m.below hB k, d.f.below hB k, d.e.below hB k⟩
def Pg.rn (p : Pg) : Nat := p.recs.length
def rightB (p : Pg) : Bool := recordsB (p.recs.map (·.2)) && mapsB p.rn p.maps && sigsB p.rn (p.funcs.map (·.2)) && sigsB p.rn (p.events.map (·.2)) && nothingB (p.events.map (·.2))

set_option maxRecDepth 100000 in
set_option maxHeartbeats 1000000 in
theorem right_any (w : World) (h : PH) (p : Pg) (d : PRd w h p) : Calls Tryz.prog 45 #[h.v] w fun e w' => e = .returned (.bool (rightB p)) ∧ Below w.heap.size w w' := by
  have hrn := d.r.n2
  have e0 : h.rn = p.rn := d.r.n1
  have K1 := hid (fun w1 (hb : Below w.heap.size w w1) => rightRecords_any w1 h.ra h.rn h.rc p.recs (d.r.below (Nat.le_refl _) hb))
  have K2 := hid (fun w1 (hb : Below w.heap.size w w1) => rightMaps_any w1 h p.maps (d.m.below (Nat.le_refl _) hb) hrn)
  have K3 := hid (fun w1 (hb : Below w.heap.size w w1) => rightSigs_any w1 h h.fa h.fn h.fc p.funcs (d.f.below (Nat.le_refl _) hb) hrn)
  have K4 := hid (fun w1 (hb : Below w.heap.size w w1) => rightSigs_any w1 h h.ea h.en h.ec p.events (d.e.below (Nat.le_refl _) hb) hrn)
  have K5 := hid (fun w1 (hb : Below w.heap.size w w1) => answerNothing_any w1 h.ea h.en h.ec p.events (d.e.below (Nat.le_refl _) hb))
  rw [e0] at K2 K3 K4
  unfold rightB
  clear e0 hrn d
  generalize recordsB (p.recs.map (·.2)) = r1 at *
  generalize mapsB p.rn p.maps = r2 at *
  generalize sigsB p.rn (p.funcs.map (·.2)) = r3 at *
  generalize sigsB p.rn (p.events.map (·.2)) = r4 at *
  generalize nothingB (p.events.map (·.2)) = r5 at *
  obtain ⟨ra, rn, rc, ma, mn, mc, fa, fn, fc, ea, en, ec⟩ := h
  simp only [PH.v] at K1 K2 K3 K4 K5 ⊢
  obtain ⟨W0, hW0⟩ : ∃ W0, W0 = w.alloc (.cells #[.slice ra rn rc, .slice ma mn mc, .slice fa fn fc, .slice ea en ec] 40) := ⟨_, rfl⟩
  have hb0 : Below w.heap.size w W0 := by rw [hW0]; exact (Below.refl _ _).alloc (Nat.le_refl _) _
  have bx0 : W0.heap[w.heap.size]? = some (.cells #[.slice ra rn rc, .slice ma mn mc, .slice fa fn fc, .slice ea en ec] 40 (0, 0)) := by rw [hW0]; exact heap_alloc_new w _
  have HB := hid hb0
  have HX := hid bx0
  have FX : Hid (∀ w2 : World, Below W0.heap.size W0 w2 → w2.cell? ⟨w.heap.size, 0, none⟩ = some (.slice ra rn rc) ∧ w2.cell? ⟨w.heap.size, 1, none⟩ = some (.slice ma mn mc) ∧ w2.cell? ⟨w.heap.size, 2, none⟩ = some (.slice fa fn fc) ∧ w2.cell? ⟨w.heap.size, 3, none⟩ = some (.slice ea en ec) ∧ Below w.heap.size w w2) := hid (fun w2 hb => by
    have bx := (hb.block _ (Array.getElem?_eq_some_iff.1 bx0).1).trans bx0
    exact ⟨cellOf bx 0, cellOf bx 1, cellOf bx 2, cellOf bx 3, hb0.trans (hb.mono hb0.size)⟩)
  have TR : Hid (∀ {x y : World}, Below W0.heap.size W0 x → Below x.heap.size x y → Below W0.heap.size W0 y) := hid (fun h1 h2 => h1.trans (h2.mono h1.size))
  clear bx0 hb0
  cases r1 with
  | false =>
    go_enter Tryz.func45, Tryz.ntmps45
    go_wp2_with (go_at_call 69; (rw [← hW0]; refine (Hid.out K1 _ HB.out).mono ?_; rintro e w1 ⟨rfl, hb1⟩))
    go_ret
    exact ⟨rfl, HB.out.trans (hb1.mono HB.out.size)⟩
  | true =>
    cases r2 with
    | false =>
      go_enter Tryz.func45, Tryz.ntmps45
      go_wp2_with (first
        | (go_at_call 69; (rw [← hW0]; refine (Hid.out K1 _ HB.out).mono ?_; rintro e w1 ⟨rfl, hb1⟩; obtain ⟨p0, p1, p2, p3, pb⟩ := FX.out w1 hb1))
        | (go_at_call 70; (refine (Hid.out K2 _ pb).mono ?_; rintro e w2 ⟨rfl, hb2⟩)))
      go_ret
      exact ⟨rfl, pb.trans (hb2.mono pb.size)⟩
    | true =>
      cases r3 with
      | false =>
        go_enter Tryz.func45, Tryz.ntmps45
        go_wp2_with (first
          | (go_at_call 69; (rw [← hW0]; refine (Hid.out K1 _ HB.out).mono ?_; rintro e w1 ⟨rfl, hb1⟩; obtain ⟨p0, p1, p2, p3, pb⟩ := FX.out w1 hb1))
          | (go_at_call 70; (refine (Hid.out K2 _ pb).mono ?_; rintro e w2 ⟨rfl, hb2⟩; have hb02 := TR.out hb1 hb2; obtain ⟨q0, q1, q2, q3, qb⟩ := FX.out w2 hb02))
          | (go_at_call 71; (refine (Hid.out K3 _ qb).mono ?_; rintro e w3 ⟨rfl, hb3⟩)))
        go_ret
        exact ⟨rfl, qb.trans (hb3.mono qb.size)⟩
      | true =>
        cases r4 with
        | false =>
          go_enter Tryz.func45, Tryz.ntmps45
          go_wp2_with (first
            | (go_at_call 69; (rw [← hW0]; refine (Hid.out K1 _ HB.out).mono ?_; rintro e w1 ⟨rfl, hb1⟩; obtain ⟨p0, p1, p2, p3, pb⟩ := FX.out w1 hb1))
            | (go_at_call 70; (refine (Hid.out K2 _ pb).mono ?_; rintro e w2 ⟨rfl, hb2⟩; have hb02 := TR.out hb1 hb2; obtain ⟨q0, q1, q2, q3, qb⟩ := FX.out w2 hb02))
            | (go_at_call 71; (have hno := s0; refine (Hid.out K4 _ sb).mono ?_; rintro e w4 ⟨rfl, hb4⟩))
            | (go_at_call 71; (refine (Hid.out K3 _ qb).mono ?_; rintro e w3 ⟨rfl, hb3⟩; have hb03 := TR.out hb02 hb3; obtain ⟨s0, s1, s2, s3, sb⟩ := FX.out w3 hb03)))
          go_ret
          exact ⟨rfl, sb.trans (hb4.mono sb.size)⟩
        | true =>
          go_enter Tryz.func45, Tryz.ntmps45
          go_wp2_with (first
            | (go_at_call 69; (rw [← hW0]; refine (Hid.out K1 _ HB.out).mono ?_; rintro e w1 ⟨rfl, hb1⟩; obtain ⟨p0, p1, p2, p3, pb⟩ := FX.out w1 hb1))
            | (go_at_call 70; (refine (Hid.out K2 _ pb).mono ?_; rintro e w2 ⟨rfl, hb2⟩; have hb02 := TR.out hb1 hb2; obtain ⟨q0, q1, q2, q3, qb⟩ := FX.out w2 hb02))
            | (go_at_call 71; (have hno := s0; refine (Hid.out K4 _ sb).mono ?_; rintro e w4 ⟨rfl, hb4⟩; have hb04 := TR.out hb03 hb4; obtain ⟨t0, t1, t2, t3, tb⟩ := FX.out w4 hb04))
            | (go_at_call 71; (refine (Hid.out K3 _ qb).mono ?_; rintro e w3 ⟨rfl, hb3⟩; have hb03 := TR.out hb02 hb3; obtain ⟨s0, s1, s2, s3, sb⟩ := FX.out w3 hb03))
            | (go_at_call 72; (refine (Hid.out K5 _ tb).mono ?_; rintro e w5 ⟨rfl, hb5⟩)))
          go_ret
          exact ⟨rfl, tb.trans (hb5.mono tb.size)⟩
end Go.Proofs.YthnolocldeokeaaGreatDoor

namespace Go.Proofs.YthnolocldeokeaaGreatDoor
set_option maxRecDepth 100000
open Go.RowKit Go.Deep Go.Shelf
set_option linter.unusedVariables false
set_option linter.unusedSimpArgs false

theorem heap_set_at {w : World} {b : Nat} {c : Array Value} {e : TypeId} {f : Nat × Nat} (h : w.heap[b]? = some (.cells c e f)) (i : Nat) (u : Value) :
    (w.setCell ⟨b, i, none⟩ u).heap[b]? = some (.cells (c.setIfInBounds i u) e f) := by
  simp [World.setCell, Array.getElem?_modify, h]
theorem belowCell {w w' : World} {B b o : Nat} {v : Value} (h : w.cell? ⟨b, o, none⟩ = some v) (hB : w.heap.size ≤ B) (k : Below B w w') : w'.cell? ⟨b, o, none⟩ = some v := by
  have hb : b < w.heap.size := World.block_lt_of_cell? w _ h
  exact (k.cell (p := ⟨b, o, none⟩) (by show b < B; omega)).trans h
theorem lt_of_heap {w : World} {b : Nat} {o : Obj} (h : w.heap[b]? = some o) : b < w.heap.size := (Array.getElem?_eq_some_iff.1 h).1

def iv (xs : List Int) : List Value := xs.map fun x => .int .i64 x
structure GRow (w : World) (B : Nat) (a : Option Addr) (n cap : Nat) (xs : List Int) : Prop where
  n1 : n = xs.length
  nc : n ≤ cap
  at' : ∀ x : Addr, a = some x → ∃ g, x = ⟨g, 0, none⟩ ∧ B ≤ g ∧ g < w.heap.size
  ct : 0 < cap → ∃ g cur, a = some ⟨g, 0, none⟩ ∧ w.heap[g]? = some (.cells cur 3 (0, 0)) ∧ cap ≤ cur.size ∧ cur.toList.take n = iv xs
theorem GRow.nil (w : World) (B : Nat) : GRow w B none 0 0 [] := ⟨rfl, Nat.le_refl _, fun x e => (by cases e), fun h => (by omega)⟩
theorem GRow.keep {w w' : World} {B : Nat} {a : Option Addr} {n cap : Nat} {xs : List Int} (h : GRow w B a n cap xs) (hs : w.heap.size ≤ w'.heap.size) (e : ∀ x : Addr, a = some x → w'.heap[x.block]? = w.heap[x.block]?) : GRow w' B a n cap xs := by
  refine ⟨h.n1, h.nc, fun x ex => ?_, fun hc => ?_⟩
  · obtain ⟨g, h1, h2, h3⟩ := h.at' x ex
    exact ⟨g, h1, h2, by omega⟩
  · obtain ⟨g, cur, rfl, h2, h3⟩ := h.ct hc
    exact ⟨g, cur, rfl, (e _ rfl).trans h2, h3⟩
theorem GRow.below {w w' : World} {B C : Nat} {a : Option Addr} {n cap : Nat} {xs : List Int} (h : GRow w B a n cap xs) (hC : w.heap.size ≤ C) (hb : Below C w w') : GRow w' B a n cap xs :=
  h.keep hb.size (fun x ex => by
    obtain ⟨g, rfl, h2, h3⟩ := h.at' x ex
    exact hb.block _ (by show g < C; omega))
theorem GRow.cell {w : World} {B : Nat} {a : Option Addr} {n cap : Nat} {xs : List Int} (h : GRow w B a n cap xs) {j : Nat} {x : Int} (hj : xs[j]? = some x) : ∃ g, a = some ⟨g, 0, none⟩ ∧ B ≤ g ∧ w.cell? ⟨g, j, none⟩ = some (.int .i64 x) ∧ w.frozen? ⟨g, j, none⟩ = false := by
  have hlt := (List.getElem?_eq_some_iff.1 hj).1
  have hc : 0 < cap := by have := h.n1; have := h.nc; omega
  obtain ⟨g, cur, rfl, h2, h3, h4⟩ := h.ct hc
  obtain ⟨g', e, hB, _⟩ := h.at' _ rfl
  cases e
  refine ⟨g, rfl, hB, ?_, freeOf h2 j⟩
  rw [cellOf h2 j]
  have h5 : (iv xs)[j]? = some (.int .i64 x) := by unfold iv; rw [List.getElem?_map, hj]; rfl
  rw [← h5, ← h4, List.getElem?_take, if_pos (by have := h.n1; omega)]
  simp
theorem GRow.set {w : World} {B : Nat} {n cap : Nat} {xs : List Int} {g : Nat} (h : GRow w B (some ⟨g, 0, none⟩) n cap xs) (j : Nat) (hj : j < n) (v : Int) : GRow (w.setCell ⟨g, j, none⟩ (.int .i64 v)) B (some ⟨g, 0, none⟩) n cap (xs.set j v) := by
  refine ⟨by rw [List.length_set]; exact h.n1, h.nc, fun x ex => ?_, fun hc => ?_⟩
  · obtain ⟨g', h1, h2, h3⟩ := h.at' x ex
    exact ⟨g', h1, h2, by simp [World.setCell]; omega⟩
  · obtain ⟨g', cur, e, h2, h3, h4⟩ := h.ct hc
    cases e
    refine ⟨g, _, rfl, heap_set_at h2 j (.int .i64 v), by simpa using h3, ?_⟩
    rw [Array.toList_setIfInBounds, List.take_set, h4]
    unfold iv
    rw [List.map_set]
theorem GRow.cells {w : World} {B : Nat} {ad : Addr} {n cap : Nat} {xs : List Int} (h : GRow w B (some ad) n cap xs) (d : Nat) : ∀ j u, (iv (xs.drop d))[j]? = some u → w.cell? ((ad.add d).add j) = some u := by
  intro j u hu
  unfold iv at hu
  rw [List.getElem?_map, Option.map_eq_some_iff] at hu
  obtain ⟨x, hx, rfl⟩ := hu
  rw [List.getElem?_drop] at hx
  obtain ⟨g, e, _, hc, _⟩ := h.cell hx
  cases e
  rw [Addr.add_lit, Addr.add_lit, Nat.zero_add]
  exact hc
/- What append leaves: a row, in place or new. -/
def Gwn (w : World) (a : Option Addr) (w' : World) (a' : Option Addr) : Prop := (∃ row, w.grownBy w' row ∧ ∀ b, row = some b → ∃ x : Addr, a = some x ∧ x.block = b) ∧ (a' = a ∨ ∃ g, a' = some ⟨g, 0, none⟩ ∧ w.heap.size ≤ g)
end Go.Proofs.YthnolocldeokeaaGreatDoor

namespace Go.Proofs.YthnolocldeokeaaGreatDoor
set_option maxRecDepth 100000
open Go.RowKit Go.Deep Go.Shelf
set_option linter.unusedVariables false
set_option linter.unusedSimpArgs false
structure Opx where
  c : Int
  d : Int
  a : Int
  b : Int
  k : Int
def Opx.cs (o : Opx) : Array Value := #[.int .i64 o.c, .int .i64 o.d, .int .i64 o.a, .int .i64 o.b, .int .i64 o.k]
def ORd (w : World) (a : Option Addr) (l : List Opx) : Prop := ∀ (j : Nat) (x : Opx), l[j]? = some x → ∃ b off, a = some ⟨b, off, none⟩ ∧ ∀ i, i < 5 → w.cell? ⟨b, off + j * 5 + i, none⟩ = x.cs[i]?
theorem ORd.below {w w' : World} {a : Option Addr} {l : List Opx} (h : ORd w a l) (k : Below w.heap.size w w') : ORd w' a l := fun j x hx => by
  obtain ⟨b, off, e, hc⟩ := h j x hx
  refine ⟨b, off, e, fun i hi => ?_⟩
  obtain ⟨v, hv⟩ : ∃ v, x.cs[i]? = some v := by
    rcases (show i = 0 ∨ i = 1 ∨ i = 2 ∨ i = 3 ∨ i = 4 by omega) with rfl | rfl | rfl | rfl | rfl <;> exact ⟨_, rfl⟩
  have := hc i hi
  rw [hv] at this ⊢
  exact belowCell this (Nat.le_refl _) k
/- Numbers that a slice reads. -/
def IRd (w : World) (a : Option Addr) (l : List Int) : Prop := ∀ (j : Nat) (x : Int), l[j]? = some x → ∃ b off, a = some ⟨b, off, none⟩ ∧ w.cell? ⟨b, off + j, none⟩ = some (.int .i64 x)
theorem GRow.ird {w : World} {B : Nat} {a : Option Addr} {n cap : Nat} {xs : List Int} (h : GRow w B a n cap xs) : IRd w a xs := fun j x hx => by
  obtain ⟨g, e, _, hc, _⟩ := h.cell hx
  exact ⟨g, 0, e, by rw [Nat.zero_add]; exact hc⟩
theorem IRd.below {w w' : World} {a : Option Addr} {l : List Int} (h : IRd w a l) (k : Below w.heap.size w w') : IRd w' a l := fun j x hx => by
  obtain ⟨b, off, e, hc⟩ := h j x hx
  exact ⟨b, off, e, belowCell hc (Nat.le_refl _) k⟩
end Go.Proofs.YthnolocldeokeaaGreatDoor

namespace Go.Proofs.YthnolocldeokeaaGreatDoor
open Go.RowKit Go.Deep Go.Shelf
set_option linter.unusedVariables false
set_option linter.unusedSimpArgs false
structure Shp where
  nm : ByteArray
  d : Int
  a : Int
  b : Int
  k : Int
def Shp.cs (s : Shp) : List Value := [.string s.nm, .int .u8 s.d, .int .u8 s.a, .int .u8 s.b, .int .u8 s.k]
def shp0 : Shp := ⟨.empty, 0, 0, 0, 0⟩
def shpL : List Shp := [shp0, ⟨⟨#[105, 110, 116]⟩, 1, 0, 0, 6⟩, ⟨⟨#[116, 101, 120, 116]⟩, 1, 0, 0, 7⟩, ⟨⟨#[98, 111, 111, 108]⟩, 1, 0, 0, 8⟩, ⟨⟨#[109, 111, 118, 101]⟩, 1, 3, 0, 0⟩, ⟨⟨#[97, 100, 100]⟩, 1, 3, 3, 0⟩, ⟨⟨#[115, 117, 98]⟩, 1, 3, 3, 0⟩, ⟨⟨#[109, 117, 108]⟩, 1, 3, 3, 0⟩, ⟨⟨#[119, 97, 100, 100]⟩, 1, 3, 3, 0⟩, ⟨⟨#[119, 115, 117, 98]⟩, 1, 3, 3, 0⟩, ⟨⟨#[119, 109, 117, 108]⟩, 1, 3, 3, 0⟩, ⟨⟨#[100, 105, 118]⟩, 1, 3, 3, 0⟩, ⟨⟨#[109, 111, 100]⟩, 1, 3, 3, 0⟩, ⟨⟨#[99, 97, 116]⟩, 1, 3, 3, 0⟩, ⟨⟨#[101, 113]⟩, 1, 3, 3, 0⟩, ⟨⟨#[110, 101]⟩, 1, 3, 3, 0⟩, ⟨⟨#[108, 116]⟩, 1, 3, 3, 0⟩, ⟨⟨#[108, 101]⟩, 1, 3, 3, 0⟩, ⟨⟨#[103, 116]⟩, 1, 3, 3, 0⟩, ⟨⟨#[103, 101]⟩, 1, 3, 3, 0⟩, ⟨⟨#[110, 101, 103]⟩, 1, 3, 0, 0⟩, ⟨⟨#[110, 111, 116]⟩, 1, 3, 0, 0⟩, ⟨⟨#[108, 101, 110]⟩, 1, 3, 0, 0⟩, ⟨⟨#[115, 116, 114]⟩, 1, 3, 0, 0⟩, ⟨⟨#[109, 97, 107, 101]⟩, 1, 5, 0, 9⟩, ⟨⟨#[102, 105, 101, 108, 100]⟩, 1, 3, 0, 10⟩, ⟨⟨#[103, 101, 116]⟩, 1, 3, 0, 11⟩, ⟨⟨#[104, 97, 115]⟩, 1, 3, 0, 11⟩, ⟨⟨#[112, 117, 116]⟩, 0, 3, 3, 11⟩, ⟨⟨#[100, 101, 108]⟩, 0, 3, 0, 11⟩, ⟨⟨#[110, 101, 120, 116]⟩, 1, 3, 3, 11⟩, ⟨⟨#[99, 97, 108, 108]⟩, 2, 5, 0, 12⟩, ⟨⟨#[97, 115, 107]⟩, 1, 3, 0, 7⟩, ⟨⟨#[101, 109, 105, 116]⟩, 0, 3, 0, 0⟩, ⟨⟨#[97, 102, 116, 101, 114]⟩, 0, 3, 5, 13⟩, ⟨⟨#[99, 104, 97, 114, 103, 101]⟩, 0, 0, 0, 0⟩, ⟨⟨#[101, 110, 116, 101, 114]⟩, 0, 0, 0, 0⟩, ⟨⟨#[108, 101, 97, 118, 101]⟩, 0, 0, 0, 0⟩, ⟨⟨#[106, 117, 109, 112]⟩, 0, 0, 0, 14⟩, ⟨⟨#[117, 110, 108, 101, 115, 115]⟩, 0, 3, 0, 14⟩, ⟨⟨#[114, 101, 116]⟩, 0, 4, 0, 0⟩]
def shpAt (k : Int) : Shp := shpL.getD k.toNat shp0
def isC (k : Int) : Bool := decide (1 ≤ k) && decide (k < 41)
def shpC : Array Value := (shpL.flatMap Shp.cs).toArray
theorem shpC_len : shpL.length = 41 := by rfl
theorem flat_get : ∀ (l : List Shp) (j : Nat) (s : Shp), l[j]? = some s → ∀ i, i < 5 → (l.flatMap Shp.cs)[j * 5 + i]? = s.cs[i]?
  | [], j, s, h => by simp at h
  | p :: l, 0, s, h => fun i hi => by
    simp at h; subst h
    rw [List.flatMap_cons, Nat.zero_mul, Nat.zero_add, List.getElem?_append_left (by show i < 5; exact hi)]
  | p :: l, j + 1, s, h => fun i hi => by
    have h1 : l[j]? = some s := by simpa using h
    have h2 := flat_get l j s h1 i hi
    rw [List.flatMap_cons, List.getElem?_append_right (by show 5 ≤ (j + 1) * 5 + i; omega)]
    have : (j + 1) * 5 + i - p.cs.length = j * 5 + i := by show (j + 1) * 5 + i - 5 = _; omega
    rw [this]; exact h2
theorem shp_get {k : Nat} (hk : k < 41) : shpL[k]? = some (shpAt (k : Int)) := by
  unfold shpAt
  rw [Int.toNat_natCast, List.getD_eq_getElem?_getD, List.getElem?_eq_getElem (show k < shpL.length by rw [shpC_len]; exact hk)]
  rfl
def blw (n c : Int) : Bool := decide (0 ≤ n) && decide (n < c)
set_option maxRecDepth 100000 in
theorem isBelow_any (w : World) (n c : Int) : Calls Tryz.prog 49 #[.int .i64 n, .int .i64 c] w fun e w' => e = .returned (.bool (blw n c)) ∧ w' = w := by
  by_cases h1 : 0 ≤ n
  · by_cases h2 : n < c
    · have HD : Hid (blw n c = true) := hid (by simp [blw, h1, h2])
      go_enter Tryz.func49, Tryz.ntmps49
      go_wp2
      go_ret
      exact ⟨by rw [HD.out]; rfl, rfl⟩
    · have HD : Hid (blw n c = false) := hid (by simp [blw, h2])
      go_enter Tryz.func49, Tryz.ntmps49
      go_wp2
      go_ret
      exact ⟨by rw [HD.out]; rfl, rfl⟩
  · have HD : Hid (blw n c = false) := hid (by simp [blw, h1])
    go_enter Tryz.func49, Tryz.ntmps49
    go_wp2
    go_ret
    exact ⟨by rw [HD.out]; rfl, rfl⟩
/- The pure side. -/
def rc0 : Rc := ⟨.empty, [], []⟩
def parmB (ss : List Sg) (k : Int) : Int × Bool := if blw k (ss.length : Int) = true then (((ss.getD k.toNat ⟨.empty, [], (0, 0)⟩).params.length : Int), true) else (0, false)
def rowLen (r : Int) (p : Pg) (k : Int) : Int × Bool :=
  if r = 9 then (if blw k (p.recs.length : Int) = true then ((((p.recs.map (·.2)).getD k.toNat rc0).fields.length : Int), true) else (0, false))
  else if r = 11 then (0, blw k (p.maps.length : Int))
  else if r = 12 then parmB (p.funcs.map (·.2)) k
  else if r = 13 then parmB (p.events.map (·.2)) k
  else (0, true)
structure Fx where
  regs : Int
  ops : List Opx
structure Cx where
  p : Pg
  ints : Nat
  texts : List ByteArray
  funcs : List Fx
  events : List Fx
def bnd (c : Cx) (regs : Int) (nops : Nat) (r len : Int) : Int × Int :=
  if r = 1 ∨ r = 3 then (0, regs - 1)
  else if r = 2 ∨ r = 4 then (-1, regs - 1)
  else if r = 5 then (0, regs - len)
  else if r = 6 then (0, (c.ints : Int) - 1)
  else if r = 7 then (0, (c.texts.length : Int) - 1)
  else if r = 8 then (0, 1)
  else if r = 9 then (0, (c.p.recs.length : Int) - 1)
  else if r = 10 then (0, 11)
  else if r = 11 then (0, (c.p.maps.length : Int) - 1)
  else if r = 12 then (0, (c.p.funcs.length : Int) - 1)
  else if r = 13 then (0, (c.p.events.length : Int) - 1)
  else if r = 14 then (0, (nops : Int) - 1)
  else (0, 0)
def inB (b : Int × Int) (n : Int) : Bool := !(decide (n < b.1) || decide (b.2 < n))
def isOpB (c : Cx) (regs : Int) (nops : Nat) (o : Opx) : Bool :=
  isC o.c && (let s := shpAt o.c; let len := (rowLen s.k c.p o.k).1
    inB (bnd c regs nops s.d len) o.d && inB (bnd c regs nops s.a len) o.a && inB (bnd c regs nops s.b len) o.b && inB (bnd c regs nops s.k len) o.k)
def isFnB (c : Cx) (params : Nat) (f : Fx) : Bool := !(decide (f.regs < (params : Int)) || decide (64 < f.regs) || decide (f.ops.length < 1) || decide (2000 < f.ops.length)) && f.ops.all (isOpB c f.regs f.ops.length)
def isFnsB (c : Cx) (ss : List Sg) (fs : List Fx) : Bool := (ss.zip fs).all fun x => isFnB c x.1.params.length x.2
def constB (c : Cx) : Bool := decide (c.ints ≤ 1000) && decide (c.texts.length ≤ 1000) && c.texts.all fun t => decide (t.size ≤ 64)
def isB (c : Cx) : Bool := rightB c.p && constB c && decide (c.funcs.length = c.p.funcs.length) && decide (c.events.length = c.p.events.length) && isFnsB c (c.p.funcs.map (·.2)) c.funcs && isFnsB c (c.p.events.map (·.2)) c.events
end Go.Proofs.YthnolocldeokeaaGreatDoor

namespace Go.Proofs.YthnolocldeokeaaGreatDoor
open Go.RowKit Go.Deep Go.Shelf
set_option linter.unusedVariables false
set_option linter.unusedSimpArgs false
def fl (s : Shp) (o : Opx) (i : Fin 4) : Int × Int := match i with
  | 0 => (s.d, o.d)
  | 1 => (s.a, o.a)
  | 2 => (s.b, o.b)
  | 3 => (s.k, o.k)
def encS (s : Shp) (o : Opx) (i : Fin 4) : Array Value := #[.int .u8 (fl s o i).1, .int .i64 (fl s o i).2]
def fourL : List (Fin 4) := [0, 1, 2, 3]
/- The two boxes stay. -/
def K2 (X : Nat) (W W' : World) : Prop := W'.heap[X]? = W.heap[X]? ∧ W'.heap[X + 1]? = W.heap[X + 1]?
theorem K2_t {X : Nat} {A B C : World} (h : K2 X A B) (k : K2 X B C) : K2 X A C := ⟨k.1.trans h.1, k.2.trans h.2⟩
theorem K2_b {X : Nat} {w : World} (hB : X + 1 < w.heap.size) (W : World) (l : Nat) (o o' : Obj) (hl : w.heap.size ≤ l) (h : W.heap[l]? = some o) (hc : o.isCells = false) (hw : o.isWalk = false) : K2 X W (W.putObj l o') :=
  ⟨(grownBy_putObj' W l o').block X (by have := (Array.getElem?_eq_some_iff.1 h).1; omega) (fun e => by cases e; omega), (grownBy_putObj' W l o').block (X + 1) (by have := (Array.getElem?_eq_some_iff.1 h).1; omega) (fun e => by cases e; omega)⟩
theorem K2_of {X : Nat} {W W' : World} (h : Below W.heap.size W W') (hB : X + 1 < W.heap.size) : K2 X W W' := ⟨h.block X (by omega), h.block _ hB⟩
set_option maxRecDepth 100000 in
theorem fields_in (F : Fence) (n : Nat) (h26 : F.fn 17) (hro : F.round = none) (s : Shp) (o : Opx) (w : World) : CallsIn F n Tryz.prog 17 #[.agg s.cs.toArray, .agg o.cs] w fun e w' => e = .returned (.func (.func 51) #[] #[.pointer (some ⟨w.heap.size, 0, none⟩), .pointer (some ⟨w.heap.size + 1, 0, none⟩)]) ∧ w' = (w.alloc (.cells s.cs.toArray 63)).alloc (.cells o.cs 23) := by
  obtain ⟨nm, sd, sa, sb, sk⟩ := s
  obtain ⟨oc, od, oa, ob, ok⟩ := o
  simp only [Shp.cs, Opx.cs]
  refine callsIn_of_wp Tryz.func17 rfl h26 ?_ hro
  simp only [Tryz.ntmps17, List.size_toArray, List.length_cons, List.length_nil, Nat.reduceAdd, Nat.reduceSub, Array.replicate_succ, Array.replicate_zero, List.push_toArray, List.append_toArray, List.nil_append, List.cons_append]
  gi_wp2
  refine bodyPost_ret (v := .func (.func 51) #[] #[.pointer (some ⟨w.heap.size, 0, none⟩), .pointer (some ⟨w.heap.size + 1, 0, none⟩)]) (by simp [results, Tryz.results17, go_sem]) rfl ⟨rfl, rfl⟩
theorem yield_bool {α : Type} {F : Fence} {n l : Nat} {J Jx : List α → World → Prop} {encs : α → Array Value} {Kp : World → World → Prop} {W : World} {pre : List α} {x : α}
    (h : YieldAt F n Tryz.prog l (encs x) W fun e W' => (e = .returned (.bool true) ∧ J (pre ++ [x]) W' ∧ Kp W W') ∨ (e = .returned (.bool false) ∧ Jx (pre ++ [x]) W')) :
    YieldAt F n Tryz.prog l (encs x) W fun e W' => ∃ b : Bool, e = .returned (.bool b) ∧ ((b = true → J (pre ++ [x]) W' ∧ Kp W W') ∧ (b = false → Jx (pre ++ [x]) W')) := by
  obtain ⟨fn', tmps, assign, body, hy, hRd⟩ := h
  refine ⟨fn', tmps, assign, body, hy, hRd.mono ?_⟩
  rintro e W' (⟨rfl, h1, h2⟩ | ⟨rfl, h1⟩)
  · exact ⟨true, rfl, ⟨fun _ => ⟨h1, h2⟩, fun h => (by cases h)⟩⟩
  · exact ⟨false, rfl, ⟨fun h => (by cases h), fun _ => h1⟩⟩
set_option maxRecDepth 100000 in
set_option maxHeartbeats 1000000 in
theorem fields_stops (s : Shp) (o : Opx) (X n : Nat) (hn : 1 ≤ n) (w : World) (hs : w.heap[X]? = some (.cells s.cs.toArray 63 (0, 0))) (ho : w.heap[X + 1]? = some (.cells o.cs 23 (0, 0))) :
    SeqStopsK Fence.wide n Tryz.prog 51 #[.pointer (some ⟨X, 0, none⟩), .pointer (some ⟨X + 1, 0, none⟩)] (encS s o) (K2 X) (fun xs => xs = fourL) (fun pre => ∃ k, pre = fourL.take k) 4 w := by
  intro l J Jx W hb hJa hJxa hY h0
  have hro : Fence.wide.round = none := rfl
  have bs : W.heap[X]? = some (.cells s.cs.toArray 63 (0, 0)) := (hb.block X (lt_of_heap hs)).trans hs
  have bo : W.heap[X + 1]? = some (.cells o.cs 23 (0, 0)) := (hb.block _ (lt_of_heap ho)).trans ho
  obtain ⟨nm, sd, sa, sb, sk⟩ := s
  obtain ⟨oc, od, oa, ob, ok⟩ := o
  have CB : Hid (∀ V : World, K2 X W V → (V.cell? ⟨X, 1, none⟩ = some (.int .u8 sd) ∧ V.cell? ⟨X, 2, none⟩ = some (.int .u8 sa) ∧ V.cell? ⟨X, 3, none⟩ = some (.int .u8 sb) ∧ V.cell? ⟨X, 4, none⟩ = some (.int .u8 sk)) ∧ V.cell? ⟨X + 1, 1, none⟩ = some (.int .i64 od) ∧ V.cell? ⟨X + 1, 2, none⟩ = some (.int .i64 oa) ∧ V.cell? ⟨X + 1, 3, none⟩ = some (.int .i64 ob) ∧ V.cell? ⟨X + 1, 4, none⟩ = some (.int .i64 ok)) := hid (fun V hV => by
    have e1 := hV.1.trans bs
    have e2 := hV.2.trans bo
    exact ⟨⟨cellOf e1 1, cellOf e1 2, cellOf e1 3, cellOf e1 4⟩, cellOf e2 1, cellOf e2 2, cellOf e2 3, cellOf e2 4⟩)
  clear hs ho bs bo hb
  refine callsIn_of_wp Tryz.func51 rfl trivial ?_ hro
  simp only [Tryz.ntmps51, List.size_toArray, List.length_cons, List.length_nil, Nat.reduceAdd, Nat.reduceSub, Array.replicate_succ, Array.replicate_zero, List.push_toArray, List.append_toArray, List.nil_append, List.cons_append]
  have HY := hid hY
  clear hY hJa hJxa
  obtain ⟨⟨x1, x2, x3, x4⟩, y1, y2, y3, y4⟩ := CB.out W ⟨rfl, rfl⟩
  obtain ⟨fn', tmps, assign, body, hy, hRd⟩ := yield_bool (HY.out [] 0 W h0 (by simp))
  have HRd := hid hRd
  simp only [encS, fl] at hy HRd
  clear hRd
  gi_wp2
  refine (Hid.out HRd).mono ?_
  rintro e W1 ⟨bb, rfl, hor⟩
  clear hy HRd x1 x2 x3 x4 y1 y2 y3 y4
  cases bb with
  | false =>
    have hor' := hid (hor.2 rfl)
    clear hor
    gi_wp2_with (refine ⟨(fun _ h => by cases h), ?_⟩)
    refine bodyPost_end (results_none rfl _ _ _) rfl ?_
    exact ⟨⟨_, rfl⟩, .inr ⟨_, ⟨1, rfl⟩, hor'.out⟩⟩
  | true =>
    obtain ⟨hJ1, hk1⟩ := hor.1 rfl
    obtain ⟨⟨x1, x2, x3, x4⟩, y1, y2, y3, y4⟩ := CB.out W1 hk1
    obtain ⟨fn', tmps, assign, body, hy, hRd⟩ := yield_bool (HY.out [0] 1 W1 hJ1 (by simp))
    have HRd := hid hRd
    simp only [encS, fl] at hy HRd
    have HK1 := hid hk1
    clear hRd hor hJ1 hk1
    gi_wp2
    refine (Hid.out HRd).mono ?_
    rintro e W2 ⟨bb, rfl, hor⟩
    clear hy HRd x1 x2 x3 x4 y1 y2 y3 y4
    cases bb with
    | false =>
      have hor' := hid (hor.2 rfl)
      clear hor
      gi_wp2_with (refine ⟨(fun _ h => by cases h), ?_⟩)
      refine bodyPost_end (results_none rfl _ _ _) rfl ?_
      exact ⟨⟨_, rfl⟩, .inr ⟨_, ⟨2, rfl⟩, hor'.out⟩⟩
    | true =>
      obtain ⟨hJ1, hk1⟩ := hor.1 rfl
      have hk2 := K2_t HK1.out hk1
      obtain ⟨⟨x1, x2, x3, x4⟩, y1, y2, y3, y4⟩ := CB.out W2 hk2
      obtain ⟨fn', tmps, assign, body, hy, hRd⟩ := yield_bool (HY.out [0, 1] 2 W2 hJ1 (by simp))
      have HRd := hid hRd
      simp only [encS, fl] at hy HRd
      have HK2 := hid hk2
      clear hRd hor hJ1 hk1 hk2
      gi_wp2
      refine (Hid.out HRd).mono ?_
      rintro e W3 ⟨bb, rfl, hor⟩
      clear hy HRd x1 x2 x3 x4 y1 y2 y3 y4
      cases bb with
      | false =>
        have hor' := hid (hor.2 rfl)
        clear hor
        gi_wp2_with (refine ⟨(fun _ h => by cases h), ?_⟩)
        refine bodyPost_end (results_none rfl _ _ _) rfl ?_
        exact ⟨⟨_, rfl⟩, .inr ⟨_, ⟨3, rfl⟩, hor'.out⟩⟩
      | true =>
        obtain ⟨hJ1, hk1⟩ := hor.1 rfl
        have hk3 := K2_t HK2.out hk1
        obtain ⟨⟨x1, x2, x3, x4⟩, y1, y2, y3, y4⟩ := CB.out W3 hk3
        obtain ⟨fn', tmps, assign, body, hy, hRd⟩ := yield_bool (HY.out [0, 1, 2] 3 W3 hJ1 (by simp))
        have HRd := hid hRd
        simp only [encS, fl] at hy HRd
        clear hRd hor hJ1 hk1 hk3
        gi_wp2
        refine (Hid.out HRd).mono ?_
        rintro e W4 ⟨bb, rfl, hor⟩
        clear hy HRd x1 x2 x3 x4 y1 y2 y3 y4
        cases bb with
        | false =>
          have hor' := hid (hor.2 rfl)
          clear hor
          gi_wp2_with (refine ⟨(fun _ h => by cases h), ?_⟩)
          refine bodyPost_end (results_none rfl _ _ _) rfl ?_
          exact ⟨⟨_, rfl⟩, .inr ⟨_, ⟨4, rfl⟩, hor'.out⟩⟩
        | true =>
          have hor' := hid (hor.1 rfl).1
          clear hor
          gi_wp2_with (refine ⟨(fun _ h => by cases h), ?_⟩)
          refine bodyPost_end (results_none rfl _ _ _) rfl ?_
          exact ⟨⟨_, rfl⟩, .inl ⟨_, rfl, hor'.out⟩⟩
end Go.Proofs.YthnolocldeokeaaGreatDoor

