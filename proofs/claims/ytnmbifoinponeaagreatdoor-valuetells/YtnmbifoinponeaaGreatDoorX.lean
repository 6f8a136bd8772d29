/- answerNothing; Right. -/
import Derived.Test.YtnmbifoinponeaaGreatDoorW
namespace Go.Proofs.YtnmbifoinponeaaGreatDoor
open Go.RowKit Go.Deep Go.Shelf
set_option linter.unusedVariables false
set_option linter.unusedSimpArgs false

def nothingB (ss : List Sg) : Bool := ss.all fun s => noneB s.res
set_option maxRecDepth 100000 in
set_option maxHeartbeats 1000000 in
theorem answerNothing_any (w : World) (a : Option Addr) (n cap : Nat) (gs : List (GH × Sg)) (d : GRd w a n gs) :
    Calls Tryz.prog 24 #[.slice a n cap] w fun e w' => e = .returned (.bool (nothingB (gs.map (·.2)))) ∧ Below w.heap.size w w' := by
  have D := hid d
  have hn2 := d.n2
  have Hn := hid d.n1
  obtain ⟨res, hres⟩ : ∃ res, res = nothingB (gs.map (·.2)) := ⟨_, rfl⟩
  rw [← hres]
  have Hres := hid hres
  clear d hres
  go_enter Tryz.func24, Tryz.ntmps24
  go_wp2
  go_loopg [7] n (fun g ii wr => ∃ i : Nat, i + g = n ∧ ii = .int .i64 (i : Int) ∧ Below w.heap.size w wr ∧ ∀ p ∈ gs.take i, noneB p.2.res = true)
  case atStart => exact ⟨0, by omega, rfl, Below.refl _ _, fun p hp => by simp at hp⟩
  case round =>
    obtain ⟨i, hi', rfl, hbe, hAc⟩ := hrel
    have Hi := hid hi'
    have Hbe := hid hbe
    have HAc := hid hAc
    clear hAc hbe
    cases gk with
    | zero =>
      have hin : i = n := by omega
      clear hi'
      subst hin
      have hval : res = true := by
        rw [Hres.out]; unfold nothingB
        rw [List.all_eq_true]; intro r hr
        rw [List.mem_map] at hr
        obtain ⟨p, hp, rfl⟩ := hr
        exact HAc.out p (by rw [Hn.out, List.take_length]; exact hp)
      have Hval := hid hval
      clear hval
      go_wp2
      go_ret
      exact ⟨by rw [Hval.out]; rfl, Hbe.out⟩
    | succ g =>
      have hlt : i < n := by omega
      clear hi'
      obtain ⟨p, hp⟩ : ∃ p, gs[i]? = some p := ⟨gs[i]'(by rw [← Hn.out]; exact hlt), by rw [List.getElem?_eq_getElem]⟩
      have DW := D.out.below (Nat.le_refl _) Hbe.out
      have el := DW.el p (List.mem_of_getElem? hp)
      obtain ⟨b1, o1, rfl, hb1, e1⟩ := DW.rd i p.1.cs (by simp [hp])
      have x0 := e1 0 (by omega)
      have x1 := e1 1 (by omega)
      have x2 := e1 2 (by omega)
      have x3 := e1 3 (by omega)
      have Hp := hid hp
      have Hrs := hid el.rs
      clear e1 DW el hp hb1
      obtain ⟨h, s⟩ := p
      obtain ⟨nm, pa, pn, pc, k, r⟩ := h
      simp only [GH.cs, List.getElem?_cons_zero, List.getElem?_cons_succ, Nat.add_zero] at x0 x1 x2 x3
      have hba : Below wr.heap.size wr (wr.alloc (.cells #[.string nm, .slice pa pn pc, .int .i64 k, .int .i64 r] 47)) := (Below.refl _ _).alloc (Nat.le_refl _) _
      have K1 : Hid (∀ w' : World, Calls Tryz.prog 50 #[.agg #[.int .i64 k, .int .i64 r]] w' fun e w'' => e = .returned (.bool (noneB (k, r))) ∧ Below w'.heap.size w' w'') := hid (fun w' => isNone_any w' k r)
      cases q1 : noneB (k, r) with
      | false =>
        rw [q1] at K1
        go_wp2_with (go_at_call 50; (refine (Hid.out K1 _).mono ?_; rintro e w4 ⟨rfl, hb4⟩))
        go_ret
        have : res = false := by
          rw [Hres.out]; unfold nothingB; rw [List.all_eq_false]
          exact ⟨s, by rw [List.mem_map]; exact ⟨_, List.mem_of_getElem? Hp.out, rfl⟩, by rw [← show (k, r) = s.res from Hrs.out, q1]; simp⟩
        exact ⟨by rw [this]; rfl, Hbe.out.trans ((hba.trans (hb4.mono hba.size)).mono Hbe.out.size)⟩
      | true =>
        rw [q1] at K1
        go_wp2_with (go_at_call 50; (refine (Hid.out K1 _).mono ?_; rintro e w4 ⟨rfl, hb4⟩))
        go_roundg g
        case measure => omega
        case rel => exact ⟨i + 1, by have := Hi.out; omega, by go_num, Hbe.out.trans ((hba.trans (hb4.mono hba.size)).mono Hbe.out.size), take_acc Hp.out HAc.out (by rw [← show (k, r) = s.res from Hrs.out, q1])⟩

structure Pg where
  recs : List (RH × Rc)
  maps : List Mp
  funcs : List (GH × Sg)
  events : List (GH × Sg)
structure PRd (w : World) (h : PH) (p : Pg) : Prop where
  r : RRd w h.ra h.rn p.recs
  m : MRd w h.ma h.mn p.maps
  f : GRd w h.fa h.fn p.funcs
  e : GRd w h.ea h.en p.events
theorem PRd.below {w w' : World} {h : PH} {p : Pg} {B : Nat} (d : PRd w h p) (hB : w.heap.size ≤ B) (k : Below B w w') : PRd w' h p := ⟨d.r.below hB k, d.m.below hB k, d.f.below hB k, d.e.below hB k⟩
def Pg.rn (p : Pg) : Nat := p.recs.length
def rightB (p : Pg) : Bool := recordsB (p.recs.map (·.2)) && mapsB p.rn p.maps && sigsB p.rn (p.funcs.map (·.2)) && sigsB p.rn (p.events.map (·.2)) && nothingB (p.events.map (·.2))

set_option maxRecDepth 100000 in
set_option maxHeartbeats 1000000 in
theorem right_any (w : World) (h : PH) (p : Pg) (d : PRd w h p) : Calls Tryz.prog 7 #[h.v] w fun e w' => e = .returned (.bool (rightB p)) ∧ Below w.heap.size w w' := by
  have hrn := d.r.n2
  have e0 : h.rn = p.rn := d.r.n1
  have K1 := hid (fun w1 (hb : Below w.heap.size w w1) => rightRecords_any w1 h.ra h.rn h.rc p.recs (d.r.below (Nat.le_refl _) hb))
  have K2 := hid (fun w1 (hb : Below w.heap.size w w1) => rightMaps_any w1 h p.maps (d.m.below (Nat.le_refl _) hb) hrn)
  have K3 := hid (fun w1 (hb : Below w.heap.size w w1) => rightSigs_any w1 h h.fa h.fn h.fc p.funcs (d.f.below (Nat.le_refl _) hb) hrn)
  have K4 := hid (fun w1 (hb : Below w.heap.size w w1) => rightSigs_any w1 h h.ea h.en h.ec p.events (d.e.below (Nat.le_refl _) hb) hrn)
  have K5 := hid (fun w1 (hb : Below w.heap.size w w1) => answerNothing_any w1 h.ea h.en h.ec p.events (d.e.below (Nat.le_refl _) hb))
  rw [e0] at K2 K3 K4
  unfold rightB
  clear e0 hrn d
  generalize recordsB (p.recs.map (·.2)) = r1 at *
  generalize mapsB p.rn p.maps = r2 at *
  generalize sigsB p.rn (p.funcs.map (·.2)) = r3 at *
  generalize sigsB p.rn (p.events.map (·.2)) = r4 at *
  generalize nothingB (p.events.map (·.2)) = r5 at *
  obtain ⟨ra, rn, rc, ma, mn, mc, fa, fn, fc, ea, en, ec⟩ := h
  simp only [PH.v] at K1 K2 K3 K4 K5 ⊢
  obtain ⟨W0, hW0⟩ : ∃ W0, W0 = w.alloc (.cells #[.slice ra rn rc, .slice ma mn mc, .slice fa fn fc, .slice ea en ec] 26) := ⟨_, rfl⟩
  have hb0 : Below w.heap.size w W0 := by rw [hW0]; exact (Below.refl _ _).alloc (Nat.le_refl _) _
  have bx0 : W0.heap[w.heap.size]? = some (.cells #[.slice ra rn rc, .slice ma mn mc, .slice fa fn fc, .slice ea en ec] 26 (0, 0)) := by rw [hW0]; exact heap_alloc_new w _
  have HB := hid hb0
  have HX := hid bx0
  have FX : Hid (∀ w2 : World, Below W0.heap.size W0 w2 → w2.cell? ⟨w.heap.size, 0, none⟩ = some (.slice ra rn rc) ∧ w2.cell? ⟨w.heap.size, 1, none⟩ = some (.slice ma mn mc) ∧ w2.cell? ⟨w.heap.size, 2, none⟩ = some (.slice fa fn fc) ∧ w2.cell? ⟨w.heap.size, 3, none⟩ = some (.slice ea en ec) ∧ Below w.heap.size w w2) := hid (fun w2 hb => by
    have bx := (hb.block _ (Array.getElem?_eq_some_iff.1 bx0).1).trans bx0
    exact ⟨cellOf bx 0, cellOf bx 1, cellOf bx 2, cellOf bx 3, hb0.trans (hb.mono hb0.size)⟩)
  have TR : Hid (∀ {x y : World}, Below W0.heap.size W0 x → Below x.heap.size x y → Below W0.heap.size W0 y) := hid (fun h1 h2 => h1.trans (h2.mono h1.size))
  clear bx0 hb0
  cases r1 with
  | false =>
    go_enter Tryz.func7, Tryz.ntmps7
    go_wp2_with (go_at_call 21; (rw [← hW0]; refine (Hid.out K1 _ HB.out).mono ?_; rintro e w1 ⟨rfl, hb1⟩))
    go_ret
    exact ⟨rfl, HB.out.trans (hb1.mono HB.out.size)⟩
  | true =>
    cases r2 with
    | false =>
      go_enter Tryz.func7, Tryz.ntmps7
      go_wp2_with (first
        | (go_at_call 21; (rw [← hW0]; refine (Hid.out K1 _ HB.out).mono ?_; rintro e w1 ⟨rfl, hb1⟩; obtain ⟨p0, p1, p2, p3, pb⟩ := FX.out w1 hb1))
        | (go_at_call 22; (refine (Hid.out K2 _ pb).mono ?_; rintro e w2 ⟨rfl, hb2⟩)))
      go_ret
      exact ⟨rfl, pb.trans (hb2.mono pb.size)⟩
    | true =>
      cases r3 with
      | false =>
        go_enter Tryz.func7, Tryz.ntmps7
        go_wp2_with (first
          | (go_at_call 21; (rw [← hW0]; refine (Hid.out K1 _ HB.out).mono ?_; rintro e w1 ⟨rfl, hb1⟩; obtain ⟨p0, p1, p2, p3, pb⟩ := FX.out w1 hb1))
          | (go_at_call 22; (refine (Hid.out K2 _ pb).mono ?_; rintro e w2 ⟨rfl, hb2⟩; have hb02 := TR.out hb1 hb2; obtain ⟨q0, q1, q2, q3, qb⟩ := FX.out w2 hb02))
          | (go_at_call 23; (refine (Hid.out K3 _ qb).mono ?_; rintro e w3 ⟨rfl, hb3⟩)))
        go_ret
        exact ⟨rfl, qb.trans (hb3.mono qb.size)⟩
      | true =>
        cases r4 with
        | false =>
          go_enter Tryz.func7, Tryz.ntmps7
          go_wp2_with (first
            | (go_at_call 21; (rw [← hW0]; refine (Hid.out K1 _ HB.out).mono ?_; rintro e w1 ⟨rfl, hb1⟩; obtain ⟨p0, p1, p2, p3, pb⟩ := FX.out w1 hb1))
            | (go_at_call 22; (refine (Hid.out K2 _ pb).mono ?_; rintro e w2 ⟨rfl, hb2⟩; have hb02 := TR.out hb1 hb2; obtain ⟨q0, q1, q2, q3, qb⟩ := FX.out w2 hb02))
            | (go_at_call 23; (have hno := s0; refine (Hid.out K4 _ sb).mono ?_; rintro e w4 ⟨rfl, hb4⟩))
            | (go_at_call 23; (refine (Hid.out K3 _ qb).mono ?_; rintro e w3 ⟨rfl, hb3⟩; have hb03 := TR.out hb02 hb3; obtain ⟨s0, s1, s2, s3, sb⟩ := FX.out w3 hb03)))
          go_ret
          exact ⟨rfl, sb.trans (hb4.mono sb.size)⟩
        | true =>
          go_enter Tryz.func7, Tryz.ntmps7
          go_wp2_with (first
            | (go_at_call 21; (rw [← hW0]; refine (Hid.out K1 _ HB.out).mono ?_; rintro e w1 ⟨rfl, hb1⟩; obtain ⟨p0, p1, p2, p3, pb⟩ := FX.out w1 hb1))
            | (go_at_call 22; (refine (Hid.out K2 _ pb).mono ?_; rintro e w2 ⟨rfl, hb2⟩; have hb02 := TR.out hb1 hb2; obtain ⟨q0, q1, q2, q3, qb⟩ := FX.out w2 hb02))
            | (go_at_call 23; (have hno := s0; refine (Hid.out K4 _ sb).mono ?_; rintro e w4 ⟨rfl, hb4⟩; have hb04 := TR.out hb03 hb4; obtain ⟨t0, t1, t2, t3, tb⟩ := FX.out w4 hb04))
            | (go_at_call 23; (refine (Hid.out K3 _ qb).mono ?_; rintro e w3 ⟨rfl, hb3⟩; have hb03 := TR.out hb02 hb3; obtain ⟨s0, s1, s2, s3, sb⟩ := FX.out w3 hb03))
            | (go_at_call 24; (refine (Hid.out K5 _ tb).mono ?_; rintro e w5 ⟨rfl, hb5⟩)))
          go_ret
          exact ⟨rfl, tb.trans (hb5.mono tb.size)⟩
end Go.Proofs.YtnmbifoinponeaaGreatDoor
