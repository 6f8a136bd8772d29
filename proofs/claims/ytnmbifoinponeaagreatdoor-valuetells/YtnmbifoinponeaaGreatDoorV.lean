/- Types of a program; rightMaps. -/
import Derived.Test.YtnmbifoinponeaaGreatDoorU
namespace Go.Proofs.YtnmbifoinponeaaGreatDoor
open Go.RowKit Go.Deep Go.Shelf
set_option linter.unusedVariables false
set_option linter.unusedSimpArgs false

def keyB (t : TyP) : Bool := decide (t.2 = 0) && (decide (t.1 = 1) || decide (t.1 = 2))
def typB (n : Nat) (t : TyP) : Bool := if t.1 = 4 then decide (0 ≤ t.2) && decide (t.2 < (n : Int)) else simB t
def noneB (t : TyP) : Bool := decide (t.1 = 0) && decide (t.2 = 0)
structure PH where
  ra : Option Addr
  rn : Nat
  rc : Nat
  ma : Option Addr
  mn : Nat
  mc : Nat
  fa : Option Addr
  fn : Nat
  fc : Nat
  ea : Option Addr
  en : Nat
  ec : Nat
def PH.v (h : PH) : Value := .agg #[.slice h.ra h.rn h.rc, .slice h.ma h.mn h.mc, .slice h.fa h.fn h.fc, .slice h.ea h.en h.ec]

theorem two_boxes (w : World) (c1 c2 : Array Value) (t1 t2 : TypeId) : Below w.heap.size w ((w.alloc (.cells c1 t1)).alloc (.cells c2 t2)) := ((Below.refl _ _).alloc (Nat.le_refl _) _).alloc (by simp) _

set_option maxHeartbeats 400000 in
theorem isType_any (w : World) (h : PH) (k r : Int) (hn : h.rn ≤ 9223372036854775807) :
    Calls Tryz.prog 39 #[h.v, ty k r] w fun e w' => e = .returned (.bool (typB h.rn (k, r))) ∧ Below w.heap.size w w' := by
  obtain ⟨ra, rn, rc, ma, mn, mc, fa, fn, fc, ea, en, ec⟩ := h
  simp only [PH.v, ty] at hn ⊢
  by_cases h4 : k = 4
  · subst h4
    rcases Int.lt_or_le r 0 with h1 | h1
    · have h1' : ¬ (0 ≤ r) := by omega
      have e0 : typB rn (4, r) = false := by simp [typB]; omega
      rw [e0]
      clear e0
      go_enter Tryz.func39, Tryz.ntmps39
      go_wp2
      go_ret
      exact ⟨rfl, two_boxes _ _ _ _ _⟩
    · rcases Int.lt_or_le r (rn : Int) with h2 | h2
      · have e0 : typB rn (4, r) = true := by simp [typB]; omega
        rw [e0]
        clear e0
        go_enter Tryz.func39, Tryz.ntmps39
        go_wp2
        go_ret
        exact ⟨by simp [h2], two_boxes _ _ _ _ _⟩
      · have h2' : ¬ (r < (rn : Int)) := by omega
        have e0 : typB rn (4, r) = false := by simp [typB]; omega
        rw [e0]
        clear e0
        go_enter Tryz.func39, Tryz.ntmps39
        go_wp2
        go_ret
        exact ⟨by simp [h2], two_boxes _ _ _ _ _⟩
  · have h4' : (k == 4) = false := by simpa using h4
    have e0 : typB rn (k, r) = simB (k, r) := by unfold typB; rw [if_neg h4]
    rw [e0]
    have K : Hid (∀ w' : World, Calls Tryz.prog 61 #[.agg #[.int .i64 k, .int .i64 r]] w' fun e w'' => e = .returned (.bool (simB (k, r))) ∧ Below w'.heap.size w' w'') := hid (fun w' => isSimple_any w' k r)
    clear e0
    generalize simB (k, r) = res at *
    go_enter Tryz.func39, Tryz.ntmps39
    go_wp2_with (go_at_call 61; (refine (Hid.out K _).mono ?_; rintro e w2 ⟨rfl, hb2⟩))
    go_ret
    exact ⟨rfl, (two_boxes w _ _ _ _).trans (hb2.mono (two_boxes w _ _ _ _).size)⟩

set_option maxHeartbeats 400000 in
theorem isNone_any (w : World) (k r : Int) : Calls Tryz.prog 50 #[ty k r] w fun e w' => e = .returned (.bool (noneB (k, r))) ∧ Below w.heap.size w w' := by
  unfold ty
  have hb : Below w.heap.size w (w.alloc (.cells #[.int .i64 k, .int .i64 r] 28)) := (Below.refl _ _).alloc (Nat.le_refl _) _
  by_cases h0 : r = 0
  · subst h0
    by_cases h1 : k = 0
    · subst h1
      go_enter Tryz.func50, Tryz.ntmps50
      go_wp2
      go_ret
      exact ⟨by simp [noneB], hb⟩
    · have h1' : (k == 0) = false := by simpa using h1
      go_enter Tryz.func50, Tryz.ntmps50
      go_wp2
      go_ret
      exact ⟨by simp [noneB, h1], hb⟩
  · have h0' : (r == 0) = false := by simpa using h0
    go_enter Tryz.func50, Tryz.ntmps50
    go_wp2
    all_goals
      go_ret
      exact ⟨by simp_all [noneB], hb⟩

theorem below_app2 {w w2 w3 : World} {o : Obj} {v : Value} {ss : List ByteArray} {B : Nat} (hB : w.heap.size ≤ B) (hb : Below w.heap.size w w2) (hr : NRow w2 B v ss) (hg : (w2.alloc o).grownBy w3 v.ownBlock) : Below w.heap.size w w3 :=
  (hb.alloc hb.size o).grown hg (by have := hb.size; simp; omega) (fun k hk => Nat.le_trans hB (hr.own k hk).1)
structure Mp where
  name : ByteArray
  key : TyP
  val : TyP
def Mp.cs (m : Mp) : List Value := [.string m.name, .int .i64 m.key.1, .int .i64 m.key.2, .int .i64 m.val.1, .int .i64 m.val.2]
structure MRd (w : World) (a : Option Addr) (n : Nat) (ms : List Mp) : Prop where
  n1 : n = ms.length
  n2 : n ≤ 9223372036854775807
  rd : CRd w a 5 (ms.map Mp.cs)
  ns : ∀ m ∈ ms, m.name.size ≤ 9223372036854775807
theorem MRd.below {w w' : World} {a : Option Addr} {n : Nat} {ms : List Mp} {B : Nat} (d : MRd w a n ms) (hB : w.heap.size ≤ B) (k : Below B w w') : MRd w' a n ms :=
  ⟨d.n1, d.n2, d.rd.below hB k, d.ns⟩
def mapB (n : Nat) (m : Mp) : Bool := keyB m.key && typB n m.val
def mapsB (n : Nat) (ms : List Mp) : Bool := decide (ms.length ≤ 16) && ms.all (mapB n) && namesB smB (ms.map Mp.name)

set_option maxRecDepth 100000 in
set_option maxHeartbeats 1000000 in
theorem rightMaps_any (w : World) (h : PH) (ms : List Mp) (d : MRd w h.ma h.mn ms) (hrn : h.rn ≤ 9223372036854775807) :
    Calls Tryz.prog 22 #[h.v] w fun e w' => e = .returned (.bool (mapsB h.rn ms)) ∧ Below w.heap.size w w' := by
  have D := hid d
  have hn2 := d.n2
  have Hn := hid d.n1
  have KT := hid (fun w' k r => isType_any w' h k r hrn)
  obtain ⟨res, hres⟩ : ∃ res, res = mapsB h.rn ms := ⟨_, rfl⟩
  rw [← hres]
  have Hres := hid hres
  obtain ⟨i0, hi, hz0, hz1, hz2⟩ := info_parts info9
  clear d hres
  obtain ⟨ra, rn, rc, a, n, cap, fa, fn, fc, ea, en, ec⟩ := h
  simp only [PH.v, ty] at hn2 KT ⊢
  have hb0 : Below w.heap.size w (w.alloc (.cells #[.slice ra rn rc, .slice a n cap, .slice fa fn fc, .slice ea en ec] 26)) := (Below.refl _ _).alloc (Nat.le_refl _) _
  have bx0 : (w.alloc (.cells #[.slice ra rn rc, .slice a n cap, .slice fa fn fc, .slice ea en ec] 26)).heap[w.heap.size]? = some (.cells #[.slice ra rn rc, .slice a n cap, .slice fa fn fc, .slice ea en ec] 26 (0, 0)) := heap_alloc_new w _
  have HB0 := hid hb0
  have HX0 := hid bx0
  clear hb0 bx0
  rcases Nat.lt_or_ge 16 n with h1 | h1
  · have hF : res = false := by
      rw [Hres.out]; unfold mapsB
      have : ¬ ms.length ≤ 16 := by rw [← show n = ms.length from Hn.out]; omega
      rw [decide_eq_false this]; rfl
    have HF := hid hF
    clear hF
    go_enter Tryz.func22, Tryz.ntmps22
    go_wp2
    go_ret
    exact ⟨by rw [HF.out]; rfl, HB0.out⟩
  · go_enter Tryz.func22, Tryz.ntmps22
    go_wp2
    go_loopg [3, 13] n (fun g nv ii wr => ∃ i : Nat, i + g = n ∧ ii = .int .i64 (i : Int) ∧ Below w.heap.size w wr ∧ wr.heap[w.heap.size]? = some (.cells #[.slice ra rn rc, .slice a n cap, .slice fa fn fc, .slice ea en ec] 26 (0, 0)) ∧ NRow wr (w.heap.size + 1) nv ((ms.take i).map Mp.name) ∧ ∀ m ∈ ms.take i, mapB rn m = true)
    case atStart => exact ⟨0, by omega, rfl, HB0.out, HX0.out, NRow.nil _ _, fun p hp => by simp at hp⟩
    case round =>
      obtain ⟨i, hi', rfl, hbe, hbx, hrow, hAc⟩ := hrel
      have Hi := hid hi'
      have Hbe := hid hbe
      have HAc := hid hAc
      have Hrow := hid hrow
      have Hbx := hid hbx
      obtain ⟨na, ncap, rfl, hnc⟩ := hrow.form
      have hlx : w.heap.size < wr.heap.size := (Array.getElem?_eq_some_iff.1 hbx).1
      clear hAc hbe hrow hbx
      have hlen : ((ms.take i).map Mp.name).length = i := by rw [List.length_map, List.length_take, ← show n = ms.length from Hn.out]; omega
      rw [hlen] at Hrow hnc ⊢
      clear hlen
      cases gk with
      | zero =>
        have hin : i = n := by omega
        clear hi'
        subst hin
        have hall : ms.take i = ms := by rw [show i = ms.length from Hn.out]; exact List.take_length
        have K := hid (rightNames_42 wr na i ncap (ms.map Mp.name) (by rw [List.length_map]; exact Hn.out) hn2 hnc (by
          have h := Hrow.out; rw [hall] at h
          exact h.rd (fun s hs => by
            rw [List.mem_map] at hs
            obtain ⟨p, hp, rfl⟩ := hs
            exact D.out.ns p hp)))
        have hval : res = namesB smB (ms.map Mp.name) := by
          rw [Hres.out]; unfold mapsB
          have e1 : ms.length ≤ 16 := by rw [← show i = ms.length from Hn.out]; exact h1
          have e2 : ms.all (mapB rn) = true := by
            rw [List.all_eq_true]; intro r hr
            exact HAc.out r (by rw [hall]; exact hr)
          rw [decide_eq_true e1, e2]; rfl
        have Hval := hid hval
        clear hval hall
        go_wp2_with (go_at_call 46; (refine (Hid.out K).mono ?_; rintro e w2 ⟨rfl, hb2⟩))
        go_ret
        exact ⟨by rw [Hval.out]; rfl, Hbe.out.trans (hb2.mono Hbe.out.size)⟩
      | succ g =>
        have hlt : i < n := by omega
        clear hi'
        obtain ⟨p, hp⟩ : ∃ p, ms[i]? = some p := ⟨ms[i]'(by rw [← show n = ms.length from Hn.out]; exact hlt), by rw [List.getElem?_eq_getElem]⟩
        have DW := D.out.below (Nat.le_refl _) Hbe.out
        obtain ⟨b1, o1, ea', hb1, e1⟩ := DW.rd i p.cs (by simp [hp])
        subst ea'
        have x0 := e1 0 (by omega)
        have x1 := e1 1 (by omega)
        have x2 := e1 2 (by omega)
        have x3 := e1 3 (by omega)
        have x4 := e1 4 (by omega)
        have Hp := hid hp
        clear e1 DW hp hb1
        obtain ⟨nm, ⟨k1, r1⟩, ⟨k2, r2⟩⟩ := p
        simp only [Mp.cs, List.getElem?_cons_zero, List.getElem?_cons_succ, Nat.add_zero] at x0 x1 x2 x3 x4
        have hba : Below wr.heap.size wr (wr.alloc (.cells #[.string nm, .int .i64 k1, .int .i64 r1, .int .i64 k2, .int .i64 r2] 54)) := (Below.refl _ _).alloc (Nat.le_refl _) _
        have K1 : Hid (∀ w' : World, Calls Tryz.prog 48 #[.agg #[.int .i64 k1, .int .i64 r1]] w' fun e w'' => e = .returned (.bool (keyB (k1, r1))) ∧ Below w'.heap.size w' w'') := hid (fun w' => isKey_any w' k1 r1)
        have K2 := hid (fun w' => KT.out w' k2 r2)
        have HN : Hid (mapB rn ⟨nm, (k1, r1), (k2, r2)⟩ = false → res = false) := hid (fun hq => by
          rw [Hres.out]; unfold mapsB
          have : ms.all (mapB rn) = false := by
            rw [List.all_eq_false]
            exact ⟨_, List.mem_of_getElem? Hp.out, by simp [hq]⟩
          rw [this]; simp)
        cases q1 : keyB (k1, r1) with
        | false =>
          rw [q1] at K1
          go_wp2_with (go_at_call 48; (refine (Hid.out K1 _).mono ?_; rintro e w2 ⟨rfl, hb2⟩))
          go_ret
          exact ⟨by rw [HN.out (by simp [mapB, q1])]; rfl, Hbe.out.trans ((hba.trans (hb2.mono hba.size)).mono Hbe.out.size)⟩
        | true =>
          rw [q1] at K1
          cases q2 : typB rn (k2, r2) with
          | false =>
            simp only [q2] at K2
            go_wp2_with (first
              | (go_at_call 48; (refine (Hid.out K1 _).mono ?_; rintro e w2 ⟨rfl, hb2⟩; have hb02 : Below wr.heap.size wr w2 := hba.trans (hb2.mono hba.size); have bx := (hb2.block wr.heap.size (by simp)).trans (heap_alloc_new wr (.cells #[.string nm, .int .i64 k1, .int .i64 r1, .int .i64 k2, .int .i64 r2] 54)); have y3 := cellOf bx 3; have y4 := cellOf bx 4; have by0 := (hb02.block _ hlx).trans Hbx.out; have z0 := cellOf by0 0; have z1 := cellOf by0 1; have z2 := cellOf by0 2; have z3 := cellOf by0 3; simp only [List.getElem?_toArray, List.getElem?_cons_zero, List.getElem?_cons_succ] at y3 y4 z0 z1 z2 z3; clear bx by0))
              | (go_at_call 39; (refine (Hid.out K2 _).mono ?_; rintro e w4 ⟨rfl, hb4⟩)))
            go_ret
            exact ⟨by rw [HN.out (by simp [mapB, q1, q2])]; rfl, Hbe.out.trans ((hb02.trans (hb4.mono hb02.size)).mono Hbe.out.size)⟩
          | true =>
            simp only [q2] at K2
            go_wp2_with (first
              | (go_at_call 48; (refine (Hid.out K1 _).mono ?_; rintro e w2 ⟨rfl, hb2⟩; have hb02 : Below wr.heap.size wr w2 := hba.trans (hb2.mono hba.size); have bx := (hb2.block wr.heap.size (by simp)).trans (heap_alloc_new wr (.cells #[.string nm, .int .i64 k1, .int .i64 r1, .int .i64 k2, .int .i64 r2] 54)); have y3 := cellOf bx 3; have y4 := cellOf bx 4; have by0 := (hb02.block _ hlx).trans Hbx.out; have z0 := cellOf by0 0; have z1 := cellOf by0 1; have z2 := cellOf by0 2; have z3 := cellOf by0 3; simp only [List.getElem?_toArray, List.getElem?_cons_zero, List.getElem?_cons_succ] at y3 y4 z0 z1 z2 z3; have Hbx2 := hid bx; clear bx by0))
              | (go_at_call 39; (refine (Hid.out K2 _).mono ?_; rintro e w4 ⟨rfl, hb4⟩; have hb04 : Below wr.heap.size wr w4 := hb02.trans (hb4.mono hb02.size); have bx4 := (hb4.block wr.heap.size (Array.getElem?_eq_some_iff.1 Hbx2.out).1).trans Hbx2.out; have y0 : w4.cell? ⟨wr.heap.size, 0, none⟩ = some (.string nm) := cellOf bx4 0; have hrow2 := Hrow.out.below hb04; clear bx4))
              | (at_builtin; (refine wpList_append_own _ rfl _ _ 42 rfl (w.heap.size + 1) 9 i0 (.string ⟨#[]⟩) 1 16 Tryz.underlying42 hi hz0 hz1 hz2 rfl (by decide) _ _ _ rfl (hrow2.below ((Below.refl _ w4).alloc (Nat.le_refl _) _)) ⟨w4.heap.size, 0, none⟩ 1 1 [.string nm] rfl rfl (cell_one_new _ _ _) (by simp [Value.oneCell']) (by rw [List.length_map, List.length_take]; unfold maxLen; omega) (by rw [List.length_map, List.length_take]; omega) (by have h1 := Hbe.out.size; have h2 := hb04.size; simp; omega) ?_; intro v3 w3 hrow3 hg3 _)))
            go_roundg g
            case measure => omega
            case rel => exact ⟨i + 1, by have := Hi.out; omega, by go_num, below_app2 (by omega) (Hbe.out.trans (hb04.mono Hbe.out.size)) hrow2 hg3, by
              rw [hg3.block _ (by have h1 := hb04.size; simp; omega) (fun e => by have := (hrow2.own _ e.symm).1; omega)]
              exact (Below.heap_alloc _ _ _ (by have h1 := hb04.size; omega)).trans ((hb04.block _ hlx).trans Hbx.out), by rw [take_map_snoc _ Hp.out]; exact NRow.snoc hrow3, take_acc Hp.out HAc.out (by simp [mapB, q1, q2])⟩
end Go.Proofs.YtnmbifoinponeaaGreatDoor
