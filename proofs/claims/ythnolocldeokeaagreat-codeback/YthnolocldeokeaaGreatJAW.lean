/- Programs that aren't great. -/
import Derived.Test.YthnolocldeokeaaGreatJAV
import Derived.Deep.WholeRow
import Derived.Sort.CutIn
import Derived.Deep.CutBlock
namespace Go.Proofs.YthnolocldeokeaaGreat
set_option maxRecDepth 100000
open Go.RowKit Go.Deep Go.Shelf
set_option linter.unusedVariables false
set_option linter.unusedSimpArgs false

def Some (w : World) (e : Ending) (w' : World) : Prop := ∃ b : Bool, e = .returned (.bool b) ∧ Below w.heap.size w w'
set_option maxRecDepth 100000 in
set_option maxHeartbeats 2000000 in
theorem plainP_any (w : World) (h : PH) (p : Pg) (d : PRd w h p) : Calls Tryz.prog 18 #[h.v] w (Some w) := by
  have D := hid d
  have r2 := d.r.n2
  have m2 := d.m.n2
  have f2 := d.f.n2
  have e2 := d.e.n2
  have Hr := hid d.r.n1
  have Hf := hid d.f.n1
  have He := hid d.e.n1
  clear d
  obtain ⟨ra, rn, rc, ma, mn, mc, fa, fn, fc, ea, en, ec⟩ := h
  simp only [PH.v] at r2 m2 f2 e2 ⊢
  obtain ⟨W0, hW0⟩ : ∃ W0, W0 = w.alloc (.cells #[.slice ra rn rc, .slice ma mn mc, .slice fa fn fc, .slice ea en ec] 26) := ⟨_, rfl⟩
  have hb0 : Below w.heap.size w W0 := by rw [hW0]; exact (Below.refl _ _).alloc (Nat.le_refl _) _
  have bx0 : W0.heap[w.heap.size]? = some (.cells #[.slice ra rn rc, .slice ma mn mc, .slice fa fn fc, .slice ea en ec] 26 (0, 0)) := by rw [hW0]; exact heap_alloc_new w _
  have z0 : W0.cell? ⟨w.heap.size, 0, none⟩ = some (.slice ra rn rc) := cellOf bx0 0
  have z1 : W0.cell? ⟨w.heap.size, 1, none⟩ = some (.slice ma mn mc) := cellOf bx0 1
  have z2 : W0.cell? ⟨w.heap.size, 2, none⟩ = some (.slice fa fn fc) := cellOf bx0 2
  have z3 : W0.cell? ⟨w.heap.size, 3, none⟩ = some (.slice ea en ec) := cellOf bx0 3
  have HB := hid hb0
  have DW := hid (D.out.below (Nat.le_refl _) hb0)
  clear hb0 bx0 D
  go_enter Tryz.func18, Tryz.ntmps18
  go_wp2
  rw [← hW0]
  clear hW0
  go_loopg [3] rn (fun g ii wr => ∃ i : Nat, i + g = rn ∧ ii = .int .i64 (i : Int) ∧ wr = W0)
  case atStart => exact ⟨0, by omega, rfl, rfl⟩
  case round =>
    obtain ⟨i, hi', rfl, rfl⟩ := hrel
    have Hi := hid hi'
    cases gk with
    | zero =>
      have hin : i = rn := by omega
      clear hi'
      subst hin
      go_wp2
      go_loopg [4] fn (fun g ii wr2 => ∃ j : Nat, j + g = fn ∧ ii = .int .i64 (j : Int) ∧ wr2 = wr)
      case atStart => exact ⟨0, by omega, rfl, rfl⟩
      case round =>
        obtain ⟨j, hj', rfl, rfl⟩ := hrel
        have Hj := hid hj'
        cases gk with
        | zero =>
          have hjn : j = fn := by omega
          clear hj'
          subst hjn
          go_wp2
          go_loopg [5] en (fun g ii wr2 => ∃ l : Nat, l + g = en ∧ ii = .int .i64 (l : Int) ∧ wr2 = wr)
          case atStart => exact ⟨0, by omega, rfl, rfl⟩
          case round =>
            obtain ⟨l, hl', rfl, rfl⟩ := hrel
            have Hl := hid hl'
            cases gk with
            | zero =>
              have hln : l = en := by omega
              clear hl'
              subst hln
              rcases Nat.lt_or_ge 30 i with q1 | q1
              · have q1' : ¬ ((i : Int) ≤ 30) := by omega
                go_wp2
                go_ret
                exact ⟨_, rfl, HB.out⟩
              · rcases Nat.lt_or_ge 30 mn with q2 | q2
                · have q2' : ¬ ((mn : Int) ≤ 30) := by omega
                  go_wp2
                  go_ret
                  exact ⟨_, rfl, HB.out⟩
                · rcases Nat.lt_or_ge 30 j with q3 | q3
                  · have q3' : ¬ ((j : Int) ≤ 30) := by omega
                    go_wp2
                    go_ret
                    exact ⟨_, rfl, HB.out⟩
                  · go_wp2
                    go_ret
                    exact ⟨_, rfl, HB.out⟩
            | succ g =>
              have hlt : l < en := by omega
              clear hl'
              obtain ⟨p', hp⟩ : ∃ p', p.events[l]? = some p' := ⟨p.events[l]'(by rw [← show en = p.events.length from He.out]; exact hlt), by rw [List.getElem?_eq_getElem]⟩
              have el := DW.out.e.el p' (List.mem_of_getElem? hp)
              obtain ⟨b1, o1, ea', hb1, e1⟩ := DW.out.e.rd l p'.1.cs (by simp [hp])
              subst ea'
              have x1 := e1 1 (by omega)
              have hp2 := el.p2
              clear e1 el hp hb1
              obtain ⟨h, s⟩ := p'
              obtain ⟨nm, pa, pn, pc, k, r⟩ := h
              simp only [GH.cs, List.getElem?_cons_zero, List.getElem?_cons_succ] at x1 hp2
              rcases Nat.lt_or_ge 30 pn with q1 | q1
              · go_wp2
                go_ret
                exact ⟨_, rfl, HB.out⟩
              · go_wp2
                go_roundg g
                case measure => omega
                case rel => exact ⟨l + 1, by have := Hl.out; omega, by go_num, rfl⟩
        | succ g =>
          have hlt : j < fn := by omega
          clear hj'
          obtain ⟨p', hp⟩ : ∃ p', p.funcs[j]? = some p' := ⟨p.funcs[j]'(by rw [← show fn = p.funcs.length from Hf.out]; exact hlt), by rw [List.getElem?_eq_getElem]⟩
          have el := DW.out.f.el p' (List.mem_of_getElem? hp)
          obtain ⟨b1, o1, ea', hb1, e1⟩ := DW.out.f.rd j p'.1.cs (by simp [hp])
          subst ea'
          have x1 := e1 1 (by omega)
          have hp2 := el.p2
          clear e1 el hp hb1
          obtain ⟨h, s⟩ := p'
          obtain ⟨nm, pa, pn, pc, k, r⟩ := h
          simp only [GH.cs, List.getElem?_cons_zero, List.getElem?_cons_succ] at x1 hp2
          rcases Nat.lt_or_ge 30 pn with q1 | q1
          · go_wp2
            go_ret
            exact ⟨_, rfl, HB.out⟩
          · go_wp2
            go_roundg g
            case measure => omega
            case rel => exact ⟨j + 1, by have := Hj.out; omega, by go_num, rfl⟩
    | succ g =>
      have hlt : i < rn := by omega
      clear hi'
      obtain ⟨p', hp⟩ : ∃ p', p.recs[i]? = some p' := ⟨p.recs[i]'(by rw [← show rn = p.recs.length from Hr.out]; exact hlt), by rw [List.getElem?_eq_getElem]⟩
      have el := DW.out.r.el p' (List.mem_of_getElem? hp)
      obtain ⟨b1, o1, ea', hb1, e1⟩ := DW.out.r.rd i p'.1.cs (by simp [hp])
      subst ea'
      have x1 := e1 1 (by omega)
      have x2 := e1 2 (by omega)
      have hp2 := el.f2
      have hp3 := el.t2
      clear e1 el hp hb1
      obtain ⟨h, s⟩ := p'
      obtain ⟨nm, fa', fn', fc', ta, tn, tc⟩ := h
      simp only [RH.cs, List.getElem?_cons_zero, List.getElem?_cons_succ] at x1 x2 hp2 hp3
      rcases Nat.lt_or_ge 30 fn' with q1 | q1
      · go_wp2
        go_ret
        exact ⟨_, rfl, HB.out⟩
      · rcases Nat.lt_or_ge 30 tn with q2 | q2
        · go_wp2
          go_ret
          exact ⟨_, rfl, HB.out⟩
        · go_wp2
          go_roundg g
          case measure => omega
          case rel => exact ⟨i + 1, by have := Hi.out; omega, by go_num, rfl⟩
end Go.Proofs.YthnolocldeokeaaGreat

namespace Go.Proofs.YthnolocldeokeaaGreat
open Go.RowKit Go.Deep Go.Shelf
set_option linter.unusedVariables false
set_option linter.unusedSimpArgs false
/- An answer that, where it is true, says R. -/
def Says (w : World) (R : Prop) (e : Ending) (w' : World) : Prop := Below w.heap.size w w' ∧ ∃ b, e = .returned (.bool b) ∧ (b = true → R)
theorem Says.no {w w' : World} {R : Prop} (h : Below w.heap.size w w') : Says w R (.returned (.bool false)) w' := ⟨h, false, rfl, fun h => by cases h⟩
theorem Says.yes {w w' : World} {R : Prop} (h : Below w.heap.size w w') (r : R) : Says w R (.returned (.bool true)) w' := ⟨h, true, rfl, fun _ => r⟩
set_option maxRecDepth 100000 in
set_option maxHeartbeats 1000000 in
theorem short_any (w : World) (a : Option Addr) (n cap : Nat) (ss : List ByteArray) (hn : n = ss.length) (hn2 : n ≤ 9223372036854775807) (hr : SRd w a ss) (mm bb : Nat) :
    Calls Tryz.prog 19 #[.slice a n cap, .int .i64 (mm : Int), .int .i64 (bb : Int)] w (Says w (n ≤ mm ∧ ∀ s ∈ ss, s.size ≤ bb)) := by
  have HN := hid hn
  have HR := hid hr
  clear hn hr
  go_enter Tryz.func19, Tryz.ntmps19
  go_wp2
  go_loopg [7] n (fun g x wr => ∃ j : Nat, j + g = n ∧ x = .int .i64 (j : Int) ∧ (∀ s ∈ ss.take j, s.size ≤ bb) ∧ wr = w)
  case atStart => exact ⟨0, by omega, rfl, by simp, rfl⟩
  case round =>
    obtain ⟨j, hj, rfl, hp, rfl⟩ := hrel
    cases gk with
    | zero =>
      have hjn : j = n := by omega
      subst hjn
      have HP : Hid (∀ s ∈ ss, s.size ≤ bb) := hid (by rw [HN.out, List.take_of_length_le (Nat.le_refl _)] at hp; exact hp)
      clear hp
      by_cases hm : (j : Int) ≤ (mm : Int)
      · go_wp2
        go_ret
        exact Says.yes (Below.refl _ _) ⟨by omega, HP.out⟩
      · go_wp2
        go_ret
        exact Says.no (Below.refl _ _)
    | succ g =>
      obtain ⟨s, hs⟩ : ∃ s, ss[j]? = some s := ⟨ss[j]'(by have := HN.out; omega), List.getElem?_eq_getElem _⟩
      obtain ⟨hsz, b, off, rfl, hc⟩ := HR.out j s hs
      have hjI : (j : Int) < (n : Int) := by omega
      have hj0 : (0 : Int) ≤ (j : Int) := by omega
      have hszI : (s.size : Int) ≤ 9223372036854775807 := by omega
      have ht : Hid (ss.take (j + 1) = ss.take j ++ [s]) := hid (by rw [List.take_add_one, hs]; rfl)
      have HP := hid hp
      clear hp hs
      by_cases hl : (bb : Int) < (s.size : Int)
      · go_wp2
        go_ret
        exact Says.no (Below.refl _ _)
      · have HL := hid hl
        go_wp2
        go_roundg g
        case measure => omega
        exact ⟨j + 1, by omega, by go_num, fun x hx => by
          rw [ht.out] at hx
          rcases List.mem_append.1 hx with hx | hx
          · exact HP.out x hx
          · simp at hx; subst hx; have := HL.out; omega, rfl⟩
/- A unit's graphs as they came in. -/
/- What a unit that is few is. -/
end Go.Proofs.YthnolocldeokeaaGreat

namespace Go.Proofs.YthnolocldeokeaaGreat
set_option maxRecDepth 100000
open Go.ChangeShapes Go.WideShapes Go.ChangeAt Go.RowKit Go.Deep
set_option linter.unusedVariables false
set_option linter.unusedSimpArgs false

theorem cellsI64 : Tryz.prog.cellsOf 2 = 1 := by kernel_rfl
section
variable {H : Type} {enc : TypeId × Value → H} {W : World}
theorem nil_of {T E : TypeId} (hT : Tryz.prog.underlying T = some (.slice E)) {a : Option Addr} {n c : Nat} (h : TrdT enc W T [.slice a n c]) : a = none → c = 0 := by
  obtain ⟨fuel, x, hf⟩ := h
  rcases open_slice hT hf with ⟨hcs, _⟩ | ⟨a', l, c', m, n', D, Pl, hcs, _⟩
  · simp at hcs
    intro _; exact hcs.2.2
  · simp at hcs
    intro e; rw [hcs.1] at e; cases e
set_option maxRecDepth 100000 in
theorem rec_nil {cs : List Value} (hl : cs.length = 3) (h : TrdT enc W 63 cs) : ∃ p : RH × Rc, cs = p.1.cs ∧ RcRd W p.1 p.2 ∧ (p.1.ta = none → p.1.tc = 0) := by
  obtain ⟨fuel, x, hf⟩ := h
  obtain ⟨xs, n, _, rfl, _, hlen, hf⟩ := DataW.trod_struct Tryz.underlying63 hf
  match cs, hl with
  | [c0, c1, c2], _ =>
    match xs, hlen with
    | [y0, y1, y2], _ =>
      have h0 := hf 0 _ rfl
      have h1 := hf 1 _ rfl
      have h2 := hf 2 _ rfl
      simp [cells9, cells43, cells44] at h0 h1 h2
      obtain ⟨nm, rfl, hs⟩ := str_of ⟨_, _, h0⟩
      obtain ⟨fa, fn, fc, rfl⟩ := slice_of Tryz.underlying28 ⟨_, _, h1⟩
      obtain ⟨ta, tn, tc, rfl⟩ := slice_of Tryz.underlying47 ⟨_, _, h2⟩
      obtain ⟨ss, e1, e2, e3, e4⟩ := srd_of ⟨_, _, h1⟩
      obtain ⟨ts, q1, q2, q3⟩ := trd_of ⟨_, _, h2⟩
      exact ⟨(⟨nm, fa, fn, fc, ta, tn, tc⟩, ⟨nm, ss, ts⟩), rfl, ⟨rfl, hs, e1, e2, e3, e4, q1, q2, q3⟩, nil_of Tryz.underlying47 ⟨_, _, h2⟩⟩
set_option maxRecDepth 100000 in
theorem sig_nil {cs : List Value} (hl : cs.length = 4) (h : TrdT enc W 49 cs) : ∃ p : GH × Sg, cs = p.1.cs ∧ SgRd W p.1 p.2 ∧ (p.1.pa = none → p.1.pc = 0) := by
  obtain ⟨fuel, x, hf⟩ := h
  obtain ⟨xs, n, _, rfl, _, hlen, hf⟩ := DataW.trod_struct Tryz.underlying49 hf
  match cs, hl with
  | [c0, c1, c2, c3], _ =>
    match xs, hlen with
    | [y0, y1, y2], _ =>
      have h0 := hf 0 _ rfl
      have h1 := hf 1 _ rfl
      have h2 := hf 2 _ rfl
      simp [cells9, cells44, cells28] at h0 h1 h2
      obtain ⟨nm, rfl, hs⟩ := str_of ⟨_, _, h0⟩
      obtain ⟨pa, pn, pc, rfl⟩ := slice_of Tryz.underlying47 ⟨_, _, h1⟩
      obtain ⟨ts, q1, q2, q3⟩ := trd_of ⟨_, _, h1⟩
      obtain ⟨k, r, e1⟩ := type_of rfl ⟨_, _, h2⟩
      cases e1
      exact ⟨(⟨nm, pa, pn, pc, k, r⟩, ⟨nm, ts, (k, r)⟩), rfl, ⟨rfl, hs, q1, q2, q3, rfl⟩, nil_of Tryz.underlying47 ⟨_, _, h1⟩⟩
theorem rrd_nil {a : Option Addr} {n cap : Nat} (h : TrdT enc W 22 [.slice a n cap]) : ∃ rs, RRd W a n rs ∧ ∀ x ∈ rs, x.1.ta = none → x.1.tc = 0 := by
  obtain ⟨rows, hl, hrd, hel, hn, hc⟩ := rows_of Tryz.underlying22 cells46 (by omega) h
  obtain ⟨ps, hm, hr⟩ := list_of (R := fun r (p : RH × Rc) => r = p.1.cs ∧ RcRd W p.1 p.2 ∧ (p.1.ta = none → p.1.tc = 0)) rows (fun r hr => rec_nil (hel r hr).1 (hel r hr).2)
  have hel2 : ∀ p ∈ ps, RcRd W p.1 p.2 ∧ (p.1.ta = none → p.1.tc = 0) := fun p hp => by
    obtain ⟨j, hj⟩ := List.getElem?_of_mem hp
    obtain ⟨r, hrr⟩ := at_of hm hj
    obtain ⟨x, h1, _, h3⟩ := hr j r hrr
    rw [hj] at h1; cases h1; exact h3
  exact ⟨ps, ⟨by omega, hn, crd_map (fun p => p.1.cs) hrd hm (fun j r e => by obtain ⟨x, h1, h2, _⟩ := hr j r e; exact ⟨x, h1, h2⟩), fun p hp => (hel2 p hp).1⟩, fun p hp => (hel2 p hp).2⟩
theorem grd_nil {a : Option Addr} {n cap : Nat} (h : TrdT enc W 24 [.slice a n cap]) : ∃ gs, GRd W a n gs ∧ ∀ x ∈ gs, x.1.pa = none → x.1.pc = 0 := by
  obtain ⟨rows, hl, hrd, hel, hn, hc⟩ := rows_of Tryz.underlying24 cells48 (by omega) h
  obtain ⟨ps, hm, hr⟩ := list_of (R := fun r (p : GH × Sg) => r = p.1.cs ∧ SgRd W p.1 p.2 ∧ (p.1.pa = none → p.1.pc = 0)) rows (fun r hr => sig_nil (hel r hr).1 (hel r hr).2)
  have hel2 : ∀ p ∈ ps, SgRd W p.1 p.2 ∧ (p.1.pa = none → p.1.pc = 0) := fun p hp => by
    obtain ⟨j, hj⟩ := List.getElem?_of_mem hp
    obtain ⟨r, hrr⟩ := at_of hm hj
    obtain ⟨x, h1, _, h3⟩ := hr j r hrr
    rw [hj] at h1; cases h1; exact h3
  exact ⟨ps, ⟨by omega, hn, crd_map (fun p => p.1.cs) hrd hm (fun j r e => by obtain ⟨x, h1, h2, _⟩ := hr j r e; exact ⟨x, h1, h2⟩), fun p hp => (hel2 p hp).1⟩, fun p hp => (hel2 p hp).2⟩
set_option maxRecDepth 100000 in
theorem prog_nil {cs : List Value} (hl : cs.length = 4) (h : TrdT enc W 26 cs) : ∃ (g : PH) (p : Pg), cs = [.slice g.ra g.rn g.rc, .slice g.ma g.mn g.mc, .slice g.fa g.fn g.fc, .slice g.ea g.en g.ec] ∧ PRd W g p ∧ PNil p := by
  obtain ⟨fuel, x, hf⟩ := h
  obtain ⟨xs, n, _, rfl, _, hlen, hf⟩ := DataW.trod_struct Tryz.underlying26 hf
  match cs, hl with
  | [c0, c1, c2, c3], _ =>
    match xs, hlen with
    | [y0, y1, y2, y3], _ =>
      have h0 := hf 0 _ rfl
      have h1 := hf 1 _ rfl
      have h2 := hf 2 _ rfl
      have h3 := hf 3 _ rfl
      simp [cells22, cells23, cells24] at h0 h1 h2 h3
      obtain ⟨ra, rn, rc, rfl⟩ := slice_of Tryz.underlying22 ⟨_, _, h0⟩
      obtain ⟨ma, mn, mc, rfl⟩ := slice_of Tryz.underlying23 ⟨_, _, h1⟩
      obtain ⟨fa, fn, fc, rfl⟩ := slice_of Tryz.underlying24 ⟨_, _, h2⟩
      obtain ⟨ea, en, ec, rfl⟩ := slice_of Tryz.underlying24 ⟨_, _, h3⟩
      obtain ⟨rs, hr, nr⟩ := rrd_nil ⟨_, _, h0⟩
      obtain ⟨ms, hm⟩ := mrd_of ⟨_, _, h1⟩
      obtain ⟨gs, hg, ng⟩ := grd_nil ⟨_, _, h2⟩
      obtain ⟨es, he, ne⟩ := grd_nil ⟨_, _, h3⟩
      exact ⟨⟨ra, rn, rc, ma, mn, mc, fa, fn, fc, ea, en, ec⟩, ⟨rs, ms, gs, es⟩, rfl, ⟨hr, hm, hg, he⟩, ⟨nr, ng, ne⟩⟩
/- All that is known of a unit that came in. -/
end
end Go.Proofs.YthnolocldeokeaaGreat

namespace Go.Proofs.YthnolocldeokeaaGreat
open Go.RowKit Go.Deep Go.Shelf
set_option linter.unusedVariables false
set_option linter.unusedSimpArgs false
theorem sizeA : (Tryz.prog.info? 143).map (·.size) = some shpC.size := by kernel_rfl
theorem oneA : shpC.all (·.oneCell') = true := by kernel_rfl
theorem last_new (w : World) (o o2 : Obj) : ((w.alloc o).alloc o2).heap[w.heap.size + 1]? = some o2 := by
  have := heap_alloc_new (w.alloc o) o2
  rw [World.size_alloc] at this; exact this
def five (w : World) (b : Nat) (x0 x1 x2 x3 x4 : Value) : World := ((((w.setCell ⟨b, 0, none⟩ x0).setCell ⟨b, 1, none⟩ x1).setCell ⟨b, 2, none⟩ x2).setCell ⟨b, 3, none⟩ x3).setCell ⟨b, 4, none⟩ x4
theorem five_new {w : World} {b : Nat} {p0 p1 p2 p3 p4 : Value} {t : TypeId} (h : w.heap[b]? = some (.cells #[p0, p1, p2, p3, p4] t (0, 0))) (x0 x1 x2 x3 x4 : Value) : (five w b x0 x1 x2 x3 x4).heap[b]? = some (.cells #[x0, x1, x2, x3, x4] t (0, 0)) := heap_set_at (heap_set_at (heap_set_at (heap_set_at (heap_set_at h 0 x0) 1 x1) 2 x2) 3 x3) 4 x4
theorem five_below {B : Nat} {w0 w : World} (hb : Below B w0 w) {b : Nat} (hB : B ≤ b) (x0 x1 x2 x3 x4 : Value) : Below B w0 (five w b x0 x1 x2 x3 x4) := by
  unfold five
  exact ((((hb.setCell hB _).setCell hB _).setCell hB _).setCell hB _).setCell hB _
theorem shp_cell' {w : World} {X k : Nat} (h : w.heap[X]? = some (.cells shpC 143 (0, 0))) (hk : k < 41) (i : Nat) (hi : i < 5) : w.cell? ⟨X, k * 5 + i, none⟩ = (shpAt (k : Int)).cs[i]? := by
  rw [cellOf h]
  unfold shpC
  rw [List.getElem?_toArray]
  exact flat_get shpL k _ (shp_get hk) i hi
theorem row_is (w : World) (o : Obj) (z : Array Value) : ((w.alloc o).alloc (.cells z 143)).setRow (w.heap.size + 1) shpC = (w.alloc o).alloc (.cells shpC 143) := by
  have := World.setRow_alloc_new (w.alloc o) z shpC 143
  rw [World.size_alloc] at this; exact this
def shpR (k : Int) : Ending := .returned (.tuple #[.agg (if isC k = true then shpAt k else shp0).cs.toArray, .bool (isC k)])
theorem shpT (k : Int) (h : isC k = true) (s : Shp) (hs : s = shpAt k) : Ending.returned (.tuple #[.agg s.cs.toArray, .bool true]) = shpR k := by
  unfold shpR; rw [h, hs]; rfl
theorem shpF (k : Int) (h : isC k = false) : Ending.returned (.tuple #[.agg #[.string ⟨#[]⟩, .int .u8 0, .int .u8 0, .int .u8 0, .int .u8 0], .bool false]) = shpR k := by
  unfold shpR; rw [h]; simp only [Bool.false_eq_true, if_false, shp0, Shp.cs]; rfl
set_option maxRecDepth 100000 in
set_option maxHeartbeats 8000000 in
theorem shapeOf_core (w : World) (k : Int) : Calls Tryz.prog 54 #[.int .i64 k] w fun e w' => e = shpR k ∧ Below w.heap.size w w' := by
  go_enter Tryz.func54, Tryz.ntmps54
  go_upto_region 1 with fail
  go_cut [4] from 5 to 45 (fun s wc => s = .pointer (some ⟨w.heap.size + 1, 0, none⟩) ∧ wc = (w.alloc (.cells #[.string ⟨#[]⟩, .int .u8 0, .int .u8 0, .int .u8 0, .int .u8 0] 105)).alloc (.cells shpC 143))
  case first =>
    go_wp2_with (refine wpList_store_row rfl 143 (.tmp 4) (.tmp 45) rfl (w.heap.size + 1) shpC (by rfl) (by rfl) 143 _ (last_new _ _ _) sizeA (by rfl) oneA ?_)
    go_meet
    exact ⟨rfl, row_is _ _ _⟩
  case rest =>
    obtain ⟨rfl, rfl⟩ := hcut
    obtain ⟨X, hX⟩ : ∃ X, X = w.heap.size := ⟨_, rfl⟩
    obtain ⟨W2, hW2⟩ : ∃ W2, W2 = (w.alloc (.cells #[.string ⟨#[]⟩, .int .u8 0, .int .u8 0, .int .u8 0, .int .u8 0] 105)).alloc (.cells shpC 143) := ⟨_, rfl⟩
    have bw : Below w.heap.size w W2 := by rw [hW2]; exact ((Below.refl _ _).alloc (Nat.le_refl _) _).alloc (by simp) _
    have mX : W2.heap[X]? = some (.cells #[.string ⟨#[]⟩, .int .u8 0, .int .u8 0, .int .u8 0, .int .u8 0] 105 (0, 0)) := by rw [hW2, hX, Below.heap_alloc _ _ _ (by simp)]; exact heap_alloc_new _ _
    have mT : W2.heap[X + 1]? = some (.cells shpC 143 (0, 0)) := by rw [hW2, hX]; exact last_new _ _ _
    have y0 := cellOf mX 0
    have y1 := cellOf mX 1
    have y2 := cellOf mX 2
    have y3 := cellOf mX 3
    have y4 := cellOf mX 4
    have f0 := freeOf mX 0
    have f1 := freeOf mX 1
    have f2 := freeOf mX 2
    have f3 := freeOf mX 3
    have f4 := freeOf mX 4
    simp only [List.getElem?_toArray, List.getElem?_cons_zero, List.getElem?_cons_succ] at y0 y1 y2 y3 y4
    have MX := hid mX
    have MT := hid mT
    have BW := hid bw
    have HX := hid hX
    rw [← hW2, ← hX]
    clear hW2 hX mX mT bw
    have FIN := hid (fun (x0 x1 x2 x3 x4 : Value) => (⟨five_new MX.out x0 x1 x2 x3 x4, five_below BW.out (b := X) (by rw [HX.out]; exact Nat.le_refl _) x0 x1 x2 x3 x4⟩ : (five W2 X x0 x1 x2 x3 x4).heap[X]? = some (.cells #[x0, x1, x2, x3, x4] 105 (0, 0)) ∧ Below w.heap.size w (five W2 X x0 x1 x2 x3 x4)))
    by_cases h0 : isC k = true
    · have HD := hid h0
      have hk : 1 ≤ k ∧ k < 41 := by unfold isC at h0; simpa using h0
      obtain ⟨kk, rfl⟩ : ∃ kk : Nat, k = (kk : Int) := ⟨k.toNat, by omega⟩
      have hkk : kk < 41 := by omega
      obtain ⟨h1, h2⟩ := hk
      have h1' : ¬ (kk : Int) < 1 := by omega
      have h2' : ¬ (41 : Int) ≤ (kk : Int) := by omega
      have h3 : (0 : Int) ≤ (kk : Int) := by omega
      have hb1 : decide ((kk : Int) < 1) = false := decide_eq_false h1'
      have hb2 : decide ((41 : Int) ≤ (kk : Int)) = false := decide_eq_false h2'
      obtain ⟨sh, hsh⟩ : ∃ sh, sh = shpAt (kk : Int) := ⟨_, rfl⟩
      have s0 := shp_cell' MT.out hkk 0 (by omega)
      have s1 := shp_cell' MT.out hkk 1 (by omega)
      have s2 := shp_cell' MT.out hkk 2 (by omega)
      have s3 := shp_cell' MT.out hkk 3 (by omega)
      have s4 := shp_cell' MT.out hkk 4 (by omega)
      rw [← hsh] at s0 s1 s2 s3 s4
      have HSH := hid hsh
      obtain ⟨nm, d, a, b, kf⟩ := sh
      simp only [Shp.cs, List.getElem?_cons_zero, List.getElem?_cons_succ, Nat.add_zero] at s0 s1 s2 s3 s4
      clear hsh h0
      go_wp2
      obtain ⟨hf, hb⟩ := FIN.out (.string nm) (.int .u8 d) (.int .u8 a) (.int .u8 b) (.int .u8 kf)
      have q0 := cellOf hf 0
      have q1 := cellOf hf 1
      have q2 := cellOf hf 2
      have q3 := cellOf hf 3
      have q4 := cellOf hf 4
      simp only [five, List.getElem?_toArray, List.getElem?_cons_zero, List.getElem?_cons_succ] at q0 q1 q2 q3 q4 hb
      refine bodyPost_ret (v := .tuple #[.agg #[.string nm, .int .u8 d, .int .u8 a, .int .u8 b, .int .u8 kf], .bool true]) (by simp [results, Tryz.results54, go_sem, q0, q1, q2, q3, q4]) rfl ⟨shpT (kk : Int) HD.out ⟨nm, d, a, b, kf⟩ HSH.out, hb⟩
    · have HD : Hid (isC k = false) := hid (by simpa using h0)
      have hk : k < 1 ∨ 41 ≤ k := by unfold isC at h0; simp at h0; omega
      clear h0
      have FIN0 := hid (FIN.out (.string ⟨#[]⟩) (.int .u8 0) (.int .u8 0) (.int .u8 0) (.int .u8 0))
      clear FIN MT
      rcases hk with h1 | h1
      · have hb1 : decide (k < 1) = true := decide_eq_true h1
        go_wp2
        obtain ⟨hf, hb⟩ := FIN0.out
        have q0 := cellOf hf 0
        have q1 := cellOf hf 1
        have q2 := cellOf hf 2
        have q3 := cellOf hf 3
        have q4 := cellOf hf 4
        simp only [five, List.getElem?_toArray, List.getElem?_cons_zero, List.getElem?_cons_succ] at q0 q1 q2 q3 q4 hb
        refine bodyPost_ret (v := .tuple #[.agg #[.string ⟨#[]⟩, .int .u8 0, .int .u8 0, .int .u8 0, .int .u8 0], .bool false]) (by simp [results, Tryz.results54, go_sem, q0, q1, q2, q3, q4]) rfl ⟨shpF k HD.out, hb⟩
      · have hb1 : decide (k < 1) = false := decide_eq_false (by omega)
        have hb2 : decide (41 ≤ k) = true := decide_eq_true h1
        have h2 : ¬ k < 1 := by omega
        go_wp2
        obtain ⟨hf, hb⟩ := FIN0.out
        have q0 := cellOf hf 0
        have q1 := cellOf hf 1
        have q2 := cellOf hf 2
        have q3 := cellOf hf 3
        have q4 := cellOf hf 4
        simp only [five, List.getElem?_toArray, List.getElem?_cons_zero, List.getElem?_cons_succ] at q0 q1 q2 q3 q4 hb
        refine bodyPost_ret (v := .tuple #[.agg #[.string ⟨#[]⟩, .int .u8 0, .int .u8 0, .int .u8 0, .int .u8 0], .bool false]) (by simp [results, Tryz.results54, go_sem, q0, q1, q2, q3, q4]) rfl ⟨shpF k HD.out, hb⟩
theorem shapeOf_any (w : World) (k : Int) : Calls Tryz.prog 54 #[.int .i64 k] w fun e w' => e = .returned (.tuple #[.agg (if isC k = true then shpAt k else shp0).cs.toArray, .bool (isC k)]) ∧ Below w.heap.size w w' := shapeOf_core w k
end Go.Proofs.YthnolocldeokeaaGreat

namespace Go.Proofs.YthnolocldeokeaaGreat
open Go.RowKit Go.Deep Go.Shelf
set_option linter.unusedVariables false
set_option linter.unusedSimpArgs false
theorem plainS (w : World) (h : PH) (p : Pg) (d : PRd w h p) : Calls Tryz.prog 18 #[h.v] w (Says w True) := (plainP_any w h p d).mono fun e w' h => by
  obtain ⟨b, he, hb⟩ := h
  exact ⟨hb, b, he, fun _ => trivial⟩
def c0 : Cx := ⟨⟨[], [], [], []⟩, 0, [], [], []⟩
theorem CEq.refl (c : Cx) : CEq c c := ⟨⟨rfl, rfl, rfl, rfl⟩, rfl, rfl, rfl⟩
theorem CEq.both {a b c : Cx} (h : CEq a c) (g : CEq b c) : CEq a b := ⟨⟨h.p.r.trans g.p.r.symm, h.p.m.trans g.p.m.symm, h.p.f.trans g.p.f.symm, h.p.e.trans g.p.e.symm⟩, h.t.trans g.t.symm, h.f.trans g.f.symm, h.e.trans g.e.symm⟩
/- Either side's answer in one form. -/
end Go.Proofs.YthnolocldeokeaaGreat

namespace Go.Proofs.YthnolocldeokeaaGreat
open Go.RowKit Go.Deep Go.Shelf
set_option linter.unusedVariables false
set_option linter.unusedSimpArgs false
set_option maxRecDepth 100000
theorem crd_of {w : World} {X : Nat} {E : TypeId} {k : Nat} (rows : List (List Value)) (h : w.heap[X]? = some (.cells rows.flatten.toArray E (0, 0))) (hk : ∀ r ∈ rows, r.length = k) : CRd w (some ⟨X, 0, none⟩) k rows := fun j r e => ⟨X, 0, rfl, lt_of_heap h, fun i hi => by
  rw [cellOf h, Nat.zero_add, List.getElem?_toArray]
  exact flat_at hk j r e i hi⟩
theorem crd_ord {w : World} {a : Option Addr} {l : List Opx} (h : CRd w a 5 (l.map fun o => o.cs.toList)) : ORd w a l := fun j x hx => by
  obtain ⟨b, off, e, _, hc⟩ := h j x.cs.toList (by rw [List.getElem?_map, hx]; rfl)
  exact ⟨b, off, e, fun i hi => by rw [hc i hi]; exact Array.getElem?_toList⟩
def kFx : Fx := ⟨0, [⟨35, 0, 0, 0, 0⟩, ⟨40, 0, -1, 0, 0⟩]⟩
def kSe : Sg := ⟨⟨#[101]⟩, [], (0, 0)⟩
def kSf : Sg := ⟨⟨#[102]⟩, [(1, 0), (1, 0)], (0, 0)⟩
def kPf (X : Nat) : Pg := ⟨[], [], [((⟨⟨#[102]⟩, some ⟨X, 0, none⟩, 2, 2, 0, 0⟩ : GH), kSf)], []⟩
def kCx : Cx := ⟨⟨[], [], [], [((⟨⟨#[101]⟩, none, 0, 0, 0, 0⟩ : GH), kSe)]⟩, 0, [], [], [kFx]⟩
def kBs : List Nat := [0, 0, 0, 1, 1, 101, 0, 0, 0, 0, 0, 0, 2, 70, 80, 1]
theorem kCx_is : isB kCx = true := by kernel_rfl
theorem kCx_enc : encC kCx [] = kBs := by kernel_rfl
theorem kPf_len (X : Nat) : rowLen (shpAt 31).k (kPf X) 0 = (((2 : Nat) : Int), true) := by kernel_rfl
theorem kUs : usL 2 (shpAt 31) ⟨31, -1, 3, 0, 0⟩ = [3, 4] := by kernel_rfl
theorem kDeS : DeS [] [] [] [kSe] [] [] [] [kFx] := by
  refine ⟨?_, ?_, ?_, ?_, ?_, ?_, ?_, ?_, ?_, ?_, ?_, ?_, ?_, ?_⟩ <;> simp [kSe, kFx]
theorem kDec (SO : ShapeC) (w : World) (a : Option Addr) (n c : Nat) (hb : Rd w (.slice a n c) kBs) (ho : ∀ k, (Value.slice a n c).ownBlock = some k → k < w.heap.size) : Calls Tryz.prog 10 #[.slice a n c] w fun e w' => Below w.heap.size w w' ∧ ∃ C cx fl el, e = .returned (.tuple #[C.v, .int .i64 0]) ∧ CEq kCx cx ∧ CdRd w' C cx fl el ∧ JRd w' C.ia [] ∧ C.inn = 0 := by
  have h := decode_go SO w a n c kBs hb (by simp [kBs]) ho [] [] [] [kSe] [] [] [] [kFx] (some kBs) (some [0, 0, 1, 1, 101, 0, 0, 0, 0, 0, 0, 2, 70, 80, 1]) (some [0, 1, 1, 101, 0, 0, 0, 0, 0, 0, 2, 70, 80, 1]) (some [1, 1, 101, 0, 0, 0, 0, 0, 0, 2, 70, 80, 1]) (some [0, 0, 0, 2, 70, 80, 1]) (some [0, 0, 2, 70, 80, 1]) (some [0, 2, 70, 80, 1]) (some [0, 2, 70, 80, 1]) (some []) rfl (by kernel_rfl) (by kernel_rfl) (by kernel_rfl) (by kernel_rfl) (by kernel_rfl) (by kernel_rfl) (by kernel_rfl) (by kernel_rfl) (fun _ => kDeS) (by simp) (by simp)
  refine h.mono ?_
  rintro e w' ⟨hbl, h | h⟩
  · obtain ⟨_, C, cx, fl, el, he, _, d, hc, hj, hn⟩ := h
    exact ⟨hbl, C, cx, fl, el, he, ⟨⟨d.r.symm, d.m.symm, d.f.symm, d.e.symm⟩, d.t.symm, d.F.symm, d.E.symm⟩, hc, hj, hn⟩
  · obtain ⟨c', d, hf⟩ := h.1 rfl
    have : isB c' = isB kCx := isB_of ⟨d.r, d.m, d.f, d.e⟩ d.i d.t d.F d.E
    rw [hf, kCx_is] at this
    cases this
theorem srd_nil (w : World) : SRd w none [] := fun j s h => by simp at h
theorem kPRd {w : World} {X : Nat} (m0 : w.heap[X]? = some (.cells #[.int .i64 1, .int .i64 0, .int .i64 1, .int .i64 0] 46 (0, 0))) (m1 : w.heap[X + 1]? = some (.cells #[.string ⟨#[102]⟩, .slice (some ⟨X, 0, none⟩) 2 2, .int .i64 0, .int .i64 0] 49 (0, 0))) : PRd w ⟨none, 0, 0, none, 0, 0, some ⟨X + 1, 0, none⟩, 1, 1, none, 0, 0⟩ (kPf X) := by
  have tr : TRd w (some ⟨X, 0, none⟩) [(1, 0), (1, 0)] := CRd.trd (crd_of [[.int .i64 1, .int .i64 0], [.int .i64 1, .int .i64 0]] m0 (by simp))
  refine ⟨⟨rfl, by simp, fun j r h => by simp [kPf] at h, fun p hp => by simp [kPf] at hp⟩, ⟨rfl, by simp, fun j r h => by simp [kPf] at h, fun p hp => by simp [kPf] at hp⟩, ⟨rfl, by simp, crd_of [[.string ⟨#[102]⟩, .slice (some ⟨X, 0, none⟩) 2 2, .int .i64 0, .int .i64 0]] m1 (by simp), fun p hp => ?_⟩, ⟨rfl, by simp, fun j r h => by simp [kPf] at h, fun p hp => by simp [kPf] at hp⟩⟩
  simp [kPf] at hp
  subst hp
  exact ⟨rfl, of_decide_eq_true (by kernel_rfl), rfl, by simp, tr, rfl⟩
theorem kCd {w : World} {Y : Nat} (m0 : w.heap[Y]? = some (.cells #[.string ⟨#[101]⟩, .slice none 0 0, .int .i64 0, .int .i64 0] 49 (0, 0))) (m1 : w.heap[Y + 1]? = some (.cells #[.int .i64 35, .int .i64 0, .int .i64 0, .int .i64 0, .int .i64 0, .int .i64 40, .int .i64 0, .int .i64 (-1), .int .i64 0, .int .i64 0] 54 (0, 0))) (m2 : w.heap[Y + 1 + 1]? = some (.cells #[.int .i64 0, .slice (some ⟨Y + 1, 0, none⟩) 2 2] 57 (0, 0))) :
    CdRd w ⟨⟨none, 0, 0, none, 0, 0, none, 0, 0, some ⟨Y, 0, none⟩, 1, 1⟩, none, 0, 0, none, 0, 0, none, 0, 0, some ⟨Y + 1 + 1, 0, none⟩, 1, 1⟩ kCx [] [((⟨0, some ⟨Y + 1, 0, none⟩, 2, 2⟩ : FH), kFx)] := by
  have oR : ORd w (some ⟨Y + 1, 0, none⟩) kFx.ops := crd_ord (crd_of [[.int .i64 35, .int .i64 0, .int .i64 0, .int .i64 0, .int .i64 0], [.int .i64 40, .int .i64 0, .int .i64 (-1), .int .i64 0, .int .i64 0]] m1 (by simp))
  refine ⟨⟨⟨rfl, by simp, fun j r h => by simp [kCx] at h, fun p hp => by simp [kCx] at hp⟩, ⟨rfl, by simp, fun j r h => by simp [kCx] at h, fun p hp => by simp [kCx] at hp⟩, ⟨rfl, by simp, fun j r h => by simp [kCx] at h, fun p hp => by simp [kCx] at hp⟩, ⟨rfl, by simp, crd_of [[.string ⟨#[101]⟩, .slice none 0 0, .int .i64 0, .int .i64 0]] m0 (by simp), fun p hp => ?_⟩⟩, rfl, by simp, rfl, by simp, srd_nil w, ⟨rfl, by simp, fun j r h => by simp at h, fun p hp => by simp at hp⟩, rfl, ⟨rfl, by simp, crd_of [[.int .i64 0, .slice (some ⟨Y + 1, 0, none⟩) 2 2]] m2 (by simp), fun p hp => ?_⟩, rfl⟩
  · simp [kCx] at hp
    subst hp
    exact ⟨rfl, of_decide_eq_true (by kernel_rfl), rfl, by simp, fun j t h => by simp [kSe] at h, rfl⟩
  · simp at hp
    subst hp
    exact ⟨rfl, rfl, by simp, oR⟩
theorem jrd_nil (w : World) (a : Option Addr) : JRd w a [] := fun j r h => by simp at h
end Go.Proofs.YthnolocldeokeaaGreat

namespace Go.Proofs.YthnolocldeokeaaGreat
open Go.RowKit Go.Deep Go.Shelf
set_option linter.unusedVariables false
set_option linter.unusedSimpArgs false
set_option maxRecDepth 100000
/- The blocks that handler keeps: the answer's, the event's, the code's. -/
structure HS (w : World) (c4 c5 c7 : Value) (W : World) : Prop where
  r0 : W.heap[w.heap.size]? = some (.cells #[.slice none 0 0, .slice none 0 0, .slice none 0 0, .slice none 0 0, .slice none 0 0, .slice none 0 0, .slice none 0 0, .slice none 0 0] 31 (0, 0))
  r1 : W.heap[w.heap.size + 1]? = some (.cells #[.string ⟨#[101]⟩, .slice none 0 0, .int .i64 0, .int .i64 0] 49 (0, 0))
  r2 : W.heap[w.heap.size + 2]? = some (.cells #[.slice none 0 0, .slice none 0 0, .slice none 0 0, .slice (some ⟨w.heap.size + 1, 0, none⟩) 1 1, c4, c5, .slice none 0 0, c7] 31 (0, 0))
  b : Below w.heap.size w W
theorem HS.size {w W : World} {c4 c5 c7 : Value} (h : HS w c4 c5 c7 W) : w.heap.size + 3 ≤ W.heap.size := lt_of_heap h.r2
theorem HS.alloc {w W : World} {c4 c5 c7 : Value} (h : HS w c4 c5 c7 W) (o : Obj) : HS w c4 c5 c7 (W.alloc o) := by
  have hs := h.size
  exact ⟨by rw [Below.heap_alloc _ _ _ (by omega)]; exact h.r0, by rw [Below.heap_alloc _ _ _ (by omega)]; exact h.r1, by rw [Below.heap_alloc _ _ _ (by omega)]; exact h.r2, h.b.alloc h.b.size _⟩
theorem HS.grown {w W W' : World} {c4 c5 c7 : Value} (h : HS w c4 c5 c7 W) {E : TypeId} {k : Nat} {v : Value} {l : List (List Value)} (kr : KR E k W (w.heap.size + 3) v l) (hg : W.grownBy W' v.ownBlock) : HS w c4 c5 c7 W' := by
  have hs := h.size
  have q : ∀ g, g < w.heap.size + 3 → W'.heap[g]? = W.heap[g]? := fun g hg2 => hg.block g (by omega) (fun e => by have := (kr.own e.symm).1; omega)
  exact ⟨(q _ (by omega)).trans h.r0, (q _ (by omega)).trans h.r1, (q _ (by omega)).trans h.r2, h.b.grown hg h.b.size (fun g e => by have := (kr.own e).1; omega)⟩
theorem KR.ne {E F : TypeId} (hne : E ≠ F) {k : Nat} {W : World} {B : Nat} {v : Value} {l : List (List Value)} (h : KR E k W B v l) {Y : Nat} {cs : Array Value} {f : Nat × Nat} (hY : W.heap[Y]? = some (.cells cs F f)) : v.ownBlock ≠ some Y := fun e => by
  rcases h.1.2 with ⟨rfl, _⟩ | ⟨b', cap, cur, rfl, h3, h4, _⟩
  · cases e
  · cases e
    rw [h4] at hY
    injection hY with hY
    injection hY with _ h6 _
    exact hne h6
/- The code that handler answers, as it lies. -/
end Go.Proofs.YthnolocldeokeaaGreat

namespace Go.Proofs.YthnolocldeokeaaGreat
set_option maxRecDepth 100000
open Go.ChangeShapes Go.WideShapes Go.ChangeAt Go.RowKit Go.Deep
set_option linter.unusedVariables false
set_option linter.unusedSimpArgs false
theorem cellsCode : Tryz.prog.cellsOf 31 = 8 := by kernel_rfl
theorem cellsFns : Tryz.prog.cellsOf 29 = 1 := by kernel_rfl
theorem cellsFn : Tryz.prog.cellsOf 57 = 2 := by kernel_rfl
theorem cellsOps : Tryz.prog.cellsOf 55 = 1 := by kernel_rfl
theorem cellsI64s' : Tryz.prog.cellsOf 27 = 1 := by kernel_rfl
theorem bytesFn : Tryz.prog.bytesOf 57 = 32 := by kernel_rfl
/- A row of functions that came in. -/
structure FwRd (w : World) (a : Option Addr) (n : Nat) (fs : List (FH × Fx)) : Prop where
  rd : FRd w a n fs
  n3 : n ≤ 140737488355328
  o3 : ∀ p ∈ fs, p.1.on ≤ 140737488355328
theorem FwRd.below {w w' : World} {a : Option Addr} {n : Nat} {fs : List (FH × Fx)} {B : Nat} (d : FwRd w a n fs) (hB : w.heap.size ≤ B) (k : Below B w w') : FwRd w' a n fs := ⟨d.rd.below hB k, d.n3, d.o3⟩
section
variable {H : Type} {enc : TypeId × Value → H} {W : World}
set_option maxRecDepth 100000 in
theorem fnS_of {cs : List Value} (hl : cs.length = 2) (h : TrdS enc W 57 cs) : ∃ p : FH × Fx, cs = p.1.cs ∧ FnRd W p.1 p.2 ∧ p.1.on ≤ 140737488355328 := by
  obtain ⟨fuel, x, hf, hsm⟩ := h
  obtain ⟨xs, n, _, rfl, _, hlen, hf⟩ := DataW.trod_struct Tryz.underlying57 hf
  match cs, hl with
  | [c0, c1], _ =>
    match xs, hlen with
    | [y0, y1], _ =>
      have h0 := hf 0 _ rfl
      have h1 := hf 1 _ rfl
      simp [f_cells3, cellsOps] at h0 h1
      have s1 : f_Sm 55 y1.1 := fun n hn => hsm n (by
        simp only [DataW.weights, Tryz.underlying57]
        simp [DataW.weightsEach]
        exact .inr hn)
      obtain ⟨regs, rfl⟩ := f_int_of ⟨_, _, h0⟩
      obtain ⟨a, m, cap, rfl⟩ := f_slice_of Tryz.underlying55 ⟨_, _, h1⟩
      obtain ⟨ops, h2, h3, h4⟩ := ord_of ⟨_, _, h1⟩
      obtain ⟨_, _, _, _, e4, e5⟩ := rowsS_of Tryz.underlying55 cells36 (by omega) ⟨_, _, h1, s1⟩
      rw [bytes36, reach_is] at e4
      exact ⟨(⟨regs, a, m, cap⟩, ⟨regs, ops⟩), rfl, ⟨rfl, h2, h3, h4⟩, by show m ≤ _; omega⟩
theorem fw_of {a : Option Addr} {n cap : Nat} (h : TrdS enc W 29 [.slice a n cap]) : ∃ fs : List (FH × Fx), FwRd W a n fs := by
  obtain ⟨rows, hl, hrd, hel, hn, hc⟩ := rowsS_of Tryz.underlying29 cellsFn (by omega) h
  rw [bytesFn, reach_is] at hn
  obtain ⟨fs, hm, hr⟩ := list_of (R := fun r (p : FH × Fx) => r = p.1.cs ∧ FnRd W p.1 p.2 ∧ p.1.on ≤ 140737488355328) rows (fun r hr => by
    obtain ⟨h1, h2⟩ := hel r hr
    exact fnS_of h1 h2)
  have he : ∀ p ∈ fs, FnRd W p.1 p.2 ∧ p.1.on ≤ 140737488355328 := fun p hp => by
    obtain ⟨j, hj⟩ := List.getElem?_of_mem hp
    obtain ⟨r, hrr⟩ := at_of hm hj
    obtain ⟨x, h1, _, h3⟩ := hr j r hrr
    rw [hj] at h1; cases h1; exact h3
  exact ⟨fs, ⟨⟨by omega, by omega, crd_map (fun p => p.1.cs) hrd hm (fun j r e => by obtain ⟨x, h1, h2, _⟩ := hr j r e; exact ⟨x, h1, h2⟩), fun p hp => (he p hp).1⟩, by omega, fun p hp => (he p hp).2⟩⟩
theorem i64_in {c : Value} (h : TrdT enc W 2 [c]) : ∃ n, c = .int .i64 n ∧ inR n := by
  obtain ⟨fuel, x, hf⟩ := h
  obtain ⟨n, e, _, w⟩ := DataW.trod_int Tryz.underlying2 hf
  simp at e
  have w' : -9223372036854775808 ≤ n ∧ n ≤ 9223372036854775807 := by simpa [Lit.wf, IntKind.min, IntKind.max, IntKind.signed, IntKind.bits] using w
  exact ⟨n, e, w'⟩
theorem jrd_in {a : Option Addr} {n cap : Nat} (h : TrdT enc W 27 [.slice a n cap]) : ∃ xs : List Int, n = xs.length ∧ n ≤ 9223372036854775807 ∧ JRd W a xs ∧ ∀ x ∈ xs, inR x := by
  obtain ⟨rows, hl, hrd, hel, hn, hc⟩ := rows_of Tryz.underlying27 cellsI64 (by omega) h
  obtain ⟨ss, hm, hr⟩ := list_of (R := fun r (s : Int) => r = inc s ∧ inR s) rows (fun r hr => by
    obtain ⟨h1, h2⟩ := hel r hr
    match r, h1 with
    | [c], _ =>
      obtain ⟨s, rfl, hs⟩ := i64_in h2
      exact ⟨s, rfl, hs⟩)
  refine ⟨ss, by omega, hn, crd_map inc hrd hm (fun j r e => by obtain ⟨x, h1, h2, _⟩ := hr j r e; exact ⟨x, h1, h2⟩), fun x hx => ?_⟩
  obtain ⟨j, hj⟩ := List.getElem?_of_mem hx
  obtain ⟨r, hrr⟩ := at_of hm hj
  obtain ⟨y, h1, _, h3⟩ := hr j r hrr
  rw [hj] at h1; cases h1; exact h3
/- All that is known of a code that came in. -/
structure CwRd (W : World) (C : CH) (c : Cx) (xs : List Int) (fs es : List (FH × Fx)) : Prop where
  cd : CdRd W C c fs es
  i1 : C.inn = xs.length
  ir : JRd W C.ia xs
  ix : ∀ x ∈ xs, inR x
  f3 : FwRd W C.fa C.fn fs
  e3 : FwRd W C.ea C.en es
theorem CwRd.below {w w' : World} {C : CH} {c : Cx} {xs : List Int} {fs es : List (FH × Fx)} (d : CwRd w C c xs fs es) (k : Below w.heap.size w w') : CwRd w' C c xs fs es := ⟨d.cd.below (Nat.le_refl _) k, d.i1, CRd.below d.ir (Nat.le_refl _) k, d.ix, d.f3.below (Nat.le_refl _) k, d.e3.below (Nat.le_refl _) k⟩
set_option maxRecDepth 100000 in
theorem code_of {cs : List Value} (hl : cs.length = 8) (h : TrdS enc W 31 cs) : ∃ (C : CH) (c : Cx) (xs : List Int) (fs es : List (FH × Fx)), cs.toArray = C.cs ∧ CwRd W C c xs fs es := by
  obtain ⟨fuel, x, hf, hsm⟩ := h
  obtain ⟨xs, n, _, rfl, _, hlen, hf⟩ := DataW.trod_struct Tryz.underlying31 hf
  match cs, hl with
  | [c0, c1, c2, c3, c4, c5, c6, c7], _ =>
    match xs, hlen with
    | [y0, y1, y2, y3, y4], _ =>
      have h0 := hf 0 _ rfl
      have h1 := hf 1 _ rfl
      have h2 := hf 2 _ rfl
      have h3 := hf 3 _ rfl
      have h4 := hf 4 _ rfl
      simp [cells26, cellsI64s', cells43, cellsFns] at h0 h1 h2 h3 h4
      have s3 : f_Sm 29 y3.1 := fun n hn => hsm n (by
        simp only [DataW.weights, Tryz.underlying31]
        simp [DataW.weightsEach]
        exact .inr (.inr (.inr (.inl hn))))
      have s4 : f_Sm 29 y4.1 := fun n hn => hsm n (by
        simp only [DataW.weights, Tryz.underlying31]
        simp [DataW.weightsEach]
        exact .inr (.inr (.inr (.inr hn))))
      obtain ⟨g, p, e0, k0, k0'⟩ := prog_nil rfl ⟨_, _, h0⟩
      cases e0
      obtain ⟨ia, inn, ic, rfl⟩ := slice_of Tryz.underlying27 ⟨_, _, h1⟩
      obtain ⟨ta, tn, tc, rfl⟩ := slice_of Tryz.underlying28 ⟨_, _, h2⟩
      obtain ⟨fa, fn, fc, rfl⟩ := slice_of Tryz.underlying29 ⟨_, _, h3⟩
      obtain ⟨ea, en, ec, rfl⟩ := slice_of Tryz.underlying29 ⟨_, _, h4⟩
      obtain ⟨ys, i1, i2, i3, i4⟩ := jrd_in ⟨_, _, h1⟩
      obtain ⟨ts, t1, _, t2, t3⟩ := srd_of ⟨_, _, h2⟩
      obtain ⟨fs, kf⟩ := fw_of ⟨_, _, h3, s3⟩
      obtain ⟨es, ke⟩ := fw_of ⟨_, _, h4, s4⟩
      exact ⟨⟨g, ia, inn, ic, ta, tn, tc, fa, fn, fc, ea, en, ec⟩, ⟨p, ys.length, ts, fs.map (·.2), es.map (·.2)⟩, ys, fs, es, rfl, ⟨⟨k0, i1, i2, t1, t2, t3, kf.rd, rfl, ke.rd, rfl⟩, i1, i3, i4, kf, ke⟩⟩
set_option maxRecDepth 100000 in
theorem code_arg {v : Value} {base : Nat} {d : DataW H} {p : List MemPlace} (hv : Value.okWide Tryz.prog W .any base 31 v) (h : DataW.Trod enc Tryz.prog W 0 (fun _ => true) true 31 v d p) (hs : f_Sm 31 d) : ∃ (C : CH) (c : Cx) (xs : List Int) (fs es : List (FH × Fx)), v = C.v ∧ CwRd W C c xs fs es := by
  obtain ⟨cs, rfl, hs'⟩ := okWide_struct Tryz.underlying31 hv
  obtain ⟨m, hm⟩ := h
  have hlen : cs.toList.length = 8 := by
    have hm' := hm
    obtain ⟨xs, n, _, _, hl, _, _⟩ := DataW.trod_struct Tryz.underlying31 hm'
    rw [cellsCode] at hl; exact hl
  obtain ⟨C, c, xs, fs, es, e, h2⟩ := code_of (cs := cs.toList) hlen ⟨_, _, hm, hs⟩
  refine ⟨C, c, xs, fs, es, ?_, h2⟩
  have : cs = C.cs := by rw [← e]
  rw [this]; rfl
end
end Go.Proofs.YthnolocldeokeaaGreat

namespace Go.Proofs.YthnolocldeokeaaGreat
open Go.RowKit Go.Deep Go.Shelf
set_option linter.unusedVariables false
set_option linter.unusedSimpArgs false
set_option maxRecDepth 100000
theorem Says.any {w w' : World} (h : Below w.heap.size w w') (b : Bool) : Says w True (.returned (.bool b)) w' := ⟨h, b, rfl, fun _ => trivial⟩
set_option maxHeartbeats 2000000 in
theorem few9_any (w : World) (C : CH) (c : Cx) (xs : List Int) (fs es : List (FH × Fx)) (d : CwRd w C c xs fs es) :
    Calls Tryz.prog 7 #[C.v] w (Says w True) := by
  obtain ⟨W0, hW0⟩ : ∃ W0, W0 = w.alloc (.cells C.cs 31) := ⟨_, rfl⟩
  have bw : Below w.heap.size w W0 := by rw [hW0]; exact (Below.refl _ _).alloc (Nat.le_refl _) _
  have q0 : W0.heap[w.heap.size]? = some (.cells C.cs 31 (0, 0)) := by rw [hW0]; exact heap_alloc_new w _
  have KP := hid (fun (V : World) (hV : Below w.heap.size w V) => plainS V C.h c.p (d.cd.p.below (Nat.le_refl _) hV))
  have KS := hid (fun (V : World) (hV : Below w.heap.size w V) => short_any V C.ta C.tn C.tc c.texts d.cd.t1 d.cd.t2 (d.cd.tr.below (Nat.le_refl _) hV) 1100 200)
  have fn2 := d.f3.n3
  have en2 := d.e3.n3
  have FN := hid d.f3.rd.n1
  have EN := hid d.e3.rd.n1
  have i2 := d.cd.i2
  have DF := hid (fun (V : World) (hV : Below w.heap.size w V) => d.f3.below (Nat.le_refl _) hV)
  have DE := hid (fun (V : World) (hV : Below w.heap.size w V) => d.e3.below (Nat.le_refl _) hV)
  have GT : Hid (∀ V : World, Below W0.heap.size W0 V → V.heap[w.heap.size]? = some (.cells C.cs 31 (0, 0)) ∧ Below w.heap.size w V) := hid (fun V hV => ⟨(hV.block _ (lt_of_heap q0)).trans q0, bw.trans (hV.mono bw.size)⟩)
  have TR : Hid (∀ {x y : World}, Below W0.heap.size W0 x → Below x.heap.size x y → Below W0.heap.size W0 y) := hid (fun h1 h2 => h1.trans (h2.mono h1.size))
  clear d bw q0
  obtain ⟨⟨ra, rn, rc, ma, mn, mc, pfa, pfn, pfc, pea, pen, pec⟩, ia, inn, ic, ta, tn, tc, ga, gn, gc, ha, hn, hc⟩ := C
  simp only [CH.v, CH.cs, PH.v] at hW0 GT KS KP DF DE FN EN fn2 en2 i2 ⊢
  have CL : Hid (∀ V : World, Below W0.heap.size W0 V → ((V.cell? ⟨w.heap.size, 0, none⟩ = some (.slice ra rn rc) ∧ V.cell? ⟨w.heap.size, 1, none⟩ = some (.slice ma mn mc) ∧ V.cell? ⟨w.heap.size, 2, none⟩ = some (.slice pfa pfn pfc) ∧ V.cell? ⟨w.heap.size, 3, none⟩ = some (.slice pea pen pec)) ∧ V.cell? ⟨w.heap.size, 4, none⟩ = some (.slice ia inn ic) ∧ V.cell? ⟨w.heap.size, 5, none⟩ = some (.slice ta tn tc) ∧ V.cell? ⟨w.heap.size, 6, none⟩ = some (.slice ga gn gc) ∧ V.cell? ⟨w.heap.size, 7, none⟩ = some (.slice ha hn hc)) ∧ Below w.heap.size w V) := hid (fun V hV => by
    obtain ⟨g, gb⟩ := GT.out V hV
    exact ⟨⟨⟨cellOf g 0, cellOf g 1, cellOf g 2, cellOf g 3⟩, cellOf g 4, cellOf g 5, cellOf g 6, cellOf g 7⟩, gb⟩)
  have gnI : (gn : Int) ≤ 140737488355328 := by omega
  have hnI : (hn : Int) ≤ 140737488355328 := by omega
  go_enter Tryz.func7, Tryz.ntmps7
  go_upto_region 1 with fail
  rw [← hW0]
  clear hW0
  go_upto_block 0 with fail
  go_cut [3] from 4 to 26 (fun s wc => ∃ m : Nat, s = .int .i64 (m : Int) ∧ (m : Int) ≤ 140737488358400 ∧ Below W0.heap.size W0 wc)
  case first =>
    go_wp2_with fail
    go_loopg [3, 4] gn (fun g x y wr => ∃ m j : Nat, x = .int .i64 (m : Int) ∧ y = .int .i64 (j : Int) ∧ j + g = gn ∧ (m : Int) ≤ 140737488358400 ∧ Below W0.heap.size W0 wr)
    case atStart => exact ⟨0, 0, rfl, rfl, by omega, by omega, Below.refl _ _⟩
    case round =>
      obtain ⟨m, j, rfl, rfl, hj, hm, hb⟩ := hrel
      obtain ⟨⟨⟨c0, c1, c2, c3⟩, c4, c5, c6, c7⟩, hbw⟩ := CL.out wr hb
      have HB := hid hb
      have HBW := hid hbw
      have m0 : (0 : Int) ≤ (m : Int) := by omega
      clear hb hbw
      cases gk with
      | zero =>
        have hjn : j = gn := by omega
        subst hjn
        go_wp2
        go_meet
        exact ⟨m, rfl, hm, HB.out⟩
      | succ g =>
        have hjI : (j : Int) < (gn : Int) := by omega
        have hj0 : (0 : Int) ≤ (j : Int) := by omega
        by_cases h3 : (m : Int) ≤ 3000
        · have hlj : j < fs.length := by rw [← FN.out]; omega
          have hgj : fs[j]? = some fs[j] := List.getElem?_eq_getElem hlj
          obtain ⟨b, off, ea, hbl, hc⟩ := (DF.out wr HBW.out).rd.rd j (fs[j]).1.cs (by simp [hgj])
          have k2 := (DF.out wr HBW.out).o3 _ (List.getElem_mem hlj)
          generalize fs[j] = gj at hgj hc k2
          obtain ⟨⟨regs, oa, on, oc⟩, fx⟩ := gj
          subst ea
          have s0 := hc 0 (by omega)
          have s1 := hc 1 (by omega)
          simp only [FH.cs, List.getElem?_cons_zero, List.getElem?_cons_succ, Nat.add_zero] at s0 s1 k2
          have onI : (on : Int) ≤ 140737488355328 := by omega
          clear hgj hc hbl hlj
          go_wp2
          go_roundg g
          case measure => omega
          exact ⟨m + 1 + on, j + 1, by go_num, by go_num, by omega, by omega, HB.out⟩
        · go_wp2
          go_meet
          exact ⟨m, rfl, hm, HB.out⟩
  case rest =>
    rename_i hcut
    obtain ⟨m, rfl, hm, hb⟩ := hcut
    have HB := hid hb
    clear hb
    go_upto_block 2 with fail
    go_cut [3] from 5 to 47 (fun s wd => ∃ m : Nat, s = .int .i64 (m : Int) ∧ (m : Int) ≤ 140737488358400 ∧ Below W0.heap.size W0 wd)
    case first =>
      go_wp2_with fail
      go_loopg [3, 5] hn (fun g x y wr => ∃ m j : Nat, x = .int .i64 (m : Int) ∧ y = .int .i64 (j : Int) ∧ j + g = hn ∧ (m : Int) ≤ 140737488358400 ∧ Below W0.heap.size W0 wr)
      case atStart => exact ⟨m, 0, rfl, rfl, by omega, hm, HB.out⟩
      case round =>
        obtain ⟨m, j, rfl, rfl, hj, hm, hb⟩ := hrel
        obtain ⟨⟨⟨c0, c1, c2, c3⟩, c4, c5, c6, c7⟩, hbw⟩ := CL.out wr hb
        have HB := hid hb
        have HBW := hid hbw
        have m0 : (0 : Int) ≤ (m : Int) := by omega
        clear hb hbw
        cases gk with
        | zero =>
          have hjn : j = hn := by omega
          subst hjn
          go_wp2
          go_meet
          exact ⟨m, rfl, hm, HB.out⟩
        | succ g =>
          have hjI : (j : Int) < (hn : Int) := by omega
          have hj0 : (0 : Int) ≤ (j : Int) := by omega
          by_cases h3 : (m : Int) ≤ 3000
          · have hlj : j < es.length := by rw [← EN.out]; omega
            have hgj : es[j]? = some es[j] := List.getElem?_eq_getElem hlj
            obtain ⟨b, off, ea, hbl, hc⟩ := (DE.out wr HBW.out).rd.rd j (es[j]).1.cs (by simp [hgj])
            have k2 := (DE.out wr HBW.out).o3 _ (List.getElem_mem hlj)
            generalize es[j] = gj at hgj hc k2
            obtain ⟨⟨regs, oa, on, oc⟩, fx⟩ := gj
            subst ea
            have s0 := hc 0 (by omega)
            have s1 := hc 1 (by omega)
            simp only [FH.cs, List.getElem?_cons_zero, List.getElem?_cons_succ, Nat.add_zero] at s0 s1 k2
            have onI : (on : Int) ≤ 140737488355328 := by omega
            clear hgj hc hbl hlj
            go_wp2
            go_roundg g
            case measure => omega
            exact ⟨m + 1 + on, j + 1, by go_num, by go_num, by omega, by omega, HB.out⟩
          · go_wp2
            go_meet
            exact ⟨m, rfl, hm, HB.out⟩
    case rest =>
      rename_i hcut2
      obtain ⟨m2, rfl, hm2, hb2⟩ := hcut
      have HB2 := hid hb2
      obtain ⟨⟨⟨c0, c1, c2, c3⟩, c4, c5, c6, c7⟩, hbw2⟩ := CL.out _ hb2
      have KP1 := hid (KP.out _ hbw2)
      clear hb2 hbw2 HB
      by_cases h3 : (m2 : Int) ≤ 3000
      · go_wp2_with (first
          | (have hno := e3; (go_at_call 19; (refine (Hid.out KS2).mono ?_; rintro e w4 ⟨hb4, b4, rfl, _⟩; have HB4 := hid (TR.out HB3.out hb4); clear c0 c1 c2 c3 c4 c5 c6 c7; obtain ⟨⟨⟨c0, c1, c2, c3⟩, c4, c5, c6, c7⟩, hbw4⟩ := CL.out w4 HB4.out; clear hb4 hbw4; cases b4)))
          | (go_at_call 18; (refine (Hid.out KP1).mono ?_; rintro e w3 ⟨hb3, b3, rfl, _⟩; have HB3 := hid (TR.out HB2.out hb3); clear c0 c1 c2 c3 c4 c5 c6 c7; obtain ⟨⟨⟨c0, c1, c2, c3⟩, c4, c5, c6, c7⟩, hbw3⟩ := CL.out w3 HB3.out; have KS2 := hid (KS.out w3 hbw3); have e3 := True.intro; clear hb3 hbw3; cases b3)))
        all_goals go_ret
        all_goals first
          | exact Says.any (GT.out _ HB4.out).2 _
          | exact Says.any (GT.out _ HB3.out).2 _
      · go_wp2
        go_ret
        exact Says.any (GT.out _ HB2.out).2 _
end Go.Proofs.YthnolocldeokeaaGreat

