/- Programs that aren't great. -/
import Derived.Test.YtnmbifoinponeaaGreatDoorX
namespace Go.Proofs.YtnmbifoinponeaaGreatDoor
open Go.RowKit Go.Deep Go.Shelf
set_option linter.unusedVariables false
set_option linter.unusedSimpArgs false

def Some (w : World) (e : Ending) (w' : World) : Prop := ∃ b : Bool, e = .returned (.bool b) ∧ Below w.heap.size w w'
set_option maxRecDepth 100000 in
set_option maxHeartbeats 2000000 in
theorem plainP_any (w : World) (h : PH) (p : Pg) (d : PRd w h p) : Calls Tryz.prog 5 #[h.v] w (Some w) := by
  have D := hid d
  have r2 := d.r.n2
  have m2 := d.m.n2
  have f2 := d.f.n2
  have e2 := d.e.n2
  have Hr := hid d.r.n1
  have Hf := hid d.f.n1
  have He := hid d.e.n1
  clear d
  obtain ⟨ra, rn, rc, ma, mn, mc, fa, fn, fc, ea, en, ec⟩ := h
  simp only [PH.v] at r2 m2 f2 e2 ⊢
  obtain ⟨W0, hW0⟩ : ∃ W0, W0 = w.alloc (.cells #[.slice ra rn rc, .slice ma mn mc, .slice fa fn fc, .slice ea en ec] 26) := ⟨_, rfl⟩
  have hb0 : Below w.heap.size w W0 := by rw [hW0]; exact (Below.refl _ _).alloc (Nat.le_refl _) _
  have bx0 : W0.heap[w.heap.size]? = some (.cells #[.slice ra rn rc, .slice ma mn mc, .slice fa fn fc, .slice ea en ec] 26 (0, 0)) := by rw [hW0]; exact heap_alloc_new w _
  have z0 : W0.cell? ⟨w.heap.size, 0, none⟩ = some (.slice ra rn rc) := cellOf bx0 0
  have z1 : W0.cell? ⟨w.heap.size, 1, none⟩ = some (.slice ma mn mc) := cellOf bx0 1
  have z2 : W0.cell? ⟨w.heap.size, 2, none⟩ = some (.slice fa fn fc) := cellOf bx0 2
  have z3 : W0.cell? ⟨w.heap.size, 3, none⟩ = some (.slice ea en ec) := cellOf bx0 3
  have HB := hid hb0
  have DW := hid (D.out.below (Nat.le_refl _) hb0)
  clear hb0 bx0 D
  go_enter Tryz.func5, Tryz.ntmps5
  go_wp2
  rw [← hW0]
  clear hW0
  go_loopg [3] rn (fun g ii wr => ∃ i : Nat, i + g = rn ∧ ii = .int .i64 (i : Int) ∧ wr = W0)
  case atStart => exact ⟨0, by omega, rfl, rfl⟩
  case round =>
    obtain ⟨i, hi', rfl, rfl⟩ := hrel
    have Hi := hid hi'
    cases gk with
    | zero =>
      have hin : i = rn := by omega
      clear hi'
      subst hin
      go_wp2
      go_loopg [4] fn (fun g ii wr2 => ∃ j : Nat, j + g = fn ∧ ii = .int .i64 (j : Int) ∧ wr2 = wr)
      case atStart => exact ⟨0, by omega, rfl, rfl⟩
      case round =>
        obtain ⟨j, hj', rfl, rfl⟩ := hrel
        have Hj := hid hj'
        cases gk with
        | zero =>
          have hjn : j = fn := by omega
          clear hj'
          subst hjn
          go_wp2
          go_loopg [5] en (fun g ii wr2 => ∃ l : Nat, l + g = en ∧ ii = .int .i64 (l : Int) ∧ wr2 = wr)
          case atStart => exact ⟨0, by omega, rfl, rfl⟩
          case round =>
            obtain ⟨l, hl', rfl, rfl⟩ := hrel
            have Hl := hid hl'
            cases gk with
            | zero =>
              have hln : l = en := by omega
              clear hl'
              subst hln
              rcases Nat.lt_or_ge 30 i with q1 | q1
              · have q1' : ¬ ((i : Int) ≤ 30) := by omega
                go_wp2
                go_ret
                exact ⟨_, rfl, HB.out⟩
              · rcases Nat.lt_or_ge 30 mn with q2 | q2
                · have q2' : ¬ ((mn : Int) ≤ 30) := by omega
                  go_wp2
                  go_ret
                  exact ⟨_, rfl, HB.out⟩
                · rcases Nat.lt_or_ge 30 j with q3 | q3
                  · have q3' : ¬ ((j : Int) ≤ 30) := by omega
                    go_wp2
                    go_ret
                    exact ⟨_, rfl, HB.out⟩
                  · go_wp2
                    go_ret
                    exact ⟨_, rfl, HB.out⟩
            | succ g =>
              have hlt : l < en := by omega
              clear hl'
              obtain ⟨p', hp⟩ : ∃ p', p.events[l]? = some p' := ⟨p.events[l]'(by rw [← show en = p.events.length from He.out]; exact hlt), by rw [List.getElem?_eq_getElem]⟩
              have el := DW.out.e.el p' (List.mem_of_getElem? hp)
              obtain ⟨b1, o1, ea', hb1, e1⟩ := DW.out.e.rd l p'.1.cs (by simp [hp])
              subst ea'
              have x1 := e1 1 (by omega)
              have hp2 := el.p2
              clear e1 el hp hb1
              obtain ⟨h, s⟩ := p'
              obtain ⟨nm, pa, pn, pc, k, r⟩ := h
              simp only [GH.cs, List.getElem?_cons_zero, List.getElem?_cons_succ] at x1 hp2
              rcases Nat.lt_or_ge 30 pn with q1 | q1
              · go_wp2
                go_ret
                exact ⟨_, rfl, HB.out⟩
              · go_wp2
                go_roundg g
                case measure => omega
                case rel => exact ⟨l + 1, by have := Hl.out; omega, by go_num, rfl⟩
        | succ g =>
          have hlt : j < fn := by omega
          clear hj'
          obtain ⟨p', hp⟩ : ∃ p', p.funcs[j]? = some p' := ⟨p.funcs[j]'(by rw [← show fn = p.funcs.length from Hf.out]; exact hlt), by rw [List.getElem?_eq_getElem]⟩
          have el := DW.out.f.el p' (List.mem_of_getElem? hp)
          obtain ⟨b1, o1, ea', hb1, e1⟩ := DW.out.f.rd j p'.1.cs (by simp [hp])
          subst ea'
          have x1 := e1 1 (by omega)
          have hp2 := el.p2
          clear e1 el hp hb1
          obtain ⟨h, s⟩ := p'
          obtain ⟨nm, pa, pn, pc, k, r⟩ := h
          simp only [GH.cs, List.getElem?_cons_zero, List.getElem?_cons_succ] at x1 hp2
          rcases Nat.lt_or_ge 30 pn with q1 | q1
          · go_wp2
            go_ret
            exact ⟨_, rfl, HB.out⟩
          · go_wp2
            go_roundg g
            case measure => omega
            case rel => exact ⟨j + 1, by have := Hj.out; omega, by go_num, rfl⟩
    | succ g =>
      have hlt : i < rn := by omega
      clear hi'
      obtain ⟨p', hp⟩ : ∃ p', p.recs[i]? = some p' := ⟨p.recs[i]'(by rw [← show rn = p.recs.length from Hr.out]; exact hlt), by rw [List.getElem?_eq_getElem]⟩
      have el := DW.out.r.el p' (List.mem_of_getElem? hp)
      obtain ⟨b1, o1, ea', hb1, e1⟩ := DW.out.r.rd i p'.1.cs (by simp [hp])
      subst ea'
      have x1 := e1 1 (by omega)
      have x2 := e1 2 (by omega)
      have hp2 := el.f2
      have hp3 := el.t2
      clear e1 el hp hb1
      obtain ⟨h, s⟩ := p'
      obtain ⟨nm, fa', fn', fc', ta, tn, tc⟩ := h
      simp only [RH.cs, List.getElem?_cons_zero, List.getElem?_cons_succ] at x1 x2 hp2 hp3
      rcases Nat.lt_or_ge 30 fn' with q1 | q1
      · go_wp2
        go_ret
        exact ⟨_, rfl, HB.out⟩
      · rcases Nat.lt_or_ge 30 tn with q2 | q2
        · go_wp2
          go_ret
          exact ⟨_, rfl, HB.out⟩
        · go_wp2
          go_roundg g
          case measure => omega
          case rel => exact ⟨i + 1, by have := Hi.out; omega, by go_num, rfl⟩
end Go.Proofs.YtnmbifoinponeaaGreatDoor
