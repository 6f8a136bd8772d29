/-
  HeapTells returns true for every program and every two states, and its arguments read behind the call as they read before.
  No condition.
-/
import Derived.Test.YtenfgahedbeekaaJAW
import Derived.ProofKit
import Derived.OpenShut
import Derived.ChangeOld
import Derived.ChangeSlices
import Derived.ChangeMaps5
import Derived.Below
import Derived.Deep.Slices
namespace Go.Proofs.Ytenfgahedbeekaa
open Go.RowKit Go.Deep Go.Shelf
set_option linter.unusedVariables false
set_option linter.unusedSimpArgs false

def Some (w : World) (e : Ending) (w' : World) : Prop := ∃ b : Bool, e = .returned (.bool b) ∧ Below w.heap.size w w'
set_option maxRecDepth 100000 in
set_option maxHeartbeats 2000000 in
theorem plainP_any (w : World) (h : PH) (p : Pg) (d : PRd w h p) : Calls Try.prog 25 #[h.v] w (Some w) := by
  have D := hid d
  have r2 := d.r.n2
  have m2 := d.m.n2
  have f2 := d.f.n2
  have e2 := d.e.n2
  have Hr := hid d.r.n1
  have Hf := hid d.f.n1
  have He := hid d.e.n1
  clear d
  obtain ⟨ra, rn, rc, ma, mn, mc, fa, fn, fc, ea, en, ec⟩ := h
  simp only [PH.v] at r2 m2 f2 e2 ⊢
  obtain ⟨W0, hW0⟩ : ∃ W0, W0 = w.alloc (.cells #[.slice ra rn rc, .slice ma mn mc, .slice fa fn fc, .slice ea en ec] 50) := ⟨_, rfl⟩
  have hb0 : Below w.heap.size w W0 := by rw [hW0]; exact (Below.refl _ _).alloc (Nat.le_refl _) _
  have bx0 : W0.heap[w.heap.size]? = some (.cells #[.slice ra rn rc, .slice ma mn mc, .slice fa fn fc, .slice ea en ec] 50 (0, 0)) := by rw [hW0]; exact heap_alloc_new w _
  have z0 : W0.cell? ⟨w.heap.size, 0, none⟩ = some (.slice ra rn rc) := cellOf bx0 0
  have z1 : W0.cell? ⟨w.heap.size, 1, none⟩ = some (.slice ma mn mc) := cellOf bx0 1
  have z2 : W0.cell? ⟨w.heap.size, 2, none⟩ = some (.slice fa fn fc) := cellOf bx0 2
  have z3 : W0.cell? ⟨w.heap.size, 3, none⟩ = some (.slice ea en ec) := cellOf bx0 3
  have HB := hid hb0
  have DW := hid (D.out.below (Nat.le_refl _) hb0)
  clear hb0 bx0 D
  go_enter Try.func25, Try.ntmps25
  go_wp2
  rw [← hW0]
  clear hW0
  go_loopg [3] rn (fun g ii wr => ∃ i : Nat, i + g = rn ∧ ii = .int .i64 (i : Int) ∧ wr = W0)
  case atStart => exact ⟨0, by omega, rfl, rfl⟩
  case round =>
    obtain ⟨i, hi', rfl, rfl⟩ := hrel
    have Hi := hid hi'
    cases gk with
    | zero =>
      have hin : i = rn := by omega
      clear hi'
      subst hin
      go_wp2
      go_loopg [4] fn (fun g ii wr2 => ∃ j : Nat, j + g = fn ∧ ii = .int .i64 (j : Int) ∧ wr2 = wr)
      case atStart => exact ⟨0, by omega, rfl, rfl⟩
      case round =>
        obtain ⟨j, hj', rfl, rfl⟩ := hrel
        have Hj := hid hj'
        cases gk with
        | zero =>
          have hjn : j = fn := by omega
          clear hj'
          subst hjn
          go_wp2
          go_loopg [5] en (fun g ii wr2 => ∃ l : Nat, l + g = en ∧ ii = .int .i64 (l : Int) ∧ wr2 = wr)
          case atStart => exact ⟨0, by omega, rfl, rfl⟩
          case round =>
            obtain ⟨l, hl', rfl, rfl⟩ := hrel
            have Hl := hid hl'
            cases gk with
            | zero =>
              have hln : l = en := by omega
              clear hl'
              subst hln
              rcases Nat.lt_or_ge 30 i with q1 | q1
              · have q1' : ¬ ((i : Int) ≤ 30) := by omega
                go_wp2
                go_ret
                exact ⟨_, rfl, HB.out⟩
              · rcases Nat.lt_or_ge 30 mn with q2 | q2
                · have q2' : ¬ ((mn : Int) ≤ 30) := by omega
                  go_wp2
                  go_ret
                  exact ⟨_, rfl, HB.out⟩
                · rcases Nat.lt_or_ge 30 j with q3 | q3
                  · have q3' : ¬ ((j : Int) ≤ 30) := by omega
                    go_wp2
                    go_ret
                    exact ⟨_, rfl, HB.out⟩
                  · go_wp2
                    go_ret
                    exact ⟨_, rfl, HB.out⟩
            | succ g =>
              have hlt : l < en := by omega
              clear hl'
              obtain ⟨p', hp⟩ : ∃ p', p.events[l]? = some p' := ⟨p.events[l]'(by rw [← show en = p.events.length from He.out]; exact hlt), by rw [List.getElem?_eq_getElem]⟩
              have el := DW.out.e.el p' (List.mem_of_getElem? hp)
              obtain ⟨b1, o1, ea', hb1, e1⟩ := DW.out.e.rd l p'.1.cs (by simp [hp])
              subst ea'
              have x1 := e1 1 (by omega)
              have hp2 := el.p2
              clear e1 el hp hb1
              obtain ⟨h, s⟩ := p'
              obtain ⟨nm, pa, pn, pc, k, r⟩ := h
              simp only [GH.cs, List.getElem?_cons_zero, List.getElem?_cons_succ] at x1 hp2
              rcases Nat.lt_or_ge 30 pn with q1 | q1
              · go_wp2
                go_ret
                exact ⟨_, rfl, HB.out⟩
              · go_wp2
                go_roundg g
                case measure => omega
                case rel => exact ⟨l + 1, by have := Hl.out; omega, by go_num, rfl⟩
        | succ g =>
          have hlt : j < fn := by omega
          clear hj'
          obtain ⟨p', hp⟩ : ∃ p', p.funcs[j]? = some p' := ⟨p.funcs[j]'(by rw [← show fn = p.funcs.length from Hf.out]; exact hlt), by rw [List.getElem?_eq_getElem]⟩
          have el := DW.out.f.el p' (List.mem_of_getElem? hp)
          obtain ⟨b1, o1, ea', hb1, e1⟩ := DW.out.f.rd j p'.1.cs (by simp [hp])
          subst ea'
          have x1 := e1 1 (by omega)
          have hp2 := el.p2
          clear e1 el hp hb1
          obtain ⟨h, s⟩ := p'
          obtain ⟨nm, pa, pn, pc, k, r⟩ := h
          simp only [GH.cs, List.getElem?_cons_zero, List.getElem?_cons_succ] at x1 hp2
          rcases Nat.lt_or_ge 30 pn with q1 | q1
          · go_wp2
            go_ret
            exact ⟨_, rfl, HB.out⟩
          · go_wp2
            go_roundg g
            case measure => omega
            case rel => exact ⟨j + 1, by have := Hj.out; omega, by go_num, rfl⟩
    | succ g =>
      have hlt : i < rn := by omega
      clear hi'
      obtain ⟨p', hp⟩ : ∃ p', p.recs[i]? = some p' := ⟨p.recs[i]'(by rw [← show rn = p.recs.length from Hr.out]; exact hlt), by rw [List.getElem?_eq_getElem]⟩
      have el := DW.out.r.el p' (List.mem_of_getElem? hp)
      obtain ⟨b1, o1, ea', hb1, e1⟩ := DW.out.r.rd i p'.1.cs (by simp [hp])
      subst ea'
      have x1 := e1 1 (by omega)
      have x2 := e1 2 (by omega)
      have hp2 := el.f2
      have hp3 := el.t2
      clear e1 el hp hb1
      obtain ⟨h, s⟩ := p'
      obtain ⟨nm, fa', fn', fc', ta, tn, tc⟩ := h
      simp only [RH.cs, List.getElem?_cons_zero, List.getElem?_cons_succ] at x1 x2 hp2 hp3
      rcases Nat.lt_or_ge 30 fn' with q1 | q1
      · go_wp2
        go_ret
        exact ⟨_, rfl, HB.out⟩
      · rcases Nat.lt_or_ge 30 tn with q2 | q2
        · go_wp2
          go_ret
          exact ⟨_, rfl, HB.out⟩
        · go_wp2
          go_roundg g
          case measure => omega
          case rel => exact ⟨i + 1, by have := Hi.out; omega, by go_num, rfl⟩
end Go.Proofs.Ytenfgahedbeekaa

namespace Go.Proofs.Ytenfgahedbeekaa
open Go.RowKit Go.Deep Go.Shelf
set_option linter.unusedVariables false
set_option linter.unusedSimpArgs false

def erN (b : Bool) : Int := if b then 0 else 40
theorem NwP.eq {k : Nat} {w : World} {p : Pg} {e : Ending} {w' : World} (h : NwP k w p e w') : Below w.heap.size w w' ∧ ∃ aa an ac, e = .returned (.tuple #[.agg #[.slice aa an ac], .int .i64 (erN (rightB p))]) ∧ StCR k w' aa an (if rightB p then List.replicate p.maps.length [] else []) := by
  obtain ⟨hb, ⟨h1, rfl⟩ | ⟨h1, g, rfl, h2⟩⟩ := h
  · refine ⟨hb, none, 0, 0, by rw [h1]; rfl, ?_⟩
    rw [h1]
    exact ⟨[], ⟨rfl, by omega, fun j x hx => by simp at hx, fun m hm => by cases hm⟩, rfl⟩
  · refine ⟨hb, _, _, _, by rw [h1]; rfl, ?_⟩
    rw [h1]
    exact h2.cr
theorem SnP.eq {k : Nat} {w : World} {p : Pg} {ms : List (Sl × Rw (k + 2))} {e : Ending} {w' : World} (h : SnP k w p ms e w') : Below w.heap.size w w' ∧ ∃ v', e = .returned (.tuple #[v', .int .i64 (erN (stV k p (ms.map (·.2))))]) ∧ Rd w' v' (if stV k p (ms.map (·.2)) then encSt k (ms.map (·.2)) else []) := by
  obtain ⟨hb, v', rfl, hr⟩ := h
  refine ⟨hb, v', rfl, hr.rd ?_⟩
  cases hq : stV k p (ms.map (·.2)) with
  | true => exact encSt_byt hq
  | false => intro x hx; cases hx
theorem boxes3 (w : World) (a b c : Array Value) (s t u : TypeId) : Below w.heap.size w (((w.alloc (.cells a s)).alloc (.cells b t)).alloc (.cells c u)) := (boxes2 w a b s t).alloc (by simp; omega) _
set_option maxRecDepth 100000 in
set_option maxHeartbeats 2000000 in
theorem tells_any (w : World) (g : PH) (p : Pg) (d : PRd w g p) (sa : Option Addr) (sn sc : Nat) (ms : List (Sl × List En)) (hs : StD w sa sn ms) (ta : Option Addr) (tn tc : Nat) (mt : List (Sl × List En)) (ht : StD w ta tn mt) :
    Calls Try.prog 4 #[g.v, .agg #[.slice sa sn sc], .agg #[.slice ta tn tc]] w fun e w' => e = .returned (.bool true) ∧ Below w.heap.size w w' := by
  have D := hid d
  have K25 := hid (fun (w1 : World) (hb : Below w.heap.size w w1) => plainP_any w1 g p (d.below (Nat.le_refl _) hb))
  have K27 := hid (fun (w1 : World) (hb : Below w.heap.size w w1) => (heapNew_any 3 w1 g p (d.below (Nat.le_refl _) hb)).mono (fun e w' h => h.eq))
  have K28 := hid (fun (w1 : World) (hb : Below w.heap.size w w1) => (refNew_any 3 w1 g p (d.below (Nat.le_refl _) hb)).mono (fun e w' h => h.eq))
  have KS := hid (fun (rs : List (Sl × Rw 3)) (w1 : World) (hb : Below w.heap.size w w1) (h : StR 3 w1 sa sn rs) => heapIs_any 1 w1 g p (d.below (Nat.le_refl _) hb) sa sn sc rs h)
  have KT := hid (fun (rs : List (Sl × Rw 3)) (w1 : World) (hb : Below w.heap.size w w1) (h : StR 3 w1 sa sn rs) => refStIs_any 1 w1 g p (d.below (Nat.le_refl _) hb) sa sn sc rs h)
  have KU := hid (fun (rs : List (Sl × Rw 3)) (w1 : World) (hb : Below w.heap.size w w1) (h : StR 3 w1 sa sn rs) => (heapSnap_any 1 w1 g p (d.below (Nat.le_refl _) hb) sa sn sc rs h).mono (fun e w' h => h.eq))
  have KV := hid (fun (rs : List (Sl × Rw 3)) (w1 : World) (hb : Below w.heap.size w w1) (h : StR 3 w1 sa sn rs) => (refSnap_any 1 w1 g p (d.below (Nat.le_refl _) hb) sa sn sc rs h).mono (fun e w' h => h.eq))
  have K26s := hid (fun (w1 : World) (hb : Below w.heap.size w w1) => fewS_any w1 sa sn sc ms (hs.below (Nat.le_refl _) hb))
  have K26t := hid (fun (w1 : World) (hb : Below w.heap.size w w1) => fewS_any w1 ta tn tc mt (ht.below (Nat.le_refl _) hb))
  have HSm := hid (fun (w1 : World) (hb : Below w.heap.size w w1) (h20 : ms.length ≤ 20) (h : ∀ m ∈ ms, EnS w1 m) => small_state (hs.below (Nat.le_refl _) hb) h20 h)
  have HTm := hid (fun (w1 : World) (hb : Below w.heap.size w w1) (h20 : mt.length ≤ 20) (h : ∀ m ∈ mt, EnS w1 m) => small_state (ht.below (Nat.le_refl _) hb) h20 h)
  obtain ⟨ra, rn, rc, ma, mn, mc, fa, fn, fc, ea, en, ec⟩ := g
  simp only [PH.v] at K25 K27 K28 KS KT KU KV ⊢
  clear d hs ht
  obtain ⟨W0, hW0⟩ : ∃ W0, W0 = ((w.alloc (.cells #[.slice ra rn rc, .slice ma mn mc, .slice fa fn fc, .slice ea en ec] 50)).alloc (.cells #[.slice sa sn sc] 27)).alloc (.cells #[.slice ta tn tc] 27) := ⟨_, rfl⟩
  have n1 := heap_alloc_new w (.cells #[.slice ra rn rc, .slice ma mn mc, .slice fa fn fc, .slice ea en ec] 50)
  have n2 := heap_alloc_new (w.alloc (.cells #[.slice ra rn rc, .slice ma mn mc, .slice fa fn fc, .slice ea en ec] 50)) (.cells #[.slice sa sn sc] 27)
  have n3 := heap_alloc_new ((w.alloc (.cells #[.slice ra rn rc, .slice ma mn mc, .slice fa fn fc, .slice ea en ec] 50)).alloc (.cells #[.slice sa sn sc] 27)) (.cells #[.slice ta tn tc] 27)
  simp only [World.size_alloc] at n2 n3
  have pl' : ∀ {w : World} {o x : Obj} {k : Nat}, w.heap[k]? = some x → (w.alloc o).heap[k]? = some x := fun h => (Below.heap_alloc _ _ _ (Array.getElem?_eq_some_iff.1 h).1).trans h
  have q1 : W0.heap[w.heap.size]? = some (.cells #[.slice ra rn rc, .slice ma mn mc, .slice fa fn fc, .slice ea en ec] 50 (0, 0)) := by rw [hW0]; exact pl' (pl' n1)
  have q2 : W0.heap[w.heap.size + 1]? = some (.cells #[.slice sa sn sc] 27 (0, 0)) := by rw [hW0]; exact pl' n2
  have q3 : W0.heap[w.heap.size + 1 + 1]? = some (.cells #[.slice ta tn tc] 27 (0, 0)) := by rw [hW0]; exact n3
  have hb0 : Below w.heap.size w W0 := by rw [hW0]; exact boxes3 _ _ _ _ _ _ _
  have FX : Hid (∀ w2 : World, Below W0.heap.size W0 w2 → (w2.cell? ⟨w.heap.size, 0, none⟩ = some (.slice ra rn rc) ∧ w2.cell? ⟨w.heap.size, 1, none⟩ = some (.slice ma mn mc) ∧ w2.cell? ⟨w.heap.size, 2, none⟩ = some (.slice fa fn fc) ∧ w2.cell? ⟨w.heap.size, 3, none⟩ = some (.slice ea en ec) ∧ w2.cell? ⟨w.heap.size + 1, 0, none⟩ = some (.slice sa sn sc) ∧ w2.cell? ⟨w.heap.size + 1 + 1, 0, none⟩ = some (.slice ta tn tc)) ∧ Below w.heap.size w w2) := hid (fun w2 hb => by
    have b1 := (hb.block _ (Array.getElem?_eq_some_iff.1 q1).1).trans q1
    have b2 := (hb.block _ (Array.getElem?_eq_some_iff.1 q2).1).trans q2
    have b3 := (hb.block _ (Array.getElem?_eq_some_iff.1 q3).1).trans q3
    exact ⟨⟨cellOf b1 0, cellOf b1 1, cellOf b1 2, cellOf b1 3, cellOf b2 0, cellOf b3 0⟩, hb0.trans (hb.mono hb0.size)⟩)
  have TR : Hid (∀ {Z x y : World}, Below Z.heap.size Z x → Below x.heap.size x y → Below Z.heap.size Z y) := hid (fun h1 h2 => h1.trans (h2.mono h1.size))
  clear n1 n2 n3 pl' q1 q2 q3 hb0
  go_enter Try.func4, Try.ntmps4
  go_wp2_with (first
    | (go_at_call 9; rw [← hW0]; (refine (known_any _).mono ?_; rintro e w0 ⟨rfl, hb0⟩; have B0 := hid hb0; obtain ⟨⟨f0, f1, f2, f3, f4, f5⟩, _⟩ := FX.out w0 hb0; clear hb0))
    | (go_at_call 25; (refine (K25.out w0 (FX.out _ B0.out).2).mono ?_; rintro e w1 ⟨b1, rfl, hb1⟩; have B1 := hid (TR.out B0.out hb1); clear f0 f1 f2 f3 f4 f5 hb1; obtain ⟨⟨f0, f1, f2, f3, f4, f5⟩, _⟩ := FX.out w1 B1.out))
    | (have hno := HF2; go_at_call 26; (refine (K26t.out w2 (FX.out _ B2.out).2).mono ?_; rintro e w3 ⟨⟨b3, rfl, hF3⟩, hb3⟩; have B23 := hid hb3; have B3 := hid (TR.out B2.out hb3); have HF3 := hid hF3; clear f0 f1 f2 f3 f4 f5 hb3 hF3; obtain ⟨⟨f0, f1, f2, f3, f4, f5⟩, _⟩ := FX.out w3 B3.out))
    | (go_at_call 26; (refine (K26s.out w1 (FX.out _ B1.out).2).mono ?_; rintro e w2 ⟨⟨b2, rfl, hF2⟩, hb2⟩; have B12 := hid hb2; have B2 := hid (TR.out B1.out hb2); have HF2 := hid hF2; clear f0 f1 f2 f3 f4 f5 hb2 hF2; obtain ⟨⟨f0, f1, f2, f3, f4, f5⟩, _⟩ := FX.out w2 B2.out)))
  · go_ret
    exact ⟨rfl, (FX.out _ B3.out).2⟩
  · have hb3 : b3 = true := by cases b3 with | true => rfl | false => simp_all
    subst hb3
    obtain ⟨rs, hrs⟩ := HSm.out w1 (FX.out _ B1.out).2 (HF2.out (by first | rfl | assumption | simp_all)).1 (HF2.out (by first | rfl | assumption | simp_all)).2
    obtain ⟨rt, hrt⟩ := HTm.out w2 (FX.out _ B2.out).2 (HF3.out rfl).1 (HF3.out rfl).2
    have HS : Hid (∀ w2, Below w3.heap.size w3 w2 → StR 3 w2 sa sn rs) := hid (fun w2 hb => (hrs.below (Nat.le_refl _) (TR.out B12.out B23.out)).below (Nat.le_refl _) hb)
    have HT : Hid (∀ w2, Below w3.heap.size w3 w2 → StR 3 w2 ta tn rt) := hid (fun w2 hb => (hrt.below (Nat.le_refl _) B23.out).below (Nat.le_refl _) hb)
    have TW : Hid (∀ w2, Below w3.heap.size w3 w2 → Below w.heap.size w w2) := hid (fun w2 hb => (FX.out _ (TR.out B3.out hb)).2)
    have FY : Hid (∀ w2, Below w3.heap.size w3 w2 → w2.cell? ⟨w.heap.size, 0, none⟩ = some (.slice ra rn rc) ∧ w2.cell? ⟨w.heap.size, 1, none⟩ = some (.slice ma mn mc) ∧ w2.cell? ⟨w.heap.size, 2, none⟩ = some (.slice fa fn fc) ∧ w2.cell? ⟨w.heap.size, 3, none⟩ = some (.slice ea en ec) ∧ w2.cell? ⟨w.heap.size + 1, 0, none⟩ = some (.slice sa sn sc) ∧ w2.cell? ⟨w.heap.size + 1 + 1, 0, none⟩ = some (.slice ta tn tc)) := hid (fun w2 hb => (FX.out _ (TR.out B3.out hb)).1)
    have B33 := hid (Below.refl w3.heap.size w3)
    clear hrs hrt HF2 HF3 K26s K26t HSm HTm K25 hW0 B0 B1 B2 B12 B23
    have HE : ∃ E, E = erN (rightB p) := ⟨_, rfl⟩
    obtain ⟨E, hE⟩ := HE
    simp only [← hE] at K27 K28
    obtain ⟨SA, hSA⟩ : ∃ SA : List (RC 3), SA = (if rightB p then List.replicate p.maps.length [] else []) := ⟨_, rfl⟩
    simp only [← hSA] at K27 K28
    clear hE hSA
    go_wp2_with (first
      | (go_at_call 27; (refine (K27.out w3 (TW.out _ B33.out)).mono ?_; rintro e w4 ⟨hb4, aa, an, ac, rfl, hA⟩; have B4 := hid hb4; have HA := hid hA; have B4a := hid (fun o => TR.out hb4 ((Below.refl w4.heap.size w4).alloc (Nat.le_refl _) o)); clear f0 f1 f2 f3 f4 f5 hb4 hA; have f0 := fun o => (FY.out _ (B4a.out o)).1; have f1 := fun o => (FY.out _ (B4a.out o)).2.1; have f2 := fun o => (FY.out _ (B4a.out o)).2.2.1; have f3 := fun o => (FY.out _ (B4a.out o)).2.2.2.1))
      | (go_at_call 28; (refine (K28.out _ (TW.out _ (B4a.out _))).mono ?_; rintro e w5 ⟨hb5, ba, bn, bc, rfl, hB⟩; have B5 := hid (TR.out (B4a.out _) hb5); have HBB := hid hB; have HB45 := hid (hb5.mono (show w4.heap.size ≤ _ by simp)); have hs5 := hb5.size; rw [World.size_alloc] at hs5; have ha5 := (hb5.block w4.heap.size (by simp)).trans (heap_alloc_new w4 _); clear f0 f1 f2 f3 hb5 hB)))
    obtain ⟨W6, hW6⟩ : ∃ W6, W6 = w5.alloc (.cells #[.slice ba bn bc] 27) := ⟨_, rfl⟩
    rw [← hW6]
    have m1 : W6.heap[w4.heap.size]? = some (.cells #[.slice aa an ac] 27 (0, 0)) := by rw [hW6]; exact (Below.heap_alloc _ _ _ (by omega)).trans ha5
    have m2 : W6.heap[w5.heap.size]? = some (.cells #[.slice ba bn bc] 27 (0, 0)) := by rw [hW6]; exact heap_alloc_new w5 _
    have b56 : Below w5.heap.size w5 W6 := by rw [hW6]; exact (Below.refl _ w5).alloc (Nat.le_refl _) _
    have B6 := hid (TR.out B5.out b56)
    obtain ⟨pa, hpa1, hpa2⟩ := HA.out
    obtain ⟨pb, hpb1, hpb2⟩ := HBB.out
    have hst : stB 3 pa pb = true := (stB_iff 3 pa pb).2 (hpa2.trans hpb2.symm)
    have h45 : Below w4.heap.size w4 w5 := (((Below.refl w4.heap.size w4).alloc (Nat.le_refl _) (.cells #[.slice aa an ac] 27))).trans (HB45.out)
    have A6 : Hid (∀ W' : World, Below W6.heap.size W6 W' → StR 3 W' aa an pa ∧ StR 3 W' ba bn pb) := hid (fun W' hb => ⟨((hpa1.below (Nat.le_refl _) (TR.out h45 b56))).below (Nat.le_refl _) hb, (hpb1.below (Nat.le_refl _) b56).below (Nat.le_refl _) hb⟩)
    have SE : Hid (∀ W' : World, Below W6.heap.size W6 W' → W'.cell? ⟨w.heap.size, 0, none⟩ = some (.slice ra rn rc) ∧ W'.cell? ⟨w.heap.size, 1, none⟩ = some (.slice ma mn mc) ∧ W'.cell? ⟨w.heap.size, 2, none⟩ = some (.slice fa fn fc) ∧ W'.cell? ⟨w.heap.size, 3, none⟩ = some (.slice ea en ec) ∧ W'.cell? ⟨w.heap.size + 1, 0, none⟩ = some (.slice sa sn sc) ∧ W'.cell? ⟨w.heap.size + 1 + 1, 0, none⟩ = some (.slice ta tn tc) ∧ W'.cell? ⟨w4.heap.size, 0, none⟩ = some (.slice aa an ac) ∧ W'.cell? ⟨w5.heap.size, 0, none⟩ = some (.slice ba bn bc)) := hid (fun W' hb => by
      have c1 := (hb.block _ (Array.getElem?_eq_some_iff.1 m1).1).trans m1
      have c2 := (hb.block _ (Array.getElem?_eq_some_iff.1 m2).1).trans m2
      obtain ⟨u0, u1, u2, u3, u4, u5⟩ := FY.out W' (TR.out B6.out hb)
      exact ⟨u0, u1, u2, u3, u4, u5, cellOf c1 0, cellOf c2 0⟩)
    have C14 := hid (fun (W' : World) (hb : Below W6.heap.size W6 W') => refStSame_any 3 W' aa an ac pa ba bn bc pb (A6.out W' hb).1 (A6.out W' hb).2)
    rw [hst] at C14
    have C29 := hid (fun (W' : World) (hb : Below W6.heap.size W6 W') => KS.out rs W' (TW.out _ (TR.out B6.out hb)) (HS.out _ (TR.out B6.out hb)))
    have C30 := hid (fun (W' : World) (hb : Below W6.heap.size W6 W') => KT.out rs W' (TW.out _ (TR.out B6.out hb)) (HS.out _ (TR.out B6.out hb)))
    have C24 := hid (fun (W' : World) (hb : Below W6.heap.size W6 W') => heapSame_any 3 W' sa sn sc rs ta tn tc rt (HS.out _ (TR.out B6.out hb)) (HT.out _ (TR.out B6.out hb)))
    have C14b := hid (fun (W' : World) (hb : Below W6.heap.size W6 W') => refStSame_any 3 W' sa sn sc rs ta tn tc rt (HS.out _ (TR.out B6.out hb)) (HT.out _ (TR.out B6.out hb)))
    have C31 := hid (fun (W' : World) (hb : Below W6.heap.size W6 W') => KU.out rs W' (TW.out _ (TR.out B6.out hb)) (HS.out _ (TR.out B6.out hb)))
    have C32 := hid (fun (W' : World) (hb : Below W6.heap.size W6 W') => KV.out rs W' (TW.out _ (TR.out B6.out hb)) (HS.out _ (TR.out B6.out hb)))
    obtain ⟨I, hI⟩ : ∃ I, I = stV 1 p (rs.map (·.2)) := ⟨_, rfl⟩
    simp only [← hI] at C29 C30 C31 C32
    obtain ⟨J, hJ⟩ : ∃ J, J = stB 3 rs rt := ⟨_, rfl⟩
    simp only [← hJ] at C24 C14b
    obtain ⟨bb, hbb⟩ : ∃ bb : List Nat, bb = (if I then encSt 1 (rs.map (·.2)) else []) := ⟨_, rfl⟩
    obtain ⟨EI, hEI⟩ : ∃ EI, EI = erN I := ⟨_, rfl⟩
    simp only [← hbb, ← hEI] at C31 C32
    obtain ⟨g0, g1, g2, g3, g4, g5, g6, g7⟩ := SE.out W6 (Below.refl _ _)
    have R3 := hid ((Below.refl W6.heap.size W6).drew)
    clear hW6 m1 m2 b56 hpa1 hpa2 hpb1 hpb2 hst h45 ha5 hI hJ hbb hEI K27 K28 KS KT KU KV HA HBB HB45 B4 B4a B5 hs5 D
    go_region_held3 (fun W' => W'.cell? ⟨w.heap.size, 0, none⟩ = some (.slice ra rn rc) ∧ W'.cell? ⟨w.heap.size, 1, none⟩ = some (.slice ma mn mc) ∧ W'.cell? ⟨w.heap.size, 2, none⟩ = some (.slice fa fn fc) ∧ W'.cell? ⟨w.heap.size, 3, none⟩ = some (.slice ea en ec) ∧ W'.cell? ⟨w.heap.size + 1, 0, none⟩ = some (.slice sa sn sc) ∧ W'.cell? ⟨w.heap.size + 1 + 1, 0, none⟩ = some (.slice ta tn tc) ∧ W'.cell? ⟨w4.heap.size, 0, none⟩ = some (.slice aa an ac) ∧ W'.cell? ⟨w5.heap.size, 0, none⟩ = some (.slice ba bn bc)) (first | with_reducible exact SE.out _ R3.out | with_reducible exact SE.out _ R7.out | with_reducible exact SE.out _ R8.out | with_reducible exact SE.out _ R9.out | with_reducible exact SE.out _ R10.out | with_reducible exact SE.out _ R11.out | go_keep) ((first
      | (have hno := R10; go_at_call 14; (refine (C14b.out _ R10.out).mono ?_; rintro e w11 ⟨rfl, hb11⟩; have R11 := hid (TR.out R10.out hb11); clear hb11))
      | (go_at_call 24; (refine (C24.out _ R9.out).mono ?_; rintro e w10 ⟨rfl, hb10⟩; have R10 := hid (TR.out R9.out hb10); clear hb10))
      | (go_at_call 30; (refine (C30.out _ R8.out).mono ?_; rintro e w9 ⟨rfl, hb9⟩; have R9 := hid (TR.out R8.out hb9); clear hb9))
      | (go_at_call 29; (refine (C29.out _ R7.out).mono ?_; rintro e w8 ⟨rfl, hb8⟩; have R8 := hid (TR.out R7.out hb8); clear hb8))
      | (go_at_call 14; (refine (C14.out _ R3.out).mono ?_; rintro e w7 ⟨rfl, hb7⟩; have R7 := hid (TR.out R3.out hb7); clear hb7))))
    clear g0 g1 g2 g3 g4 g5 g6 g7
    obtain ⟨g0, g1, g2, g3, g4, _⟩ := SE.out w11 R11.out
    go_wp2_with (first
      | (go_at_call 31; (refine (C31.out _ R11.out).mono ?_; rintro e w12 ⟨hb12, vc, rfl, hvc⟩; have R12 := hid (TR.out R11.out hb12); have Hvc := hid hvc; clear g0 g1 g2 g3 g4 hvc hb12; obtain ⟨g0, g1, g2, g3, g4, _⟩ := SE.out w12 R12.out))
      | (go_at_call 32; (refine (C32.out _ R12.out).mono ?_; rintro e w13 ⟨hb13, vd, rfl, hvd⟩; have R13 := hid (TR.out R12.out hb13); have Hvd := hid hvd; have Hvc2 := hid (Hvc.out.below (Nat.le_refl _) hb13); clear g0 g1 g2 g3 g4 hvd hb13))
      | (go_at_call 33; (refine (bytes_any w13 vc vd bb bb Hvc2.out Hvd.out).mono ?_; rintro e w14 ⟨rfl, rfl⟩)))
    go_ret
    exact ⟨rfl, TW.out _ (TR.out B6.out R13.out)⟩
  · go_ret
    exact ⟨rfl, (FX.out _ B2.out).2⟩
  · go_ret
    exact ⟨rfl, (FX.out _ B1.out).2⟩
end Go.Proofs.Ytenfgahedbeekaa

namespace Go.Proofs.Ytenfgahedbeekaa
open Go.ChangeShapes Go.WideShapes Go.ChangeAt Go.RowKit Go.Deep
set_option linter.unusedVariables false
set_option linter.unusedSimpArgs false

theorem ownP4 : ownKnob Try.prog.godebug = none := by kernel_rfl
theorem laidP4 : laidOutB Try.prog = true := by kernel_rfl
set_option maxRecDepth 100000 in
theorem state_arg {H : Type} {enc : TypeId × Value → H} {W : World} {base : Nat} {v : Value} {d : DataW H} {ps : List MemPlace} (hv : Value.okWide Try.prog W .any base 27 v) (h : DataW.Trod enc Try.prog W 0 (fun _ => true) true 27 v d ps) :
    ∃ sa sn sc ms, v = .agg #[.slice sa sn sc] ∧ StD W sa sn ms ∧ sn ≤ sc := by
  obtain ⟨cs, rfl, hs⟩ := okWide_struct Try.underlying27 hv
  obtain ⟨m, hm⟩ := h
  have hm0 := hm
  obtain ⟨xs, n, _, _, hl, hlen0, hf⟩ := DataW.trod_struct Try.underlying27 hm
  rw [cells27] at hl
  obtain ⟨c0, hc⟩ : ∃ c0, cs.toList = [c0] := by
    have hl' : cs.toList.length = 1 := hl
    match hcs : cs.toList, hl' with
    | [c0], _ => exact ⟨c0, rfl⟩
  have hcs2 : cs = #[c0] := by cases cs; simp_all
  subst hcs2
  match xs, hlen0 with
  | [y0], _ =>
    have h0 := hf 0 _ rfl
    simp [cells25, Value.cells] at h0
    rcases open_slice Try.underlying25 h0 with ⟨hcs, _⟩ | ⟨a, l, c, m, n, D, Pl, hcs, _⟩
    · simp at hcs
      subst hcs
      obtain ⟨ms, h1, h2⟩ := state_of ⟨_, hm0⟩
      exact ⟨_, _, _, ms, rfl, h1, h2⟩
    · simp at hcs
      subst hcs
      obtain ⟨ms, h1, h2⟩ := state_of ⟨_, hm0⟩
      exact ⟨_, _, _, ms, rfl, h1, h2⟩
set_option maxRecDepth 100000 in
theorem tells_lifted (os : Os) (started : os.Started) (H : Type) (enc : TypeId × Value → H) :
    ReturnsInHanded {} Try.checked os 4 .any (Rows.heapTellsSpec.pre6 enc Try.prog Try.f4 Rows.heapTellsRow.domain false) (Rows.heapTellsSpec.post enc Try.prog Try.f4 false true false false) := by
  refine returnsInHanded_of_change (C := Try.checked) ownP4 started (by kernel_rfl) Try.func4
    (ChangeSpec.witness6 (enc := enc) (C := Try.checked) false ⟨#[], #[.agg #[.slice none 0 0, .slice none 0 0, .slice none 0 0, .slice none 0 0], .agg #[.slice none 0 0], .agg #[.slice none 0 0]], []⟩ 8 (by kernel_rfl) (by kernel_rfl) (by kernel_rfl) (by kernel_rfl)) ?_
  intro W base args ds gs before hval0 hW hcnd _
  have hval : ∀ (j : Nat) t v, Try.f4.params[j]? = some t → args[j]? = some v → Value.okWide Try.prog W .any base t v := hval0
  have hW' := hW
  obtain ⟨p, q, hA0, hV, rfl, hfz, hnd⟩ := hW
  have hA : DataW.TrodAll enc Try.prog W 0 (fun _ => true) true Try.f4.params.toList args.toList ds p := hA0
  rw [Try.params4] at hA hval
  obtain ⟨v0, vs0, d0, ds0, p0, q0, hargs, rfl, rfl, h0, r0⟩ := trodAll_cons hA
  obtain ⟨v1, vs1, d1, ds1, p1, q1, rfl, rfl, rfl, h1, r1⟩ := trodAll_cons r0
  obtain ⟨v2, vs2, d2, ds2, p2, q2, rfl, rfl, rfl, h2, r2⟩ := trodAll_cons r1
  obtain ⟨rfl, rfl, rfl⟩ := trodAll_nil r2
  obtain rfl : args = #[v0, v1, v2] := by cases args; simp_all
  obtain ⟨rfl, rfl⟩ := trodVars_none hV
  have lt0 : ∀ x ∈ p0, x.block < W.heap.size := by obtain ⟨m, hm⟩ := h0; exact DataW.trod_lt m _ _ _ hm
  have lt1 : ∀ x ∈ p1, x.block < W.heap.size := by obtain ⟨m, hm⟩ := h1; exact DataW.trod_lt m _ _ _ hm
  have lt2 : ∀ x ∈ p2, x.block < W.heap.size := by obtain ⟨m, hm⟩ := h2; exact DataW.trod_lt m _ _ _ hm
  obtain ⟨g, pg, rfl, hpg⟩ := prog_arg (hval 0 50 v0 rfl rfl) h0
  obtain ⟨sa, sn, sc, ms, rfl, hs, _⟩ := state_arg (hval 1 27 v1 rfl rfl) h1
  obtain ⟨ta, tn, tc, mt, rfl, ht, _⟩ := state_arg (hval 2 27 v2 rfl rfl) h2
  clear hA0 hval0
  refine (tells_any W g pg hpg sa sn sc ms hs ta tn tc mt ht).mono fun e W' ⟨he, bel⟩ => ?_
  subst he
  exact ⟨_, rfl, _, _, _, [], _, [], hW', trodAll_mk1 (shut_bool Try.underlying4 _), (trodAll_cons_mk (Below.trod laidP4 (by kernel_rfl) (of_decide_eq_true (by kernel_rfl)) h0 bel lt0) (trodAll_cons_mk (Below.trod laidP4 (by kernel_rfl) (of_decide_eq_true (by kernel_rfl)) h1 bel lt1) (trodAll_cons_mk (Below.trod laidP4 (by kernel_rfl) (of_decide_eq_true (by kernel_rfl)) h2 bel lt2) trodAll_mk0))), rfl, bel.frame _, fun h => by cases h⟩

theorem heapTells_holds : Rows.HeapTellsSaid :=
  OpenClaim.holds_of_wide 4 Try.f4 rfl rfl rfl rfl rfl rfl rfl ⟨rfl, rfl, rfl, rfl, rfl⟩ rfl rfl rfl rfl rfl (by kernel_rfl) Try.func4 (by kernel_rfl)
    (of_decide_eq_true (by kernel_rfl)) (by unfold Func.isWrapper; first | (rw [if_pos (by decide +kernel)]; kernel_rfl) | (rw [if_neg (by decide +kernel)]; exact ⟨rfl, rfl⟩))
    (fun os started H enc _ => tells_lifted os started H enc)
#print axioms heapTells_holds
end Go.Proofs.Ytenfgahedbeekaa

