/- Blocks as they lie; targets, isEnd, areStraight. -/
import Derived.Test.YtmhjnfibpngpmaaJAC
namespace Go.Proofs.Ytmhjnfibpngpmaa
set_option maxRecDepth 100000
open Go.RowKit Go.Deep Go.Shelf
set_option linter.unusedVariables false
set_option linter.unusedSimpArgs false
structure Blk where
  oa : Option Addr
  on : Nat
  oc : Nat
  en : Int
  a : Int
  tt : Int
  el : Int
  ops : List Opx
def Blk.cs (b : Blk) : Array Value := #[.slice b.oa b.on b.oc, .int .i64 b.en, .int .i64 b.a, .int .i64 b.tt, .int .i64 b.el]
structure BkR (w : World) (x : Blk) : Prop where
  n : x.on = x.ops.length
  nb : x.on ≤ 10000
  r : ORd w x.oa x.ops
theorem BkR.below {w w' : World} {x : Blk} (h : BkR w x) (k : Below w.heap.size w w') : BkR w' x := ⟨h.n, h.nb, h.r.below k⟩
structure BRd (w : World) (a : Option Addr) (l : List Blk) : Prop where
  c : ∀ (j : Nat) (x : Blk), l[j]? = some x → ∃ b off, a = some ⟨b, off, none⟩ ∧ ∀ i, i < 5 → w.cell? ⟨b, off + j * 5 + i, none⟩ = x.cs[i]?
  e : ∀ x ∈ l, BkR w x
theorem BRd.below {w w' : World} {a : Option Addr} {l : List Blk} (h : BRd w a l) (k : Below w.heap.size w w') : BRd w' a l := by
  refine ⟨fun j x hx => ?_, fun x hx => (h.e x hx).below k⟩
  obtain ⟨b, off, e, hc⟩ := h.c j x hx
  refine ⟨b, off, e, fun i hi => ?_⟩
  obtain ⟨v, hv⟩ : ∃ v, x.cs[i]? = some v := by
    rcases (show i = 0 ∨ i = 1 ∨ i = 2 ∨ i = 3 ∨ i = 4 by omega) with rfl | rfl | rfl | rfl | rfl <;> exact ⟨_, rfl⟩
  have := hc i hi
  rw [hv] at this ⊢
  exact belowCell this (Nat.le_refl _) k
def tgE (en tt el : Int) : List Int := if en = 38 then [tt] else if en = 39 then [tt, el] else []
theorem tgE_len (en tt el : Int) : (tgE en tt el).length ≤ 2 := by unfold tgE; split; simp; split <;> simp
set_option maxRecDepth 100000 in
set_option maxHeartbeats 1000000 in
theorem targets_any (w : World) (oa : Option Addr) (on oc : Nat) (en a tt el : Int) : Calls Try.prog 79 #[.agg #[.slice oa on oc, .int .i64 en, .int .i64 a, .int .i64 tt, .int .i64 el]] w fun e w' => ∃ a' c', e = .returned (.slice a' (tgE en tt el).length c') ∧ GRow w' w.heap.size a' (tgE en tt el).length c' (tgE en tt el) ∧ Below w.heap.size w w' := by
  obtain ⟨W0, hW0⟩ : ∃ W0, W0 = w.alloc (.cells #[.slice oa on oc, .int .i64 en, .int .i64 a, .int .i64 tt, .int .i64 el] 89) := ⟨_, rfl⟩
  have bw0 : Below w.heap.size w W0 := by rw [hW0]; exact (Below.refl _ _).alloc (Nat.le_refl _) _
  have z0 : W0.heap.size = w.heap.size + 1 := by rw [hW0]; simp
  have m0 : W0.heap[w.heap.size]? = some (.cells #[.slice oa on oc, .int .i64 en, .int .i64 a, .int .i64 tt, .int .i64 el] 89 (0, 0)) := by rw [hW0]; exact heap_alloc_new _ _
  have x1 := cellOf m0 1
  have x3 := cellOf m0 3
  have x4 := cellOf m0 4
  simp only [List.getElem?_toArray, List.getElem?_cons_zero, List.getElem?_cons_succ] at x1 x3 x4
  have HB0 := hid bw0
  have Z0 := hid z0
  clear bw0 m0 z0
  by_cases h1 : en = 38
  · subst h1
    have HF : Hid (tgE 38 tt el = [tt]) := hid rfl
    have hgr : GRow (W0.alloc (.cells #[.int .i64 tt] 3)) w.heap.size (some ⟨W0.heap.size, 0, none⟩) 1 1 [tt] := ⟨rfl, Nat.le_refl _, fun x ex => by cases ex; exact ⟨_, rfl, by have := Z0.out; omega, by simp⟩, fun _ => ⟨_, _, rfl, heap_alloc_new _ _, Nat.le_refl _, rfl⟩⟩
    have HG := hid hgr
    have HB := hid (HB0.out.trans ((Below.refl _ W0).alloc (by have := Z0.out; omega) (.cells #[.int .i64 tt] 3)))
    clear hgr
    go_enter Try.func79, Try.ntmps79
    go_upto_region 1 with fail
    rw [← hW0]
    clear hW0
    go_wp2
    go_ret
    exact ⟨_, _, by rw [HF.out]; rfl, by rw [HF.out]; exact HG.out, HB.out⟩
  · have g1 : (en == 38) = false := by simpa using h1
    by_cases h2 : en = 39
    · subst h2
      have HF : Hid (tgE 39 tt el = [tt, el]) := hid rfl
      have hgr : GRow (W0.alloc (.cells #[.int .i64 tt, .int .i64 el] 3)) w.heap.size (some ⟨W0.heap.size, 0, none⟩) 2 2 [tt, el] := ⟨rfl, Nat.le_refl _, fun x ex => by cases ex; exact ⟨_, rfl, by have := Z0.out; omega, by simp⟩, fun _ => ⟨_, _, rfl, heap_alloc_new _ _, Nat.le_refl _, rfl⟩⟩
      have HG := hid hgr
      have HB := hid (HB0.out.trans ((Below.refl _ W0).alloc (by have := Z0.out; omega) (.cells #[.int .i64 tt, .int .i64 el] 3)))
      clear hgr
      go_enter Try.func79, Try.ntmps79
      go_upto_region 1 with fail
      rw [← hW0]
      clear hW0
      go_wp2
      go_ret
      exact ⟨_, _, by rw [HF.out]; rfl, by rw [HF.out]; exact HG.out, HB.out⟩
    · have g2 : (en == 39) = false := by simpa using h2
      have HF : Hid (tgE en tt el = []) := hid (by unfold tgE; rw [if_neg h1, if_neg h2])
      go_enter Try.func79, Try.ntmps79
      go_upto_region 1 with fail
      rw [← hW0]
      clear hW0
      go_wp2
      go_ret
      exact ⟨_, _, by rw [HF.out]; rfl, by rw [HF.out]; exact GRow.nil _ _, HB0.out⟩
def endE (en a tt el : Int) : Bool := if en = 38 then a == 0 && el == 0 else if en = 39 then decide (0 ≤ a) else if en = 40 then decide (-1 ≤ a) && tt == 0 && el == 0 else false
set_option maxRecDepth 100000 in
set_option maxHeartbeats 1000000 in
theorem isEnd_any (w : World) (oa : Option Addr) (on oc : Nat) (en a tt el : Int) : Calls Try.prog 116 #[.agg #[.slice oa on oc, .int .i64 en, .int .i64 a, .int .i64 tt, .int .i64 el]] w fun e w' => e = .returned (.bool (endE en a tt el)) ∧ Below w.heap.size w w' := by
  obtain ⟨W0, hW0⟩ : ∃ W0, W0 = w.alloc (.cells #[.slice oa on oc, .int .i64 en, .int .i64 a, .int .i64 tt, .int .i64 el] 89) := ⟨_, rfl⟩
  have bw0 : Below w.heap.size w W0 := by rw [hW0]; exact (Below.refl _ _).alloc (Nat.le_refl _) _
  have m0 : W0.heap[w.heap.size]? = some (.cells #[.slice oa on oc, .int .i64 en, .int .i64 a, .int .i64 tt, .int .i64 el] 89 (0, 0)) := by rw [hW0]; exact heap_alloc_new _ _
  have x1 := cellOf m0 1
  have x2 := cellOf m0 2
  have x3 := cellOf m0 3
  have x4 := cellOf m0 4
  simp only [List.getElem?_toArray, List.getElem?_cons_zero, List.getElem?_cons_succ] at x1 x2 x3 x4
  have HB0 := hid bw0
  clear bw0 m0
  by_cases h1 : en = 38
  · subst h1
    by_cases h2 : a = 0
    · subst h2
      have HF : Hid (endE 38 0 tt el = (el == 0)) := hid rfl
      go_enter Try.func116, Try.ntmps116
      go_upto_region 1 with fail
      rw [← hW0]
      clear hW0
      go_wp2
      go_ret
      exact ⟨by rw [HF.out]; rfl, HB0.out⟩
    · have g2 : (a == 0) = false := by simpa using h2
      have HF : Hid (endE 38 a tt el = false) := hid (by unfold endE; rw [if_pos rfl, g2]; rfl)
      go_enter Try.func116, Try.ntmps116
      go_upto_region 1 with fail
      rw [← hW0]
      clear hW0
      go_wp2
      go_ret
      exact ⟨by rw [HF.out]; rfl, HB0.out⟩
  · have g1 : (en == 38) = false := by simpa using h1
    by_cases h2 : en = 39
    · subst h2
      have HF : Hid (endE 39 a tt el = decide (0 ≤ a)) := hid rfl
      go_enter Try.func116, Try.ntmps116
      go_upto_region 1 with fail
      rw [← hW0]
      clear hW0
      go_wp2
      go_ret
      exact ⟨by rw [HF.out]; rfl, HB0.out⟩
    · have g2 : (en == 39) = false := by simpa using h2
      by_cases h3 : en = 40
      · subst h3
        by_cases h4 : -1 ≤ a
        · by_cases h5 : tt = 0
          · subst h5
            have HF : Hid (endE 40 a 0 el = (el == 0)) := hid (by unfold endE; rw [if_neg (by decide), if_neg (by decide), if_pos rfl, decide_eq_true h4]; rfl)
            go_enter Try.func116, Try.ntmps116
            go_upto_region 1 with fail
            rw [← hW0]
            clear hW0
            go_wp2
            go_ret
            exact ⟨by rw [HF.out]; rfl, HB0.out⟩
          · have g5 : (tt == 0) = false := by simpa using h5
            have HF : Hid (endE 40 a tt el = false) := hid (by unfold endE; rw [if_neg (by decide), if_neg (by decide), if_pos rfl, g5]; simp)
            go_enter Try.func116, Try.ntmps116
            go_upto_region 1 with fail
            rw [← hW0]
            clear hW0
            go_wp2
            go_ret
            exact ⟨by rw [HF.out]; rfl, HB0.out⟩
        · have HF : Hid (endE 40 a tt el = false) := hid (by unfold endE; rw [if_neg (by decide), if_neg (by decide), if_pos rfl, decide_eq_false h4]; rfl)
          go_enter Try.func116, Try.ntmps116
          go_upto_region 1 with fail
          rw [← hW0]
          clear hW0
          go_wp2
          go_ret
          exact ⟨by rw [HF.out]; rfl, HB0.out⟩
      · have g3 : (en == 40) = false := by simpa using h3
        have HF : Hid (endE en a tt el = false) := hid (by unfold endE; rw [if_neg h1, if_neg h2, if_neg h3])
        go_enter Try.func116, Try.ntmps116
        go_upto_region 1 with fail
        rw [← hW0]
        clear hW0
        go_wp2
        go_ret
        exact ⟨by rw [HF.out]; rfl, HB0.out⟩
end Go.Proofs.Ytmhjnfibpngpmaa

namespace Go.Proofs.Ytmhjnfibpngpmaa
set_option maxRecDepth 100000
open Go.RowKit Go.Deep Go.Shelf
set_option linter.unusedVariables false
set_option linter.unusedSimpArgs false
theorem step_appO {ops : Array Oper} {o : Oper} {act : Act} {w : World} {K : Act → World → Prop} {Q : Exit → Act → World → Prop} {E : Prop} (hgd : o.guard = none) (s x : Operand)
    (ho : o.op = .call { callee := .builtin .append, args := #[s, x], argTypes := #[60, 60] }) (v u : Value) (hs : act.eval s = v) (hx : act.eval x = u) (B : Nat) (l : List Opx) (h : OpR w B v l) (a : Option Addr) (m c : Nat) (hu : u = .slice a m c) (l2 : List Opx) (hm : m = l2.length) (hr : ORd w a l2) (hnil : a = none → c = 0) (hl : l.length ≤ 1000000) (hl2 : m ≤ 1000000) (hB : B ≤ w.heap.size)
    (k : ∀ v' w', OpR w' B v' (l ++ l2) → w.grownBy w' v.ownBlock → (v'.ownBlock = v.ownBlock ∨ v'.ownBlock = some w.heap.size) → K (act.put o.dst v') w') :
    if Region.wanted o (yielded ops act.tmps) = true then Oper.wp Try.prog o act w K Q else E := by
  have hw : Region.wanted o (yielded ops act.tmps) = true := by simp [Region.wanted, hgd]
  rw [if_pos hw]
  subst hu
  obtain ⟨v', w', hrun, h2, h3, h4⟩ := run_appO w o.type B v l h a m c l2 hm hr hnil hl hl2 hB
  unfold Oper.wp execOp
  simp only [ho, resolve, invoke, builtin, Sem.run_bind, Sem.run_pure, Result.andThen_ok, List.map_toArray, List.map_cons, List.map_nil, hs, hx, hrun]
  exact k v' w' h2 h3 h4
theorem grown_below {w w' : World} {B : Nat} {v : Value} {l : List Opx} (h : OpR w B v l) (k : w.grownBy w' v.ownBlock) (hB : B ≤ w.heap.size) : Below B w w' :=
  ⟨k.os, k.tape, k.output, k.size, fun j hj => k.block j (by omega) (fun e => by have := (h.own e.symm).1; omega)⟩
theorem below_eq {B C : Nat} {w w' : World} (e : C = B) (h : Below B w w') : Below C w w' := by rw [e]; exact h
def enO (en ba tt el nx : Int) : List Opx := if en = 39 then ⟨39, 0, ba, 0, tt⟩ :: lpO el nx else if en = 40 then [⟨40, 0, ba, 0, 0⟩] else lpO tt nx
theorem lpO_len (a b : Int) : (lpO a b).length ≤ 1 := by unfold lpO; split <;> simp
set_option maxRecDepth 100000 in
set_option maxHeartbeats 1000000 in
theorem ending_any (w : World) (oa : Option Addr) (on oc : Nat) (en ba tt el nx : Int) : Calls Try.prog 119 #[.agg #[.slice oa on oc, .int .i64 en, .int .i64 ba, .int .i64 tt, .int .i64 el], .int .i64 nx] w fun e w' => ∃ v, e = .returned v ∧ OpR w' w.heap.size v (enO en ba tt el nx) ∧ Below w.heap.size w w' := by
  obtain ⟨W0, hW0⟩ : ∃ W0, W0 = w.alloc (.cells #[.slice oa on oc, .int .i64 en, .int .i64 ba, .int .i64 tt, .int .i64 el] 89) := ⟨_, rfl⟩
  have bw0 : Below w.heap.size w W0 := by rw [hW0]; exact (Below.refl _ _).alloc (Nat.le_refl _) _
  have z0 : W0.heap.size = w.heap.size + 1 := by rw [hW0]; simp
  have m0 : W0.heap[w.heap.size]? = some (.cells #[.slice oa on oc, .int .i64 en, .int .i64 ba, .int .i64 tt, .int .i64 el] 89 (0, 0)) := by rw [hW0]; exact heap_alloc_new _ _
  have CB := hid (fun (v : World) (hv : Below W0.heap.size W0 v) => (by
    have h := (hv.block w.heap.size (lt_of_heap m0)).trans m0
    exact ⟨cellOf h 1, cellOf h 2, cellOf h 3, cellOf h 4⟩ : v.cell? ⟨w.heap.size, 1, none⟩ = some (.int .i64 en) ∧ v.cell? ⟨w.heap.size, 2, none⟩ = some (.int .i64 ba) ∧ v.cell? ⟨w.heap.size, 3, none⟩ = some (.int .i64 tt) ∧ v.cell? ⟨w.heap.size, 4, none⟩ = some (.int .i64 el)))
  obtain ⟨x1, x2, x3, x4⟩ := CB.out W0 (Below.refl _ _)
  have HB0 := hid bw0
  have Z0 := hid z0
  clear bw0 m0 z0
  by_cases h2 : en = 39
  · subst h2
    have HF : Hid (enO 39 ba tt el nx = ⟨39, 0, ba, 0, tt⟩ :: lpO el nx) := hid rfl
    obtain ⟨o39, ho39⟩ : ∃ o39 : Opx, o39 = ⟨39, 0, ba, 0, tt⟩ := ⟨_, rfl⟩
    have HO : Hid (∀ v : World, Below W0.heap.size W0 v → OpR (v.alloc (.cells #[.int .i64 39, .int .i64 0, .int .i64 ba, .int .i64 0, .int .i64 tt] 41)) (w.heap.size + 1) (.slice (some ⟨v.heap.size, 0, none⟩) 1 1) [⟨39, 0, ba, 0, tt⟩]) := hid fun v hv => (OpR.one v ⟨39, 0, ba, 0, tt⟩).lower (by have := hv.size; have := Z0.out; omega)
    have hl1 := lpO_len el nx
    have HO1 : Hid (∀ v : World, Below (W0.heap.size + 1) (W0.alloc (.cells #[.int .i64 39, .int .i64 0, .int .i64 ba, .int .i64 0, .int .i64 tt] 41)).drew v → OpR v (w.heap.size + 1) (.slice (some ⟨W0.heap.size, 0, none⟩) 1 1) [⟨39, 0, ba, 0, tt⟩] ∧ Below W0.heap.size W0 v) := hid fun v hv => by
      have b1 : Below W0.heap.size W0 (W0.alloc (.cells #[.int .i64 39, .int .i64 0, .int .i64 ba, .int .i64 0, .int .i64 tt] 41)).drew := ((Below.refl _ W0).alloc (Nat.le_refl _) _).drew
      refine ⟨?_, b1.trans (hv.mono (by omega))⟩
      exact ((((OpR.one W0 ⟨39, 0, ba, 0, tt⟩).lower (by have := Z0.out; omega)).keep (w' := (W0.alloc (.cells #[.int .i64 39, .int .i64 0, .int .i64 ba, .int .i64 0, .int .i64 tt] 41)).drew) (fun g e => rfl))).keep (fun g e => by cases e; exact hv.block W0.heap.size (by omega))
    have hl1 := lpO_len el nx
    have hl2 : (lpO el nx).length ≤ 1000000 := by omega
    clear ho39 o39
    go_enter Try.func119, Try.ntmps119
    go_upto_region 1 with fail
    rw [← hW0]
    clear hW0
    go_wp2
    have FA := hid (fun (w1 w2 : World) (v2 : Value) (hb1 : Below (W0.heap.size + 1) (W0.alloc (.cells #[.int .i64 39, .int .i64 0, .int .i64 ba, .int .i64 0, .int .i64 tt] 41)).drew w1) (hg2 : w1.grownBy w2 (Value.ownBlock (.slice (some ⟨W0.heap.size, 0, none⟩) 1 1))) => (HO1.out w1 hb1).2.trans (below_eq Z0.out (grown_below (HO1.out w1 hb1).1 hg2 (by have := (HO1.out w1 hb1).2.size; have := Z0.out; omega))))
    have FB := hid (fun (w1 w2 : World) (v2 : Value) (hb1 : Below W0.heap.size W0 w1) (hg2 : (w1.alloc (.cells #[.int .i64 39, .int .i64 0, .int .i64 ba, .int .i64 0, .int .i64 tt] 41)).grownBy w2 (Value.ownBlock (.slice (some ⟨w1.heap.size, 0, none⟩) 1 1))) => hb1.trans (((Below.refl _ w1).alloc hb1.size (.cells #[.int .i64 39, .int .i64 0, .int .i64 ba, .int .i64 0, .int .i64 tt] 41)).trans (below_eq Z0.out (grown_below (HO.out w1 hb1) hg2 (by rw [World.size_alloc]; have := hb1.size; have := Z0.out; omega)))))
    go_region_held3 (fun v => v.cell? ⟨w.heap.size, 2, none⟩ = some (.int .i64 ba) ∧ v.cell? ⟨w.heap.size, 3, none⟩ = some (.int .i64 tt) ∧ v.cell? ⟨w.heap.size, 4, none⟩ = some (.int .i64 el)) (first | exact s2 | exact s1 | go_keep) ((first
      | (have hno := hrdA; (refine step_appO (by rfl) _ _ (by rfl) _ _ (by rfl) (by rfl) (w.heap.size + 1) [⟨39, 0, ba, 0, tt⟩] (HO1.out w1 hb1).1 a1 (lpO el nx).length c1 rfl (lpO el nx) rfl hrdA hnil1 (by simp) hl2 (by have := (HO1.out w1 hb1).2.size; have := Z0.out; omega) ?_; intro v2 w2 ho2 hg2 hn2; have bb := FA.out w1 w2 v2 hb1 hg2; have s2 := (CB.out _ bb).2))
      | (have hno := hrdB; (refine step_appO (by rfl) _ _ (by rfl) _ _ (by rfl) (by rfl) (w.heap.size + 1) [⟨39, 0, ba, 0, tt⟩] (HO.out w1 hb1) a1 (lpO el nx).length c1 rfl (lpO el nx) rfl (hrdB.below ((Below.refl _ w1).alloc (Nat.le_refl _) _)) hnil1 (by simp) hl2 (by rw [World.size_alloc]; have := hb1.size; have := Z0.out; omega) ?_; intro v2 w2 ho2 hg2 hn2; have bb := FB.out w1 w2 v2 hb1 hg2; have s2 := (CB.out _ bb).2))
      | (go_at_call 150; (refine (leap_any (W0.alloc (.cells #[.int .i64 39, .int .i64 0, .int .i64 ba, .int .i64 0, .int .i64 tt] 41)).drew el nx).mono ?_; rintro e w1 ⟨v1, rfl, ho1, hb1'⟩; have hb1 : Below (W0.heap.size + 1) (W0.alloc (.cells #[.int .i64 39, .int .i64 0, .int .i64 ba, .int .i64 0, .int .i64 tt] 41)).drew w1 := hb1'.mono (by simp [World.drew]); have s1 := (CB.out _ (HO1.out _ hb1).2).2; obtain ⟨a1, c1, rfl, hrdA, hnil1⟩ := ho1.rd))
      | (go_at_call 150; (refine (leap_any W0.drew el nx).mono ?_; rintro e w1 ⟨v1, rfl, ho1, hb1'⟩; have hb1 : Below W0.heap.size W0 w1 := ((Below.refl _ W0).drew).trans hb1'; have s1 := (CB.out _ hb1).2; obtain ⟨a1, c1, rfl, hrdB, hnil1⟩ := ho1.rd))))
    all_goals
      have HF2 : Hid (OpR w2 (w.heap.size + 1) v2 (⟨39, 0, ba, 0, tt⟩ :: lpO el nx)) := hid ho2
      have HB2 := hid (HB0.out.trans (bb.mono HB0.out.size))
      clear s1 s2 hnil1 hb1 hb1' ho1 ho2 hg2 hn2 bb HO1 HO FA FB
      go_wp2
      go_ret
      exact ⟨_, rfl, by rw [HF.out]; exact HF2.out.lower (by omega), HB2.out⟩
  · have g2 : (en == 39) = false := by simpa using h2
    by_cases h3 : en = 40
    · subst h3
      have HF : Hid (enO 40 ba tt el nx = [⟨40, 0, ba, 0, 0⟩]) := hid rfl
      have HO := hid ((OpR.one W0 ⟨40, 0, ba, 0, 0⟩).lower (by have := Z0.out; omega : w.heap.size ≤ W0.heap.size))
      have HB := hid (HB0.out.trans ((Below.refl _ W0).alloc (by have := Z0.out; omega) (.cells (Opx.cs ⟨40, 0, ba, 0, 0⟩) 41)))
      go_enter Try.func119, Try.ntmps119
      go_upto_region 1 with fail
      rw [← hW0]
      clear hW0
      go_wp2
      go_ret
      exact ⟨_, rfl, by rw [HF.out]; exact HO.out, HB.out⟩
    · have g3 : (en == 40) = false := by simpa using h3
      have HF : Hid (enO en ba tt el nx = lpO tt nx) := hid (by unfold enO; rw [if_neg h2, if_neg h3])
      have K := hid (leap_any W0 tt nx)
      go_enter Try.func119, Try.ntmps119
      go_upto_region 1 with fail
      rw [← hW0]
      clear hW0
      go_wp2_with (go_at_call 150; (refine (Hid.out K).mono ?_; rintro e w1 ⟨v1, rfl, ho1, hb1⟩; have HO1 := hid ho1; have HB1 := hid (HB0.out.trans (hb1.mono HB0.out.size)); clear ho1 hb1))
      go_ret
      exact ⟨_, rfl, by rw [HF.out]; exact HO1.out.lower (by have := Z0.out; omega), HB1.out⟩
end Go.Proofs.Ytmhjnfibpngpmaa

namespace Go.Proofs.Ytmhjnfibpngpmaa
set_option maxRecDepth 100000
open Go.RowKit Go.Deep Go.Shelf
set_option linter.unusedVariables false
set_option linter.unusedSimpArgs false
def strO (o : Opx) : Bool := !(jmpB o || o.c == 40)
def strB (ops : List Opx) : Bool := ops.all strO
set_option maxRecDepth 100000 in
set_option maxHeartbeats 1000000 in
theorem areStraight_any (w : World) (a : Option Addr) (n c : Nat) (ops : List Opx) (hn : n = ops.length) (hnb : n ≤ 1000000) (hr : ORd w a ops) : Calls Try.prog 118 #[.slice a n c] w fun e w' => e = .returned (.bool (strB ops)) ∧ Below w.heap.size w w' := by
  have hnI : (n : Int) ≤ 1000000 := by omega
  have hn0 : (0 : Int) ≤ (n : Int) := by omega
  have HN := hid hn
  have HR := hid hr
  clear hn hr
  go_enter Try.func118, Try.ntmps118
  go_wp2
  go_loopg [7] n (fun g x wr => ∃ j : Nat, j + g = n ∧ x = .int .i64 (j : Int) ∧ strB (ops.take j) = true ∧ Below w.heap.size w wr)
  case atStart => exact ⟨0, by omega, rfl, by simp [strB], Below.refl _ _⟩
  case round =>
    obtain ⟨j, hj, rfl, hp, hb⟩ := hrel
    cases gk with
    | zero =>
      have hjn : j = n := by omega
      subst hjn
      have HP : Hid (strB ops = true) := hid (by
        rw [HN.out, List.take_of_length_le (Nat.le_refl _)] at hp
        exact hp)
      have HB := hid hb
      clear hp hb
      go_wp2
      go_ret
      exact ⟨by rw [HP.out]; rfl, HB.out⟩
    | succ g =>
      obtain ⟨o, ho⟩ : ∃ o, ops[j]? = some o := ⟨ops[j]'(by have := HN.out; omega), List.getElem?_eq_getElem _⟩
      obtain ⟨b, off, rfl, hc⟩ := (HR.out.below hb) j o ho
      have ht : ops.take (j + 1) = ops.take j ++ [o] := by rw [List.take_add_one, ho]; rfl
      have hno : strO o = false → strB ops = false := fun h => by
        refine Bool.eq_false_iff.2 fun hk => ?_
        have := List.all_eq_true.1 hk o (List.mem_of_getElem? ho)
        rw [h] at this; cases this
      obtain ⟨oc, od, oa, ob, ok⟩ := o
      have c0 := hc 0 (by omega)
      have c1 := hc 1 (by omega)
      have c2 := hc 2 (by omega)
      have c3 := hc 3 (by omega)
      have c4 := hc 4 (by omega)
      simp only [Opx.cs, List.getElem?_toArray, List.getElem?_cons_zero, List.getElem?_cons_succ, Nat.add_zero] at c0 c1 c2 c3 c4
      have hjI : (j : Int) < (n : Int) := by omega
      have hj0 : (0 : Int) ≤ (j : Int) := by omega
      obtain ⟨W0, hW0⟩ : ∃ W0, W0 = wr.alloc (.cells #[.int .i64 oc, .int .i64 od, .int .i64 oa, .int .i64 ob, .int .i64 ok] 41) := ⟨_, rfl⟩
      have K := hid (isJump_any W0 oc od oa ob ok)
      have m0 : W0.heap[wr.heap.size]? = some (.cells #[.int .i64 oc, .int .i64 od, .int .i64 oa, .int .i64 ob, .int .i64 ok] 41 (0, 0)) := by rw [hW0]; exact heap_alloc_new _ _
      have bw0 : Below w.heap.size w W0 := by rw [hW0]; exact hb.trans ((Below.refl _ _).alloc hb.size _)
      have CB := hid (fun (v : World) (hv : Below W0.heap.size W0 v) => (by
        have h := (hv.block wr.heap.size (lt_of_heap m0)).trans m0
        exact ⟨cellOf h 0, cellOf h 1, cellOf h 2, cellOf h 3, cellOf h 4⟩ : v.cell? ⟨wr.heap.size, 0, none⟩ = some (.int .i64 oc) ∧ v.cell? ⟨wr.heap.size, 1, none⟩ = some (.int .i64 od) ∧ v.cell? ⟨wr.heap.size, 2, none⟩ = some (.int .i64 oa) ∧ v.cell? ⟨wr.heap.size, 3, none⟩ = some (.int .i64 ob) ∧ v.cell? ⟨wr.heap.size, 4, none⟩ = some (.int .i64 ok)))
      have BW := hid (fun (v : World) (hv : Below W0.heap.size W0 v) => bw0.trans (hv.mono bw0.size))
      obtain ⟨x0, x1, x2, x3, x4⟩ := CB.out W0 (Below.refl _ _)
      have HP := hid hp
      have HT := hid ht
      have HNO := hid hno
      clear m0 bw0 hp ht hno hc ho hb
      cases hjb : jmpB ⟨oc, od, oa, ob, ok⟩ with
      | true =>
        rw [hjb] at K
        have HO := hid (HNO.out (by unfold strO; rw [hjb]; rfl))
        clear hjb
        go_upto_region 4 with fail
        rw [← hW0]
        clear hW0
        go_wp2_with (first | (go_at_call 120; (refine (Hid.out K).mono ?_; rintro e w1 ⟨rfl, hb1⟩; obtain ⟨d0, d1, d2, d3, d4⟩ := CB.out w1 hb1; have HB1 := hid (BW.out w1 hb1); clear hb1 x0 x1 x2 x3 x4)))
        go_ret
        exact ⟨by rw [HO.out]; rfl, HB1.out⟩
      | false =>
        rw [hjb] at K
        by_cases h4 : oc = 40
        · subst h4
          have HO := hid (HNO.out (by unfold strO; rw [hjb]; rfl))
          clear hjb
          go_upto_region 4 with fail
          rw [← hW0]
          clear hW0
          go_wp2_with (first | (go_at_call 120; (refine (Hid.out K).mono ?_; rintro e w1 ⟨rfl, hb1⟩; obtain ⟨d0, d1, d2, d3, d4⟩ := CB.out w1 hb1; have HB1 := hid (BW.out w1 hb1); clear hb1 x0 x1 x2 x3 x4)))
          go_ret
          exact ⟨by rw [HO.out]; rfl, HB1.out⟩
        · have g4 : (oc == 40) = false := by simpa using h4
          have HO : Hid (strO ⟨oc, od, oa, ob, ok⟩ = true) := hid (by unfold strO; rw [hjb]; simp [h4])
          clear hjb
          go_upto_region 4 with fail
          rw [← hW0]
          clear hW0
          go_wp2_with (first | (go_at_call 120; (refine (Hid.out K).mono ?_; rintro e w1 ⟨rfl, hb1⟩; obtain ⟨d0, d1, d2, d3, d4⟩ := CB.out w1 hb1; have HB1 := hid (BW.out w1 hb1); clear hb1 x0 x1 x2 x3 x4)))
          go_roundg g
          case measure => omega
          exact ⟨j + 1, by omega, by go_num, by rw [HT.out]; unfold strB; rw [List.all_append]; have := HP.out; unfold strB at this; rw [this]; simp [HO.out], HB1.out⟩
def okBk (n : Nat) (b : Blk) : Bool := endE b.en b.a b.tt b.el && wthB (n : Int) (tgE b.en b.tt b.el) && strB b.ops
def isG (bs : List Blk) : Bool := decide (0 < bs.length) && decide (bs.length ≤ 2000) && bs.all (okBk bs.length)
set_option maxRecDepth 100000 in
set_option maxHeartbeats 1000000 in
theorem isGraph_any (w : World) (regs : Int) (a : Option Addr) (n c : Nat) (bs : List Blk) (hn : n = bs.length) (hnb : n ≤ 1000000) (hr : BRd w a bs) : Calls Try.prog 75 #[.agg #[.int .i64 regs, .slice a n c]] w fun e w' => e = .returned (.bool (isG bs)) ∧ Below w.heap.size w w' := by
  obtain ⟨W0, hW0⟩ : ∃ W0, W0 = w.alloc (.cells #[.int .i64 regs, .slice a n c] 92) := ⟨_, rfl⟩
  have bw0 : Below w.heap.size w W0 := by rw [hW0]; exact (Below.refl _ _).alloc (Nat.le_refl _) _
  have m0 : W0.heap[w.heap.size]? = some (.cells #[.int .i64 regs, .slice a n c] 92 (0, 0)) := by rw [hW0]; exact heap_alloc_new _ _
  have x1 := cellOf m0 1
  simp only [List.getElem?_toArray, List.getElem?_cons_zero, List.getElem?_cons_succ] at x1
  have hnI : (n : Int) ≤ 1000000 := by omega
  have hn0 : (0 : Int) ≤ (n : Int) := by omega
  have HN := hid hn
  have HR := hid hr
  have HB0 := hid bw0
  clear hn hr bw0 m0
  by_cases hz : n = 0
  · subst hz
    have HO : Hid (isG bs = false) := hid (by unfold isG; rw [← HN.out]; rfl)
    go_enter Try.func75, Try.ntmps75
    go_upto_region 1 with fail
    rw [← hW0]
    clear hW0
    go_wp2
    go_ret
    exact ⟨by rw [HO.out]; rfl, HB0.out⟩
  · have hzb : ((n : Int) == 0) = false := by simp; omega
    by_cases hbig : 2000 < n
    · have hbI : (2000 : Int) < (n : Int) := by omega
      have HO : Hid (isG bs = false) := hid (by unfold isG; rw [← HN.out, decide_eq_false (by omega : ¬ n ≤ 2000)]; simp)
      go_enter Try.func75, Try.ntmps75
      go_upto_region 1 with fail
      rw [← hW0]
      clear hW0
      go_wp2
      go_ret
      exact ⟨by rw [HO.out]; rfl, HB0.out⟩
    · have hbI : ¬ (2000 : Int) < (n : Int) := by omega
      go_enter Try.func75, Try.ntmps75
      go_upto_region 1 with fail
      rw [← hW0]
      clear hW0
      go_wp2
      go_loopg [18] n (fun g x wr => ∃ j : Nat, j + g = n ∧ x = .int .i64 (j : Int) ∧ (bs.take j).all (okBk n) = true ∧ Below w.heap.size w wr)
      case atStart => exact ⟨0, by omega, rfl, by simp, HB0.out⟩
      case round =>
        obtain ⟨j, hj, rfl, hp, hb⟩ := hrel
        cases gk with
        | zero =>
          have hjn : j = n := by omega
          subst hjn
          have HP : Hid (isG bs = true) := hid (by
            rw [HN.out, List.take_of_length_le (Nat.le_refl _)] at hp
            unfold isG
            rw [hp, ← HN.out]; simp; omega)
          have HB := hid hb
          clear hp hb
          go_wp2
          go_ret
          exact ⟨by rw [HP.out]; rfl, HB.out⟩
        | succ g =>
          obtain ⟨o, ho⟩ : ∃ o, bs[j]? = some o := ⟨bs[j]'(by have := HN.out; omega), List.getElem?_eq_getElem _⟩
          have hrb := HR.out.below hb
          obtain ⟨b, off, rfl, hc⟩ := hrb.c j o ho
          have hbk := hrb.e o (List.mem_of_getElem? ho)
          have ht : bs.take (j + 1) = bs.take j ++ [o] := by rw [List.take_add_one, ho]; rfl
          have hno : okBk n o = false → isG bs = false := fun h => by
            refine Bool.eq_false_iff.2 fun hk => ?_
            unfold isG at hk
            simp only [Bool.and_eq_true] at hk
            have := List.all_eq_true.1 hk.2 o (List.mem_of_getElem? ho)
            rw [← HN.out, h] at this; cases this
          obtain ⟨oa, on, oc, en, ba, tt, el, ops⟩ := o
          have c0 := hc 0 (by omega)
          have c1 := hc 1 (by omega)
          have c2 := hc 2 (by omega)
          have c3 := hc 3 (by omega)
          have c4 := hc 4 (by omega)
          simp only [Blk.cs, List.getElem?_toArray, List.getElem?_cons_zero, List.getElem?_cons_succ, Nat.add_zero] at c0 c1 c2 c3 c4
          have hjI : (j : Int) < (n : Int) := by omega
          have hj0 : (0 : Int) ≤ (j : Int) := by omega
          obtain ⟨W1, hW1⟩ : ∃ W1, W1 = wr.alloc (.cells #[.slice oa on oc, .int .i64 en, .int .i64 ba, .int .i64 tt, .int .i64 el] 89) := ⟨_, rfl⟩
          have m1 : W1.heap[wr.heap.size]? = some (.cells #[.slice oa on oc, .int .i64 en, .int .i64 ba, .int .i64 tt, .int .i64 el] 89 (0, 0)) := by rw [hW1]; exact heap_alloc_new _ _
          have b1w : Below wr.heap.size wr W1 := by rw [hW1]; exact (Below.refl _ _).alloc (Nat.le_refl _) _
          have bw1 : Below w.heap.size w W1 := hb.trans (b1w.mono hb.size)
          have hon : on = ops.length := hbk.n
          have honb : on ≤ 10000 := hbk.nb
          have hor := hbk.r.below b1w
          have K1 := hid (isEnd_any W1 oa on oc en ba tt el)
          have K2 := hid (fun (v : World) => targets_any v oa on oc en ba tt el)
          have hl2 := tgE_len en tt el
          have K3 := hid (fun (v : World) (a' : Option Addr) (c' B : Nat) (hg : GRow v B a' (tgE en tt el).length c' (tgE en tt el)) => areWithin_any v a' (tgE en tt el).length c' (tgE en tt el) rfl (by omega) hg.ird (n : Int))
          have K4 := hid (fun (v : World) (hv : Below W1.heap.size W1 v) => areStraight_any v oa on oc ops hon (by omega) (hor.below hv))
          have CB := hid (fun (v : World) (hv : Below W1.heap.size W1 v) => (by
            have h := (hv.block wr.heap.size (lt_of_heap m1)).trans m1
            exact ⟨cellOf h 0, cellOf h 1, cellOf h 2, cellOf h 3, cellOf h 4⟩ : v.cell? ⟨wr.heap.size, 0, none⟩ = some (.slice oa on oc) ∧ v.cell? ⟨wr.heap.size, 1, none⟩ = some (.int .i64 en) ∧ v.cell? ⟨wr.heap.size, 2, none⟩ = some (.int .i64 ba) ∧ v.cell? ⟨wr.heap.size, 3, none⟩ = some (.int .i64 tt) ∧ v.cell? ⟨wr.heap.size, 4, none⟩ = some (.int .i64 el)))
          have BW := hid (fun (v : World) (hv : Below W1.heap.size W1 v) => bw1.trans (hv.mono bw1.size))
          obtain ⟨x0, x1', x2, x3, x4⟩ := CB.out W1 (Below.refl _ _)
          have HP := hid hp
          have HT := hid ht
          have HNO := hid hno
          obtain ⟨q, hq⟩ : ∃ q, q = (tgE en tt el).length := ⟨_, rfl⟩
          have hqI : (q : Int) ≤ 2 := by omega
          rw [← hq] at K2 K3
          have eok : okBk n ⟨oa, on, oc, en, ba, tt, el, ops⟩ = (endE en ba tt el && wthB (n : Int) (tgE en tt el) && strB ops) := rfl
          clear m1 b1w bw1 hp ht hno hc ho hb hrb hbk hor hon hl2 hq
          cases h1 : endE en ba tt el with
          | false =>
            rw [h1] at K1
            have HO := hid (HNO.out (by rw [eok, h1]; rfl))
            clear h1
            clear eok
            go_upto_region 7 with fail
            rw [← hW1]
            clear hW1
            go_wp2_with (first | (go_at_call 116; (refine (Hid.out K1).mono ?_; rintro e w1 ⟨rfl, hb1⟩; obtain ⟨d0, d1, d2, d3, d4⟩ := CB.out w1 hb1; have HB1 := hid hb1; clear hb1 x0 x1' x2 x3 x4)))
            go_ret
            exact ⟨by rw [HO.out]; rfl, BW.out _ HB1.out⟩
          | true =>
            rw [h1] at K1
            cases h2 : wthB (n : Int) (tgE en tt el) with
            | false =>
              rw [h2] at K3
              have HO := hid (HNO.out (by rw [eok, h1, h2]; rfl))
              clear h1 h2
              clear eok
              go_upto_region 7 with fail
              rw [← hW1]
              clear hW1
              go_wp2_with (first | (go_at_call 116; (refine (Hid.out K1).mono ?_; rintro e w1 ⟨rfl, hb1⟩; obtain ⟨d0, d1, d2, d3, d4⟩ := CB.out w1 hb1; have HB1 := hid hb1; clear hb1 x0 x1' x2 x3 x4)) | (go_at_call 79; (refine (K2.out w1).mono ?_; rintro e w2 ⟨a', c', rfl, hg2, hb2⟩; have HG2 := hid hg2; have HB2 := hid (HB1.out.trans (hb2.mono HB1.out.size)); obtain ⟨y0, y1, y2, y3, y4⟩ := CB.out w2 HB2.out; clear hb2 hg2 d0 d1 d2 d3 d4)) | (go_at_call 117; (refine (K3.out w2 a' c' _ HG2.out).mono ?_; rintro e w3 ⟨rfl, hb3⟩; have HB3 := hid (HB2.out.trans (hb3.mono HB2.out.size)); obtain ⟨r0, r1, r2, r3, r4⟩ := CB.out w3 HB3.out; clear hb3 y0 y1 y2 y3 y4)))
              go_ret
              exact ⟨by rw [HO.out]; rfl, BW.out _ HB3.out⟩
            | true =>
              rw [h2] at K3
              cases h3 : strB ops with
              | false =>
                rw [h3] at K4
                have HO := hid (HNO.out (by rw [eok, h1, h2, h3]; rfl))
                clear h1 h2 h3
                clear eok
                go_upto_region 7 with fail
                rw [← hW1]
                clear hW1
                go_wp2_with (first | (go_at_call 116; (refine (Hid.out K1).mono ?_; rintro e w1 ⟨rfl, hb1⟩; obtain ⟨d0, d1, d2, d3, d4⟩ := CB.out w1 hb1; have HB1 := hid hb1; clear hb1 x0 x1' x2 x3 x4)) | (go_at_call 79; (refine (K2.out w1).mono ?_; rintro e w2 ⟨a', c', rfl, hg2, hb2⟩; have HG2 := hid hg2; have HB2 := hid (HB1.out.trans (hb2.mono HB1.out.size)); obtain ⟨y0, y1, y2, y3, y4⟩ := CB.out w2 HB2.out; clear hb2 hg2 d0 d1 d2 d3 d4)) | (go_at_call 117; (refine (K3.out w2 a' c' _ HG2.out).mono ?_; rintro e w3 ⟨rfl, hb3⟩; have HB3 := hid (HB2.out.trans (hb3.mono HB2.out.size)); obtain ⟨r0, r1, r2, r3, r4⟩ := CB.out w3 HB3.out; clear hb3 y0 y1 y2 y3 y4)) | (go_at_call 118; (refine (K4.out w3 HB3.out).mono ?_; rintro e w4 ⟨rfl, hb4⟩; have HB4 := hid (HB3.out.trans (hb4.mono HB3.out.size)); clear hb4 r0 r1 r2 r3 r4)))
                go_ret
                exact ⟨by rw [HO.out]; rfl, BW.out _ HB4.out⟩
              | true =>
                rw [h3] at K4
                have HO : Hid (okBk n ⟨oa, on, oc, en, ba, tt, el, ops⟩ = true) := hid (by rw [eok, h1, h2, h3]; rfl)
                clear h1 h2 h3
                clear eok
                go_upto_region 7 with fail
                rw [← hW1]
                clear hW1
                go_wp2_with (first | (go_at_call 116; (refine (Hid.out K1).mono ?_; rintro e w1 ⟨rfl, hb1⟩; obtain ⟨d0, d1, d2, d3, d4⟩ := CB.out w1 hb1; have HB1 := hid hb1; clear hb1 x0 x1' x2 x3 x4)) | (go_at_call 79; (refine (K2.out w1).mono ?_; rintro e w2 ⟨a', c', rfl, hg2, hb2⟩; have HG2 := hid hg2; have HB2 := hid (HB1.out.trans (hb2.mono HB1.out.size)); obtain ⟨y0, y1, y2, y3, y4⟩ := CB.out w2 HB2.out; clear hb2 hg2 d0 d1 d2 d3 d4)) | (go_at_call 117; (refine (K3.out w2 a' c' _ HG2.out).mono ?_; rintro e w3 ⟨rfl, hb3⟩; have HB3 := hid (HB2.out.trans (hb3.mono HB2.out.size)); obtain ⟨r0, r1, r2, r3, r4⟩ := CB.out w3 HB3.out; clear hb3 y0 y1 y2 y3 y4)) | (go_at_call 118; (refine (K4.out w3 HB3.out).mono ?_; rintro e w4 ⟨rfl, hb4⟩; have HB4 := hid (HB3.out.trans (hb4.mono HB3.out.size)); clear hb4 r0 r1 r2 r3 r4)))
                go_roundg g
                case measure => omega
                exact ⟨j + 1, by omega, by go_num, by rw [HT.out, List.all_append, HP.out]; simp [HO.out], BW.out _ HB4.out⟩
end Go.Proofs.Ytmhjnfibpngpmaa

namespace Go.Proofs.Ytmhjnfibpngpmaa
set_option maxRecDepth 100000
open Go.RowKit Go.Deep Go.Shelf
set_option linter.unusedVariables false
set_option linter.unusedSimpArgs false
def enB (b : Blk) (i : Nat) : List Opx := enO b.en b.a b.tt b.el ((i : Int) + 1)
def layA : Nat → List Blk → List Opx
  | _, [] => []
  | i, b :: r => b.ops ++ enB b i ++ layA (i + 1) r
theorem layA_app : ∀ (l m : List Blk) (i : Nat), layA i (l ++ m) = layA i l ++ layA (i + l.length) m
  | [], m, i => by simp [layA]
  | b :: r, m, i => by
    have := layA_app r m (i + 1)
    simp only [List.cons_append, layA, this, List.append_assoc, List.length_cons]
    rw [show i + 1 + r.length = i + (r.length + 1) by omega]
theorem lay_take {bs : List Blk} {j : Nat} {b : Blk} (h : bs[j]? = some b) : layA 0 (bs.take (j + 1)) = layA 0 (bs.take j) ++ b.ops ++ enB b j := by
  have hj := (List.getElem?_eq_some_iff.1 h).1
  rw [List.take_add_one, h]
  show layA 0 (bs.take j ++ [b]) = _
  rw [layA_app]
  have : (bs.take j).length = j := by rw [List.length_take]; omega
  rw [this, Nat.zero_add]
  simp [layA]
theorem lay_pre (bs : List Blk) (j : Nat) : (layA 0 (bs.take j)).length ≤ (layA 0 bs).length := by
  have : layA 0 bs = layA 0 (bs.take j ++ bs.drop j) := by rw [List.take_append_drop]
  rw [this, layA_app, List.length_append]; omega
def bg (bs : List Blk) (j : Nat) : Nat := (layA 0 (bs.take j)).length
/- The row of beginnings, when j of them have been written. -/
def bgC (n : Nat) (bs : List Blk) (j : Nat) : Array Value := ((List.range n).map fun i => Value.int .i64 (if i < j then (bg bs i : Int) else 0)).toArray
theorem bgC_size (n : Nat) (bs : List Blk) (j : Nat) : (bgC n bs j).size = n := by simp [bgC]
theorem bgC_get {n j i : Nat} (bs : List Blk) (h : i < n) : (bgC n bs j)[i]? = some (.int .i64 (if i < j then (bg bs i : Int) else 0)) := by simp [bgC, h]
theorem bgC_zero (n : Nat) (bs : List Blk) : bgC n bs 0 = (List.replicate n (.int .i64 0)).toArray := by
  unfold bgC
  congr 1
  apply List.ext_getElem?
  intro i
  by_cases h : i < n
  · simp [h, List.getElem?_replicate]
  · simp [h, List.getElem?_replicate]
theorem bgC_set {n j : Nat} (bs : List Blk) (h : j < n) : (bgC n bs j).setIfInBounds j (.int .i64 (bg bs j : Int)) = bgC n bs (j + 1) := by
  apply Array.ext_getElem?
  intro i
  rw [Array.getElem?_setIfInBounds, bgC_size]
  by_cases hi : i < n
  · rw [bgC_get bs hi, bgC_get bs hi]
    by_cases e : j = i
    · subst e; simp [h]
    · rw [if_neg e]
      have : (i < j + 1) ↔ (i < j) := by omega
      simp only [this]
  · have h1 : (bgC n bs j)[i]? = none := by simp [bgC, hi]
    have h2 : (bgC n bs (j + 1))[i]? = none := by simp [bgC, hi]
    rw [h1, h2, if_neg (by omega)]
theorem made_i (n : Nat) : madeCells (Value.int .i64 0).cells (n * 1) = (List.replicate n (Value.int .i64 0)).toArray := by
  have := toList_madeCells_one (.int .i64 0) n
  rw [Nat.mul_one]
  exact Array.toList_inj.1 (by rw [List.toList_toArray]; exact this)
theorem run_mkI (w : World) (n : Nat) (h : n ≤ 1000000) (bs : List Blk) : (Instr.makeSlice 37 (.int .i64 (n : Int)) (.int .i64 (n : Int))).run Try.prog w = .ok (.slice (some ⟨w.heap.size, 0, none⟩) n n) (w.alloc (.cells (bgC n bs 0) 3)) := by
  obtain ⟨i0, hi, hz0, hz1, hz2⟩ := info_parts info3
  have := run_make (P := Try.prog) w 37 3 i0 (.int .i64 0) Try.underlying37 hi hz0 .i64 .i64 (n : Int) (n : Int) (by omega) (Int.le_refl _) (by rw [hz2]; omega) (by omega)
  rw [hz1, Int.toNat_natCast, made_i n] at this
  rw [bgC_zero]
  exact this
/- Jumps go to beginnings. -/
def fixO (bs : List Blk) (o : Opx) : Opx := if jmpB o = true then { o with k := (bg bs o.k.toNat : Int) } else o
def layB (bs : List Blk) : List Opx := (layA 0 bs).map (fixO bs)
theorem lp_jmp {a b : Int} {o : Opx} (h : o ∈ lpO a b) : o.k = a := by
  unfold lpO at h
  split at h
  · simp at h
  · simp at h; subst h; rfl
theorem en_jmp {n i : Nat} {b : Blk} (h : okBk n b = true) {o : Opx} (ho : o ∈ enB b i) (hj : jmpB o = true) : 0 ≤ o.k ∧ o.k < (n : Int) := by
  have ht : ∀ x ∈ tgE b.en b.tt b.el, 0 ≤ x ∧ x < (n : Int) := by
    intro x hx
    unfold okBk at h
    simp only [Bool.and_eq_true] at h
    have := List.all_eq_true.1 h.1.2 x hx
    simpa using this
  have he : endE b.en b.a b.tt b.el = true := by
    unfold okBk at h
    simp only [Bool.and_eq_true] at h
    exact h.1.1
  unfold enB enO at ho
  split at ho
  · rename_i h9
    have ht' := ht
    unfold tgE at ht'
    rw [if_neg (by omega), if_pos h9] at ht'
    rcases List.mem_cons.1 ho with rfl | ho
    · exact ht' b.tt (by simp)
    · rw [lp_jmp ho]; exact ht' b.el (by simp)
  · split at ho
    · simp at ho; subst ho; simp [jmpB] at hj
    · rename_i h9 h10
      have h38 : b.en = 38 := by
        refine Classical.byContradiction fun h8 => ?_
        unfold endE at he
        rw [if_neg h8, if_neg h9, if_neg h10] at he
        cases he
      unfold tgE at ht
      rw [if_pos h38] at ht
      rw [lp_jmp ho]; exact ht b.tt (by simp)
theorem lay_jmp {n : Nat} : ∀ (l : List Blk) (i : Nat), (∀ b ∈ l, okBk n b = true) → ∀ o ∈ layA i l, jmpB o = true → 0 ≤ o.k ∧ o.k < (n : Int)
  | [], i, _, o, ho, _ => by simp [layA] at ho
  | b :: r, i, h, o, ho, hj => by
    have hb := h b (List.mem_cons_self ..)
    rcases List.mem_append.1 ho with ho | ho
    · rcases List.mem_append.1 ho with ho | ho
      · unfold okBk at hb
        simp only [Bool.and_eq_true] at hb
        have := List.all_eq_true.1 hb.2 o ho
        unfold strO at this
        rw [hj] at this; simp at this
      · exact en_jmp hb ho hj
    · exact lay_jmp r (i + 1) (fun c hc => h c (List.mem_cons_of_mem _ hc)) o ho hj
theorem isG_all {bs : List Blk} (h : isG bs = true) : ∀ b ∈ bs, okBk bs.length b = true := by
  unfold isG at h
  simp only [Bool.and_eq_true] at h
  exact fun b hb => List.all_eq_true.1 h.2 b hb
/- An instruction's last cell, written. -/
theorem ocs_set : ∀ (l : List Opx) (i : Nat) (o : Opx) (k : Int), l[i]? = some o → (ocs l).set (i * 5 + 4) (.int .i64 k) = ocs (l.set i { o with k := k })
  | [], i, o, k, h => by simp at h
  | p :: l, 0, o, k, h => by
    simp at h; subst h
    unfold ocs
    simp [List.flatMap_cons, Opx.cs]
  | p :: l, i + 1, o, k, h => by
    have h1 : l[i]? = some o := by simpa using h
    have h2 := ocs_set l i o k h1
    unfold ocs at h2 ⊢
    rw [List.set_cons_succ, List.flatMap_cons, List.flatMap_cons, ← h2]
    have e : (i + 1) * 5 + 4 = p.cs.toList.length + (i * 5 + 4) := by show _ = 5 + _; omega
    rw [e, List.set_append_right _ _ (by omega)]
    simp
theorem OpR.setk {w : World} {B g cap : Nat} {l : List Opx} (h : OpR w B (.slice (some ⟨g, 0, none⟩) l.length cap) l) {i : Nat} {o : Opx} (ho : l[i]? = some o) (k : Int) : OpR (w.setCell ⟨g, i * 5 + 4, none⟩ (.int .i64 k)) B (.slice (some ⟨g, 0, none⟩) (l.set i { o with k := k }).length cap) (l.set i { o with k := k }) := by
  have hi := (List.getElem?_eq_some_iff.1 ho).1
  refine ⟨by rw [ocs_len], .inr ?_⟩
  rcases h.2 with ⟨e, _⟩ | ⟨g', cap', cur, e, h3, h4, h5, h6, h7, h8⟩
  · cases e
  · cases e
    refine ⟨g, cap, _, rfl, h3, heap_set_at h4 _ _, by rw [List.length_set]; exact h5, h6, by simpa using h7, ?_⟩
    rw [Array.toList_setIfInBounds, List.length_set, List.take_set, h8, ocs_set l i o k ho]
theorem OpR.free {w : World} {B g cap n : Nat} {l : List Opx} (h : OpR w B (.slice (some ⟨g, 0, none⟩) n cap) l) (i : Nat) : w.frozen? ⟨g, i, none⟩ = false := by
  rcases h.2 with ⟨e, _⟩ | ⟨g', cap', cur, e, h3, h4, h5⟩
  · cases e
  · cases e; exact freeOf h4 i
end Go.Proofs.Ytmhjnfibpngpmaa

