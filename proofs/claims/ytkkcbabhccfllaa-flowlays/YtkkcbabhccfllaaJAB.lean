/- ending. -/
import Derived.Test.YtkkcbabhccfllaaJAA
namespace Go.Proofs.Ytkkcbabhccfllaa
open Go.RowKit Go.Deep Go.Shelf
set_option linter.unusedVariables false
set_option linter.unusedSimpArgs false
theorem step_appO {ops : Array Oper} {o : Oper} {act : Act} {w : World} {K : Act → World → Prop} {Q : Exit → Act → World → Prop} {E : Prop} (hgd : o.guard = none) (s x : Operand)
    (ho : o.op = .call { callee := .builtin .append, args := #[s, x], argTypes := #[27, 27] }) (v u : Value) (hs : act.eval s = v) (hx : act.eval x = u) (B : Nat) (l : List Opx) (h : OpR w B v l) (a : Option Addr) (m c : Nat) (hu : u = .slice a m c) (l2 : List Opx) (hm : m = l2.length) (hr : ORd w a l2) (hnil : a = none → c = 0) (hl : l.length ≤ 1000000) (hl2 : m ≤ 1000000) (hB : B ≤ w.heap.size)
    (k : ∀ v' w', OpR w' B v' (l ++ l2) → w.grownBy w' v.ownBlock → (v'.ownBlock = v.ownBlock ∨ v'.ownBlock = some w.heap.size) → K (act.put o.dst v') w') :
    if Region.wanted o (yielded ops act.tmps) = true then Oper.wp Try.prog o act w K Q else E := by
  have hw : Region.wanted o (yielded ops act.tmps) = true := by simp [Region.wanted, hgd]
  rw [if_pos hw]
  subst hu
  obtain ⟨v', w', hrun, h2, h3, h4⟩ := run_appO w o.type B v l h a m c l2 hm hr hnil hl hl2 hB
  unfold Oper.wp execOp
  simp only [ho, resolve, invoke, builtin, Sem.run_bind, Sem.run_pure, Result.andThen_ok, List.map_toArray, List.map_cons, List.map_nil, hs, hx, hrun]
  exact k v' w' h2 h3 h4
theorem grown_below {w w' : World} {B : Nat} {v : Value} {l : List Opx} (h : OpR w B v l) (k : w.grownBy w' v.ownBlock) (hB : B ≤ w.heap.size) : Below B w w' :=
  ⟨k.os, k.tape, k.output, k.size, fun j hj => k.block j (by omega) (fun e => by have := (h.own e.symm).1; omega)⟩
theorem below_eq {B C : Nat} {w w' : World} (e : C = B) (h : Below B w w') : Below C w w' := by rw [e]; exact h
def enO (en ba tt el nx : Int) : List Opx := if en = 39 then ⟨39, 0, ba, 0, tt⟩ :: lpO el nx else if en = 40 then [⟨40, 0, ba, 0, 0⟩] else lpO tt nx
theorem lpO_len (a b : Int) : (lpO a b).length ≤ 1 := by unfold lpO; split <;> simp
set_option maxRecDepth 100000 in
set_option maxHeartbeats 1000000 in
theorem ending_any (w : World) (oa : Option Addr) (on oc : Nat) (en ba tt el nx : Int) : Calls Try.prog 28 #[.agg #[.slice oa on oc, .int .i64 en, .int .i64 ba, .int .i64 tt, .int .i64 el], .int .i64 nx] w fun e w' => ∃ v, e = .returned v ∧ OpR w' w.heap.size v (enO en ba tt el nx) ∧ Below w.heap.size w w' := by
  obtain ⟨W0, hW0⟩ : ∃ W0, W0 = w.alloc (.cells #[.slice oa on oc, .int .i64 en, .int .i64 ba, .int .i64 tt, .int .i64 el] 47) := ⟨_, rfl⟩
  have bw0 : Below w.heap.size w W0 := by rw [hW0]; exact (Below.refl _ _).alloc (Nat.le_refl _) _
  have z0 : W0.heap.size = w.heap.size + 1 := by rw [hW0]; simp
  have m0 : W0.heap[w.heap.size]? = some (.cells #[.slice oa on oc, .int .i64 en, .int .i64 ba, .int .i64 tt, .int .i64 el] 47 (0, 0)) := by rw [hW0]; exact heap_alloc_new _ _
  have CB := hid (fun (v : World) (hv : Below W0.heap.size W0 v) => (by
    have h := (hv.block w.heap.size (lt_of_heap m0)).trans m0
    exact ⟨cellOf h 1, cellOf h 2, cellOf h 3, cellOf h 4⟩ : v.cell? ⟨w.heap.size, 1, none⟩ = some (.int .i64 en) ∧ v.cell? ⟨w.heap.size, 2, none⟩ = some (.int .i64 ba) ∧ v.cell? ⟨w.heap.size, 3, none⟩ = some (.int .i64 tt) ∧ v.cell? ⟨w.heap.size, 4, none⟩ = some (.int .i64 el)))
  obtain ⟨x1, x2, x3, x4⟩ := CB.out W0 (Below.refl _ _)
  have HB0 := hid bw0
  have Z0 := hid z0
  clear bw0 m0 z0
  by_cases h2 : en = 39
  · subst h2
    have HF : Hid (enO 39 ba tt el nx = ⟨39, 0, ba, 0, tt⟩ :: lpO el nx) := hid rfl
    obtain ⟨o39, ho39⟩ : ∃ o39 : Opx, o39 = ⟨39, 0, ba, 0, tt⟩ := ⟨_, rfl⟩
    have HO : Hid (∀ v : World, Below W0.heap.size W0 v → OpR (v.alloc (.cells #[.int .i64 39, .int .i64 0, .int .i64 ba, .int .i64 0, .int .i64 tt] 36)) (w.heap.size + 1) (.slice (some ⟨v.heap.size, 0, none⟩) 1 1) [⟨39, 0, ba, 0, tt⟩]) := hid fun v hv => (OpR.one v ⟨39, 0, ba, 0, tt⟩).lower (by have := hv.size; have := Z0.out; omega)
    have hl1 := lpO_len el nx
    have HO1 : Hid (∀ v : World, Below (W0.heap.size + 1) (W0.alloc (.cells #[.int .i64 39, .int .i64 0, .int .i64 ba, .int .i64 0, .int .i64 tt] 36)).drew v → OpR v (w.heap.size + 1) (.slice (some ⟨W0.heap.size, 0, none⟩) 1 1) [⟨39, 0, ba, 0, tt⟩] ∧ Below W0.heap.size W0 v) := hid fun v hv => by
      have b1 : Below W0.heap.size W0 (W0.alloc (.cells #[.int .i64 39, .int .i64 0, .int .i64 ba, .int .i64 0, .int .i64 tt] 36)).drew := ((Below.refl _ W0).alloc (Nat.le_refl _) _).drew
      refine ⟨?_, b1.trans (hv.mono (by omega))⟩
      exact ((((OpR.one W0 ⟨39, 0, ba, 0, tt⟩).lower (by have := Z0.out; omega)).keep (w' := (W0.alloc (.cells #[.int .i64 39, .int .i64 0, .int .i64 ba, .int .i64 0, .int .i64 tt] 36)).drew) (fun g e => rfl))).keep (fun g e => by cases e; exact hv.block W0.heap.size (by omega))
    have hl1 := lpO_len el nx
    have hl2 : (lpO el nx).length ≤ 1000000 := by omega
    clear ho39 o39
    go_enter Try.func28, Try.ntmps28
    go_upto_region 1 with fail
    rw [← hW0]
    clear hW0
    go_wp2
    have FA := hid (fun (w1 w2 : World) (v2 : Value) (hb1 : Below (W0.heap.size + 1) (W0.alloc (.cells #[.int .i64 39, .int .i64 0, .int .i64 ba, .int .i64 0, .int .i64 tt] 36)).drew w1) (hg2 : w1.grownBy w2 (Value.ownBlock (.slice (some ⟨W0.heap.size, 0, none⟩) 1 1))) => (HO1.out w1 hb1).2.trans (below_eq Z0.out (grown_below (HO1.out w1 hb1).1 hg2 (by have := (HO1.out w1 hb1).2.size; have := Z0.out; omega))))
    have FB := hid (fun (w1 w2 : World) (v2 : Value) (hb1 : Below W0.heap.size W0 w1) (hg2 : (w1.alloc (.cells #[.int .i64 39, .int .i64 0, .int .i64 ba, .int .i64 0, .int .i64 tt] 36)).grownBy w2 (Value.ownBlock (.slice (some ⟨w1.heap.size, 0, none⟩) 1 1))) => hb1.trans (((Below.refl _ w1).alloc hb1.size (.cells #[.int .i64 39, .int .i64 0, .int .i64 ba, .int .i64 0, .int .i64 tt] 36)).trans (below_eq Z0.out (grown_below (HO.out w1 hb1) hg2 (by rw [World.size_alloc]; have := hb1.size; have := Z0.out; omega)))))
    go_region_held3 (fun v => v.cell? ⟨w.heap.size, 2, none⟩ = some (.int .i64 ba) ∧ v.cell? ⟨w.heap.size, 3, none⟩ = some (.int .i64 tt) ∧ v.cell? ⟨w.heap.size, 4, none⟩ = some (.int .i64 el)) (first | exact s2 | exact s1 | go_keep) ((first
      | (have hno := hrdA; (refine step_appO (by rfl) _ _ (by rfl) _ _ (by rfl) (by rfl) (w.heap.size + 1) [⟨39, 0, ba, 0, tt⟩] (HO1.out w1 hb1).1 a1 (lpO el nx).length c1 rfl (lpO el nx) rfl hrdA hnil1 (by simp) hl2 (by have := (HO1.out w1 hb1).2.size; have := Z0.out; omega) ?_; intro v2 w2 ho2 hg2 hn2; have bb := FA.out w1 w2 v2 hb1 hg2; have s2 := (CB.out _ bb).2))
      | (have hno := hrdB; (refine step_appO (by rfl) _ _ (by rfl) _ _ (by rfl) (by rfl) (w.heap.size + 1) [⟨39, 0, ba, 0, tt⟩] (HO.out w1 hb1) a1 (lpO el nx).length c1 rfl (lpO el nx) rfl (hrdB.below ((Below.refl _ w1).alloc (Nat.le_refl _) _)) hnil1 (by simp) hl2 (by rw [World.size_alloc]; have := hb1.size; have := Z0.out; omega) ?_; intro v2 w2 ho2 hg2 hn2; have bb := FB.out w1 w2 v2 hb1 hg2; have s2 := (CB.out _ bb).2))
      | (go_at_call 32; (refine (leap_any (W0.alloc (.cells #[.int .i64 39, .int .i64 0, .int .i64 ba, .int .i64 0, .int .i64 tt] 36)).drew el nx).mono ?_; rintro e w1 ⟨v1, rfl, ho1, hb1'⟩; have hb1 : Below (W0.heap.size + 1) (W0.alloc (.cells #[.int .i64 39, .int .i64 0, .int .i64 ba, .int .i64 0, .int .i64 tt] 36)).drew w1 := hb1'.mono (by simp [World.drew]); have s1 := (CB.out _ (HO1.out _ hb1).2).2; obtain ⟨a1, c1, rfl, hrdA, hnil1⟩ := ho1.rd))
      | (go_at_call 32; (refine (leap_any W0.drew el nx).mono ?_; rintro e w1 ⟨v1, rfl, ho1, hb1'⟩; have hb1 : Below W0.heap.size W0 w1 := ((Below.refl _ W0).drew).trans hb1'; have s1 := (CB.out _ hb1).2; obtain ⟨a1, c1, rfl, hrdB, hnil1⟩ := ho1.rd))))
    all_goals
      have HF2 : Hid (OpR w2 (w.heap.size + 1) v2 (⟨39, 0, ba, 0, tt⟩ :: lpO el nx)) := hid ho2
      have HB2 := hid (HB0.out.trans (bb.mono HB0.out.size))
      clear s1 s2 hnil1 hb1 hb1' ho1 ho2 hg2 hn2 bb HO1 HO FA FB
      go_wp2
      go_ret
      exact ⟨_, rfl, by rw [HF.out]; exact HF2.out.lower (by omega), HB2.out⟩
  · have g2 : (en == 39) = false := by simpa using h2
    by_cases h3 : en = 40
    · subst h3
      have HF : Hid (enO 40 ba tt el nx = [⟨40, 0, ba, 0, 0⟩]) := hid rfl
      have HO := hid ((OpR.one W0 ⟨40, 0, ba, 0, 0⟩).lower (by have := Z0.out; omega : w.heap.size ≤ W0.heap.size))
      have HB := hid (HB0.out.trans ((Below.refl _ W0).alloc (by have := Z0.out; omega) (.cells (Opx.cs ⟨40, 0, ba, 0, 0⟩) 36)))
      go_enter Try.func28, Try.ntmps28
      go_upto_region 1 with fail
      rw [← hW0]
      clear hW0
      go_wp2
      go_ret
      exact ⟨_, rfl, by rw [HF.out]; exact HO.out, HB.out⟩
    · have g3 : (en == 40) = false := by simpa using h3
      have HF : Hid (enO en ba tt el nx = lpO tt nx) := hid (by unfold enO; rw [if_neg h2, if_neg h3])
      have K := hid (leap_any W0 tt nx)
      go_enter Try.func28, Try.ntmps28
      go_upto_region 1 with fail
      rw [← hW0]
      clear hW0
      go_wp2_with (go_at_call 32; (refine (Hid.out K).mono ?_; rintro e w1 ⟨v1, rfl, ho1, hb1⟩; have HO1 := hid ho1; have HB1 := hid (HB0.out.trans (hb1.mono HB0.out.size)); clear ho1 hb1))
      go_ret
      exact ⟨_, rfl, by rw [HF.out]; exact HO1.out.lower (by have := Z0.out; omega), HB1.out⟩
end Go.Proofs.Ytkkcbabhccfllaa

namespace Go.Proofs.Ytkkcbabhccfllaa
open Go.RowKit Go.Deep Go.Shelf
set_option linter.unusedVariables false
set_option linter.unusedSimpArgs false
def strO (o : Opx) : Bool := !(jmpB o || o.c == 40)
def strB (ops : List Opx) : Bool := ops.all strO
set_option maxRecDepth 100000 in
set_option maxHeartbeats 1000000 in
theorem areStraight_any (w : World) (a : Option Addr) (n c : Nat) (ops : List Opx) (hn : n = ops.length) (hnb : n ≤ 1000000) (hr : ORd w a ops) : Calls Try.prog 27 #[.slice a n c] w fun e w' => e = .returned (.bool (strB ops)) ∧ Below w.heap.size w w' := by
  have hnI : (n : Int) ≤ 1000000 := by omega
  have hn0 : (0 : Int) ≤ (n : Int) := by omega
  have HN := hid hn
  have HR := hid hr
  clear hn hr
  go_enter Try.func27, Try.ntmps27
  go_wp2
  go_loopg [7] n (fun g x wr => ∃ j : Nat, j + g = n ∧ x = .int .i64 (j : Int) ∧ strB (ops.take j) = true ∧ Below w.heap.size w wr)
  case atStart => exact ⟨0, by omega, rfl, by simp [strB], Below.refl _ _⟩
  case round =>
    obtain ⟨j, hj, rfl, hp, hb⟩ := hrel
    cases gk with
    | zero =>
      have hjn : j = n := by omega
      subst hjn
      have HP : Hid (strB ops = true) := hid (by
        rw [HN.out, List.take_of_length_le (Nat.le_refl _)] at hp
        exact hp)
      have HB := hid hb
      clear hp hb
      go_wp2
      go_ret
      exact ⟨by rw [HP.out]; rfl, HB.out⟩
    | succ g =>
      obtain ⟨o, ho⟩ : ∃ o, ops[j]? = some o := ⟨ops[j]'(by have := HN.out; omega), List.getElem?_eq_getElem _⟩
      obtain ⟨b, off, rfl, hc⟩ := (HR.out.below hb) j o ho
      have ht : ops.take (j + 1) = ops.take j ++ [o] := by rw [List.take_add_one, ho]; rfl
      have hno : strO o = false → strB ops = false := fun h => by
        refine Bool.eq_false_iff.2 fun hk => ?_
        have := List.all_eq_true.1 hk o (List.mem_of_getElem? ho)
        rw [h] at this; cases this
      obtain ⟨oc, od, oa, ob, ok⟩ := o
      have c0 := hc 0 (by omega)
      have c1 := hc 1 (by omega)
      have c2 := hc 2 (by omega)
      have c3 := hc 3 (by omega)
      have c4 := hc 4 (by omega)
      simp only [Opx.cs, List.getElem?_toArray, List.getElem?_cons_zero, List.getElem?_cons_succ, Nat.add_zero] at c0 c1 c2 c3 c4
      have hjI : (j : Int) < (n : Int) := by omega
      have hj0 : (0 : Int) ≤ (j : Int) := by omega
      obtain ⟨W0, hW0⟩ : ∃ W0, W0 = wr.alloc (.cells #[.int .i64 oc, .int .i64 od, .int .i64 oa, .int .i64 ob, .int .i64 ok] 36) := ⟨_, rfl⟩
      have K := hid (isJump_any W0 oc od oa ob ok)
      have m0 : W0.heap[wr.heap.size]? = some (.cells #[.int .i64 oc, .int .i64 od, .int .i64 oa, .int .i64 ob, .int .i64 ok] 36 (0, 0)) := by rw [hW0]; exact heap_alloc_new _ _
      have bw0 : Below w.heap.size w W0 := by rw [hW0]; exact hb.trans ((Below.refl _ _).alloc hb.size _)
      have CB := hid (fun (v : World) (hv : Below W0.heap.size W0 v) => (by
        have h := (hv.block wr.heap.size (lt_of_heap m0)).trans m0
        exact ⟨cellOf h 0, cellOf h 1, cellOf h 2, cellOf h 3, cellOf h 4⟩ : v.cell? ⟨wr.heap.size, 0, none⟩ = some (.int .i64 oc) ∧ v.cell? ⟨wr.heap.size, 1, none⟩ = some (.int .i64 od) ∧ v.cell? ⟨wr.heap.size, 2, none⟩ = some (.int .i64 oa) ∧ v.cell? ⟨wr.heap.size, 3, none⟩ = some (.int .i64 ob) ∧ v.cell? ⟨wr.heap.size, 4, none⟩ = some (.int .i64 ok)))
      have BW := hid (fun (v : World) (hv : Below W0.heap.size W0 v) => bw0.trans (hv.mono bw0.size))
      obtain ⟨x0, x1, x2, x3, x4⟩ := CB.out W0 (Below.refl _ _)
      have HP := hid hp
      have HT := hid ht
      have HNO := hid hno
      clear m0 bw0 hp ht hno hc ho hb
      cases hjb : jmpB ⟨oc, od, oa, ob, ok⟩ with
      | true =>
        rw [hjb] at K
        have HO := hid (HNO.out (by unfold strO; rw [hjb]; rfl))
        clear hjb
        go_upto_region 4 with fail
        rw [← hW0]
        clear hW0
        go_wp2_with (first | (go_at_call 29; (refine (Hid.out K).mono ?_; rintro e w1 ⟨rfl, hb1⟩; obtain ⟨d0, d1, d2, d3, d4⟩ := CB.out w1 hb1; have HB1 := hid (BW.out w1 hb1); clear hb1 x0 x1 x2 x3 x4)))
        go_ret
        exact ⟨by rw [HO.out]; rfl, HB1.out⟩
      | false =>
        rw [hjb] at K
        by_cases h4 : oc = 40
        · subst h4
          have HO := hid (HNO.out (by unfold strO; rw [hjb]; rfl))
          clear hjb
          go_upto_region 4 with fail
          rw [← hW0]
          clear hW0
          go_wp2_with (first | (go_at_call 29; (refine (Hid.out K).mono ?_; rintro e w1 ⟨rfl, hb1⟩; obtain ⟨d0, d1, d2, d3, d4⟩ := CB.out w1 hb1; have HB1 := hid (BW.out w1 hb1); clear hb1 x0 x1 x2 x3 x4)))
          go_ret
          exact ⟨by rw [HO.out]; rfl, HB1.out⟩
        · have g4 : (oc == 40) = false := by simpa using h4
          have HO : Hid (strO ⟨oc, od, oa, ob, ok⟩ = true) := hid (by unfold strO; rw [hjb]; simp [h4])
          clear hjb
          go_upto_region 4 with fail
          rw [← hW0]
          clear hW0
          go_wp2_with (first | (go_at_call 29; (refine (Hid.out K).mono ?_; rintro e w1 ⟨rfl, hb1⟩; obtain ⟨d0, d1, d2, d3, d4⟩ := CB.out w1 hb1; have HB1 := hid (BW.out w1 hb1); clear hb1 x0 x1 x2 x3 x4)))
          go_roundg g
          case measure => omega
          exact ⟨j + 1, by omega, by go_num, by rw [HT.out]; unfold strB; rw [List.all_append]; have := HP.out; unfold strB at this; rw [this]; simp [HO.out], HB1.out⟩
def okBk (n : Nat) (b : Blk) : Bool := endE b.en b.a b.tt b.el && wthB (n : Int) (tgE b.en b.tt b.el) && strB b.ops
def isG (bs : List Blk) : Bool := decide (0 < bs.length) && decide (bs.length ≤ 2000) && bs.all (okBk bs.length)
set_option maxRecDepth 100000 in
set_option maxHeartbeats 1000000 in
theorem isGraph_any (w : World) (regs : Int) (a : Option Addr) (n c : Nat) (bs : List Blk) (hn : n = bs.length) (hnb : n ≤ 1000000) (hr : BRd w a bs) : Calls Try.prog 15 #[.agg #[.int .i64 regs, .slice a n c]] w fun e w' => e = .returned (.bool (isG bs)) ∧ Below w.heap.size w w' := by
  obtain ⟨W0, hW0⟩ : ∃ W0, W0 = w.alloc (.cells #[.int .i64 regs, .slice a n c] 24) := ⟨_, rfl⟩
  have bw0 : Below w.heap.size w W0 := by rw [hW0]; exact (Below.refl _ _).alloc (Nat.le_refl _) _
  have m0 : W0.heap[w.heap.size]? = some (.cells #[.int .i64 regs, .slice a n c] 24 (0, 0)) := by rw [hW0]; exact heap_alloc_new _ _
  have x1 := cellOf m0 1
  simp only [List.getElem?_toArray, List.getElem?_cons_zero, List.getElem?_cons_succ] at x1
  have hnI : (n : Int) ≤ 1000000 := by omega
  have hn0 : (0 : Int) ≤ (n : Int) := by omega
  have HN := hid hn
  have HR := hid hr
  have HB0 := hid bw0
  clear hn hr bw0 m0
  by_cases hz : n = 0
  · subst hz
    have HO : Hid (isG bs = false) := hid (by unfold isG; rw [← HN.out]; rfl)
    go_enter Try.func15, Try.ntmps15
    go_upto_region 1 with fail
    rw [← hW0]
    clear hW0
    go_wp2
    go_ret
    exact ⟨by rw [HO.out]; rfl, HB0.out⟩
  · have hzb : ((n : Int) == 0) = false := by simp; omega
    by_cases hbig : 2000 < n
    · have hbI : (2000 : Int) < (n : Int) := by omega
      have HO : Hid (isG bs = false) := hid (by unfold isG; rw [← HN.out, decide_eq_false (by omega : ¬ n ≤ 2000)]; simp)
      go_enter Try.func15, Try.ntmps15
      go_upto_region 1 with fail
      rw [← hW0]
      clear hW0
      go_wp2
      go_ret
      exact ⟨by rw [HO.out]; rfl, HB0.out⟩
    · have hbI : ¬ (2000 : Int) < (n : Int) := by omega
      go_enter Try.func15, Try.ntmps15
      go_upto_region 1 with fail
      rw [← hW0]
      clear hW0
      go_wp2
      go_loopg [18] n (fun g x wr => ∃ j : Nat, j + g = n ∧ x = .int .i64 (j : Int) ∧ (bs.take j).all (okBk n) = true ∧ Below w.heap.size w wr)
      case atStart => exact ⟨0, by omega, rfl, by simp, HB0.out⟩
      case round =>
        obtain ⟨j, hj, rfl, hp, hb⟩ := hrel
        cases gk with
        | zero =>
          have hjn : j = n := by omega
          subst hjn
          have HP : Hid (isG bs = true) := hid (by
            rw [HN.out, List.take_of_length_le (Nat.le_refl _)] at hp
            unfold isG
            rw [hp, ← HN.out]; simp; omega)
          have HB := hid hb
          clear hp hb
          go_wp2
          go_ret
          exact ⟨by rw [HP.out]; rfl, HB.out⟩
        | succ g =>
          obtain ⟨o, ho⟩ : ∃ o, bs[j]? = some o := ⟨bs[j]'(by have := HN.out; omega), List.getElem?_eq_getElem _⟩
          have hrb := HR.out.below hb
          obtain ⟨b, off, rfl, hc⟩ := hrb.c j o ho
          have hbk := hrb.e o (List.mem_of_getElem? ho)
          have ht : bs.take (j + 1) = bs.take j ++ [o] := by rw [List.take_add_one, ho]; rfl
          have hno : okBk n o = false → isG bs = false := fun h => by
            refine Bool.eq_false_iff.2 fun hk => ?_
            unfold isG at hk
            simp only [Bool.and_eq_true] at hk
            have := List.all_eq_true.1 hk.2 o (List.mem_of_getElem? ho)
            rw [← HN.out, h] at this; cases this
          obtain ⟨oa, on, oc, en, ba, tt, el, ops⟩ := o
          have c0 := hc 0 (by omega)
          have c1 := hc 1 (by omega)
          have c2 := hc 2 (by omega)
          have c3 := hc 3 (by omega)
          have c4 := hc 4 (by omega)
          simp only [Blk.cs, List.getElem?_toArray, List.getElem?_cons_zero, List.getElem?_cons_succ, Nat.add_zero] at c0 c1 c2 c3 c4
          have hjI : (j : Int) < (n : Int) := by omega
          have hj0 : (0 : Int) ≤ (j : Int) := by omega
          obtain ⟨W1, hW1⟩ : ∃ W1, W1 = wr.alloc (.cells #[.slice oa on oc, .int .i64 en, .int .i64 ba, .int .i64 tt, .int .i64 el] 47) := ⟨_, rfl⟩
          have m1 : W1.heap[wr.heap.size]? = some (.cells #[.slice oa on oc, .int .i64 en, .int .i64 ba, .int .i64 tt, .int .i64 el] 47 (0, 0)) := by rw [hW1]; exact heap_alloc_new _ _
          have b1w : Below wr.heap.size wr W1 := by rw [hW1]; exact (Below.refl _ _).alloc (Nat.le_refl _) _
          have bw1 : Below w.heap.size w W1 := hb.trans (b1w.mono hb.size)
          have hon : on = ops.length := hbk.n
          have honb : on ≤ 10000 := hbk.nb
          have hor := hbk.r.below b1w
          have K1 := hid (isEnd_any W1 oa on oc en ba tt el)
          have K2 := hid (fun (v : World) => targets_any v oa on oc en ba tt el)
          have hl2 := tgE_len en tt el
          have K3 := hid (fun (v : World) (a' : Option Addr) (c' B : Nat) (hg : GRow v B a' (tgE en tt el).length c' (tgE en tt el)) => areWithin_any v a' (tgE en tt el).length c' (tgE en tt el) rfl (by omega) hg.ird (n : Int))
          have K4 := hid (fun (v : World) (hv : Below W1.heap.size W1 v) => areStraight_any v oa on oc ops hon (by omega) (hor.below hv))
          have CB := hid (fun (v : World) (hv : Below W1.heap.size W1 v) => (by
            have h := (hv.block wr.heap.size (lt_of_heap m1)).trans m1
            exact ⟨cellOf h 0, cellOf h 1, cellOf h 2, cellOf h 3, cellOf h 4⟩ : v.cell? ⟨wr.heap.size, 0, none⟩ = some (.slice oa on oc) ∧ v.cell? ⟨wr.heap.size, 1, none⟩ = some (.int .i64 en) ∧ v.cell? ⟨wr.heap.size, 2, none⟩ = some (.int .i64 ba) ∧ v.cell? ⟨wr.heap.size, 3, none⟩ = some (.int .i64 tt) ∧ v.cell? ⟨wr.heap.size, 4, none⟩ = some (.int .i64 el)))
          have BW := hid (fun (v : World) (hv : Below W1.heap.size W1 v) => bw1.trans (hv.mono bw1.size))
          obtain ⟨x0, x1', x2, x3, x4⟩ := CB.out W1 (Below.refl _ _)
          have HP := hid hp
          have HT := hid ht
          have HNO := hid hno
          obtain ⟨q, hq⟩ : ∃ q, q = (tgE en tt el).length := ⟨_, rfl⟩
          have hqI : (q : Int) ≤ 2 := by omega
          rw [← hq] at K2 K3
          have eok : okBk n ⟨oa, on, oc, en, ba, tt, el, ops⟩ = (endE en ba tt el && wthB (n : Int) (tgE en tt el) && strB ops) := rfl
          clear m1 b1w bw1 hp ht hno hc ho hb hrb hbk hor hon hl2 hq
          cases h1 : endE en ba tt el with
          | false =>
            rw [h1] at K1
            have HO := hid (HNO.out (by rw [eok, h1]; rfl))
            clear h1
            clear eok
            go_upto_region 7 with fail
            rw [← hW1]
            clear hW1
            go_wp2_with (first | (go_at_call 25; (refine (Hid.out K1).mono ?_; rintro e w1 ⟨rfl, hb1⟩; obtain ⟨d0, d1, d2, d3, d4⟩ := CB.out w1 hb1; have HB1 := hid hb1; clear hb1 x0 x1' x2 x3 x4)))
            go_ret
            exact ⟨by rw [HO.out]; rfl, BW.out _ HB1.out⟩
          | true =>
            rw [h1] at K1
            cases h2 : wthB (n : Int) (tgE en tt el) with
            | false =>
              rw [h2] at K3
              have HO := hid (HNO.out (by rw [eok, h1, h2]; rfl))
              clear h1 h2
              clear eok
              go_upto_region 7 with fail
              rw [← hW1]
              clear hW1
              go_wp2_with (first | (go_at_call 25; (refine (Hid.out K1).mono ?_; rintro e w1 ⟨rfl, hb1⟩; obtain ⟨d0, d1, d2, d3, d4⟩ := CB.out w1 hb1; have HB1 := hid hb1; clear hb1 x0 x1' x2 x3 x4)) | (go_at_call 21; (refine (K2.out w1).mono ?_; rintro e w2 ⟨a', c', rfl, hg2, hb2⟩; have HG2 := hid hg2; have HB2 := hid (HB1.out.trans (hb2.mono HB1.out.size)); obtain ⟨y0, y1, y2, y3, y4⟩ := CB.out w2 HB2.out; clear hb2 hg2 d0 d1 d2 d3 d4)) | (go_at_call 26; (refine (K3.out w2 a' c' _ HG2.out).mono ?_; rintro e w3 ⟨rfl, hb3⟩; have HB3 := hid (HB2.out.trans (hb3.mono HB2.out.size)); obtain ⟨r0, r1, r2, r3, r4⟩ := CB.out w3 HB3.out; clear hb3 y0 y1 y2 y3 y4)))
              go_ret
              exact ⟨by rw [HO.out]; rfl, BW.out _ HB3.out⟩
            | true =>
              rw [h2] at K3
              cases h3 : strB ops with
              | false =>
                rw [h3] at K4
                have HO := hid (HNO.out (by rw [eok, h1, h2, h3]; rfl))
                clear h1 h2 h3
                clear eok
                go_upto_region 7 with fail
                rw [← hW1]
                clear hW1
                go_wp2_with (first | (go_at_call 25; (refine (Hid.out K1).mono ?_; rintro e w1 ⟨rfl, hb1⟩; obtain ⟨d0, d1, d2, d3, d4⟩ := CB.out w1 hb1; have HB1 := hid hb1; clear hb1 x0 x1' x2 x3 x4)) | (go_at_call 21; (refine (K2.out w1).mono ?_; rintro e w2 ⟨a', c', rfl, hg2, hb2⟩; have HG2 := hid hg2; have HB2 := hid (HB1.out.trans (hb2.mono HB1.out.size)); obtain ⟨y0, y1, y2, y3, y4⟩ := CB.out w2 HB2.out; clear hb2 hg2 d0 d1 d2 d3 d4)) | (go_at_call 26; (refine (K3.out w2 a' c' _ HG2.out).mono ?_; rintro e w3 ⟨rfl, hb3⟩; have HB3 := hid (HB2.out.trans (hb3.mono HB2.out.size)); obtain ⟨r0, r1, r2, r3, r4⟩ := CB.out w3 HB3.out; clear hb3 y0 y1 y2 y3 y4)) | (go_at_call 27; (refine (K4.out w3 HB3.out).mono ?_; rintro e w4 ⟨rfl, hb4⟩; have HB4 := hid (HB3.out.trans (hb4.mono HB3.out.size)); clear hb4 r0 r1 r2 r3 r4)))
                go_ret
                exact ⟨by rw [HO.out]; rfl, BW.out _ HB4.out⟩
              | true =>
                rw [h3] at K4
                have HO : Hid (okBk n ⟨oa, on, oc, en, ba, tt, el, ops⟩ = true) := hid (by rw [eok, h1, h2, h3]; rfl)
                clear h1 h2 h3
                clear eok
                go_upto_region 7 with fail
                rw [← hW1]
                clear hW1
                go_wp2_with (first | (go_at_call 25; (refine (Hid.out K1).mono ?_; rintro e w1 ⟨rfl, hb1⟩; obtain ⟨d0, d1, d2, d3, d4⟩ := CB.out w1 hb1; have HB1 := hid hb1; clear hb1 x0 x1' x2 x3 x4)) | (go_at_call 21; (refine (K2.out w1).mono ?_; rintro e w2 ⟨a', c', rfl, hg2, hb2⟩; have HG2 := hid hg2; have HB2 := hid (HB1.out.trans (hb2.mono HB1.out.size)); obtain ⟨y0, y1, y2, y3, y4⟩ := CB.out w2 HB2.out; clear hb2 hg2 d0 d1 d2 d3 d4)) | (go_at_call 26; (refine (K3.out w2 a' c' _ HG2.out).mono ?_; rintro e w3 ⟨rfl, hb3⟩; have HB3 := hid (HB2.out.trans (hb3.mono HB2.out.size)); obtain ⟨r0, r1, r2, r3, r4⟩ := CB.out w3 HB3.out; clear hb3 y0 y1 y2 y3 y4)) | (go_at_call 27; (refine (K4.out w3 HB3.out).mono ?_; rintro e w4 ⟨rfl, hb4⟩; have HB4 := hid (HB3.out.trans (hb4.mono HB3.out.size)); clear hb4 r0 r1 r2 r3 r4)))
                go_roundg g
                case measure => omega
                exact ⟨j + 1, by omega, by go_num, by rw [HT.out, List.all_append, HP.out]; simp [HO.out], BW.out _ HB4.out⟩
end Go.Proofs.Ytkkcbabhccfllaa

namespace Go.Proofs.Ytkkcbabhccfllaa
open Go.RowKit Go.Deep Go.Shelf
set_option linter.unusedVariables false
set_option linter.unusedSimpArgs false
def enB (b : Blk) (i : Nat) : List Opx := enO b.en b.a b.tt b.el ((i : Int) + 1)
def layA : Nat → List Blk → List Opx
  | _, [] => []
  | i, b :: r => b.ops ++ enB b i ++ layA (i + 1) r
theorem layA_app : ∀ (l m : List Blk) (i : Nat), layA i (l ++ m) = layA i l ++ layA (i + l.length) m
  | [], m, i => by simp [layA]
  | b :: r, m, i => by
    have := layA_app r m (i + 1)
    simp only [List.cons_append, layA, this, List.append_assoc, List.length_cons]
    rw [show i + 1 + r.length = i + (r.length + 1) by omega]
theorem lay_take {bs : List Blk} {j : Nat} {b : Blk} (h : bs[j]? = some b) : layA 0 (bs.take (j + 1)) = layA 0 (bs.take j) ++ b.ops ++ enB b j := by
  have hj := (List.getElem?_eq_some_iff.1 h).1
  rw [List.take_add_one, h]
  show layA 0 (bs.take j ++ [b]) = _
  rw [layA_app]
  have : (bs.take j).length = j := by rw [List.length_take]; omega
  rw [this, Nat.zero_add]
  simp [layA]
theorem lay_pre (bs : List Blk) (j : Nat) : (layA 0 (bs.take j)).length ≤ (layA 0 bs).length := by
  have : layA 0 bs = layA 0 (bs.take j ++ bs.drop j) := by rw [List.take_append_drop]
  rw [this, layA_app, List.length_append]; omega
def bg (bs : List Blk) (j : Nat) : Nat := (layA 0 (bs.take j)).length
/- The row of beginnings, when j of them have been written. -/
def bgC (n : Nat) (bs : List Blk) (j : Nat) : Array Value := ((List.range n).map fun i => Value.int .i64 (if i < j then (bg bs i : Int) else 0)).toArray
theorem bgC_size (n : Nat) (bs : List Blk) (j : Nat) : (bgC n bs j).size = n := by simp [bgC]
theorem bgC_get {n j i : Nat} (bs : List Blk) (h : i < n) : (bgC n bs j)[i]? = some (.int .i64 (if i < j then (bg bs i : Int) else 0)) := by simp [bgC, h]
theorem bgC_zero (n : Nat) (bs : List Blk) : bgC n bs 0 = (List.replicate n (.int .i64 0)).toArray := by
  unfold bgC
  congr 1
  apply List.ext_getElem?
  intro i
  by_cases h : i < n
  · simp [h, List.getElem?_replicate]
  · simp [h, List.getElem?_replicate]
theorem bgC_set {n j : Nat} (bs : List Blk) (h : j < n) : (bgC n bs j).setIfInBounds j (.int .i64 (bg bs j : Int)) = bgC n bs (j + 1) := by
  apply Array.ext_getElem?
  intro i
  rw [Array.getElem?_setIfInBounds, bgC_size]
  by_cases hi : i < n
  · rw [bgC_get bs hi, bgC_get bs hi]
    by_cases e : j = i
    · subst e; simp [h]
    · rw [if_neg e]
      have : (i < j + 1) ↔ (i < j) := by omega
      simp only [this]
  · have h1 : (bgC n bs j)[i]? = none := by simp [bgC, hi]
    have h2 : (bgC n bs (j + 1))[i]? = none := by simp [bgC, hi]
    rw [h1, h2, if_neg (by omega)]
theorem made_i (n : Nat) : madeCells (Value.int .i64 0).cells (n * 1) = (List.replicate n (Value.int .i64 0)).toArray := by
  have := toList_madeCells_one (.int .i64 0) n
  rw [Nat.mul_one]
  exact Array.toList_inj.1 (by rw [List.toList_toArray]; exact this)
theorem run_mkI (w : World) (n : Nat) (h : n ≤ 1000000) (bs : List Blk) : (Instr.makeSlice 50 (.int .i64 (n : Int)) (.int .i64 (n : Int))).run Try.prog w = .ok (.slice (some ⟨w.heap.size, 0, none⟩) n n) (w.alloc (.cells (bgC n bs 0) 3)) := by
  obtain ⟨i0, hi, hz0, hz1, hz2⟩ := info_parts info3
  have := run_make (P := Try.prog) w 50 3 i0 (.int .i64 0) Try.underlying50 hi hz0 .i64 .i64 (n : Int) (n : Int) (by omega) (Int.le_refl _) (by rw [hz2]; omega) (by omega)
  rw [hz1, Int.toNat_natCast, made_i n] at this
  rw [bgC_zero]
  exact this
/- Jumps go to beginnings. -/
def fixO (bs : List Blk) (o : Opx) : Opx := if jmpB o = true then { o with k := (bg bs o.k.toNat : Int) } else o
def layB (bs : List Blk) : List Opx := (layA 0 bs).map (fixO bs)
theorem lp_jmp {a b : Int} {o : Opx} (h : o ∈ lpO a b) : o.k = a := by
  unfold lpO at h
  split at h
  · simp at h
  · simp at h; subst h; rfl
theorem en_jmp {n i : Nat} {b : Blk} (h : okBk n b = true) {o : Opx} (ho : o ∈ enB b i) (hj : jmpB o = true) : 0 ≤ o.k ∧ o.k < (n : Int) := by
  have ht : ∀ x ∈ tgE b.en b.tt b.el, 0 ≤ x ∧ x < (n : Int) := by
    intro x hx
    unfold okBk at h
    simp only [Bool.and_eq_true] at h
    have := List.all_eq_true.1 h.1.2 x hx
    simpa using this
  have he : endE b.en b.a b.tt b.el = true := by
    unfold okBk at h
    simp only [Bool.and_eq_true] at h
    exact h.1.1
  unfold enB enO at ho
  split at ho
  · rename_i h9
    have ht' := ht
    unfold tgE at ht'
    rw [if_neg (by omega), if_pos h9] at ht'
    rcases List.mem_cons.1 ho with rfl | ho
    · exact ht' b.tt (by simp)
    · rw [lp_jmp ho]; exact ht' b.el (by simp)
  · split at ho
    · simp at ho; subst ho; simp [jmpB] at hj
    · rename_i h9 h10
      have h38 : b.en = 38 := by
        refine Classical.byContradiction fun h8 => ?_
        unfold endE at he
        rw [if_neg h8, if_neg h9, if_neg h10] at he
        cases he
      unfold tgE at ht
      rw [if_pos h38] at ht
      rw [lp_jmp ho]; exact ht b.tt (by simp)
theorem lay_jmp {n : Nat} : ∀ (l : List Blk) (i : Nat), (∀ b ∈ l, okBk n b = true) → ∀ o ∈ layA i l, jmpB o = true → 0 ≤ o.k ∧ o.k < (n : Int)
  | [], i, _, o, ho, _ => by simp [layA] at ho
  | b :: r, i, h, o, ho, hj => by
    have hb := h b (List.mem_cons_self ..)
    rcases List.mem_append.1 ho with ho | ho
    · rcases List.mem_append.1 ho with ho | ho
      · unfold okBk at hb
        simp only [Bool.and_eq_true] at hb
        have := List.all_eq_true.1 hb.2 o ho
        unfold strO at this
        rw [hj] at this; simp at this
      · exact en_jmp hb ho hj
    · exact lay_jmp r (i + 1) (fun c hc => h c (List.mem_cons_of_mem _ hc)) o ho hj
theorem isG_all {bs : List Blk} (h : isG bs = true) : ∀ b ∈ bs, okBk bs.length b = true := by
  unfold isG at h
  simp only [Bool.and_eq_true] at h
  exact fun b hb => List.all_eq_true.1 h.2 b hb
/- An instruction's last cell, written. -/
theorem ocs_set : ∀ (l : List Opx) (i : Nat) (o : Opx) (k : Int), l[i]? = some o → (ocs l).set (i * 5 + 4) (.int .i64 k) = ocs (l.set i { o with k := k })
  | [], i, o, k, h => by simp at h
  | p :: l, 0, o, k, h => by
    simp at h; subst h
    unfold ocs
    simp [List.flatMap_cons, Opx.cs]
  | p :: l, i + 1, o, k, h => by
    have h1 : l[i]? = some o := by simpa using h
    have h2 := ocs_set l i o k h1
    unfold ocs at h2 ⊢
    rw [List.set_cons_succ, List.flatMap_cons, List.flatMap_cons, ← h2]
    have e : (i + 1) * 5 + 4 = p.cs.toList.length + (i * 5 + 4) := by show _ = 5 + _; omega
    rw [e, List.set_append_right _ _ (by omega)]
    simp
theorem OpR.setk {w : World} {B g cap : Nat} {l : List Opx} (h : OpR w B (.slice (some ⟨g, 0, none⟩) l.length cap) l) {i : Nat} {o : Opx} (ho : l[i]? = some o) (k : Int) : OpR (w.setCell ⟨g, i * 5 + 4, none⟩ (.int .i64 k)) B (.slice (some ⟨g, 0, none⟩) (l.set i { o with k := k }).length cap) (l.set i { o with k := k }) := by
  have hi := (List.getElem?_eq_some_iff.1 ho).1
  refine ⟨by rw [ocs_len], .inr ?_⟩
  rcases h.2 with ⟨e, _⟩ | ⟨g', cap', cur, e, h3, h4, h5, h6, h7, h8⟩
  · cases e
  · cases e
    refine ⟨g, cap, _, rfl, h3, heap_set_at h4 _ _, by rw [List.length_set]; exact h5, h6, by simpa using h7, ?_⟩
    rw [Array.toList_setIfInBounds, List.length_set, List.take_set, h8, ocs_set l i o k ho]
theorem OpR.free {w : World} {B g cap n : Nat} {l : List Opx} (h : OpR w B (.slice (some ⟨g, 0, none⟩) n cap) l) (i : Nat) : w.frozen? ⟨g, i, none⟩ = false := by
  rcases h.2 with ⟨e, _⟩ | ⟨g', cap', cur, e, h3, h4, h5⟩
  · cases e
  · cases e; exact freeOf h4 i
end Go.Proofs.Ytkkcbabhccfllaa

namespace Go.Proofs.Ytkkcbabhccfllaa
open Go.RowKit Go.Deep Go.Shelf
set_option linter.unusedVariables false
set_option linter.unusedSimpArgs false
theorem OpR.rdm {w : World} {B : Nat} {v : Value} {l : List Opx} (h : OpR w B v l) : ∃ a m cap, v = .slice a m cap ∧ Hid (m = l.length) ∧ ORd w a l ∧ (a = none → cap = 0) := by
  obtain ⟨a, cap, e, h1, h2⟩ := h.rd
  exact ⟨a, l.length, cap, e, hid rfl, h1, h2⟩
theorem OpR.some {w : World} {B : Nat} {a : Option Addr} {m c : Nat} {l : List Opx} (h : OpR w B (.slice a m c) l) (hl : 0 < l.length) : m = l.length ∧ ∃ g, a = some ⟨g, 0, none⟩ ∧ B ≤ g := by
  rcases h.2 with ⟨e, h2⟩ | ⟨g, cap, cur, e, h3, _⟩
  · omega
  · cases e; exact ⟨rfl, g, rfl, h3⟩
theorem OpR.ord {w : World} {B : Nat} {a : Option Addr} {m c : Nat} {l : List Opx} (h : OpR w B (.slice a m c) l) : ORd w a l := by
  obtain ⟨a', c', e, h1, _⟩ := h.rd
  injection e with e1 e2 e3
  rw [e1]; exact h1
def fxL (bs : List Blk) (A : List Opx) (i : Nat) : List Opx := (A.take i).map (fixO bs) ++ A.drop i
theorem fxL_len (bs : List Blk) (A : List Opx) (i : Nat) : (fxL bs A i).length = A.length := by
  unfold fxL; simp; omega
theorem fxL_get {bs : List Blk} {A : List Opx} {i : Nat} {o : Opx} (h : A[i]? = some o) : (fxL bs A i)[i]? = some o := by
  have hi := (List.getElem?_eq_some_iff.1 h).1
  unfold fxL
  rw [List.getElem?_append_right (by simp; omega)]
  simp only [List.length_map, List.length_take]
  rw [Nat.min_eq_left (by omega), List.getElem?_drop, Nat.sub_self, Nat.add_zero]; exact h
theorem fxL_succ {bs : List Blk} {A : List Opx} {i : Nat} {o : Opx} (h : A[i]? = some o) : fxL bs A (i + 1) = (fxL bs A i).set i (fixO bs o) := by
  have hi := (List.getElem?_eq_some_iff.1 h).1
  unfold fxL
  rw [List.take_add_one, h, List.set_append_right _ _ (by simp; omega)]
  simp only [List.length_map, List.length_take]
  rw [Nat.min_eq_left (by omega), Nat.sub_self]
  have hd : A.drop i = o :: A.drop (i + 1) := by
    rw [List.drop_eq_getElem_cons hi]
    congr 1
    exact (List.getElem?_eq_some_iff.1 h).2
  rw [hd]
  simp
theorem set_same {α : Type} {l : List α} {i : Nat} {o : α} (h : l[i]? = some o) : l.set i o = l := by
  obtain ⟨hi, e⟩ := List.getElem?_eq_some_iff.1 h
  rw [← e]; exact List.set_getElem_self hi
theorem fxL_end (bs : List Blk) (A : List Opx) : fxL bs A A.length = A.map (fixO bs) := by unfold fxL; simp
/- Between two rounds: the row of beginnings, the row of instructions. -/
structure LdR (w : World) (n BB : Nat) (bs : List Blk) (j : Nat) (a : Option Addr) (m c : Nat) (L : List Opx) (wr : World) : Prop where
  b : Below w.heap.size w wr
  g : wr.heap[BB]? = some (.cells (bgC n bs j) 3 (0, 0))
  o : OpR wr (BB + 1) (.slice a m c) L
theorem LdR.below {w : World} {n BB : Nat} {bs : List Blk} {j : Nat} {a : Option Addr} {m c : Nat} {L : List Opx} {wr w' : World} (h : LdR w n BB bs j a m c L wr) (k : Below wr.heap.size wr w') : LdR w n BB bs j a m c L w' :=
  ⟨h.b.trans (k.mono h.b.size), (k.block _ (lt_of_heap h.g)).trans h.g, h.o.below (Nat.le_refl _) k⟩
theorem LdR.app {w : World} {n BB : Nat} {bs : List Blk} {j : Nat} {a : Option Addr} {m c : Nat} {L L' : List Opx} {wr w' : World} {a' : Option Addr} {m' c' : Nat} (h : LdR w n BB bs j a m c L wr) (hg : wr.grownBy w' (Value.ownBlock (.slice a m c))) (ho : OpR w' (BB + 1) (.slice a' m' c') L') (hB : w.heap.size ≤ BB) : LdR w n BB bs j a' m' c' L' w' := by
  have k : Below (BB + 1) wr w' := grown_below h.o hg (lt_of_heap h.g)
  exact ⟨h.b.trans (k.mono (by omega)), (k.block _ (by omega)).trans h.g, ho⟩
set_option maxRecDepth 100000 in
set_option maxHeartbeats 2000000 in
theorem laid_any (w : World) (a : Option Addr) (n c : Nat) (bs : List Blk) (hn : n = bs.length) (hnb : n ≤ 10000) (hr : BRd w a bs) (hnl : ∀ b ∈ bs, b.oa = none → b.oc = 0) (hok : isG bs = true) (hT : (layA 0 bs).length ≤ 100000) : Calls Try.prog 16 #[.slice a n c] w fun e w' => ∃ v, e = .returned v ∧ OpR w' w.heap.size v (layB bs) ∧ Below w.heap.size w w' := by
  have mkI := run_mkI w n (by omega) bs
  obtain ⟨W0, hW0⟩ : ∃ W0, W0 = w.alloc (.cells (bgC n bs 0) 3) := ⟨_, rfl⟩
  have hnI : (n : Int) ≤ 10000 := by omega
  have hnI0 : (0 : Int) ≤ (n : Int) := by omega
  obtain ⟨BB, hBB⟩ : ∃ BB, BB = w.heap.size := ⟨_, rfl⟩
  have bw0 : Below w.heap.size w W0 := by rw [hW0]; exact (Below.refl _ _).alloc (Nat.le_refl _) _
  have m0 : W0.heap[BB]? = some (.cells (bgC n bs 0) 3 (0, 0)) := by rw [hW0, hBB]; exact heap_alloc_new _ _
  have HS : Hid (LdR w n BB bs 0 none 0 0 (layA 0 (bs.take 0)) W0) := hid ⟨bw0, m0, OpR.nil _ _⟩
  have HBB := hid hBB
  have HN := hid hn
  have HR := hid hr
  have HNL := hid hnl
  have HOK := hid hok
  have HT := hid hT
  clear bw0 m0 hn hr hnl hok hT
  go_enter Try.func16, Try.ntmps16
  go_upto_region 3 with fail
  rw [← hBB, ← hW0]
  clear mkI hW0 hBB
  go_wp2
  go_loopg [3, 14] n (fun g x y wr => ∃ (j : Nat) (a3 : Option Addr) (m3 c3 : Nat), j + g = n ∧ y = .int .i64 (j : Int) ∧ x = .slice a3 m3 c3 ∧ m3 = (layA 0 (bs.take j)).length ∧ LdR w n BB bs j a3 m3 c3 (layA 0 (bs.take j)) wr)
  case atStart => exact ⟨0, none, 0, 0, by omega, rfl, rfl, rfl, HS.out⟩
  case round =>
    obtain ⟨j, a3, m3, c3, hj, rfl, rfl, hm3, hL⟩ := hrel
    cases gk with
    | zero =>
      have hjn : j = n := by omega
      subst hjn
      have hA : bs.take j = bs := by rw [HN.out]; exact List.take_of_length_le (Nat.le_refl _)
      rw [hA] at hm3 hL
      obtain ⟨A, hAe⟩ : ∃ A, A = layA 0 bs := ⟨_, rfl⟩
      have hjm : ∀ o ∈ A, jmpB o = true → 0 ≤ o.k ∧ o.k < (j : Int) := by rw [hAe, HN.out]; exact lay_jmp bs 0 (isG_all HOK.out)
      have hTo := HT.out
      rw [← hAe] at hm3 hL hTo
      have HAe := hid hAe
      have hm3b : (m3 : Int) ≤ 100000 := by omega
      have HL0 : Hid (LdR w j BB bs j a3 m3 c3 (fxL bs A 0) wr) := hid (by unfold fxL; simpa using hL)
      have Hm3 := hid hm3
      have HJM := hid hjm
      have hBw : w.heap.size ≤ BB := by rw [HBB.out]; exact Nat.le_refl _
      clear hL HS hA hAe hjm hm3 hTo
      go_wp2
      go_loopg [37] m3 (fun g x wr2 => ∃ i : Nat, i + g = m3 ∧ x = .int .i64 (i : Int) ∧ LdR w j BB bs j a3 m3 c3 (fxL bs A i) wr2)
      case atStart => exact ⟨0, by omega, rfl, HL0.out⟩
      case round =>
        obtain ⟨i, hi, rfl, hL⟩ := hrel
        cases gk with
        | zero =>
          have him : i = m3 := by omega
          subst him
          have HF : Hid (fxL bs A i = layB bs) := hid (by rw [Hm3.out, fxL_end, HAe.out]; rfl)
          have HL := hid hL
          clear hL HL0
          go_wp2
          go_ret
          exact ⟨_, rfl, by rw [← HF.out]; exact HL.out.o.lower (by omega), HL.out.b⟩
        | succ g =>
          obtain ⟨o, ho⟩ : ∃ o, A[i]? = some o := ⟨A[i]'(by have := Hm3.out; omega), List.getElem?_eq_getElem _⟩
          have hi1 : i < A.length := (List.getElem?_eq_some_iff.1 ho).1
          have hfl := fxL_len bs A i
          have hfg := fxL_get (bs := bs) ho
          have hfs := fxL_succ (bs := bs) ho
          obtain ⟨hml, g5, rfl, hB5⟩ := hL.o.some (by omega)
          have hrd := hL.o.ord
          obtain ⟨b', off', e', hc⟩ := hrd i o hfg
          cases e'
          have hjm := HJM.out o (List.mem_of_getElem? ho)
          obtain ⟨oc, od, oa, ob, ok⟩ := o
          have c0 := hc 0 (by omega)
          have c1 := hc 1 (by omega)
          have c2 := hc 2 (by omega)
          have c3' := hc 3 (by omega)
          have c4 := hc 4 (by omega)
          simp only [Opx.cs, List.getElem?_toArray, List.getElem?_cons_zero, List.getElem?_cons_succ, Nat.add_zero, Nat.zero_add] at c0 c1 c2 c3' c4
          have hiI : (i : Int) < (m3 : Int) := by omega
          have hi0 : (0 : Int) ≤ (i : Int) := by omega
          obtain ⟨X, hX⟩ : ∃ X, X = wr.heap.size := ⟨_, rfl⟩
          obtain ⟨W1, hW1⟩ : ∃ W1, W1 = wr.alloc (.cells #[.int .i64 oc, .int .i64 od, .int .i64 oa, .int .i64 ob, .int .i64 ok] 36) := ⟨_, rfl⟩
          have b1 : Below wr.heap.size wr W1 := by rw [hW1]; exact (Below.refl _ _).alloc (Nat.le_refl _) _
          have mX : W1.heap[X]? = some (.cells #[.int .i64 oc, .int .i64 od, .int .i64 oa, .int .i64 ob, .int .i64 ok] 36 (0, 0)) := by rw [hW1, hX]; exact heap_alloc_new _ _
          have hL1 := hL.below b1
          have K1 := hid (isJump_any W1 oc od oa ob ok)
          have CB := hid (fun (v : World) (hv : Below W1.heap.size W1 v) => (by
            have h := (hv.block X (lt_of_heap mX)).trans mX
            exact ⟨cellOf h 0, cellOf h 1, cellOf h 2, cellOf h 3, cellOf h 4⟩ : v.cell? ⟨X, 0, none⟩ = some (.int .i64 oc) ∧ v.cell? ⟨X, 1, none⟩ = some (.int .i64 od) ∧ v.cell? ⟨X, 2, none⟩ = some (.int .i64 oa) ∧ v.cell? ⟨X, 3, none⟩ = some (.int .i64 ob) ∧ v.cell? ⟨X, 4, none⟩ = some (.int .i64 ok)))
          have LB := hid (fun (v : World) (hv : Below W1.heap.size W1 v) => hL1.below hv)
          obtain ⟨x0, x1, x2, x3, x4⟩ := CB.out W1 (Below.refl _ _)
          have Hfs := hid hfs
          have Hfg := hid hfg
          have Hml := hid hml
          cases hjb : jmpB ⟨oc, od, oa, ob, ok⟩ with
          | false =>
            rw [hjb] at K1
            have HF : Hid (fxL bs A (i + 1) = fxL bs A i) := hid (by rw [hfs]; unfold fixO; rw [hjb, if_neg (by simp)]; exact set_same hfg)
            clear hjb hL hfl hfg hfs hml hrd hc b1 mX hL1 hjm ho HL0
            go_upto_region 13 with fail
            rw [← hX, ← hW1]
            clear hX hW1 c0 c1 c2 c3' c4
            go_wp2_with (go_at_call 29; (refine (Hid.out K1).mono ?_; rintro e w2 ⟨rfl, hb2⟩; have HL2 := hid (LB.out w2 hb2); clear hb2 x0 x1 x2 x3 x4))
            go_roundg g
            case measure => omega
            exact ⟨i + 1, by omega, by go_num, by rw [HF.out]; exact HL2.out⟩
          | true =>
            rw [hjb] at K1
            have hk := hjm hjb
            obtain ⟨kk, rfl⟩ : ∃ kk : Nat, ok = (kk : Int) := ⟨ok.toNat, by have := hk.1; simp at this; omega⟩
            have hkj : kk < j := by have := hk.2; simp at this; omega
            have hkI : (kk : Int) < (j : Int) := by omega
            have hkI0 : (0 : Int) ≤ (kk : Int) := by omega
            have HF : Hid (fxL bs A (i + 1) = (fxL bs A i).set i ⟨oc, od, oa, ob, (bg bs kk : Int)⟩) := hid (by rw [hfs]; unfold fixO; rw [hjb, if_pos rfl]; simp)
            /- What is read and written behind the call. -/
            have RD := hid (fun (v : World) (hv : Below W1.heap.size W1 v) => (by
              have h := hL1.below hv
              obtain ⟨b', off', e', hc'⟩ := h.o.ord i _ hfg
              cases e'
              have h1 := cellOf h.g kk
              rw [bgC_get bs hkj, if_pos hkj] at h1
              exact ⟨h1, by have := hc' 4 (by omega); simpa [Opx.cs] using this, h.o.free _⟩ : v.cell? ⟨BB, kk, none⟩ = some (.int .i64 (bg bs kk : Int)) ∧ v.cell? ⟨g5, i * 5 + 4, none⟩ = some (.int .i64 (kk : Int)) ∧ v.frozen? ⟨g5, i * 5 + 4, none⟩ = false))
            have ST := hid (fun (v : World) (hv : Below W1.heap.size W1 v) => (by
              have h := hL1.below hv
              have ho := h.o
              rw [hml] at ho
              have hs := ho.setk hfg (bg bs kk : Int)
              rw [List.length_set, ← hml] at hs
              exact ⟨h.b.setCell (p := ⟨g5, i * 5 + 4, none⟩) (by show w.heap.size ≤ g5; omega) _, (Below.heap_setCell _ _ _ _ (by show BB ≠ g5; omega)).trans h.g, hs⟩ : LdR w j BB bs j (some ⟨g5, 0, none⟩) m3 c3 ((fxL bs A i).set i ⟨oc, od, oa, ob, (bg bs kk : Int)⟩) (v.setCell ⟨g5, i * 5 + 4, none⟩ (.int .i64 (bg bs kk : Int)))))
            clear hjb hL hfl hfg hfs hml hrd hc b1 mX hL1 hjm ho HL0 hk
            go_upto_region 13 with fail
            rw [← hX, ← hW1]
            clear hX hW1 c0 c1 c2 c3' c4
            go_wp2_with (go_at_call 29; (refine (Hid.out K1).mono ?_; rintro e w2 ⟨rfl, hb2⟩; obtain ⟨y0, y1, y2, y3, y4⟩ := CB.out w2 hb2; obtain ⟨r1, r2, r3⟩ := RD.out w2 hb2; have HL2 := hid (ST.out w2 hb2); clear hb2 x0 x1 x2 x3 x4))
            go_roundg g
            case measure => omega
            exact ⟨i + 1, by omega, by go_num, by rw [HF.out]; exact HL2.out⟩
    | succ g =>
      obtain ⟨o, ho⟩ : ∃ o, bs[j]? = some o := ⟨bs[j]'(by have := HN.out; omega), List.getElem?_eq_getElem _⟩
      have hrb := HR.out.below hL.b
      obtain ⟨b, off, ea, hc⟩ := hrb.c j o ho
      have hbk := hrb.e o (List.mem_of_getElem? ho)
      have hnl := HNL.out o (List.mem_of_getElem? ho)
      have hlt := lay_take ho
      have hpre := lay_pre bs j
      have hpre1 := lay_pre bs (j + 1)
      have hTo := HT.out
      obtain ⟨oa, on, oc, en, ba, tt, el, ops⟩ := o
      have c0 := hc 0 (by omega)
      have c1 := hc 1 (by omega)
      have c2 := hc 2 (by omega)
      have c3' := hc 3 (by omega)
      have c4 := hc 4 (by omega)
      simp only [Blk.cs, List.getElem?_toArray, List.getElem?_cons_zero, List.getElem?_cons_succ, Nat.add_zero] at c0 c1 c2 c3' c4
      have hjI : (j : Int) < (n : Int) := by omega
      have hj0 : (0 : Int) ≤ (j : Int) := by omega
      have hon : on = ops.length := hbk.n
      have honb : on ≤ 10000 := hbk.nb
      have hor : ORd wr oa ops := hbk.r
      have hnl' : oa = none → oc = 0 := hnl
      have hlen1 : (layA 0 (bs.take (j + 1))).length = (layA 0 (bs.take j)).length + ops.length + (enB ⟨oa, on, oc, en, ba, tt, el, ops⟩ j).length := by rw [hlt, List.length_append, List.length_append]
      obtain ⟨X, hX⟩ : ∃ X, X = wr.heap.size := ⟨_, rfl⟩
      obtain ⟨W1, hW1⟩ : ∃ W1, W1 = wr.alloc (.cells #[.slice oa on oc, .int .i64 en, .int .i64 ba, .int .i64 tt, .int .i64 el] 47) := ⟨_, rfl⟩
      have b1 : Below wr.heap.size wr W1 := by rw [hW1]; exact (Below.refl _ _).alloc (Nat.le_refl _) _
      have mX : W1.heap[X]? = some (.cells #[.slice oa on oc, .int .i64 en, .int .i64 ba, .int .i64 tt, .int .i64 el] 47 (0, 0)) := by rw [hW1, hX]; exact heap_alloc_new _ _
      have hL1 := hL.below b1
      have s0 := cellOf hL1.g j
      rw [bgC_get bs (by omega)] at s0
      have sf := freeOf hL1.g j
      have hXB : BB < X := by have := lt_of_heap hL.g; omega
      have hBw : w.heap.size ≤ BB := by rw [HBB.out]; exact Nat.le_refl _
      obtain ⟨W2, hW2⟩ : ∃ W2, W2 = W1.setCell ⟨BB, j, none⟩ (.int .i64 (m3 : Int)) := ⟨_, rfl⟩
      have z2 : W2.heap.size = W1.heap.size := by rw [hW2]; simp [World.setCell]
      have hL2 : LdR w n BB bs (j + 1) a3 m3 c3 (layA 0 (bs.take j)) W2 := by
        refine ⟨by rw [hW2]; exact hL1.b.setCell (p := ⟨BB, j, none⟩) hBw _, ?_, hL1.o.keep fun g e => ?_⟩
        · rw [hW2, heap_set_at hL1.g, hm3]
          rw [show ((layA 0 (bs.take j)).length : Int) = (bg bs j : Int) from rfl, bgC_set bs (by omega)]
        · rw [hW2]; exact Below.heap_setCell _ _ _ _ (by have := (hL1.o.own e).1; show g ≠ BB; omega)
      have mX2 : W2.heap[X]? = some (.cells #[.slice oa on oc, .int .i64 en, .int .i64 ba, .int .i64 tt, .int .i64 el] 47 (0, 0)) := by rw [hW2]; exact (Below.heap_setCell _ _ _ _ (by show X ≠ BB; omega)).trans mX
      have hor2 : ORd W2 oa ops := (hrb.e _ (List.mem_of_getElem? ho) |>.r |> fun _ => HR.out.below hL2.b |>.e _ (List.mem_of_getElem? ho)).r
      have hX2 := lt_of_heap mX2
      have d0 := cellOf mX2 0
      have d1 := cellOf mX2 1
      have d2 := cellOf mX2 2
      have d3 := cellOf mX2 3
      have d4 := cellOf mX2 4
      simp only [List.getElem?_toArray, List.getElem?_cons_zero, List.getElem?_cons_succ] at d0 d1 d2 d3 d4
      have HL2 := hid hL2
      have HMX := hid mX2
      have HOR := hid hor2
      have HNL' := hid hnl'
      have Hlt := hid hlt
      have Hlen := hid hlen1
      have Hm3 := hid hm3
      have Hon := hid hon
      have hm3b : (m3 : Int) ≤ 100000 := by omega
      have honI : (on : Int) ≤ 10000 := by omega
      have hlb : (layA 0 (bs.take j)).length ≤ 1000000 := by omega
      have hlb2 : (layA 0 (bs.take j) ++ ops).length ≤ 1000000 := by rw [List.length_append]; omega
      have hlb3 : (enB ⟨oa, on, oc, en, ba, tt, el, ops⟩ j).length ≤ 1000000 := by omega
      have honb2 : on ≤ 1000000 := by omega
      have hBX2 : BB + 1 ≤ W2.heap.size := by omega
      have HRX : Hid (∀ g, Value.ownBlock (.slice a3 m3 c3) = some g → g < X) := hid fun g e => by have := (hL.o.own e).2; omega
      /- Behind the first append. -/
      have FA := hid (fun (w7 : World) (a7 : Option Addr) (m7 c7 : Nat) (ho7 : OpR w7 (BB + 1) (.slice a7 m7 c7) (layA 0 (bs.take j) ++ ops)) (hg7 : W2.grownBy w7 (Value.ownBlock (.slice a3 m3 c3))) => (by
        refine ⟨HL2.out.app hg7 ho7 hBw, ?_⟩
        exact (hg7.block X (lt_of_heap HMX.out) (fun e => by have := HRX.out X e.symm; omega)).trans HMX.out : LdR w n BB bs (j + 1) a7 m7 c7 (layA 0 (bs.take j) ++ ops) w7 ∧ w7.heap[X]? = some (.cells #[.slice oa on oc, .int .i64 en, .int .i64 ba, .int .i64 tt, .int .i64 el] 47 (0, 0))))
      have eB : enO en ba tt el ((j : Int) + 1) = enB ⟨oa, on, oc, en, ba, tt, el, ops⟩ j := rfl
      have K8 := hid (fun (v : World) => ending_any v oa on oc en ba tt el ((j : Int) + 1))
      rw [eB] at K8
      clear eB hL hrb hc hbk hnl hlt hpre hpre1 hTo hon hor hnl' hlen1 b1 mX hL1 z2 hL2 mX2 hor2 ho HS hm3
      subst ea
      go_upto_region 6 with fail
      rw [← hX, ← hW1]
      clear hW1 hX c0 c1 c2 c3' c4
      go_upto_region 7 with fail
      rw [← hW2]
      clear hW2 s0 sf
      go_wp2_with (first
        | (have hno := hrd8; at_builtin; refine wpList_appO w8 rfl _ _ rfl _ _ (by rfl) (by rfl) (BB + 1) (layA 0 (bs.take j) ++ ops) HL8.out.o a8 m8 c8 rfl (enB ⟨oa, on, oc, en, ba, tt, el, ops⟩ j) Hm8.out hrd8 hnil8 hlb2 hm8 (lt_of_heap HL8.out.g) ?_; intro v9 w9 ho9 hg9 hn9; obtain ⟨a9, m9, c9, rfl, Hm9, _, _⟩ := ho9.rdm; have HL9 := hid (HL8.out.app hg9 ho9 hBw); clear ho9 hg9 hn9 hrd8 hnil8)
        | (go_at_call 28; (refine (K8.out w7).mono ?_; rintro e w8 ⟨v8, rfl, ho8, hb8⟩; obtain ⟨a8, m8, c8, rfl, Hm8, hrd8, hnil8⟩ := ho8.rdm; have hm8 : m8 ≤ 1000000 := by { have := Hm8.out; omega }; have HL8 := hid (HF7.out.1.below hb8); clear ho8 hb8 y0 y1 y2 y3 y4))
        | (at_builtin; refine wpList_appO W2 rfl _ _ rfl _ _ (by rfl) (by rfl) (BB + 1) (layA 0 (bs.take j)) HL2.out.o oa on oc rfl ops Hon.out HOR.out HNL'.out hlb honb2 hBX2 ?_; intro v7 w7 ho7 hg7 hn7; obtain ⟨a7, m7, c7, rfl, Hm7, _, _⟩ := ho7.rdm; have HF7 := hid (FA.out w7 a7 m7 c7 ho7 hg7); have y0 := cellOf HF7.out.2 0; have y1 := cellOf HF7.out.2 1; have y2 := cellOf HF7.out.2 2; have y3 := cellOf HF7.out.2 3; have y4 := cellOf HF7.out.2 4; simp only [List.getElem?_toArray, List.getElem?_cons_zero, List.getElem?_cons_succ] at y0 y1 y2 y3 y4; clear ho7 hg7 hn7 d0 d1 d2 d3 d4))
      go_roundg g
      case measure => omega
      exact ⟨j + 1, _, _, _, by omega, by go_num, rfl, by rw [Hlt.out, Hm9.out], by rw [Hlt.out]; exact HL9.out⟩
end Go.Proofs.Ytkkcbabhccfllaa

