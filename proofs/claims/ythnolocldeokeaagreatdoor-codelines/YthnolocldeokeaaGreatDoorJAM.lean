/- followers, Steps$1. -/
import Derived.Test.YthnolocldeokeaaGreatDoorJAL
import Derived.Deep.CutBlock
import Derived.Deep.DeepCutAuto
import Derived.Sort.CutIn
import Derived.WalkMore
namespace Go.Proofs.YthnolocldeokeaaGreatDoor
set_option maxRecDepth 100000
open Go.RowKit Go.Deep Go.Shelf
set_option linter.unusedVariables false
set_option linter.unusedSimpArgs false
theorem GRow.lower {w : World} {B C : Nat} {a : Option Addr} {n cap : Nat} {xs : List Int} (h : GRow w B a n cap xs) (hC : C ≤ B) : GRow w C a n cap xs :=
  ⟨h.n1, h.nc, fun x e => by obtain ⟨g, h1, h2, h3⟩ := h.at' x e; exact ⟨g, h1, by omega, h3⟩, h.ct⟩
theorem Gwn.below {w w' : World} {a a' : Option Addr} {B : Nat} (h : Gwn w a w' a') (ha : ∀ x : Addr, a = some x → B ≤ x.block) (hB : B ≤ w.heap.size) : Below B w w' := by
  obtain ⟨⟨row, hg, hr⟩, _⟩ := h
  refine ⟨hg.os, hg.tape, hg.output, hg.size, fun j hj => hg.block j (by omega) (fun e => ?_)⟩
  obtain ⟨x, ex, hx⟩ := hr j e.symm
  have := ha x ex
  omega
/- The ways of a function's instructions, told by numbers. -/
end Go.Proofs.YthnolocldeokeaaGreatDoor

namespace Go.Proofs.YthnolocldeokeaaGreatDoor
set_option maxRecDepth 100000
open Go.RowKit Go.Deep Go.Shelf
set_option linter.unusedVariables false
set_option linter.unusedSimpArgs false
def ocs (l : List Opx) : List Value := l.flatMap fun o => o.cs.toList
theorem ocs_len : ∀ l : List Opx, (ocs l).length = l.length * 5
  | [] => rfl
  | o :: l => by
    have := ocs_len l
    unfold ocs at this ⊢
    rw [List.flatMap_cons, List.length_append, this, List.length_cons]
    have : o.cs.toList.length = 5 := rfl
    omega
theorem ocs_app (l m : List Opx) : ocs (l ++ m) = ocs l ++ ocs m := by unfold ocs; rw [List.flatMap_append]
theorem ocs_get : ∀ (l : List Opx) (j : Nat) (o : Opx), l[j]? = some o → ∀ i, i < 5 → (ocs l)[j * 5 + i]? = o.cs[i]?
  | [], j, o, h => by simp at h
  | p :: l, 0, o, h => fun i hi => by
    simp at h; subst h
    unfold ocs
    rw [List.flatMap_cons, Nat.zero_mul, Nat.zero_add, List.getElem?_append_left (by show i < 5; exact hi)]
    simp
  | p :: l, j + 1, o, h => fun i hi => by
    have h1 : l[j]? = some o := by simpa using h
    have h2 := ocs_get l j o h1 i hi
    unfold ocs at h2 ⊢
    rw [List.flatMap_cons, List.getElem?_append_right (by show 5 ≤ (j + 1) * 5 + i; omega)]
    have : (j + 1) * 5 + i - p.cs.toList.length = j * 5 + i := by show (j + 1) * 5 + i - 5 = _; omega
    rw [this]; exact h2
theorem ocs_of {l : List Opx} {k : Nat} {u : Value} (h : (ocs l)[k]? = some u) : ∃ o i, l[k / 5]? = some o ∧ i < 5 ∧ k = k / 5 * 5 + i ∧ o.cs[i]? = some u := by
  have hk : k < l.length * 5 := by rw [← ocs_len]; exact (List.getElem?_eq_some_iff.1 h).1
  have hj : k / 5 < l.length := by omega
  refine ⟨l[k / 5], k % 5, List.getElem?_eq_getElem hj, by omega, by omega, ?_⟩
  rw [← ocs_get l (k / 5) _ (List.getElem?_eq_getElem hj) (k % 5) (by omega), show k / 5 * 5 + k % 5 = k by omega]
  exact h
theorem ocs_one (l : List Opx) : ∀ u ∈ ocs l, u.oneCell' = true := by
  intro u hu
  unfold ocs at hu
  obtain ⟨o, _, ho⟩ := List.mem_flatMap.1 hu
  simp [Opx.cs] at ho
  rcases ho with rfl | rfl | rfl | rfl | rfl <;> rfl
def OpR (w : World) (B : Nat) (v : Value) (l : List Opx) : Prop := w.ownsRow B 23 5 v l.length (ocs l)
theorem OpR.nil (w : World) (B : Nat) : OpR w B (.slice none 0 0) [] := ⟨rfl, .inl ⟨rfl, rfl⟩⟩
theorem OpR.keep {w w' : World} {B : Nat} {v : Value} {l : List Opx} (h : OpR w B v l) (e : ∀ g, v.ownBlock = some g → w'.heap[g]? = w.heap[g]?) : OpR w' B v l := by
  refine ⟨h.1, ?_⟩
  rcases h.2 with h2 | ⟨g, cap, cur, rfl, h3, h4, h5⟩
  · exact .inl h2
  · exact .inr ⟨g, cap, cur, rfl, h3, (e g rfl).trans h4, h5⟩
theorem OpR.own {w : World} {B : Nat} {v : Value} {l : List Opx} (h : OpR w B v l) {g : Nat} (e : v.ownBlock = some g) : B ≤ g ∧ g < w.heap.size := by
  rcases h.2 with ⟨rfl, _⟩ | ⟨g', cap, cur, rfl, h3, h4, h5⟩
  · cases e
  · cases e; exact ⟨h3, lt_of_heap h4⟩
theorem OpR.below {w w' : World} {B C : Nat} {v : Value} {l : List Opx} (h : OpR w B v l) (hC : w.heap.size ≤ C) (k : Below C w w') : OpR w' B v l := h.keep fun g e => k.block g (by have := (h.own e).2; omega)
theorem OpR.lower {w : World} {B C : Nat} {v : Value} {l : List Opx} (h : OpR w B v l) (hC : C ≤ B) : OpR w C v l := by
  refine ⟨h.1, ?_⟩
  rcases h.2 with h2 | ⟨g, cap, cur, rfl, h3, h4⟩
  · exact .inl h2
  · exact .inr ⟨g, cap, cur, rfl, by omega, h4⟩
theorem OpR.rd {w : World} {B : Nat} {v : Value} {l : List Opx} (h : OpR w B v l) : ∃ a cap, v = .slice a l.length cap ∧ ORd w a l ∧ (a = none → cap = 0) := by
  rcases h.2 with ⟨rfl, h2⟩ | ⟨g, cap, cur, rfl, h3, h4, h5, h6, h7, h8⟩
  · have : l = [] := List.eq_nil_of_length_eq_zero h2
    subst this
    exact ⟨none, 0, rfl, fun j x hx => by simp at hx, fun _ => rfl⟩
  · refine ⟨_, cap, rfl, fun j x hx => ⟨g, 0, rfl, fun i hi => ?_⟩, fun e => by cases e⟩
    have hj := (List.getElem?_eq_some_iff.1 hx).1
    rw [cellOf h4, ← ocs_get l j x hx i hi, ← h8, List.getElem?_take, if_pos (by omega), Nat.zero_add]
    simp
theorem info36 : (Tryz.prog.info? 23).map (fun i => (i.zero, i.size, i.bytes)) = some (some (.agg #[.int .i64 0, .int .i64 0, .int .i64 0, .int .i64 0, .int .i64 0]), 5, 40) := by kernel_rfl
/- A row of one, just laid. -/
theorem OpR.one (w : World) (o : Opx) : OpR (w.alloc (.cells o.cs 23)) w.heap.size (.slice (some ⟨w.heap.size, 0, none⟩) 1 1) [o] := by
  refine ⟨rfl, .inr ⟨w.heap.size, 1, o.cs, rfl, Nat.le_refl _, heap_alloc_new w _, Nat.le_refl _, by unfold maxLen; omega, rfl, ?_⟩⟩
  show o.cs.toList.take 5 = ocs [o]
  rfl
theorem run_appO (w : World) (ty : TypeId) (B : Nat) (v : Value) (l : List Opx) (h : OpR w B v l) (a : Option Addr) (m c : Nat) (l2 : List Opx) (hm : m = l2.length) (hr : ORd w a l2) (hnil : a = none → c = 0) (hl : l.length ≤ 1000000) (hl2 : m ≤ 1000000) (hB : B ≤ w.heap.size) :
    ∃ v' w', (Builtin.append_ #[44, 44] ty #[v, .slice a m c]).run Tryz.prog w = .ok v' w' ∧ OpR w' B v' (l ++ l2) ∧ w.grownBy w' v.ownBlock ∧ (v'.ownBlock = v.ownBlock ∨ v'.ownBlock = some w.heap.size) := by
  obtain ⟨i0, hi, hz0, hz1, hz2⟩ := info_parts info36
  cases a with
  | none =>
    have hc0 := hnil rfl
    have hl0 : l2 = [] := by
      cases l2 with
      | nil => rfl
      | cons o r => obtain ⟨b, off, e, _⟩ := hr 0 o rfl; cases e
    subst hl0
    subst hc0
    have hm0 : m = 0 := hm
    subst hm0
    exact ⟨v, w, run_append_owned_none w B 44 ty 23 i0 5 Tryz.underlying44 hi v l.length (ocs l) h, by rw [List.append_nil]; exact h, ⟨rfl, rfl, rfl, Nat.le_refl _, fun _ _ _ => rfl⟩, .inl rfl⟩
  | some ad =>
    have hcell : ∀ k u, (ocs l2)[k]? = some u → w.cell? (ad.add k) = some u := by
      intro k u hu
      obtain ⟨o, i, ho, hi5, hk, hu'⟩ := ocs_of hu
      obtain ⟨b, off, e, hc⟩ := hr (k / 5) o ho
      cases e
      have := hc i hi5
      rw [hu'] at this
      rw [Addr.add_lit, hk, ← Nat.add_assoc]
      exact this
    obtain ⟨v', w', hrun, hown, hgr, _, hat⟩ := run_append_own_at (P := Tryz.prog) w B 44 ty 23 i0 _ 5 40 Tryz.underlying44 hi hz0 hz1 hz2 rfl (by decide) v l.length (ocs l) h ad m c (ocs l2) (by rw [ocs_len, hm]) hcell (ocs_one l2) (by unfold maxLen; omega) (by omega) hB
    refine ⟨v', w', hrun, ?_, hgr, hat⟩
    unfold OpR
    rw [List.length_append, ← hm, ocs_app]
    exact hown
theorem wpList_appO {ops : Array Oper} {rest : List Oper} {o : Oper} {act : Act} {Q : Exit → Act → World → Prop} (w : World) (hgd : o.guard = none) (s x : Operand)
    (ho : o.op = .call { callee := .builtin .append, args := #[s, x], argTypes := #[44, 44] }) (v u : Value) (hs : act.eval s = v) (hx : act.eval x = u) (B : Nat) (l : List Opx) (h : OpR w B v l) (a : Option Addr) (m c : Nat) (hu : u = .slice a m c) (l2 : List Opx) (hm : m = l2.length) (hr : ORd w a l2) (hnil : a = none → c = 0) (hl : l.length ≤ 1000000) (hl2 : m ≤ 1000000) (hB : B ≤ w.heap.size)
    (k : ∀ v' w', OpR w' B v' (l ++ l2) → w.grownBy w' v.ownBlock → (v'.ownBlock = v.ownBlock ∨ v'.ownBlock = some w.heap.size) → wpList Tryz.prog ops Q rest (act.put o.dst v') w') :
    wpList Tryz.prog ops Q (o :: rest) act w := by
  refine wpList_plain hgd fun K hK => ?_
  subst hu
  obtain ⟨v', w', hrun, h2, h3, h4⟩ := run_appO w o.type B v l h a m c l2 hm hr hnil hl hl2 hB
  unfold Oper.wp execOp
  simp only [ho, resolve, invoke, builtin, Sem.run_bind, Sem.run_pure, Result.andThen_ok, List.map_toArray, List.map_cons, List.map_nil, hs, hx, hrun]
  exact hK _ _ (k v' w' h2 h3 h4)
/- leap. -/
end Go.Proofs.YthnolocldeokeaaGreatDoor

namespace Go.Proofs.YthnolocldeokeaaGreatDoor
set_option maxRecDepth 100000
open Go.RowKit Go.Deep Go.Shelf
set_option linter.unusedVariables false
set_option linter.unusedSimpArgs false
theorem OpR.rdm {w : World} {B : Nat} {v : Value} {l : List Opx} (h : OpR w B v l) : ∃ a m cap, v = .slice a m cap ∧ Hid (m = l.length) ∧ ORd w a l ∧ (a = none → cap = 0) := by
  obtain ⟨a, cap, e, h1, h2⟩ := h.rd
  exact ⟨a, l.length, cap, e, hid rfl, h1, h2⟩
theorem OpR.some {w : World} {B : Nat} {a : Option Addr} {m c : Nat} {l : List Opx} (h : OpR w B (.slice a m c) l) (hl : 0 < l.length) : m = l.length ∧ ∃ g, a = some ⟨g, 0, none⟩ ∧ B ≤ g := by
  rcases h.2 with ⟨e, h2⟩ | ⟨g, cap, cur, e, h3, _⟩
  · omega
  · cases e; exact ⟨rfl, g, rfl, h3⟩
/- Between two rounds: the row of beginnings, the row of instructions. -/
end Go.Proofs.YthnolocldeokeaaGreatDoor

namespace Go.Proofs.YthnolocldeokeaaGreatDoor
open Go.RowKit Go.Deep Go.Shelf
set_option linter.unusedVariables false
set_option linter.unusedSimpArgs false
/- A function laid anew. -/
structure FNew (w : World) (B : Nat) (p : FH × Fx) : Prop where
  rg : p.1.regs = p.2.regs
  op : OpR w B (.slice p.1.oa p.1.on p.1.oc) p.2.ops
theorem FNew.below {w w' : World} {B C : Nat} {p : FH × Fx} (h : FNew w B p) (hC : w.heap.size ≤ C) (q : Below C w w') : FNew w' B p := ⟨h.rg, h.op.below hC q⟩
theorem FNew.other {w w' : World} {B C : Nat} {r : Value} {m : List (List Value)} {p : FH × Fx} (h : FNew w B p) (g : KR 46 2 w C r m) (hg : w.grownBy w' r.ownBlock) : FNew w' B p := ⟨h.rg, h.op.keep fun b e => by
  have h1 := h.op.2
  rcases h1 with ⟨e1, _⟩ | ⟨b', cap, cur, e1, h3, h4, _⟩
  · rw [e1] at e; cases e
  · rw [e1] at e
    cases e
    refine hg.block b' (lt_of_heap h4) fun e2 => ?_
    rcases g.1.2 with ⟨rfl, _⟩ | ⟨c', cap', cur', rfl, g3, g4, _⟩
    · cases e2
    · cases e2
      rw [h4] at g4
      cases g4⟩
theorem FNew.rd {w : World} {B : Nat} {p : FH × Fx} (h : FNew w B p) (hl : p.2.ops.length ≤ 1000000) : FnRd w p.1 p.2 := by
  obtain ⟨⟨regs, oa, on, oc⟩, f⟩ := p
  obtain ⟨a, cap, e, hr, _⟩ := h.op.rd
  have h2 := h.rg
  simp only at e h2 hl hr
  cases e
  exact ⟨h2, rfl, by show f.ops.length ≤ _; omega, hr⟩
def FnsN (w : World) (B : Nat) (v : Value) (l : List Fx) : Prop := ∃ fs : List (FH × Fx), fs.map (·.2) = l ∧ KR 46 2 w B v (fs.map fun p => p.1.cs) ∧ ∀ p ∈ fs, FNew w B p
theorem FnsN.below {w w' : World} {B C : Nat} {v : Value} {l : List Fx} (h : FnsN w B v l) (hC : w.heap.size ≤ C) (q : Below C w w') : FnsN w' B v l := by
  obtain ⟨fs, h1, h2, h3⟩ := h
  exact ⟨fs, h1, h2.below hC q, fun p hp => (h3 p hp).below hC q⟩
theorem rk_fh (f : FH) : Rk 2 [f.cs] := ⟨fun r hr => by simp at hr; subst hr; rfl, fun r hr u hu => by
  simp at hr; subst hr
  simp [FH.cs] at hu
  rcases hu with rfl | rfl <;> rfl⟩
end Go.Proofs.YthnolocldeokeaaGreatDoor

namespace Go.Proofs.YthnolocldeokeaaGreatDoor
open Go.RowKit Go.Deep Go.Shelf
set_option linter.unusedVariables false
set_option linter.unusedSimpArgs false
set_option maxRecDepth 100000
def rFn (s : Option (List Nat)) : Fx × Option (List Nat) := (⟨(rN s).1, (rL rO 2000 (rN s).2).1⟩, (rL rO 2000 (rN s).2).2)
theorem rFn_none : (rFn none).2 = none := by
  have h1 : rI none = (0, none) := by simp [rI, dec, decAt]
  have h2 : rN none = (0, none) := by simp [rN, h1]
  have h3 : rU none = (0, none) := by simp [rU, dec, decAt]
  have h4 : rC 2000 none = (0, none) := by simp [rC, h3]
  simp [rFn, h2, rL, h4, rLn]
theorem rFs_next {j : Nat} {s st s3 : Option (List Nat)} {xs : List Fx} {x : Fx} (h : rLn rFn j s = (xs, st)) (k : rFn st = (x, s3)) : (rLn rFn (j + 1) s).2 = s3 ∧ (s3 ≠ none → st ≠ none ∧ (rLn rFn (j + 1) s).1 = xs ++ [x]) := by
  cases st with
  | none =>
    have e3 : s3 = none := by have := rFn_none; rw [k] at this; exact this
    subst e3
    refine ⟨?_, fun e => absurd rfl e⟩
    simp only [rLn, h]
  | some bs =>
    cases s3 with
    | none => exact ⟨by rw [rLn_fail h k], fun e => absurd rfl e⟩
    | some b3 => exact ⟨by rw [rLn_step h k], fun _ => ⟨by simp, by rw [rLn_step h k]⟩⟩
theorem rFs_end {j n : Nat} {s : Option (List Nat)} (h : (rLn rFn (j + 1) s).2 = none) (hj : j + 1 ≤ n) : (rLn rFn n s).2 = none := by
  rcases Nat.lt_or_eq_of_le hj with h2 | h2
  · rw [rLn_more h n h2]
  · rw [← h2]; exact h
theorem OpR.grownR {w w' : World} {B R : Nat} {v : Value} {l : List Opx} (h : OpR w B v l) (hg : w.grownBy w' (Option.some R)) (hR : R < B) : OpR w' B v l := h.keep fun g e => hg.block g (h.own e).2 (fun e2 => by cases e2; have := (h.own e).1; omega)
theorem FnsN.grownR {w w' : World} {B R : Nat} {v : Value} {l : List Fx} (h : FnsN w B v l) (hg : w.grownBy w' (some R)) (hR : R < B) : FnsN w' B v l := by
  obtain ⟨fs, h1, h2, h3⟩ := h
  exact ⟨fs, h1, h2.grownR hg hR, fun p hp => ⟨(h3 p hp).rg, (h3 p hp).op.grownR hg hR⟩⟩
theorem FnsN.nil (w : World) (B : Nat) : FnsN w B (.slice none 0 0) [] := ⟨[], rfl, KR.nil _ _ _ _, fun p hp => by simp at hp⟩
theorem FnsN.lower {w : World} {B C : Nat} {v : Value} {l : List Fx} (h : FnsN w B v l) (hC : C ≤ B) : FnsN w C v l := by
  obtain ⟨fs, h1, h2, h3⟩ := h
  exact ⟨fs, h1, h2.lower hC, fun p hp => ⟨(h3 p hp).rg, (h3 p hp).op.lower hC⟩⟩
/- What functions answers: as long as nothing failed, what was written. -/
def FsP (w : World) (R D n : Nat) (fs : List Fx) (s : Option (List Nat)) (e : Ending) (w' : World) : Prop := ∃ v l, e = .returned v ∧ FnsN w' w.heap.size v l ∧ l.length ≤ n ∧ (s ≠ none → l = fs) ∧ Rst w' R D s ∧ w.grownBy w' (some R)
/- Between two instructions: the box of the function and its row. -/
structure InF (U V : World) (R D F : Nat) (g1 : Int) (os : List Opx) (t : Option (List Nat)) (oa : Option Addr) (on oc : Nat) : Prop where
  bx : V.heap[F]? = some (.cells #[.int .i64 g1, .slice oa on oc] 46 (0, 0))
  op : OpR V (F + 1) (.slice oa on oc) os
  st : Rst V R D t
  gr : U.grownBy V (some R)
  hF : F = U.heap.size
  hR : R < F
  hD : D ≤ F
theorem InF.next {U V V' : World} {R D F : Nat} {g1 : Int} {os : List Opx} {t t' : Option (List Nat)} {oa : Option Addr} {on oc : Nat} (h : InF U V R D F g1 os t oa on oc) (hs : Rst V' R D t') (hg : V.grownBy V' (some R)) : InF U V' R D F g1 os t' oa on oc := ⟨(hg.block _ (lt_of_heap h.bx) (fun e => by have := h.hR; injection e with e; omega)).trans h.bx, h.op.grownR hg (by have := h.hR; omega), hs, gtrans h.gr hg, h.hF, h.hR, h.hD⟩
theorem InF.below {U V V' : World} {R D F : Nat} {g1 : Int} {os : List Opx} {t : Option (List Nat)} {oa : Option Addr} {on oc : Nat} (h : InF U V R D F g1 os t oa on oc) (b : Below V.heap.size V V') : InF U V' R D F g1 os t oa on oc := h.next (h.st.below b) (bgrown b _)
/- The row grown, and written into the box. -/
theorem InF.app {U V V' : World} {R D F : Nat} {g1 : Int} {os os' : List Opx} {t : Option (List Nat)} {oa oa' : Option Addr} {on oc on' oc' : Nat} (h : InF U V R D F g1 os t oa on oc) (ho : OpR V' (F + 1) (.slice oa' on' oc') os') (hg : V.grownBy V' (Value.slice oa on oc).ownBlock) : InF U (V'.setCell ⟨F, 1, none⟩ (.slice oa' on' oc')) R D F g1 os' t oa' on' oc' ∧ V'.heap[F]? = some (.cells #[.int .i64 g1, .slice oa on oc] 46 (0, 0)) := by
  have hF := h.hF; have hRF := h.hR; have hDF := h.hD
  have m1 : V'.heap[F]? = some (.cells #[.int .i64 g1, .slice oa on oc] 46 (0, 0)) := (hg.block _ (lt_of_heap h.bx) (fun e => by have := (h.op.own e.symm).1; omega)).trans h.bx
  have k1 := heap_set_at m1 1 (.slice oa' on' oc')
  simp only [List.setIfInBounds_toArray, List.set_cons_zero, List.set_cons_succ] at k1
  have gs := grown_set V' F 1 (.slice oa' on' oc')
  have st1 := h.st.grown hg (fun r e => by have := (h.op.own e).1; omega)
  refine ⟨⟨k1, ?_, st1.grown gs (fun r e => by cases e; omega), ?_, hF, hRF, hDF⟩, m1⟩
  · exact ho.keep fun g e => gs.block g (ho.own e).2 (fun e2 => by cases e2; have := (ho.own e).1; omega)
  · refine ⟨gs.os.trans (hg.os.trans h.gr.os), gs.tape.trans (hg.tape.trans h.gr.tape), gs.output.trans (hg.output.trans h.gr.output), Nat.le_trans h.gr.size (Nat.le_trans hg.size gs.size), fun j hj hne => ?_⟩
    have hs1 := h.gr.size
    have hs2 := hg.size
    rw [gs.block j (by omega) (fun e => by cases e; omega), hg.block j (by omega) (fun e => by have := (h.op.own e.symm).1; omega), h.gr.block j hj hne]
/- A function more in the list. -/
theorem FnsN.snoc {U V V' : World} {R D F B : Nat} {g1 : Int} {os : List Opx} {t : Option (List Nat)} {oa : Option Addr} {on oc : Nat} {v v' : Value} {l : List Fx} (h : InF U V R D F g1 os t oa on oc) (fs : List (FH × Fx)) (h1 : fs.map (·.2) = l) (h2 : KR 46 2 V B v (fs.map fun p => p.1.cs)) (h3 : ∀ p ∈ fs, FNew V B p) (hB : B ≤ F)
    (k : KR 46 2 V' B v' ((fs.map fun p => p.1.cs) ++ [(⟨g1, oa, on, oc⟩ : FH).cs])) (hg : V.grownBy V' v.ownBlock) : FnsN V' B v' (l ++ [⟨g1, os⟩]) := by
  refine ⟨fs ++ [(⟨g1, oa, on, oc⟩, ⟨g1, os⟩)], by rw [List.map_append, h1]; rfl, by rw [List.map_append]; exact k, fun p hp => ?_⟩
  rcases List.mem_append.1 hp with hp | hp
  · exact (h3 p hp).other h2 hg
  · simp at hp
    subst hp
    exact FNew.other ⟨rfl, h.op.lower (by omega)⟩ h2 hg
theorem ord_one (w : World) (o : Opx) : ORd (w.alloc (.cells o.cs 23)) (some ⟨w.heap.size, 0, none⟩) [o] := by
  obtain ⟨a, cap, e, hr, _⟩ := (OpR.one w o).rd
  cases e
  exact hr
set_option maxHeartbeats 4000000 in
theorem functions_any (SO : ShapeC) (w : World) (R D : Nat) (s : Option (List Nat)) (h : Rst w R D s) (da : Option Addr) (n dc : Nat) (hn : n ≤ 100000) : Calls Tryz.prog 42 #[.pointer (some ⟨R, 0, none⟩), .slice da n dc] w (FsP w R D n (rLn rFn n s).1 (rLn rFn n s).2) := by
  have hRD : R < D := h.hR
  have hDw : D ≤ w.heap.size := h.hD
  have nI : (n : Int) ≤ 100000 := by omega
  have NUM := hid (fun (V : World) (t : Option (List Nat)) (hV : Rst V R D t) => number_any V R D t hV)
  have CNT := hid (fun (V : World) (t : Option (List Nat)) (hV : Rst V R D t) => count_any V R D t 2000 hV)
  have OPC := hid (fun (V : World) (t : Option (List Nat)) (hV : Rst V R D t) => op_any SO V R D t hV)
  have HST := hid h
  clear h
  go_enter Tryz.func42, Tryz.ntmps42
  go_wp2; go_step3; go_wp2; go_step3; go_wp2
  go_loopg [5, 11] n (fun g v x wr => ∃ j : Nat, j + g = n ∧ x = .int .i64 (j : Int) ∧ ∃ l, FnsN wr w.heap.size v l ∧ l.length = j ∧ ((rLn rFn j s).2 ≠ none → l = (rLn rFn j s).1) ∧ Rst wr R D (rLn rFn j s).2 ∧ w.grownBy wr (some R))
  case atStart => exact ⟨0, by omega, rfl, [], FnsN.nil _ _, rfl, fun _ => rfl, HST.out, ⟨rfl, rfl, rfl, Nat.le_refl _, fun _ _ _ => rfl⟩⟩
  case round =>
    obtain ⟨j, hj, rfl, l, hk, hl, he, hs, hg⟩ := hrel
    obtain ⟨wo, hwo⟩ : ∃ wo, wo = wr := ⟨_, rfl⟩
    subst hwo
    obtain ⟨v, hv⟩ : ∃ v, v = u5 := ⟨_, rfl⟩
    subst hv
    cases gk with
    | zero =>
      have hjn : j = n := by omega
      subst hjn
      have FIN := hid (show FsP w R D j (rLn rFn j s).1 (rLn rFn j s).2 (.returned v) wo from ⟨v, l, rfl, hk, by omega, he, hs, hg⟩)
      clear hk he hs hg hl
      go_wp2
      go_ret
      exact FIN.out
    | succ g =>
      rcases hx : rLn rFn j s with ⟨xs, st⟩
      rw [hx] at he hs
      simp only at he hs
      have K1 := NUM.out wo st hs
      rcases hq1 : rN st with ⟨g1, s1⟩
      rcases hq2 : rC 2000 s1 with ⟨m, s2⟩
      have hm := rC_le 2000 s1
      have hso := rC_some 2000 s1
      rw [hq2] at hm hso
      simp only at hm hso
      have NEXT : Hid (∀ os s3, rLn rO m s2 = (os, s3) → (rLn rFn (j + 1) s).2 = s3 ∧ (s3 ≠ none → st ≠ none ∧ (rLn rFn (j + 1) s).1 = xs ++ [⟨g1, os⟩])) := hid (fun os s3 e => rFs_next hx (by simp only [rFn, rL, hq1, hq2, e]))
      rw [hq1] at K1
      simp only at K1
      have K1 := hid K1
      have K2 : Hid (∀ V : World, Rst V R D s1 → Calls Tryz.prog 58 #[.pointer (some ⟨R, 0, none⟩), .int .u64 2000] V (RdP V R D (.int .u64 (m : Int)) s2)) := hid (fun V hV => by
        have := CNT.out V s1 hV
        rw [hq2] at this
        exact this)
      have mI : (m : Int) ≤ 2000 := by omega
      have hwo := hg.size
      have hjI : (j : Int) < (n : Int) := by omega
      have hj0 : (0 : Int) ≤ (j : Int) := by omega
      have HK := hid hk
      have HE := hid he
      have HG := hid hg
      have HJ := hid hj
      have HL := hid hl
      have HSO := hid hso
      clear hk he hs hg hx hq1 hq2 hso hl
      go_wp2_with (first
        | (go_at_call 65; (refine (Hid.out K1).mono ?_; rintro e w1 ⟨rfl, hs1, hg1⟩; have HS1 := hid hs1; have HG1 := hid hg1; clear hs1 hg1))
        | (go_at_call 58; (refine (K2.out (w1.alloc (.cells #[.int .i64 g1, .slice none 0 0] 46)) (HS1.out.alloc _)).mono ?_; rintro e w2 ⟨rfl, hs2, hg2⟩; have HS2 := hid hs2; have HG2 := hid hg2; clear hs2 hg2)))
      have hw1 := HG1.out.size
      have IN0 : Hid (InF w1 w2 R D w1.heap.size g1 [] s2 none 0 0) := hid (by
        have mF := heap_alloc_new w1 (.cells #[.int .i64 g1, .slice none 0 0] 46)
        exact ⟨(HG2.out.block _ (by rw [World.size_alloc]; omega) (fun e => by injection e with e; omega)).trans mF, OpR.nil _ _, HS2.out, gtrans (bgrown ((Below.refl _ _).alloc (Nat.le_refl _) _) _) HG2.out, rfl, by omega, by omega⟩)
      clear K1 K2 HS1 HS2 HG2
      go_loopg [18] m (fun g2 x wr => ∃ k : Nat, k + g2 = m ∧ x = .int .u64 (k : Int) ∧ ∃ oa on oc, InF w1 wr R D w1.heap.size g1 (rLn rO k s2).1 (rLn rO k s2).2 oa on oc ∧ ((rLn rO k s2).2 ≠ none ∨ m = 0))
      case atStart => exact ⟨0, by omega, rfl, none, 0, 0, IN0.out, (Nat.eq_zero_or_pos m).elim .inr (fun h => .inl (HSO.out h))⟩
      case round =>
        obtain ⟨k, hk2, rfl, oa, on, oc, hin, hnn⟩ := hrel
        clear IN0
        have HGO := hid (gtrans HG1.out hin.gr)
        cases gk with
        | zero =>
          have hkm : k = m := by omega
          subst hkm
          obtain ⟨os, s3, hy⟩ : ∃ os s3, rLn rO k s2 = (os, s3) := ⟨_, _, rfl⟩
          rw [hy] at hin
          simp only at hin
          have N := hid (NEXT.out os s3 hy)
          obtain ⟨fs', hg1, hg2, hg3⟩ := HK.out.grownR HGO.out (by omega)
          have hlen : (fs'.map fun p => p.1.cs).length ≤ 1000000 := by
            have := congrArg List.length hg1
            rw [List.length_map] at this ⊢
            have := HL.out
            omega
          have c0 := cellOf hin.bx 0
          have c1 := cellOf hin.bx 1
          simp only [List.getElem?_toArray, List.getElem?_cons_zero, List.getElem?_cons_succ] at c0 c1
          have hsz := hin.gr.size
          have IN := hid hin
          have KA := hid hg2
          have EA := hid hg3
          have LA := hid hg1
          have BA : Hid (Below wr.heap.size wr (wr.alloc (.cells #[.int .i64 g1, .slice oa on oc] 46))) := hid ((Below.refl _ wr).alloc (Nat.le_refl _) _)
          have hwA : w.heap.size ≤ (wr.alloc (.cells #[.int .i64 g1, .slice oa on oc] 46)).heap.size := by rw [World.size_alloc]; omega
          clear hin hg1 hg2 hg3 hy hnn
          go_wp2_with (at_builtin; refine wpList_appK Tryz.underlying47 infoF rfl (by decide) (by decide) (wr.alloc (.cells #[.int .i64 g1, .slice oa on oc] 46)) rfl _ _ rfl v (.slice (some ⟨wr.heap.size, 0, none⟩) 1 1) (by rfl) (by rfl) w.heap.size (fs'.map fun p => p.1.cs) (KA.out.below (Nat.le_refl _) BA.out) (some ⟨wr.heap.size, 0, none⟩) 1 1 rfl [(⟨g1, oa, on, oc⟩ : FH).cs] rfl (crd_one 46 wr ((⟨g1, oa, on, oc⟩ : FH).cs) 2 rfl) (rk_fh _) (fun e => by cases e) hlen (by omega) hwA ?_; intro v2 w4 h1 h2 h3; have H1 := hid h1; have H2 := hid h2; clear h1 h2 h3)
          go_roundg g
          case measure => omega
          have kr2 := KA.out.below (Nat.le_refl _) BA.out
          have inA := IN.out.below BA.out
          exact ⟨j + 1, by omega, by go_num, l ++ [⟨g1, os⟩], FnsN.snoc inA fs' LA.out kr2 (fun p hp => (EA.out p hp).below (Nat.le_refl _) BA.out) (by omega) H1.out H2.out, (by have := HL.out; simp; omega), (fun e => by rw [N.out.1] at e; obtain ⟨e1, e2⟩ := N.out.2 e; rw [e2, HE.out e1]), (by rw [N.out.1]; exact inA.st.grown H2.out (fun r e => by have := (kr2.own e).1; omega)), grown_own (gtrans HG.out (gbelow HGO.out BA.out)) kr2 H2.out⟩
        | succ g2 =>
          have hnn' : (rLn rO k s2).2 ≠ none := hnn.resolve_right (by omega)
          obtain ⟨os, st2, hy⟩ : ∃ os st2, rLn rO k s2 = (os, st2) := ⟨_, _, rfl⟩
          have hlo := rLn_len (one := rO) k s2
          rw [hy] at hin hnn' hlo
          simp only at hin hnn' hlo
          obtain ⟨bs, rfl⟩ : ∃ bs, st2 = some bs := Option.ne_none_iff_exists'.1 hnn'
          obtain ⟨⟨xc, xd, xa, xb, xk⟩, s4, hz⟩ : ∃ o s4, rO (some bs) = (o, s4) := ⟨_, _, rfl⟩
          have K3 : Hid (Calls Tryz.prog 66 #[.pointer (some ⟨R, 0, none⟩)] wr (fun e w' => e = .returned (.tuple #[.agg #[.int .i64 xc, .int .i64 xd, .int .i64 xa, .int .i64 xb, .int .i64 xk], .bool (!s4.isNone)]) ∧ Rst w' R D s4 ∧ wr.grownBy w' (some R))) := hid (by
            have := OPC.out wr (some bs) hin.st
            rw [hz] at this
            exact this)
          have hkI : (k : Int) < (m : Int) := by omega
          have hk0 : (0 : Int) ≤ (k : Int) := by omega
          have IN := hid hin
          have HY := hid hy
          have HZ := hid hz
          have HK2 := hid hk2
          have hsz := hin.gr.size
          clear hin hy hz hnn hnn'
          go_upto_region 8 with (go_at_call 66; (refine (Hid.out K3).mono ?_; rintro e w3 ⟨rfl, hs3, hg3⟩; have IN3 := hid (IN.out.next hs3 hg3); clear hs3 hg3))
          obtain ⟨A, hA⟩ : ∃ A, A = w3.alloc (.cells #[.int .i64 xc, .int .i64 xd, .int .i64 xa, .int .i64 xb, .int .i64 xk] 23) := ⟨_, rfl⟩
          obtain ⟨Y, hY⟩ : ∃ Y, Y = w3.heap.size := ⟨_, rfl⟩
          have bA : Below w3.heap.size w3 A := by rw [hA]; exact (Below.refl _ _).alloc (Nat.le_refl _) _
          have mY : A.heap[Y]? = some (.cells #[.int .i64 xc, .int .i64 xd, .int .i64 xa, .int .i64 xb, .int .i64 xk] 23 (0, 0)) := by rw [hA, hY]; exact heap_alloc_new w3 _
          rw [← hA, ← hY]
          clear hA hY
          obtain ⟨y0, y1, y2, y3, y4⟩ := cell5 mY
          clear mY
          have INA := hid (IN3.out.below bA)
          have hszA := INA.out.gr.size
          clear bA IN3 IN K3
          cases s4 with
          | none =>
            have FIN : Hid (FsP w R D n (rLn rFn n s).1 (rLn rFn n s).2 (.returned v) A) := hid (by
              have e1 : rLn rO m s2 = ([], none) := by
                have := rLn_stop (rLn_fail HY.out HZ.out) g2
                rw [show k + 1 + g2 = m from by have := HK2.out; omega] at this; exact this
              have e2 := (NEXT.out [] none e1).1
              have e3 := rFs_end (n := n) e2 (by have := HJ.out; omega)
              rw [e3]
              exact ⟨v, l, rfl, HK.out.grownR (gtrans HG1.out INA.out.gr) (by omega), by have := HL.out; have := HJ.out; omega, fun e => absurd rfl e, INA.out.st, gtrans HG.out (gtrans HG1.out INA.out.gr)⟩)
            clear INA y0 y1 y2 y3 y4
            (try simp only [Option.isNone_none])
            go_wp2
            go_ret
            exact FIN.out
          | some bs4 =>
            (try simp only [Option.isNone_some])
            have c1 := cellOf INA.out.bx 1
            simp only [List.getElem?_toArray, List.getElem?_cons_zero, List.getElem?_cons_succ] at c1
            have BA : Hid (Below A.heap.size A (A.alloc (.cells #[.int .i64 xc, .int .i64 xd, .int .i64 xa, .int .i64 xb, .int .i64 xk] 23))) := hid ((Below.refl _ A).alloc (Nat.le_refl _) _)
            have hwA : w1.heap.size + 1 ≤ (A.alloc (.cells #[.int .i64 xc, .int .i64 xd, .int .i64 xa, .int .i64 xb, .int .i64 xk] 23)).heap.size := by rw [World.size_alloc]; omega
            have INB := hid (INA.out.below BA.out)
            have hlos : os.length ≤ 1000000 := by omega
            go_wp2_with (at_builtin; refine wpList_appO (A.alloc (.cells #[.int .i64 xc, .int .i64 xd, .int .i64 xa, .int .i64 xb, .int .i64 xk] 23)) rfl _ _ rfl _ _ (by rfl) (by rfl) (w1.heap.size + 1) os INB.out.op (some ⟨A.heap.size, 0, none⟩) 1 1 rfl [⟨xc, xd, xa, xb, xk⟩] rfl (ord_one A ⟨xc, xd, xa, xb, xk⟩) (fun e => by cases e) hlos (by omega) hwA ?_; intro v9 w9 ho9 hg9 hn9; obtain ⟨a9, m9, c9, rfl, Hm9, _, _⟩ := ho9.rdm; have HA9 := hid (INB.out.app ho9 hg9); have p1 := cellOf HA9.out.2 1; have pf := freeOf HA9.out.2 1; simp only [List.getElem?_toArray, List.getElem?_cons_zero, List.getElem?_cons_succ] at p1; clear ho9 hg9 hn9 y0 y1 y2 y3 y4 c1)
            go_roundg g2
            case measure => omega
            exact ⟨k + 1, by omega, by go_num, a9, m9, c9, by rw [rLn_step HY.out HZ.out]; exact HA9.out.1, .inl (by rw [rLn_step HY.out HZ.out]; simp)⟩
end Go.Proofs.YthnolocldeokeaaGreatDoor

namespace Go.Proofs.YthnolocldeokeaaGreatDoor
open Go.RowKit Go.Deep Go.Shelf
set_option linter.unusedVariables false
set_option linter.unusedSimpArgs false
structure Frm where
  d : Bool
  a : Bool
  b : Bool
  k : Bool
  ok : Bool
def Frm.cs (f : Frm) : List Value := [.bool f.d, .bool f.a, .bool f.b, .bool f.k]
def frm (k : Int) : Frm :=
  if k = 1 ∨ k = 2 ∨ k = 3 then ⟨true, false, false, true, true⟩
  else if k = 4 ∨ k = 20 ∨ k = 21 ∨ k = 22 ∨ k = 23 then ⟨true, true, false, false, true⟩
  else if k = 24 ∨ k = 25 ∨ k = 26 ∨ k = 27 ∨ k = 31 ∨ k = 32 then ⟨true, true, false, true, true⟩
  else if k = 28 ∨ k = 34 then ⟨false, true, true, true, true⟩
  else if k = 29 ∨ k = 39 then ⟨false, true, false, true, true⟩
  else if k = 30 then ⟨true, true, true, true, true⟩
  else if k = 33 ∨ k = 40 then ⟨false, true, false, false, true⟩
  else if k = 35 ∨ k = 36 ∨ k = 37 then ⟨false, false, false, false, true⟩
  else if k = 38 then ⟨false, false, false, true, true⟩
  else if 5 ≤ k ∧ k ≤ 19 then ⟨true, true, true, false, true⟩
  else ⟨false, false, false, false, false⟩
def frmR (k : Int) : Ending := .returned (.tuple #[.agg (frm k).cs.toArray, .bool (frm k).ok])
theorem frmR_of {k : Int} {f : Frm} (h : frm k = f) : Ending.returned (.tuple #[.agg #[.bool f.d, .bool f.a, .bool f.b, .bool f.k], .bool f.ok]) = frmR k := by unfold frmR; rw [h]; rfl
def four (w : World) (b : Nat) (x0 x1 x2 x3 : Value) : World := (((w.setCell ⟨b, 0, none⟩ x0).setCell ⟨b, 1, none⟩ x1).setCell ⟨b, 2, none⟩ x2).setCell ⟨b, 3, none⟩ x3
theorem four_new {w : World} {b : Nat} {p0 p1 p2 p3 : Value} {t : TypeId} (h : w.heap[b]? = some (.cells #[p0, p1, p2, p3] t (0, 0))) (x0 x1 x2 x3 : Value) : (four w b x0 x1 x2 x3).heap[b]? = some (.cells #[x0, x1, x2, x3] t (0, 0)) := heap_set_at (heap_set_at (heap_set_at (heap_set_at h 0 x0) 1 x1) 2 x2) 3 x3
theorem four_below {B : Nat} {w0 w : World} (hb : Below B w0 w) {b : Nat} (hB : B ≤ b) (x0 x1 x2 x3 : Value) : Below B w0 (four w b x0 x1 x2 x3) := by
  unfold four
  exact (((hb.setCell hB _).setCell hB _).setCell hB _).setCell hB _
set_option maxRecDepth 100000 in
set_option maxHeartbeats 4000000 in
theorem of_any (w : World) (k : Int) : Calls Tryz.prog 5 #[.int .i64 k] w fun e w' => e = frmR k ∧ Below w.heap.size w w' := by
  obtain ⟨W0, hW0⟩ : ∃ W0, W0 = w.alloc (.cells #[.bool false, .bool false, .bool false, .bool false] 26) := ⟨_, rfl⟩
  have bw : Below w.heap.size w W0 := by rw [hW0]; exact (Below.refl _ _).alloc (Nat.le_refl _) _
  have m0 : W0.heap[w.heap.size]? = some (.cells #[.bool false, .bool false, .bool false, .bool false] 26 (0, 0)) := by rw [hW0]; exact heap_alloc_new w _
  have y0 := cellOf m0 0
  have y1 := cellOf m0 1
  have y2 := cellOf m0 2
  have y3 := cellOf m0 3
  have f0 := freeOf m0 0
  have f1 := freeOf m0 1
  have f2 := freeOf m0 2
  have f3 := freeOf m0 3
  simp only [List.getElem?_toArray, List.getElem?_cons_zero, List.getElem?_cons_succ] at y0 y1 y2 y3
  have FIN := hid (fun (x0 x1 x2 x3 : Value) => (⟨four_new m0 x0 x1 x2 x3, four_below bw (b := w.heap.size) (Nat.le_refl _) x0 x1 x2 x3⟩ : (four W0 w.heap.size x0 x1 x2 x3).heap[w.heap.size]? = some (.cells #[x0, x1, x2, x3] 26 (0, 0)) ∧ Below w.heap.size w (four W0 w.heap.size x0 x1 x2 x3)))
  clear bw m0
  by_cases h1 : k = 1
  · have HF : Hid (frm k = ⟨true, false, false, true, true⟩) := hid (by rw [h1]; rfl)
    have FN := hid (FIN.out (.bool true) (.bool false) (.bool false) (.bool true))
    clear FIN
    subst h1
    go_enter Tryz.func5, Tryz.ntmps5
    go_upto_region 1 with fail
    rw [← hW0]
    clear hW0
    go_wp2
    obtain ⟨hf, hb⟩ := FN.out
    have q0 := cellOf hf 0
    have q1 := cellOf hf 1
    have q2 := cellOf hf 2
    have q3 := cellOf hf 3
    simp only [four, List.getElem?_toArray, List.getElem?_cons_zero, List.getElem?_cons_succ] at q0 q1 q2 q3 hb
    refine bodyPost_ret (v := .tuple #[.agg #[.bool true, .bool false, .bool false, .bool true], .bool true]) (by simp [results, Tryz.results5, go_sem, q0, q1, q2, q3]) rfl ⟨frmR_of HF.out, hb⟩
  have b1 : (k == 1) = false := by simp [h1]
  by_cases h2 : k = 2
  · have HF : Hid (frm k = ⟨true, false, false, true, true⟩) := hid (by rw [h2]; rfl)
    have FN := hid (FIN.out (.bool true) (.bool false) (.bool false) (.bool true))
    clear FIN
    subst h2
    go_enter Tryz.func5, Tryz.ntmps5
    go_upto_region 1 with fail
    rw [← hW0]
    clear hW0
    go_wp2
    obtain ⟨hf, hb⟩ := FN.out
    have q0 := cellOf hf 0
    have q1 := cellOf hf 1
    have q2 := cellOf hf 2
    have q3 := cellOf hf 3
    simp only [four, List.getElem?_toArray, List.getElem?_cons_zero, List.getElem?_cons_succ] at q0 q1 q2 q3 hb
    refine bodyPost_ret (v := .tuple #[.agg #[.bool true, .bool false, .bool false, .bool true], .bool true]) (by simp [results, Tryz.results5, go_sem, q0, q1, q2, q3]) rfl ⟨frmR_of HF.out, hb⟩
  have b2 : (k == 2) = false := by simp [h2]
  by_cases h3 : k = 3
  · have HF : Hid (frm k = ⟨true, false, false, true, true⟩) := hid (by rw [h3]; rfl)
    have FN := hid (FIN.out (.bool true) (.bool false) (.bool false) (.bool true))
    clear FIN
    subst h3
    go_enter Tryz.func5, Tryz.ntmps5
    go_upto_region 1 with fail
    rw [← hW0]
    clear hW0
    go_wp2
    obtain ⟨hf, hb⟩ := FN.out
    have q0 := cellOf hf 0
    have q1 := cellOf hf 1
    have q2 := cellOf hf 2
    have q3 := cellOf hf 3
    simp only [four, List.getElem?_toArray, List.getElem?_cons_zero, List.getElem?_cons_succ] at q0 q1 q2 q3 hb
    refine bodyPost_ret (v := .tuple #[.agg #[.bool true, .bool false, .bool false, .bool true], .bool true]) (by simp [results, Tryz.results5, go_sem, q0, q1, q2, q3]) rfl ⟨frmR_of HF.out, hb⟩
  have b3 : (k == 3) = false := by simp [h3]
  by_cases h4 : k = 4
  · have HF : Hid (frm k = ⟨true, true, false, false, true⟩) := hid (by rw [h4]; rfl)
    have FN := hid (FIN.out (.bool true) (.bool true) (.bool false) (.bool false))
    clear FIN
    subst h4
    go_enter Tryz.func5, Tryz.ntmps5
    go_upto_region 1 with fail
    rw [← hW0]
    clear hW0
    go_wp2
    obtain ⟨hf, hb⟩ := FN.out
    have q0 := cellOf hf 0
    have q1 := cellOf hf 1
    have q2 := cellOf hf 2
    have q3 := cellOf hf 3
    simp only [four, List.getElem?_toArray, List.getElem?_cons_zero, List.getElem?_cons_succ] at q0 q1 q2 q3 hb
    refine bodyPost_ret (v := .tuple #[.agg #[.bool true, .bool true, .bool false, .bool false], .bool true]) (by simp [results, Tryz.results5, go_sem, q0, q1, q2, q3]) rfl ⟨frmR_of HF.out, hb⟩
  have b4 : (k == 4) = false := by simp [h4]
  by_cases h20 : k = 20
  · have HF : Hid (frm k = ⟨true, true, false, false, true⟩) := hid (by rw [h20]; rfl)
    have FN := hid (FIN.out (.bool true) (.bool true) (.bool false) (.bool false))
    clear FIN
    subst h20
    go_enter Tryz.func5, Tryz.ntmps5
    go_upto_region 1 with fail
    rw [← hW0]
    clear hW0
    go_wp2
    obtain ⟨hf, hb⟩ := FN.out
    have q0 := cellOf hf 0
    have q1 := cellOf hf 1
    have q2 := cellOf hf 2
    have q3 := cellOf hf 3
    simp only [four, List.getElem?_toArray, List.getElem?_cons_zero, List.getElem?_cons_succ] at q0 q1 q2 q3 hb
    refine bodyPost_ret (v := .tuple #[.agg #[.bool true, .bool true, .bool false, .bool false], .bool true]) (by simp [results, Tryz.results5, go_sem, q0, q1, q2, q3]) rfl ⟨frmR_of HF.out, hb⟩
  have b20 : (k == 20) = false := by simp [h20]
  by_cases h21 : k = 21
  · have HF : Hid (frm k = ⟨true, true, false, false, true⟩) := hid (by rw [h21]; rfl)
    have FN := hid (FIN.out (.bool true) (.bool true) (.bool false) (.bool false))
    clear FIN
    subst h21
    go_enter Tryz.func5, Tryz.ntmps5
    go_upto_region 1 with fail
    rw [← hW0]
    clear hW0
    go_wp2
    obtain ⟨hf, hb⟩ := FN.out
    have q0 := cellOf hf 0
    have q1 := cellOf hf 1
    have q2 := cellOf hf 2
    have q3 := cellOf hf 3
    simp only [four, List.getElem?_toArray, List.getElem?_cons_zero, List.getElem?_cons_succ] at q0 q1 q2 q3 hb
    refine bodyPost_ret (v := .tuple #[.agg #[.bool true, .bool true, .bool false, .bool false], .bool true]) (by simp [results, Tryz.results5, go_sem, q0, q1, q2, q3]) rfl ⟨frmR_of HF.out, hb⟩
  have b21 : (k == 21) = false := by simp [h21]
  by_cases h22 : k = 22
  · have HF : Hid (frm k = ⟨true, true, false, false, true⟩) := hid (by rw [h22]; rfl)
    have FN := hid (FIN.out (.bool true) (.bool true) (.bool false) (.bool false))
    clear FIN
    subst h22
    go_enter Tryz.func5, Tryz.ntmps5
    go_upto_region 1 with fail
    rw [← hW0]
    clear hW0
    go_wp2
    obtain ⟨hf, hb⟩ := FN.out
    have q0 := cellOf hf 0
    have q1 := cellOf hf 1
    have q2 := cellOf hf 2
    have q3 := cellOf hf 3
    simp only [four, List.getElem?_toArray, List.getElem?_cons_zero, List.getElem?_cons_succ] at q0 q1 q2 q3 hb
    refine bodyPost_ret (v := .tuple #[.agg #[.bool true, .bool true, .bool false, .bool false], .bool true]) (by simp [results, Tryz.results5, go_sem, q0, q1, q2, q3]) rfl ⟨frmR_of HF.out, hb⟩
  have b22 : (k == 22) = false := by simp [h22]
  by_cases h23 : k = 23
  · have HF : Hid (frm k = ⟨true, true, false, false, true⟩) := hid (by rw [h23]; rfl)
    have FN := hid (FIN.out (.bool true) (.bool true) (.bool false) (.bool false))
    clear FIN
    subst h23
    go_enter Tryz.func5, Tryz.ntmps5
    go_upto_region 1 with fail
    rw [← hW0]
    clear hW0
    go_wp2
    obtain ⟨hf, hb⟩ := FN.out
    have q0 := cellOf hf 0
    have q1 := cellOf hf 1
    have q2 := cellOf hf 2
    have q3 := cellOf hf 3
    simp only [four, List.getElem?_toArray, List.getElem?_cons_zero, List.getElem?_cons_succ] at q0 q1 q2 q3 hb
    refine bodyPost_ret (v := .tuple #[.agg #[.bool true, .bool true, .bool false, .bool false], .bool true]) (by simp [results, Tryz.results5, go_sem, q0, q1, q2, q3]) rfl ⟨frmR_of HF.out, hb⟩
  have b23 : (k == 23) = false := by simp [h23]
  by_cases h24 : k = 24
  · have HF : Hid (frm k = ⟨true, true, false, true, true⟩) := hid (by rw [h24]; rfl)
    have FN := hid (FIN.out (.bool true) (.bool true) (.bool false) (.bool true))
    clear FIN
    subst h24
    go_enter Tryz.func5, Tryz.ntmps5
    go_upto_region 1 with fail
    rw [← hW0]
    clear hW0
    go_wp2
    obtain ⟨hf, hb⟩ := FN.out
    have q0 := cellOf hf 0
    have q1 := cellOf hf 1
    have q2 := cellOf hf 2
    have q3 := cellOf hf 3
    simp only [four, List.getElem?_toArray, List.getElem?_cons_zero, List.getElem?_cons_succ] at q0 q1 q2 q3 hb
    refine bodyPost_ret (v := .tuple #[.agg #[.bool true, .bool true, .bool false, .bool true], .bool true]) (by simp [results, Tryz.results5, go_sem, q0, q1, q2, q3]) rfl ⟨frmR_of HF.out, hb⟩
  have b24 : (k == 24) = false := by simp [h24]
  by_cases h25 : k = 25
  · have HF : Hid (frm k = ⟨true, true, false, true, true⟩) := hid (by rw [h25]; rfl)
    have FN := hid (FIN.out (.bool true) (.bool true) (.bool false) (.bool true))
    clear FIN
    subst h25
    go_enter Tryz.func5, Tryz.ntmps5
    go_upto_region 1 with fail
    rw [← hW0]
    clear hW0
    go_wp2
    obtain ⟨hf, hb⟩ := FN.out
    have q0 := cellOf hf 0
    have q1 := cellOf hf 1
    have q2 := cellOf hf 2
    have q3 := cellOf hf 3
    simp only [four, List.getElem?_toArray, List.getElem?_cons_zero, List.getElem?_cons_succ] at q0 q1 q2 q3 hb
    refine bodyPost_ret (v := .tuple #[.agg #[.bool true, .bool true, .bool false, .bool true], .bool true]) (by simp [results, Tryz.results5, go_sem, q0, q1, q2, q3]) rfl ⟨frmR_of HF.out, hb⟩
  have b25 : (k == 25) = false := by simp [h25]
  by_cases h26 : k = 26
  · have HF : Hid (frm k = ⟨true, true, false, true, true⟩) := hid (by rw [h26]; rfl)
    have FN := hid (FIN.out (.bool true) (.bool true) (.bool false) (.bool true))
    clear FIN
    subst h26
    go_enter Tryz.func5, Tryz.ntmps5
    go_upto_region 1 with fail
    rw [← hW0]
    clear hW0
    go_wp2
    obtain ⟨hf, hb⟩ := FN.out
    have q0 := cellOf hf 0
    have q1 := cellOf hf 1
    have q2 := cellOf hf 2
    have q3 := cellOf hf 3
    simp only [four, List.getElem?_toArray, List.getElem?_cons_zero, List.getElem?_cons_succ] at q0 q1 q2 q3 hb
    refine bodyPost_ret (v := .tuple #[.agg #[.bool true, .bool true, .bool false, .bool true], .bool true]) (by simp [results, Tryz.results5, go_sem, q0, q1, q2, q3]) rfl ⟨frmR_of HF.out, hb⟩
  have b26 : (k == 26) = false := by simp [h26]
  by_cases h27 : k = 27
  · have HF : Hid (frm k = ⟨true, true, false, true, true⟩) := hid (by rw [h27]; rfl)
    have FN := hid (FIN.out (.bool true) (.bool true) (.bool false) (.bool true))
    clear FIN
    subst h27
    go_enter Tryz.func5, Tryz.ntmps5
    go_upto_region 1 with fail
    rw [← hW0]
    clear hW0
    go_wp2
    obtain ⟨hf, hb⟩ := FN.out
    have q0 := cellOf hf 0
    have q1 := cellOf hf 1
    have q2 := cellOf hf 2
    have q3 := cellOf hf 3
    simp only [four, List.getElem?_toArray, List.getElem?_cons_zero, List.getElem?_cons_succ] at q0 q1 q2 q3 hb
    refine bodyPost_ret (v := .tuple #[.agg #[.bool true, .bool true, .bool false, .bool true], .bool true]) (by simp [results, Tryz.results5, go_sem, q0, q1, q2, q3]) rfl ⟨frmR_of HF.out, hb⟩
  have b27 : (k == 27) = false := by simp [h27]
  by_cases h31 : k = 31
  · have HF : Hid (frm k = ⟨true, true, false, true, true⟩) := hid (by rw [h31]; rfl)
    have FN := hid (FIN.out (.bool true) (.bool true) (.bool false) (.bool true))
    clear FIN
    subst h31
    go_enter Tryz.func5, Tryz.ntmps5
    go_upto_region 1 with fail
    rw [← hW0]
    clear hW0
    go_wp2
    obtain ⟨hf, hb⟩ := FN.out
    have q0 := cellOf hf 0
    have q1 := cellOf hf 1
    have q2 := cellOf hf 2
    have q3 := cellOf hf 3
    simp only [four, List.getElem?_toArray, List.getElem?_cons_zero, List.getElem?_cons_succ] at q0 q1 q2 q3 hb
    refine bodyPost_ret (v := .tuple #[.agg #[.bool true, .bool true, .bool false, .bool true], .bool true]) (by simp [results, Tryz.results5, go_sem, q0, q1, q2, q3]) rfl ⟨frmR_of HF.out, hb⟩
  have b31 : (k == 31) = false := by simp [h31]
  by_cases h32 : k = 32
  · have HF : Hid (frm k = ⟨true, true, false, true, true⟩) := hid (by rw [h32]; rfl)
    have FN := hid (FIN.out (.bool true) (.bool true) (.bool false) (.bool true))
    clear FIN
    subst h32
    go_enter Tryz.func5, Tryz.ntmps5
    go_upto_region 1 with fail
    rw [← hW0]
    clear hW0
    go_wp2
    obtain ⟨hf, hb⟩ := FN.out
    have q0 := cellOf hf 0
    have q1 := cellOf hf 1
    have q2 := cellOf hf 2
    have q3 := cellOf hf 3
    simp only [four, List.getElem?_toArray, List.getElem?_cons_zero, List.getElem?_cons_succ] at q0 q1 q2 q3 hb
    refine bodyPost_ret (v := .tuple #[.agg #[.bool true, .bool true, .bool false, .bool true], .bool true]) (by simp [results, Tryz.results5, go_sem, q0, q1, q2, q3]) rfl ⟨frmR_of HF.out, hb⟩
  have b32 : (k == 32) = false := by simp [h32]
  by_cases h28 : k = 28
  · have HF : Hid (frm k = ⟨false, true, true, true, true⟩) := hid (by rw [h28]; rfl)
    have FN := hid (FIN.out (.bool false) (.bool true) (.bool true) (.bool true))
    clear FIN
    subst h28
    go_enter Tryz.func5, Tryz.ntmps5
    go_upto_region 1 with fail
    rw [← hW0]
    clear hW0
    go_wp2
    obtain ⟨hf, hb⟩ := FN.out
    have q0 := cellOf hf 0
    have q1 := cellOf hf 1
    have q2 := cellOf hf 2
    have q3 := cellOf hf 3
    simp only [four, List.getElem?_toArray, List.getElem?_cons_zero, List.getElem?_cons_succ] at q0 q1 q2 q3 hb
    refine bodyPost_ret (v := .tuple #[.agg #[.bool false, .bool true, .bool true, .bool true], .bool true]) (by simp [results, Tryz.results5, go_sem, q0, q1, q2, q3]) rfl ⟨frmR_of HF.out, hb⟩
  have b28 : (k == 28) = false := by simp [h28]
  by_cases h34 : k = 34
  · have HF : Hid (frm k = ⟨false, true, true, true, true⟩) := hid (by rw [h34]; rfl)
    have FN := hid (FIN.out (.bool false) (.bool true) (.bool true) (.bool true))
    clear FIN
    subst h34
    go_enter Tryz.func5, Tryz.ntmps5
    go_upto_region 1 with fail
    rw [← hW0]
    clear hW0
    go_wp2
    obtain ⟨hf, hb⟩ := FN.out
    have q0 := cellOf hf 0
    have q1 := cellOf hf 1
    have q2 := cellOf hf 2
    have q3 := cellOf hf 3
    simp only [four, List.getElem?_toArray, List.getElem?_cons_zero, List.getElem?_cons_succ] at q0 q1 q2 q3 hb
    refine bodyPost_ret (v := .tuple #[.agg #[.bool false, .bool true, .bool true, .bool true], .bool true]) (by simp [results, Tryz.results5, go_sem, q0, q1, q2, q3]) rfl ⟨frmR_of HF.out, hb⟩
  have b34 : (k == 34) = false := by simp [h34]
  by_cases h29 : k = 29
  · have HF : Hid (frm k = ⟨false, true, false, true, true⟩) := hid (by rw [h29]; rfl)
    have FN := hid (FIN.out (.bool false) (.bool true) (.bool false) (.bool true))
    clear FIN
    subst h29
    go_enter Tryz.func5, Tryz.ntmps5
    go_upto_region 1 with fail
    rw [← hW0]
    clear hW0
    go_wp2
    obtain ⟨hf, hb⟩ := FN.out
    have q0 := cellOf hf 0
    have q1 := cellOf hf 1
    have q2 := cellOf hf 2
    have q3 := cellOf hf 3
    simp only [four, List.getElem?_toArray, List.getElem?_cons_zero, List.getElem?_cons_succ] at q0 q1 q2 q3 hb
    refine bodyPost_ret (v := .tuple #[.agg #[.bool false, .bool true, .bool false, .bool true], .bool true]) (by simp [results, Tryz.results5, go_sem, q0, q1, q2, q3]) rfl ⟨frmR_of HF.out, hb⟩
  have b29 : (k == 29) = false := by simp [h29]
  by_cases h39 : k = 39
  · have HF : Hid (frm k = ⟨false, true, false, true, true⟩) := hid (by rw [h39]; rfl)
    have FN := hid (FIN.out (.bool false) (.bool true) (.bool false) (.bool true))
    clear FIN
    subst h39
    go_enter Tryz.func5, Tryz.ntmps5
    go_upto_region 1 with fail
    rw [← hW0]
    clear hW0
    go_wp2
    obtain ⟨hf, hb⟩ := FN.out
    have q0 := cellOf hf 0
    have q1 := cellOf hf 1
    have q2 := cellOf hf 2
    have q3 := cellOf hf 3
    simp only [four, List.getElem?_toArray, List.getElem?_cons_zero, List.getElem?_cons_succ] at q0 q1 q2 q3 hb
    refine bodyPost_ret (v := .tuple #[.agg #[.bool false, .bool true, .bool false, .bool true], .bool true]) (by simp [results, Tryz.results5, go_sem, q0, q1, q2, q3]) rfl ⟨frmR_of HF.out, hb⟩
  have b39 : (k == 39) = false := by simp [h39]
  by_cases h30 : k = 30
  · have HF : Hid (frm k = ⟨true, true, true, true, true⟩) := hid (by rw [h30]; rfl)
    have FN := hid (FIN.out (.bool true) (.bool true) (.bool true) (.bool true))
    clear FIN
    subst h30
    go_enter Tryz.func5, Tryz.ntmps5
    go_upto_region 1 with fail
    rw [← hW0]
    clear hW0
    go_wp2
    obtain ⟨hf, hb⟩ := FN.out
    have q0 := cellOf hf 0
    have q1 := cellOf hf 1
    have q2 := cellOf hf 2
    have q3 := cellOf hf 3
    simp only [four, List.getElem?_toArray, List.getElem?_cons_zero, List.getElem?_cons_succ] at q0 q1 q2 q3 hb
    refine bodyPost_ret (v := .tuple #[.agg #[.bool true, .bool true, .bool true, .bool true], .bool true]) (by simp [results, Tryz.results5, go_sem, q0, q1, q2, q3]) rfl ⟨frmR_of HF.out, hb⟩
  have b30 : (k == 30) = false := by simp [h30]
  by_cases h33 : k = 33
  · have HF : Hid (frm k = ⟨false, true, false, false, true⟩) := hid (by rw [h33]; rfl)
    have FN := hid (FIN.out (.bool false) (.bool true) (.bool false) (.bool false))
    clear FIN
    subst h33
    go_enter Tryz.func5, Tryz.ntmps5
    go_upto_region 1 with fail
    rw [← hW0]
    clear hW0
    go_wp2
    obtain ⟨hf, hb⟩ := FN.out
    have q0 := cellOf hf 0
    have q1 := cellOf hf 1
    have q2 := cellOf hf 2
    have q3 := cellOf hf 3
    simp only [four, List.getElem?_toArray, List.getElem?_cons_zero, List.getElem?_cons_succ] at q0 q1 q2 q3 hb
    refine bodyPost_ret (v := .tuple #[.agg #[.bool false, .bool true, .bool false, .bool false], .bool true]) (by simp [results, Tryz.results5, go_sem, q0, q1, q2, q3]) rfl ⟨frmR_of HF.out, hb⟩
  have b33 : (k == 33) = false := by simp [h33]
  by_cases h40 : k = 40
  · have HF : Hid (frm k = ⟨false, true, false, false, true⟩) := hid (by rw [h40]; rfl)
    have FN := hid (FIN.out (.bool false) (.bool true) (.bool false) (.bool false))
    clear FIN
    subst h40
    go_enter Tryz.func5, Tryz.ntmps5
    go_upto_region 1 with fail
    rw [← hW0]
    clear hW0
    go_wp2
    obtain ⟨hf, hb⟩ := FN.out
    have q0 := cellOf hf 0
    have q1 := cellOf hf 1
    have q2 := cellOf hf 2
    have q3 := cellOf hf 3
    simp only [four, List.getElem?_toArray, List.getElem?_cons_zero, List.getElem?_cons_succ] at q0 q1 q2 q3 hb
    refine bodyPost_ret (v := .tuple #[.agg #[.bool false, .bool true, .bool false, .bool false], .bool true]) (by simp [results, Tryz.results5, go_sem, q0, q1, q2, q3]) rfl ⟨frmR_of HF.out, hb⟩
  have b40 : (k == 40) = false := by simp [h40]
  by_cases h35 : k = 35
  · have HF : Hid (frm k = ⟨false, false, false, false, true⟩) := hid (by rw [h35]; rfl)
    have FN := hid (FIN.out (.bool false) (.bool false) (.bool false) (.bool false))
    clear FIN
    subst h35
    go_enter Tryz.func5, Tryz.ntmps5
    go_upto_region 1 with fail
    rw [← hW0]
    clear hW0
    go_wp2
    obtain ⟨hf, hb⟩ := FN.out
    have q0 := cellOf hf 0
    have q1 := cellOf hf 1
    have q2 := cellOf hf 2
    have q3 := cellOf hf 3
    simp only [four, List.getElem?_toArray, List.getElem?_cons_zero, List.getElem?_cons_succ] at q0 q1 q2 q3 hb
    refine bodyPost_ret (v := .tuple #[.agg #[.bool false, .bool false, .bool false, .bool false], .bool true]) (by simp [results, Tryz.results5, go_sem, q0, q1, q2, q3]) rfl ⟨frmR_of HF.out, hb⟩
  have b35 : (k == 35) = false := by simp [h35]
  by_cases h36 : k = 36
  · have HF : Hid (frm k = ⟨false, false, false, false, true⟩) := hid (by rw [h36]; rfl)
    have FN := hid (FIN.out (.bool false) (.bool false) (.bool false) (.bool false))
    clear FIN
    subst h36
    go_enter Tryz.func5, Tryz.ntmps5
    go_upto_region 1 with fail
    rw [← hW0]
    clear hW0
    go_wp2
    obtain ⟨hf, hb⟩ := FN.out
    have q0 := cellOf hf 0
    have q1 := cellOf hf 1
    have q2 := cellOf hf 2
    have q3 := cellOf hf 3
    simp only [four, List.getElem?_toArray, List.getElem?_cons_zero, List.getElem?_cons_succ] at q0 q1 q2 q3 hb
    refine bodyPost_ret (v := .tuple #[.agg #[.bool false, .bool false, .bool false, .bool false], .bool true]) (by simp [results, Tryz.results5, go_sem, q0, q1, q2, q3]) rfl ⟨frmR_of HF.out, hb⟩
  have b36 : (k == 36) = false := by simp [h36]
  by_cases h37 : k = 37
  · have HF : Hid (frm k = ⟨false, false, false, false, true⟩) := hid (by rw [h37]; rfl)
    have FN := hid (FIN.out (.bool false) (.bool false) (.bool false) (.bool false))
    clear FIN
    subst h37
    go_enter Tryz.func5, Tryz.ntmps5
    go_upto_region 1 with fail
    rw [← hW0]
    clear hW0
    go_wp2
    obtain ⟨hf, hb⟩ := FN.out
    have q0 := cellOf hf 0
    have q1 := cellOf hf 1
    have q2 := cellOf hf 2
    have q3 := cellOf hf 3
    simp only [four, List.getElem?_toArray, List.getElem?_cons_zero, List.getElem?_cons_succ] at q0 q1 q2 q3 hb
    refine bodyPost_ret (v := .tuple #[.agg #[.bool false, .bool false, .bool false, .bool false], .bool true]) (by simp [results, Tryz.results5, go_sem, q0, q1, q2, q3]) rfl ⟨frmR_of HF.out, hb⟩
  have b37 : (k == 37) = false := by simp [h37]
  by_cases h38 : k = 38
  · have HF : Hid (frm k = ⟨false, false, false, true, true⟩) := hid (by rw [h38]; rfl)
    have FN := hid (FIN.out (.bool false) (.bool false) (.bool false) (.bool true))
    clear FIN
    subst h38
    go_enter Tryz.func5, Tryz.ntmps5
    go_upto_region 1 with fail
    rw [← hW0]
    clear hW0
    go_wp2
    obtain ⟨hf, hb⟩ := FN.out
    have q0 := cellOf hf 0
    have q1 := cellOf hf 1
    have q2 := cellOf hf 2
    have q3 := cellOf hf 3
    simp only [four, List.getElem?_toArray, List.getElem?_cons_zero, List.getElem?_cons_succ] at q0 q1 q2 q3 hb
    refine bodyPost_ret (v := .tuple #[.agg #[.bool false, .bool false, .bool false, .bool true], .bool true]) (by simp [results, Tryz.results5, go_sem, q0, q1, q2, q3]) rfl ⟨frmR_of HF.out, hb⟩
  have b38 : (k == 38) = false := by simp [h38]
  by_cases h5 : 5 ≤ k ∧ k ≤ 19
  · obtain ⟨h5a, h5b⟩ := h5
    have HF : Hid (frm k = ⟨true, true, true, false, true⟩) := hid (by unfold frm; simp [h1, h2, h3, h4, h20, h21, h22, h23, h24, h25, h26, h27, h31, h32, h28, h34, h29, h39, h30, h33, h40, h35, h36, h37, h38, h5a, h5b])
    have FN := hid (FIN.out (.bool true) (.bool true) (.bool true) (.bool false))
    clear FIN
    have d1 : decide (5 ≤ k) = true := decide_eq_true h5a
    have d2 : decide (k ≤ 19) = true := decide_eq_true h5b
    go_enter Tryz.func5, Tryz.ntmps5
    go_upto_region 1 with fail
    rw [← hW0]
    clear hW0
    go_wp2
    obtain ⟨hf, hb⟩ := FN.out
    have q0 := cellOf hf 0
    have q1 := cellOf hf 1
    have q2 := cellOf hf 2
    have q3 := cellOf hf 3
    simp only [four, List.getElem?_toArray, List.getElem?_cons_zero, List.getElem?_cons_succ] at q0 q1 q2 q3 hb
    refine bodyPost_ret (v := .tuple #[.agg #[.bool true, .bool true, .bool true, .bool false], .bool true]) (by simp [results, Tryz.results5, go_sem, q0, q1, q2, q3]) rfl ⟨frmR_of HF.out, hb⟩
  have HZ : Hid (frm k = ⟨false, false, false, false, false⟩) := hid (by unfold frm; simp [h1, h2, h3, h4, h20, h21, h22, h23, h24, h25, h26, h27, h31, h32, h28, h34, h29, h39, h30, h33, h40, h35, h36, h37, h38, h5])
  by_cases h6 : 5 ≤ k
  · have h7 : ¬ k ≤ 19 := fun h => h5 ⟨h6, h⟩
    have HF : Hid (frm k = ⟨false, false, false, false, false⟩) := hid (by exact HZ.out)
    have FN := hid (FIN.out (.bool false) (.bool false) (.bool false) (.bool false))
    clear FIN
    have d1 : decide (5 ≤ k) = true := decide_eq_true h6
    have d2 : decide (k ≤ 19) = false := decide_eq_false h7
    go_enter Tryz.func5, Tryz.ntmps5
    go_upto_region 1 with fail
    rw [← hW0]
    clear hW0
    go_wp2
    obtain ⟨hf, hb⟩ := FN.out
    have q0 := cellOf hf 0
    have q1 := cellOf hf 1
    have q2 := cellOf hf 2
    have q3 := cellOf hf 3
    simp only [four, List.getElem?_toArray, List.getElem?_cons_zero, List.getElem?_cons_succ] at q0 q1 q2 q3 hb
    refine bodyPost_ret (v := .tuple #[.agg #[.bool false, .bool false, .bool false, .bool false], .bool false]) (by simp [results, Tryz.results5, go_sem, q0, q1, q2, q3]) rfl ⟨frmR_of HF.out, hb⟩
  · have HF : Hid (frm k = ⟨false, false, false, false, false⟩) := hid (by exact HZ.out)
    have FN := hid (FIN.out (.bool false) (.bool false) (.bool false) (.bool false))
    clear FIN
    have d1 : decide (5 ≤ k) = false := decide_eq_false h6
    go_enter Tryz.func5, Tryz.ntmps5
    go_upto_region 1 with fail
    rw [← hW0]
    clear hW0
    go_wp2
    obtain ⟨hf, hb⟩ := FN.out
    have q0 := cellOf hf 0
    have q1 := cellOf hf 1
    have q2 := cellOf hf 2
    have q3 := cellOf hf 3
    simp only [four, List.getElem?_toArray, List.getElem?_cons_zero, List.getElem?_cons_succ] at q0 q1 q2 q3 hb
    refine bodyPost_ret (v := .tuple #[.agg #[.bool false, .bool false, .bool false, .bool false], .bool false]) (by simp [results, Tryz.results5, go_sem, q0, q1, q2, q3]) rfl ⟨frmR_of HF.out, hb⟩
end Go.Proofs.YthnolocldeokeaaGreatDoor

