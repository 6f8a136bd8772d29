/- Drawn regions whose last operation breaks what the others keep. -/
import Derived.Test.YthnolocldeokeaaGreatDoorJAH
import Derived.Deep.RegionHeld3
namespace Go.Proofs.YthnolocldeokeaaGreatDoor
open Go
set_option linter.unusedVariables false
section
variable {P : Program} {ops : Array Oper} {Q : Exit → Act → World → Prop} {md : Region.Mode} {S : World → Prop} {L : Nat}
/- Whatever order is picked; S holds behind every operation but number L. -/
def wpAnyI (P : Program) (md : Region.Mode) (ops : Array Oper) (Q : Exit → Act → World → Prop) (L : Nat) (S : World → Prop) : Nat → Array Bool → Act → World → Prop
  | 0, listed, a, w => Region.ready md ops listed = [] ∧ Q .normal a w
  | fuel + 1, listed, a, w =>
    (Region.ready md ops listed = [] → Q .normal a w) ∧
    ∀ i ∈ Region.ready md ops listed, wpOp P ops Q i (fun a' w' => (i = L ∨ S w') ∧ wpAnyI P md ops Q L S fuel (listed.setIfInBounds i true) a' w') a w
theorem wpAny_of_I : ∀ (fuel : Nat) (listed : Array Bool) (a : Act) (w : World), wpAnyI P md ops Q L S fuel listed a w → wpAny P md ops Q fuel listed a w
  | 0, _, _, _, h => h
  | fuel + 1, _, _, _, h => ⟨h.1, fun i hi => wpOp_mono (fun a' w' h' => wpAny_of_I fuel _ a' w' h'.2) (h.2 i hi)⟩
/- A row of operations, each waiting for the one ahead of it, none of them done. -/
def chainOk (md : Region.Mode) (ops : Array Oper) (listed : Array Bool) : List Nat → Bool
  | [] => false
  | c :: r => !listed.getD c true && (match r with
    | [] => true
    | d :: _ => ((ops[d]?).map (fun o => o.after.any fun e => Region.binds md e && e.on == c)).getD false && chainOk md ops listed r)
theorem chainOk_ne {listed : Array Bool} {j : Nat} : ∀ {c : Nat} {r : List Nat}, chainOk md ops listed (c :: r) = true → j ∈ Region.ready md ops listed → j ∉ r
  | c, [], _, _ => by simp
  | c, d :: r, h, hj => by
    unfold chainOk at h
    simp only [Bool.and_eq_true, Bool.not_eq_true'] at h
    obtain ⟨h0, h1, h2⟩ := h
    intro hm
    rcases List.mem_cons.1 hm with rfl | hm
    · obtain ⟨_, o, ho, hall⟩ := mem_ready.1 hj
      rw [ho] at h1
      simp only [Option.map_some, Option.getD_some, Array.any_eq_true] at h1
      obtain ⟨q, hq, he⟩ := h1
      simp only [Bool.and_eq_true, beq_iff_eq] at he
      have h3 := hall _ (Array.getElem_mem hq) he.1
      rw [he.2] at h3
      rcases Nat.lt_or_ge c listed.size with h' | h'
      · simp [h'] at h0 h3; rw [h0] at h3; cases h3
      · simp [Array.getElem?_eq_none h'] at h0
    · exact chainOk_ne h2 hj hm
theorem chainOk_set {listed : Array Bool} {j : Nat} : ∀ {l : List Nat}, chainOk md ops listed l = true → j ∉ l → chainOk md ops (listed.setIfInBounds j true) l = true
  | [], h, _ => h
  | [c], h, hj => by
    unfold chainOk at h ⊢
    rw [getD_set_ne true (by intro e; exact hj (by rw [e]; exact List.mem_cons_self ..))]
    exact h
  | c :: d :: r, h, hj => by
    unfold chainOk at h ⊢
    simp only [Bool.and_eq_true] at h ⊢
    rw [getD_set_ne true (by intro e; exact hj (by rw [e]; exact List.mem_cons_self ..))]
    exact ⟨h.1, h.2.1, chainOk_set h.2.2 (fun hm => hj (List.mem_cons_of_mem _ hm))⟩
theorem wpAnyI_first {i : Nat} {oi : Oper} {v : Value} {r : List Nat} (hi : ops[i]? = some oi) (hsel : ∀ (j : Nat) (o : Oper) cs b, ops[j]? = some o → o.op ≠ .select cs b)
    (hQ : ∀ c a w, Q (.panic c) (a.put oi.dst v) w → Q (.panic c) a w) (hLr : L ∈ r) :
    ∀ (fuel : Nat) (listed : Array Bool) (a : Act) (w : World),
      (∀ j oj, ops[j]? = some oj → j ≠ i → listed.getD j true = false → (∀ e ∈ oj.after, Region.binds md e = true → e.on ≠ i) → oi.apart ops oj = true) →
      i ∈ Region.ready md ops listed → chainOk md ops listed (i :: r) = true → YieldsIf P ops S oi v a → S w →
      wpAnyI P md ops Q L S fuel (listed.setIfInBounds i true) (a.put oi.dst v) w → wpAnyI P md ops Q L S (fuel + 1) listed a w := by
  intro fuel
  induction fuel with
  | zero =>
    intro listed a w _ hr _ hy hS H
    refine ⟨fun h => (by rw [h] at hr; cases hr), fun j hj => ?_⟩
    by_cases hji : j = i
    · subst hji; exact hy.wpOp hi hS ⟨.inr hS, H⟩
    · have := ready_mono hj hji
      rw [H.1] at this
      cases this
  | succ fuel ih =>
    intro listed a w hfree hr hch hy hS H
    refine ⟨fun h => (by rw [h] at hr; cases hr), fun j hj => ?_⟩
    by_cases hji : j = i
    · subst hji; exact hy.wpOp hi hS ⟨.inr hS, H⟩
    · have h1 := H.2 j (ready_mono hj hji)
      obtain ⟨hjun, oj, hoj, hall⟩ := mem_ready.1 hj
      have hnot : ∀ e ∈ oj.after, Region.binds md e = true → e.on ≠ i := fun e he hb heq => by
        have h1 := hall e he hb
        have h0 := (mem_ready.1 hr).1
        rw [heq] at h1
        rcases Nat.lt_or_ge i listed.size with h' | h'
        · simp [h'] at h0 h1; rw [h0] at h1; cases h1
        · simp [Array.getElem?_eq_none h'] at h1
      have hjr : j ∉ r := chainOk_ne hch hj
      have hjL : j ≠ L := fun e => hjr (by rw [e]; exact hLr)
      have h2 := wpOp_putIf hoj (hfree j oj hoj hji hjun hnot) (fun cs b => hsel i oi cs b hi) (fun cs b => hsel j oj cs b hoj) hQ hy h1
      have hfree' : ∀ k ok, ops[k]? = some ok → k ≠ i → (listed.setIfInBounds j true).getD k true = false →
          (∀ e ∈ ok.after, Region.binds md e = true → e.on ≠ i) → oi.apart ops ok = true := fun k ok hk hki hun hno => by
        refine hfree k ok hk hki ?_ hno
        by_cases hjk : j = k
        · subst hjk; exact hjun
        · rw [getD_set_ne true hjk] at hun; exact hun
      refine wpOp_mono (fun a' w' h3 => ⟨h3.2.1, ih (listed.setIfInBounds j true) a' w' hfree' (ready_mono hr (Ne.symm hji)) (chainOk_set hch (fun hm => (List.mem_cons.1 hm).elim hji hjr)) h3.1 (h3.2.1.resolve_left hjL) ?_⟩) h2
      rw [Array.setIfInBounds_comm _ _ hji]
      exact h3.2.2
theorem wpAnyI_take {i : Nat} {oi : Oper} {v : Value} {fuel : Nat} {listed : Array Bool} {a : Act} {w : World} (r : List Nat) (hi : ops[i]? = some oi)
    (hs : Region.noSelect ops = true) (hf : Region.free md ops listed i = true) (hr : (Region.ready md ops listed).contains i = true) (hc : (chainOk md ops listed (i :: r) && r.contains L) = true)
    (hQ : ∀ c a w, Q (.panic c) (a.put oi.dst v) w → Q (.panic c) a w) (hy : YieldsIf P ops S oi v a) (hS : S w)
    (h : wpAnyI P md ops Q L S fuel (listed.setIfInBounds i true) (a.put oi.dst v) w) : wpAnyI P md ops Q L S (fuel + 1) listed a w := by
  simp only [Bool.and_eq_true] at hc
  exact wpAnyI_first hi (Region.noSelect_spec hs) hQ (by simpa using hc.2) fuel listed a w (Region.free_spec hi hf) (by simpa using hr) hc.1 hy hS h
/- One operation alone may come up, and it is not the last. -/
theorem wpAnyI_one {i : Nat} {o : Oper} {fuel : Nat} {listed : Array Bool} {a : Act} {w : World} (hr : Region.ready md ops listed = [i]) (ho : ops[i]? = some o)
    (h : ∀ K' : Act → World → Prop, Shut (∀ a w, S w → (S w → wpAnyI P md ops Q L S fuel (listed.setIfInBounds i true) a w) → K' a w) → if Region.wanted o (yielded ops a.tmps) = true then Oper.wp P o a w K' Q else K' (a.put o.dst undef) w) :
    wpAnyI P md ops Q L S (fuel + 1) listed a w :=
  ⟨fun h0 => (by rw [hr] at h0; cases h0), fun j hj => by
    rw [hr] at hj
    have hji : j = i := by simpa using hj
    subst hji
    exact wpOp_step ho (fun K' hK => h K' (fun a w hS hW => hK a w ⟨.inr hS, hW hS⟩))⟩
/- The last operation. -/
theorem wpAnyI_last {o : Oper} {fuel : Nat} {listed : Array Bool} {a : Act} {w : World} (hr : Region.ready md ops listed = [L]) (ho : ops[L]? = some o) (he : Region.ready md ops (listed.setIfInBounds L true) = [])
    (h : ∀ K' : Act → World → Prop, Shut (∀ a w, Q .normal a w → K' a w) → if Region.wanted o (yielded ops a.tmps) = true then Oper.wp P o a w K' Q else K' (a.put o.dst undef) w) :
    wpAnyI P md ops Q L S (fuel + 1) listed a w :=
  ⟨fun h0 => (by rw [hr] at h0; cases h0), fun j hj => by
    rw [hr] at hj
    have hji : j = L := by simpa using hj
    subst hji
    refine wpOp_step ho (fun K' hK => h K' (fun a w hq => hK a w ⟨.inl rfl, ?_⟩))
    cases fuel with
    | zero => exact ⟨he, hq⟩
    | succ f => exact ⟨fun _ => hq, by rw [he]; simp⟩⟩
end
end Go.Proofs.YthnolocldeokeaaGreatDoor

namespace Go.Proofs.YthnolocldeokeaaGreatDoor
open Go.RowKit Go.Deep Go.Shelf
set_option linter.unusedVariables false
set_option linter.unusedSimpArgs false
/- What stands in the blocks from B on holds still. -/
def Kp (B : Nat) (w : World) (P : World → Prop) : Prop := ∀ X : World, (∀ g, B ≤ g → g < w.heap.size → X.heap[g]? = w.heap[g]?) → P X
theorem KR.above {E : TypeId} {k : Nat} {w w' : World} {B : Nat} {v : Value} {l : List (List Value)} (h : KR E k w B v l) (e : ∀ g, B ≤ g → g < w.heap.size → w'.heap[g]? = w.heap[g]?) : KR E k w' B v l := h.keep fun g q => e g (h.own q).1 (h.own q).2
theorem KR.srd {w : World} {B : Nat} {a : Option Addr} {n c : Nat} {ss : List ByteArray} (h : KR 9 1 w B (.slice a n c) (ss.map stc)) (hs : ∀ s ∈ ss, s.size ≤ 1000000) : SRd w a ss := by
  obtain ⟨a', c', e, _, hr, _, _⟩ := h.rd
  cases e
  intro j s hj
  obtain ⟨b, off, rfl, hbl, hc⟩ := hr j (stc s) (by simp [hj])
  have h0 := hc 0 (by omega)
  simp only [stc, List.getElem?_cons_zero, Nat.add_zero, Nat.mul_one] at h0
  exact ⟨by have := hs s (List.mem_of_getElem? hj); omega, b, off, rfl, h0⟩
theorem KR.jrd {w : World} {B : Nat} {a : Option Addr} {n c : Nat} {xs : List Int} (h : KR 2 1 w B (.slice a n c) (xs.map inc)) : JRd w a xs := by
  obtain ⟨a', c', e, _, hr, _, _⟩ := h.rd
  cases e
  exact hr
/- Sizes of what is right. -/
theorem names_sm {f : Int → Bool} {ss : List ByteArray} (h : namesB f ss = true) : ∀ s ∈ ss, s.size ≤ 20 := fun s hs => by
  obtain ⟨i, hi⟩ := List.getElem?_of_mem hs
  unfold namesB at h
  have h1 := List.all_eq_true.1 h i (List.mem_range.2 (List.getElem?_eq_some_iff.1 hi).1)
  rw [okAt_some hi] at h1
  simp only [nameB, Bool.and_eq_true, decide_eq_true_eq] at h1
  exact h1.1.1.1.2
structure RcSm (r : Rc) : Prop where
  nm : r.name.size ≤ 20
  fl : r.fields.length ≤ 12
  tl : r.types.length ≤ 12
  fs : ∀ s ∈ r.fields, s.size ≤ 20
structure PgSm (p : Pg) : Prop where
  rl : p.recs.length ≤ 16
  r : ∀ x ∈ p.recs, RcSm x.2
  ml : p.maps.length ≤ 16
  m : ∀ x ∈ p.maps, x.name.size ≤ 20
  fl : p.funcs.length ≤ 16
  f : ∀ x ∈ p.funcs, x.2.name.size ≤ 20 ∧ x.2.params.length ≤ 12
  el : p.events.length ≤ 16
  e : ∀ x ∈ p.events, x.2.name.size ≤ 20 ∧ x.2.params.length ≤ 12
theorem sigs_sm {n : Nat} {l : List (GH × Sg)} (h : sigsB n (l.map (·.2)) = true) : l.length ≤ 16 ∧ ∀ x ∈ l, x.2.name.size ≤ 20 ∧ x.2.params.length ≤ 12 := by
  unfold sigsB at h
  simp only [Bool.and_eq_true, decide_eq_true_eq, List.length_map] at h
  refine ⟨h.1.1, fun x hx => ⟨names_sm h.2 _ (List.mem_map.2 ⟨x.2, List.mem_map.2 ⟨x, hx, rfl⟩, rfl⟩), ?_⟩⟩
  have h2 := List.all_eq_true.1 h.1.2 x.2 (List.mem_map.2 ⟨x, hx, rfl⟩)
  unfold sigB at h2
  simp only [Bool.and_eq_true, decide_eq_true_eq] at h2
  exact h2.1.1
theorem right_sm {p : Pg} (h : rightB p = true) : PgSm p := by
  unfold rightB at h
  simp only [Bool.and_eq_true] at h
  obtain ⟨⟨⟨⟨h1, h2⟩, h3⟩, h4⟩, _⟩ := h
  unfold recordsB at h1
  simp only [Bool.and_eq_true, decide_eq_true_eq, List.length_map] at h1
  unfold mapsB at h2
  simp only [Bool.and_eq_true, decide_eq_true_eq] at h2
  refine ⟨h1.1.1, fun x hx => ?_, h2.1.1, fun x hx => names_sm h2.2 _ (List.mem_map.2 ⟨x, hx, rfl⟩), (sigs_sm h3).1, (sigs_sm h3).2, (sigs_sm h4).1, (sigs_sm h4).2⟩
  have q := List.all_eq_true.1 h1.1.2 x.2 (List.mem_map.2 ⟨x, hx, rfl⟩)
  unfold fieldsB at q
  simp only [Bool.and_eq_true, decide_eq_true_eq] at q
  exact ⟨names_sm h1.2 _ (List.mem_map.2 ⟨x.2, List.mem_map.2 ⟨x, hx, rfl⟩, rfl⟩), q.1.1.1.2, by have := q.1.1.2; have := q.1.1.1.2; omega, names_sm q.2⟩
/- A record laid anew. -/
structure RNew (w : World) (B : Nat) (p : RH × Rc) : Prop where
  nm : p.1.name = p.2.name
  sm : RcSm p.2
  fr : KR 9 1 w B (.slice p.1.fa p.1.fn p.1.fc) (p.2.fields.map stc)
  tr : KR 32 2 w B (.slice p.1.ta p.1.tn p.1.tc) (p.2.types.map tyc)
theorem RNew.rd {w : World} {B : Nat} {p : RH × Rc} (h : RNew w B p) : RcRd w p.1 p.2 := by
  obtain ⟨⟨nm, fa, fn, fc, ta, tn, tc⟩, s⟩ := p
  obtain ⟨a1, cap1, e1, hc1, hr1, _, _⟩ := h.fr.rd
  obtain ⟨a2, cap2, e2, hc2, hr2, _, _⟩ := h.tr.rd
  have hs := h.fr.srd (fun s hs => by have := h.sm.fs s hs; omega)
  have h3 := h.nm
  have h4 := h.sm
  simp only at h3 h4 e1 e2 hs
  rw [List.length_map] at e1 e2 hc1
  cases e1
  cases e2
  exact ⟨h3, by show nm.size ≤ _; rw [h3]; have := h4.nm; omega, rfl, hc1, by show s.fields.length ≤ _; have := h4.fl; omega, hs, rfl, by show s.types.length ≤ _; have := h4.tl; omega, CRd.trd hr2⟩
theorem RNew.above {w w' : World} {B : Nat} {p : RH × Rc} (h : RNew w B p) (e : ∀ g, B ≤ g → g < w.heap.size → w'.heap[g]? = w.heap[g]?) : RNew w' B p := ⟨h.nm, h.sm, h.fr.above e, h.tr.above e⟩
theorem RNew.other {F : TypeId} (h1 : 9 ≠ F) (h2 : 32 ≠ F) {q : Nat} {w w' : World} {B C : Nat} {r : Value} {m : List (List Value)} {p : RH × Rc} (h : RNew w B p) (g : KR F q w C r m) (hg : w.grownBy w' r.ownBlock) : RNew w' B p := ⟨h.nm, h.sm, h.fr.other h1 g hg, h.tr.other h2 g hg⟩
theorem rk_rh (g : RH) : Rk 3 [g.cs] := ⟨fun r hr => by simp at hr; subst hr; rfl, fun r hr u hu => by
  simp at hr; subst hr
  simp [RH.cs] at hu
  rcases hu with rfl | rfl | rfl <;> rfl⟩
theorem rk_mp (g : Mp) : Rk 5 [g.cs] := ⟨fun r hr => by simp at hr; subst hr; rfl, fun r hr u hu => by
  simp at hr; subst hr
  simp [Mp.cs] at hu
  rcases hu with rfl | rfl | rfl | rfl | rfl <;> rfl⟩
def RcsN (w : World) (B : Nat) (v : Value) (rs : List Rc) : Prop := ∃ l : List (RH × Rc), l.map (·.2) = rs ∧ KR 75 3 w B v (l.map fun p => p.1.cs) ∧ ∀ p ∈ l, RNew w B p
theorem RcsN.above {w w' : World} {B : Nat} {v : Value} {rs : List Rc} (h : RcsN w B v rs) (e : ∀ g, B ≤ g → g < w.heap.size → w'.heap[g]? = w.heap[g]?) : RcsN w' B v rs := by
  obtain ⟨l, h1, h2, h3⟩ := h
  exact ⟨l, h1, h2.above e, fun p hp => (h3 p hp).above e⟩
theorem RcsN.below {w w' : World} {B : Nat} {v : Value} {rs : List Rc} (h : RcsN w B v rs) (e : Below w.heap.size w w') : RcsN w' B v rs := h.above fun g _ hg => e.block g hg
theorem RcsN.rd {w : World} {B : Nat} {v : Value} {rs : List Rc} (h : RcsN w B v rs) (hl : rs.length ≤ 1000000) : ∃ a n c l, v = .slice a n c ∧ l.map (·.2) = rs ∧ RRd w a n l := by
  obtain ⟨l, h1, h2, h3⟩ := h
  obtain ⟨a, cap, e, _, hr, _, _⟩ := h2.rd
  rw [List.length_map] at e
  have : l.length = rs.length := by rw [← h1, List.length_map]
  exact ⟨a, l.length, cap, l, e, h1, ⟨rfl, by omega, hr, fun p hp => (h3 p hp).rd⟩⟩
theorem RcsN.grown {F : TypeId} (h1 : 75 ≠ F) (h2 : 9 ≠ F) (h3 : 32 ≠ F) {q : Nat} {w w' : World} {B C : Nat} {r v : Value} {m : List (List Value)} {rs : List Rc} (h : RcsN w B v rs) (g : KR F q w C r m) (hg : w.grownBy w' r.ownBlock) : RcsN w' B v rs := by
  obtain ⟨l, k1, k2, k3⟩ := h
  exact ⟨l, k1, k2.other h1 g hg, fun p hp => (k3 p hp).other h2 h3 g hg⟩
def MpsN (w : World) (B : Nat) (v : Value) (ms : List Mp) : Prop := KR 79 5 w B v (ms.map Mp.cs)
theorem MpsN.above {w w' : World} {B : Nat} {v : Value} {ms : List Mp} (h : MpsN w B v ms) (e : ∀ g, B ≤ g → g < w.heap.size → w'.heap[g]? = w.heap[g]?) : MpsN w' B v ms := KR.above h e
theorem MpsN.below {w w' : World} {B : Nat} {v : Value} {ms : List Mp} (h : MpsN w B v ms) (e : Below w.heap.size w w') : MpsN w' B v ms := h.above fun g _ hg => e.block g hg
theorem MpsN.rd {w : World} {B : Nat} {v : Value} {ms : List Mp} (h : MpsN w B v ms) (hl : ms.length ≤ 1000000) (hs : ∀ m ∈ ms, m.name.size ≤ 20) : ∃ a n c, v = .slice a n c ∧ MRd w a n ms := by
  obtain ⟨a, cap, e, _, hr, _, _⟩ := KR.rd h
  rw [List.length_map] at e
  exact ⟨a, ms.length, cap, e, ⟨rfl, by omega, hr, fun m hm => by have := hs m hm; omega⟩⟩
theorem SgsN.above {w w' : World} {B : Nat} {v : Value} {ss : List Sg} (h : SgsN w B v ss) (e : ∀ g, B ≤ g → g < w.heap.size → w'.heap[g]? = w.heap[g]?) : SgsN w' B v ss := by
  obtain ⟨l, h1, h2, h3⟩ := h
  exact ⟨l, h1, h2.above e, fun p hp => ⟨(h3 p hp).nm, (h3 p hp).ns, (h3 p hp).pr.above e, (h3 p hp).rs⟩⟩
theorem SgsN.lower {w : World} {B C : Nat} {v : Value} {ss : List Sg} (h : SgsN w B v ss) (hC : C ≤ B) : SgsN w C v ss := by
  obtain ⟨l, h1, h2, h3⟩ := h
  exact ⟨l, h1, h2.lower hC, fun p hp => ⟨(h3 p hp).nm, (h3 p hp).ns, (h3 p hp).pr.lower hC, (h3 p hp).rs⟩⟩
theorem SgsN.rd {w : World} {B : Nat} {v : Value} {ss : List Sg} (h : SgsN w B v ss) (hl : ss.length ≤ 1000000) (hp : ∀ s ∈ ss, s.params.length ≤ 1000000) : ∃ a n c l, v = .slice a n c ∧ l.map (·.2) = ss ∧ GRd w a n l := by
  obtain ⟨l, h1, h2, h3⟩ := h
  obtain ⟨a, cap, e, _, hr, _, _⟩ := h2.rd
  rw [List.length_map] at e
  have : l.length = ss.length := by rw [← h1, List.length_map]
  exact ⟨a, l.length, cap, l, e, h1, ⟨rfl, by omega, hr, fun p hp' => (h3 p hp').rd (hp p.2 (by rw [← h1]; exact List.mem_map.2 ⟨p, hp', rfl⟩))⟩⟩
theorem sgs_rd {w : World} {B : Nat} {a : Option Addr} {n c : Nat} {l : List (GH × Sg)} (k : KR 35 4 w B (.slice a n c) (l.map fun p => p.1.cs)) (h : ∀ p ∈ l, GNew w B p) (hl : l.length ≤ 1000000) (hp : ∀ p ∈ l, p.2.params.length ≤ 1000000) : GRd w a n l := by
  obtain ⟨a', cap, e, _, hr, _, _⟩ := k.rd
  rw [List.length_map] at e
  cases e
  exact ⟨rfl, by omega, hr, fun p hq => (h p hq).rd (hp p hq)⟩
end Go.Proofs.YthnolocldeokeaaGreatDoor

namespace Go.Proofs.YthnolocldeokeaaGreatDoor
open Go.RowKit Go.Deep Go.Shelf
set_option linter.unusedVariables false
set_option linter.unusedSimpArgs false
set_option maxRecDepth 100000
structure FxSm (f : Fx) : Prop where
  r : 0 ≤ f.regs ∧ f.regs ≤ 64
  l : f.ops.length ≤ 2000
  o : ∀ o ∈ f.ops, inO o ∧ isC o.c = true
structure CxSm (c : Cx) : Prop where
  p : PgSm c.p
  tr : ∀ x ∈ c.p.recs, ∀ t ∈ x.2.types, inT t
  tm : ∀ m ∈ c.p.maps, inT m.key ∧ inT m.val
  tf : ∀ x ∈ c.p.funcs, (∀ t ∈ x.2.params, inT t) ∧ inT x.2.res
  te : ∀ x ∈ c.p.events, (∀ t ∈ x.2.params, inT t) ∧ inT x.2.res
  il : c.ints ≤ 1000
  tl : c.texts.length ≤ 1000
  ts : ∀ t ∈ c.texts, t.size ≤ 64
  fl : c.funcs.length = c.p.funcs.length
  el : c.events.length = c.p.events.length
  f : ∀ f ∈ c.funcs, FxSm f
  e : ∀ f ∈ c.events, FxSm f
theorem inR_sm {x : Int} (h : -1 ≤ x ∧ x ≤ 1000000) : inR x := ⟨by omega, by omega⟩
theorem simB_in {t : TyP} (h : simB t = true) : inT t := by
  unfold simB at h
  simp only [Bool.and_eq_true, Bool.or_eq_true, decide_eq_true_eq] at h
  exact ⟨inR_sm (by omega), inR_sm (by omega)⟩
theorem typB_in {n : Nat} (hn : n ≤ 16) {t : TyP} (h : typB n t = true) : inT t := by
  unfold typB at h
  split at h
  · simp only [Bool.and_eq_true, decide_eq_true_eq] at h
    exact ⟨inR_sm (by omega), inR_sm (by omega)⟩
  · exact simB_in h
theorem keyB_in {t : TyP} (h : keyB t = true) : inT t := by
  unfold keyB at h
  simp only [Bool.and_eq_true, Bool.or_eq_true, decide_eq_true_eq] at h
  exact ⟨inR_sm (by omega), inR_sm (by omega)⟩
theorem noneB_in {t : TyP} (h : noneB t = true) : inT t := by
  unfold noneB at h
  simp only [Bool.and_eq_true, decide_eq_true_eq] at h
  exact ⟨inR_sm (by omega), inR_sm (by omega)⟩
theorem sigs_in {n : Nat} (hn : n ≤ 16) {l : List (GH × Sg)} (h : sigsB n (l.map (·.2)) = true) : ∀ x ∈ l, (∀ t ∈ x.2.params, inT t) ∧ inT x.2.res := fun x hx => by
  unfold sigsB at h
  simp only [Bool.and_eq_true, decide_eq_true_eq, List.length_map] at h
  have h2 := List.all_eq_true.1 h.1.2 x.2 (List.mem_map.2 ⟨x, hx, rfl⟩)
  unfold sigB at h2
  simp only [Bool.and_eq_true, Bool.or_eq_true, decide_eq_true_eq] at h2
  exact ⟨fun t ht => typB_in hn (List.all_eq_true.1 h2.2 t ht), h2.1.2.elim noneB_in (typB_in hn)⟩
theorem rowLen_nn (r : Int) (p : Pg) (k : Int) : 0 ≤ (rowLen r p k).1 := by
  unfold rowLen parmB
  repeat' split
  all_goals (try simp)
  all_goals omega
theorem bnd_bounds {c : Cx} {regs : Int} {nops : Nat} (hr : 0 ≤ regs ∧ regs ≤ 64) (hn : nops ≤ 2000) (hi : c.ints ≤ 1000) (ht : c.texts.length ≤ 1000) (hp : PgSm c.p) (r : Int) {len : Int} (hl : 0 ≤ len) : -1 ≤ (bnd c regs nops r len).1 ∧ (bnd c regs nops r len).2 ≤ 2000 := by
  have h1 := hp.rl
  have h2 := hp.ml
  have h3 := hp.fl
  have h4 := hp.el
  obtain ⟨q, hq⟩ : ∃ q, q = bnd c regs nops r len := ⟨_, rfl⟩
  rw [← hq]
  unfold bnd at hq
  by_cases r1 : r = 1 ∨ r = 3
  · rw [if_pos r1] at hq; subst hq; simp only; omega
  rw [if_neg r1] at hq
  by_cases r2 : r = 2 ∨ r = 4
  · rw [if_pos r2] at hq; subst hq; simp only; omega
  rw [if_neg r2] at hq
  by_cases r5 : r = 5
  · rw [if_pos r5] at hq; subst hq; simp only; omega
  rw [if_neg r5] at hq
  by_cases r6 : r = 6
  · rw [if_pos r6] at hq; subst hq; simp only; omega
  rw [if_neg r6] at hq
  by_cases r7 : r = 7
  · rw [if_pos r7] at hq; subst hq; simp only; omega
  rw [if_neg r7] at hq
  by_cases r8 : r = 8
  · rw [if_pos r8] at hq; subst hq; simp only; omega
  rw [if_neg r8] at hq
  by_cases r9 : r = 9
  · rw [if_pos r9] at hq; subst hq; simp only; omega
  rw [if_neg r9] at hq
  by_cases r10 : r = 10
  · rw [if_pos r10] at hq; subst hq; simp only; omega
  rw [if_neg r10] at hq
  by_cases r11 : r = 11
  · rw [if_pos r11] at hq; subst hq; simp only; omega
  rw [if_neg r11] at hq
  by_cases r12 : r = 12
  · rw [if_pos r12] at hq; subst hq; simp only; omega
  rw [if_neg r12] at hq
  by_cases r13 : r = 13
  · rw [if_pos r13] at hq; subst hq; simp only; omega
  rw [if_neg r13] at hq
  by_cases r14 : r = 14
  · rw [if_pos r14] at hq; subst hq; simp only; omega
  rw [if_neg r14] at hq
  subst hq; simp only; omega
theorem bnd_in {c : Cx} {regs : Int} {nops : Nat} (hr : 0 ≤ regs ∧ regs ≤ 64) (hn : nops ≤ 2000) (hi : c.ints ≤ 1000) (ht : c.texts.length ≤ 1000) (hp : PgSm c.p) {r len x : Int} (hl : 0 ≤ len) (h : inB (bnd c regs nops r len) x = true) : inR x := by
  obtain ⟨h1, h2⟩ := bnd_bounds hr hn hi ht hp r hl
  refine inR_sm ?_
  unfold inB at h
  simp only [Bool.not_eq_true', Bool.or_eq_false_iff, decide_eq_false_iff_not] at h
  omega
theorem fn_sm {c : Cx} (hi : c.ints ≤ 1000) (ht : c.texts.length ≤ 1000) (hp : PgSm c.p) {n : Nat} {f : Fx} (h : isFnB c n f = true) : FxSm f := by
  unfold isFnB at h
  simp only [Bool.and_eq_true, Bool.not_eq_true', Bool.or_eq_false_iff, decide_eq_false_iff_not] at h
  obtain ⟨⟨⟨⟨h1, h2⟩, h3⟩, h4⟩, h5⟩ := h
  have hr : 0 ≤ f.regs ∧ f.regs ≤ 64 := by omega
  refine ⟨hr, by omega, fun o ho => ?_⟩
  have h6 := List.all_eq_true.1 h5 o ho
  unfold isOpB at h6
  simp only [Bool.and_eq_true] at h6
  obtain ⟨hc, ⟨⟨hd, ha⟩, hb⟩, hk⟩ := h6
  have hl := rowLen_nn (shpAt o.c).k c.p o.k
  have hcc : inR o.c := by
    unfold isC at hc
    simp only [Bool.and_eq_true, decide_eq_true_eq] at hc
    exact inR_sm (by omega)
  exact ⟨⟨hcc, bnd_in hr (by omega) hi ht hp hl hd, bnd_in hr (by omega) hi ht hp hl ha, bnd_in hr (by omega) hi ht hp hl hb, bnd_in hr (by omega) hi ht hp hl hk⟩, hc⟩
theorem fns_sm {c : Cx} (hi : c.ints ≤ 1000) (ht : c.texts.length ≤ 1000) (hp : PgSm c.p) {ss : List Sg} {fs : List Fx} (hl : fs.length = ss.length) (h : isFnsB c ss fs = true) : ∀ f ∈ fs, FxSm f := fun f hf => by
  obtain ⟨i, hi2, rfl⟩ := List.mem_iff_getElem.1 hf
  have hz : (ss[i]'(by omega), fs[i]) ∈ ss.zip fs := List.mem_iff_getElem.2 ⟨i, by rw [List.length_zip]; omega, List.getElem_zip⟩
  unfold isFnsB at h
  have h1 := List.all_eq_true.1 h _ hz
  exact fn_sm (n := (ss[i]'(by omega)).params.length) hi ht hp h1
theorem is_sm {c : Cx} (h : isB c = true) : CxSm c := by
  unfold isB at h
  simp only [Bool.and_eq_true, decide_eq_true_eq] at h
  obtain ⟨⟨⟨⟨⟨h1, h2⟩, h3⟩, h4⟩, h5⟩, h6⟩ := h
  have sm := right_sm h1
  unfold constB at h2
  simp only [Bool.and_eq_true, decide_eq_true_eq] at h2
  unfold rightB at h1
  simp only [Bool.and_eq_true] at h1
  obtain ⟨⟨⟨⟨r1, r2⟩, r3⟩, r4⟩, _⟩ := h1
  unfold recordsB at r1
  simp only [Bool.and_eq_true, decide_eq_true_eq, List.length_map] at r1
  unfold mapsB at r2
  simp only [Bool.and_eq_true, decide_eq_true_eq] at r2
  have hrn : c.p.rn ≤ 16 := sm.rl
  refine ⟨sm, fun x hx t ht => ?_, fun m hm => ?_, sigs_in hrn r3, sigs_in hrn r4, h2.1.1, h2.1.2, fun t ht => of_decide_eq_true (List.all_eq_true.1 h2.2 t ht), h3, h4, fns_sm h2.1.1 h2.1.2 sm (by rw [List.length_map]; exact h3) h5, fns_sm h2.1.1 h2.1.2 sm (by rw [List.length_map]; exact h4) h6⟩
  · have q := List.all_eq_true.1 r1.1.2 x.2 (List.mem_map.2 ⟨x, hx, rfl⟩)
    unfold fieldsB at q
    simp only [Bool.and_eq_true] at q
    exact simB_in (List.all_eq_true.1 q.1.2 t ht)
  · have q := List.all_eq_true.1 r2.1.2 m hm
    unfold mapB at q
    simp only [Bool.and_eq_true] at q
    exact ⟨keyB_in q.1, typB_in hrn q.2⟩
/- What code is as bytes. -/
def encRcs (rs : List Rc) : List Nat := enc rs.length ++ (rs.map encRc).flatten
def encMps (ms : List Mp) : List Nat := enc ms.length ++ (ms.map encMp).flatten
def encSgs (ss : List Sg) : List Nat := enc ss.length ++ (ss.map encSg).flatten
def encZ1 (x : Int) : List Nat := enc (zz x)
def encIns (xs : List Int) : List Nat := enc xs.length ++ (xs.map encZ1).flatten
def encOps (os : List Opx) : List Nat := enc os.length ++ (os.map encOp).flatten
def encFx (f : Fx) : List Nat := enc (zz f.regs) ++ encOps f.ops
def encP (c : Cx) (xs : List Int) : List Nat := encRcs (c.p.recs.map (·.2)) ++ encMps c.p.maps ++ encSgs (c.p.funcs.map (·.2)) ++ encSgs (c.p.events.map (·.2)) ++ encIns xs ++ encSs c.texts
def encC (c : Cx) (xs : List Int) : List Nat := encP c xs ++ ((c.funcs ++ c.events).map encFx).flatten
theorem flat_le {α : Type} {f : α → List Nat} {K : Nat} : ∀ {l : List α}, (∀ x ∈ l, (f x).length ≤ K) → ((l.map f).flatten).length ≤ K * l.length
  | [], _ => by simp
  | x :: r, h => by
    have h1 := flat_le (l := r) (fun y hy => h y (List.mem_cons_of_mem _ hy))
    have h2 := h x (List.mem_cons_self ..)
    simp only [List.map_cons, List.flatten_cons, List.length_append, List.length_cons, Nat.mul_add, Nat.mul_one]
    omega
theorem encX_le {s : ByteArray} {n : Nat} (h : s.size ≤ n) (hn : n ≤ 1000000) : (encX s).length ≤ 10 + n := by
  unfold encX; rw [List.length_append, sb_length]; have := enc_le s.size (by omega); omega
theorem encTy_le {t : TyP} (h : inT t) : (encTy t).length ≤ 20 := by
  unfold encTy; rw [List.length_append]; have := enc_zz_le _ h.1; have := enc_zz_le _ h.2; omega
theorem encTys_le {ts : List TyP} (h : ∀ t ∈ ts, inT t) (hl : ts.length ≤ 12) : (encTys ts).length ≤ 250 := by
  unfold encTys; rw [List.length_append]
  have h1 := enc_le ts.length (by omega)
  have h2 := flat_le (K := 20) (l := ts) (f := encTy) (fun t ht => encTy_le (h t ht))
  have : 20 * ts.length ≤ 240 := by omega
  omega
theorem encSs_le {ss : List ByteArray} {n m : Nat} (h : ∀ s ∈ ss, s.size ≤ n) (hn : n ≤ 64) (hl : ss.length ≤ m) (hm : m ≤ 1000) : (encSs ss).length ≤ 10 + 74 * m := by
  unfold encSs; rw [List.length_append]
  have h1 := enc_le ss.length (by omega)
  have h2 := flat_le (K := 74) (l := ss) (f := encX) (fun t ht => by have := encX_le (h t ht) (by omega); omega)
  have : 74 * ss.length ≤ 74 * m := Nat.mul_le_mul_left _ hl
  omega
theorem encRc_le {r : Rc} (h : RcSm r) (ht : ∀ t ∈ r.types, inT t) : (encRc r).length ≤ 1200 := by
  unfold encRc
  simp only [List.length_append]
  have h1 := encX_le h.nm (by omega)
  have h2 := encSs_le (m := 12) h.fs (by omega) h.fl (by omega)
  have h3 := encTys_le ht h.tl
  omega
theorem encMp_le {m : Mp} (h : m.name.size ≤ 20) (ht : inT m.key ∧ inT m.val) : (encMp m).length ≤ 100 := by
  unfold encMp
  simp only [List.length_append]
  have h1 := encX_le h (by omega)
  have h2 := encTy_le ht.1
  have h3 := encTy_le ht.2
  omega
theorem encSg_le {s : Sg} (h : s.name.size ≤ 20 ∧ s.params.length ≤ 12) (ht : (∀ t ∈ s.params, inT t) ∧ inT s.res) : (encSg s).length ≤ 400 := by
  unfold encSg
  simp only [List.length_append]
  have h1 := encX_le h.1 (by omega)
  have h2 := encTys_le ht.1 h.2
  have h3 := encTy_le ht.2
  omega
theorem encOp_le {o : Opx} (h : inO o) : (encOp o).length ≤ 50 := by
  unfold encOp
  rw [List.length_append]
  have h1 := enc_zz_le _ h.c
  have h2 := flat10 (foe_le h (shpAt o.c)) fourL
  have : fourL.length = 4 := rfl
  omega
theorem encFx_le {f : Fx} (h : FxSm f) : (encFx f).length ≤ 100100 := by
  unfold encFx encOps
  simp only [List.length_append]
  have h1 := enc_zz_le f.regs (inR_sm (by have := h.r; omega))
  have h2 := enc_le f.ops.length (by have := h.l; omega)
  have h3 := flat_le (K := 50) (l := f.ops) (f := encOp) (fun o ho => encOp_le (h.o o ho).1)
  have := h.l
  omega
theorem cnt_le {α : Type} {f : α → List Nat} {K m : Nat} {l : List α} (h : ∀ x ∈ l, (f x).length ≤ K) (hl : l.length ≤ m) (hm : m ≤ 1000) : (enc l.length ++ (l.map f).flatten).length ≤ 10 + K * m := by
  rw [List.length_append]
  have h1 := enc_le l.length (by omega)
  have h2 := flat_le h
  have : K * l.length ≤ K * m := Nat.mul_le_mul_left _ hl
  omega
theorem encC_le {c : Cx} (h : CxSm c) {xs : List Int} (hx : xs.length = c.ints) (hi : ∀ x ∈ xs, inR x) : (encC c xs).length ≤ 10000000 := by
  have h1 : (encRcs (c.p.recs.map (·.2))).length ≤ 10 + 1200 * 16 := cnt_le (fun r hr => by obtain ⟨x, hx, rfl⟩ := List.mem_map.1 hr; exact encRc_le (h.p.r x hx) (h.tr x hx)) (by rw [List.length_map]; exact h.p.rl) (by omega)
  have h2 : (encMps c.p.maps).length ≤ 10 + 100 * 16 := cnt_le (fun m hm => encMp_le (h.p.m m hm) (h.tm m hm)) h.p.ml (by omega)
  have h3 : (encSgs (c.p.funcs.map (·.2))).length ≤ 10 + 400 * 16 := cnt_le (fun r hr => by obtain ⟨x, hx, rfl⟩ := List.mem_map.1 hr; exact encSg_le (h.p.f x hx) (h.tf x hx)) (by rw [List.length_map]; exact h.p.fl) (by omega)
  have h4 : (encSgs (c.p.events.map (·.2))).length ≤ 10 + 400 * 16 := cnt_le (fun r hr => by obtain ⟨x, hx, rfl⟩ := List.mem_map.1 hr; exact encSg_le (h.p.e x hx) (h.te x hx)) (by rw [List.length_map]; exact h.p.el) (by omega)
  have h5 : (encIns xs).length ≤ 10 + 10 * 1000 := cnt_le (fun x hx => enc_zz_le x (hi x hx)) (by rw [hx]; exact h.il) (by omega)
  have h6 := encSs_le (m := 1000) h.ts (by omega) h.tl (by omega)
  have h7 := flat_le (K := 100100) (l := c.funcs ++ c.events) (f := encFx) (fun f hf => (List.mem_append.1 hf).elim (fun q => encFx_le (h.f f q)) (fun q => encFx_le (h.e f q)))
  have h8 : (c.funcs ++ c.events).length ≤ 32 := by rw [List.length_append, h.fl, h.el]; have := h.p.fl; have := h.p.el; omega
  unfold encC encP
  simp only [List.length_append] at h7 h8 ⊢
  have : 100100 * (c.funcs.length + c.events.length) ≤ 100100 * 32 := Nat.mul_le_mul_left _ h8
  omega
/- The lists of a program. -/
theorem ORd.crd {w : World} {a : Option Addr} {l : List Opx} (h : ORd w a l) : CRd w a 5 (l.map fun o => o.cs.toList) := fun j r e => by
  rw [List.getElem?_map] at e
  obtain ⟨o, ho, rfl⟩ := Option.map_eq_some_iff.1 e
  obtain ⟨b, off, e1, hc⟩ := h j o ho
  have h0 := hc 0 (by omega)
  refine ⟨b, off, e1, World.block_lt_of_cell? w ⟨b, off + j * 5 + 0, none⟩ (u := .int .i64 o.c) (by rw [h0]; rfl), fun i hi => ?_⟩
  rw [hc i hi]
  simp
theorem appRcs_any (w0 w : World) (v : Value) (xs : List Nat) (a : Option Addr) (n cap : Nat) (l : List (RH × Rc)) (hw : Below w0.heap.size w0 w) (h : Row w w0.heap.size v xs) (d : RRd w0 a n l) (hn : n ≤ 1000000) (hl : (xs ++ encRcs (l.map (·.2))).length ≤ 100000000) (hs : ∀ x ∈ l, RcSm x.2) (ht : ∀ x ∈ l, ∀ t ∈ x.2.types, inT t) :
    Calls Tryz.prog 18 #[v, .slice a n cap, .func (.func 19) #[] #[]] w (ApP w w0.heap.size v (xs ++ encRcs (l.map (·.2)))) := by
  have e : encRcs (l.map (·.2)) = enc n ++ (l.map fun x => encRc x.2).flatten := by unfold encRcs; rw [List.length_map, d.n1, List.map_map]; rfl
  rw [e, ← List.append_assoc] at hl ⊢
  refine appRecords_any w0 w v xs a n cap l (fun x => encRc x.2) hw h d.n1 hn d.rd hl (fun V u ys x hx hV hu hy => ?_)
  have rd := d.el x hx
  have sm := hs x hx
  have := appRecord_x w0 V u ys x.1.name x.1.fa x.1.fn x.1.fc x.2.fields x.1.ta x.1.tn x.1.tc x.2.types hV hu (by rw [rd.nm]; exact hy) (by rw [rd.nm]; have := sm.nm; omega) rd.fn (by rw [rd.fn]; have := sm.fl; omega) rd.fr (fun s hs => by have := sm.fs s hs; omega) rd.tn (by rw [rd.tn]; have := sm.tl; omega) rd.tr (ht x hx)
  rw [show (encX x.1.name ++ encSs x.2.fields ++ encTys x.2.types) = encRc x.2 from by rw [rd.nm]; rfl] at this
  exact this
theorem appMps_any (w0 w : World) (v : Value) (xs : List Nat) (a : Option Addr) (n cap : Nat) (l : List Mp) (hw : Below w0.heap.size w0 w) (h : Row w w0.heap.size v xs) (d : MRd w0 a n l) (hn : n ≤ 1000000) (hl : (xs ++ encMps l).length ≤ 100000000) (hs : ∀ x ∈ l, x.name.size ≤ 20) (ht : ∀ x ∈ l, inT x.key ∧ inT x.val) :
    Calls Tryz.prog 20 #[v, .slice a n cap, .func (.func 21) #[] #[]] w (ApP w w0.heap.size v (xs ++ encMps l)) := by
  have e : encMps l = enc n ++ (l.map encMp).flatten := by unfold encMps; rw [d.n1]
  rw [e, ← List.append_assoc] at hl ⊢
  exact appMaps_any w0 w v xs a n cap l encMp hw h d.n1 hn d.rd hl (fun V u ys x hx hV hu hy => appMap_x w0 V u ys x.name x.key.1 x.key.2 x.val.1 x.val.2 hV hu hy (by have := hs x hx; omega) (ht x hx).1 (ht x hx).2)
theorem appSgs_any (w0 w : World) (v : Value) (xs : List Nat) (a : Option Addr) (n cap : Nat) (l : List (GH × Sg)) (hw : Below w0.heap.size w0 w) (h : Row w w0.heap.size v xs) (d : GRd w0 a n l) (hn : n ≤ 1000000) (hl : (xs ++ encSgs (l.map (·.2))).length ≤ 100000000) (hs : ∀ x ∈ l, x.2.name.size ≤ 20 ∧ x.2.params.length ≤ 12) (ht : ∀ x ∈ l, (∀ t ∈ x.2.params, inT t) ∧ inT x.2.res) :
    Calls Tryz.prog 22 #[v, .slice a n cap, .func (.func 23) #[] #[]] w (ApP w w0.heap.size v (xs ++ encSgs (l.map (·.2)))) := by
  have e : encSgs (l.map (·.2)) = enc n ++ (l.map fun x => encSg x.2).flatten := by unfold encSgs; rw [List.length_map, d.n1, List.map_map]; rfl
  rw [e, ← List.append_assoc] at hl ⊢
  refine appSigs_any w0 w v xs a n cap l (fun x => encSg x.2) hw h d.n1 hn d.rd hl (fun V u ys x hx hV hu hy => ?_)
  have rd := d.el x hx
  have sm := hs x hx
  have er : (x.1.k, x.1.r) = x.2.res := rd.rs
  have := appSig_x w0 V u ys x.1.name x.1.pa x.1.pn x.1.pc x.2.params x.1.k x.1.r hV hu (by rw [rd.nm, er]; exact hy) (by rw [rd.nm]; have := sm.1; omega) rd.pn (by rw [rd.pn]; have := sm.2; omega) rd.pr (ht x hx).1 (by rw [er]; exact (ht x hx).2)
  rw [show (encX x.1.name ++ encTys x.2.params ++ encTy (x.1.k, x.1.r)) = encSg x.2 from by rw [rd.nm, er]; rfl] at this
  exact this
theorem appIns_any (w0 w : World) (v : Value) (xs : List Nat) (a : Option Addr) (n cap : Nat) (l : List Int) (hw : Below w0.heap.size w0 w) (h : Row w w0.heap.size v xs) (hn1 : n = l.length) (d : JRd w0 a l) (hn : n ≤ 1000000) (hl : (xs ++ encIns l).length ≤ 100000000) (ht : ∀ x ∈ l, inR x) :
    Calls Tryz.prog 24 #[v, .slice a n cap, .func (.func 25) #[] #[]] w (ApP w w0.heap.size v (xs ++ encIns l)) := by
  have e : encIns l = enc n ++ (l.map encZ1).flatten := by unfold encIns; rw [hn1]
  rw [e, ← List.append_assoc] at hl ⊢
  exact appInts_any w0 w v xs a n cap l encZ1 hw h hn1 hn d hl (fun V u ys x hx hV hu hy => appInt_any V w0.heap.size u ys x hu hV.size (by rw [List.length_append] at hy; omega) (ht x hx))
theorem appOs_any (SO : ShapeC) (w0 w : World) (v : Value) (xs : List Nat) (a : Option Addr) (n cap : Nat) (l : List Opx) (hw : Below w0.heap.size w0 w) (h : Row w w0.heap.size v xs) (hn1 : n = l.length) (d : ORd w0 a l) (hn : n ≤ 1000000) (hl : (xs ++ encOps l).length ≤ 100000000) (ht : ∀ o ∈ l, inO o ∧ isC o.c = true) :
    Calls Tryz.prog 29 #[v, .slice a n cap, .func (.func 31) #[] #[]] w (ApP w w0.heap.size v (xs ++ encOps l)) := by
  have e : encOps l = enc n ++ (l.map encOp).flatten := by unfold encOps; rw [hn1]
  rw [e, ← List.append_assoc] at hl ⊢
  exact appOps_any w0 w v xs a n cap l encOp hw h hn1 hn d.crd hl (fun V u ys x hx hV hu hy => appOp_any SO V w0.heap.size u ys x hu hV.size (by rw [List.length_append] at hy; omega) (ht x hx).1 (ht x hx).2)
end Go.Proofs.YthnolocldeokeaaGreatDoor

namespace Go.Proofs.YthnolocldeokeaaGreatDoor
open Go.RowKit Go.Deep Go.Shelf
set_option linter.unusedVariables false
set_option linter.unusedSimpArgs false
set_option maxRecDepth 100000
/- What a reader holds: the bytes that are left, or nothing once it has failed; its bytes lie below D. -/
structure Rst (w : World) (R D : Nat) (s : Option (List Nat)) : Prop where
  ex : ∃ (a : Option Addr) (n c : Nat), w.heap[R]? = some (.cells #[.slice a n c, .bool s.isNone] 94 (0, 0)) ∧ Rd w (.slice a n c) (s.getD []) ∧ (∀ k, (Value.slice a n c).ownBlock = some k → k < D ∧ k ≠ R) ∧ (s = none → a = none ∧ n = 0 ∧ c = 0)
  ln : (s.getD []).length ≤ 1000000000
  hR : R < D
  hD : D ≤ w.heap.size
theorem Rst.grown {w w' : World} {R D : Nat} {s : Option (List Nat)} {row : Option Nat} (h : Rst w R D s) (hg : w.grownBy w' row) (hr : ∀ r, row = some r → D ≤ r) : Rst w' R D s := by
  obtain ⟨⟨a, n, c, h1, h2, h3, h4⟩, h5, h6, h7⟩ := h
  have hk : ∀ k, k < D → w'.heap[k]? = w.heap[k]? := fun k hk => hg.block k (by omega) (fun e => by have := hr k e.symm; omega)
  exact ⟨⟨a, n, c, (hk R h6).trans h1, h2.same fun k e _ => hk k (h3 k e).1, h3, h4⟩, h5, h6, Nat.le_trans h7 hg.size⟩
theorem bgrown {w w' : World} (h : Below w.heap.size w w') (row : Option Nat) : w.grownBy w' row := ⟨h.os, h.tape, h.output, h.size, fun k hk _ => h.block k hk⟩
theorem Rst.below {w w' : World} {R D : Nat} {s : Option (List Nat)} (h : Rst w R D s) (k : Below w.heap.size w w') : Rst w' R D s := h.grown (bgrown k none) (fun r e => by cases e)
theorem grown_set (w : World) (R i : Nat) (v : Value) : w.grownBy (w.setCell ⟨R, i, none⟩ v) (some R) := ⟨rfl, rfl, rfl, by simp, fun k _ hne => Below.heap_setCell _ ⟨R, i, none⟩ _ _ (show k ≠ R from fun e => hne (by rw [e]))⟩
theorem gtrans {w w1 w2 : World} {row : Option Nat} (h : w.grownBy w1 row) (k : w1.grownBy w2 row) : w.grownBy w2 row := ⟨k.os.trans h.os, k.tape.trans h.tape, k.output.trans h.output, Nat.le_trans h.size k.size, fun j hj hne => (k.block j (by have := h.size; omega) hne).trans (h.block j hj hne)⟩
theorem gbelow {w w1 w2 : World} {row : Option Nat} (h : w.grownBy w1 row) (k : Below w1.heap.size w1 w2) : w.grownBy w2 row := gtrans h (bgrown k row)
/- What a reader's function answers. -/
def RdP (w : World) (R D : Nat) (v : Value) (s : Option (List Nat)) (e : Ending) (w' : World) : Prop := e = .returned v ∧ Rst w' R D s ∧ w.grownBy w' (some R)
set_option maxHeartbeats 1000000 in
theorem fail_any (w : World) (R D : Nat) (s : Option (List Nat)) (h : Rst w R D s) : Calls Tryz.prog 82 #[.pointer (some ⟨R, 0, none⟩)] w fun e w' => (∃ r, e = .returned r) ∧ Rst w' R D none ∧ w.grownBy w' (some R) := by
  obtain ⟨⟨a, n, c, h1, h2, h3, h4⟩, h5, h6, h7⟩ := h
  have c0 := cellOf h1 0
  have c1 := cellOf h1 1
  have f0 := freeOf h1 0
  have f1 := freeOf h1 1
  simp only [List.getElem?_toArray, List.getElem?_cons_zero, List.getElem?_cons_succ] at c0 c1
  have FIN : Hid (Rst ((w.setCell ⟨R, 0, none⟩ (.slice none 0 0)).setCell ⟨R, 1, none⟩ (.bool true)) R D none ∧ w.grownBy ((w.setCell ⟨R, 0, none⟩ (.slice none 0 0)).setCell ⟨R, 1, none⟩ (.bool true)) (some R)) := hid (by
    have k1 := heap_set_at h1 0 (.slice none 0 0)
    simp only [List.setIfInBounds_toArray, List.set_cons_zero, List.set_cons_succ] at k1
    have k2 := heap_set_at k1 1 (.bool true)
    simp only [List.setIfInBounds_toArray, List.set_cons_zero, List.set_cons_succ] at k2
    exact ⟨⟨⟨none, 0, 0, k2, Rd.nil _, (fun k e => by cases e), fun _ => ⟨rfl, rfl, rfl⟩⟩, by simp, h6, by simpa using h7⟩, gtrans (grown_set w R 0 _) (grown_set _ R 1 _)⟩)
  clear h1 h2 h3 h4 h5 h6 h7
  go_enter Tryz.func82, Tryz.ntmps82
  go_wp2
  exact ⟨rfl, .tuple #[], by simp [results, Tryz.results82, go_sem], ⟨_, rfl⟩, FIN.out⟩
theorem Rst.set {w : World} {R D : Nat} {bs : List Nat} {a a' : Option Addr} {n c n' c' k : Nat} (h1 : w.heap[R]? = some (.cells #[.slice a n c, .bool false] 94 (0, 0))) (hR : R < D) (hD : D ≤ w.heap.size) (hl : bs.length ≤ 1000000000) (h2 : Rd w (.slice a' n' c') (bs.drop k)) (h3 : ∀ g, (Value.slice a' n' c').ownBlock = some g → g < D ∧ g ≠ R) : Rst (w.setCell ⟨R, 0, none⟩ (.slice a' n' c')) R D (some (bs.drop k)) := by
  have k1 := heap_set_at h1 0 (.slice a' n' c')
  simp only [List.setIfInBounds_toArray, List.set_cons_zero, List.set_cons_succ] at k1
  exact ⟨⟨a', n', c', k1, h2.same fun g e _ => Below.heap_setCell _ ⟨R, 0, none⟩ _ _ (show g ≠ R from (h3 g e).2), h3, fun e => by cases e⟩, by simp; omega, hR, by simpa using hD⟩
theorem Rd.slA {w : World} {a : Option Addr} {k n : Nat} {bs : List Nat} (h : Rd w (.slice a n k) bs) : Rd w (.slice a 0 0) (bs.drop k) := by
  obtain ⟨a', _, e, hc, hb, _⟩ := h
  cases e
  rw [List.drop_of_length_le hc]
  exact ⟨a, 0, rfl, Nat.le_refl _, (fun x hx => by cases hx), fun j x h => by simp at h⟩
theorem Rd.slB {w : World} {a : Option Addr} {k cap n : Nat} {bs : List Nat} (h : Rd w (.slice a n cap) bs) (hk : k ≤ bs.length) (hc : ¬ cap = k) : Rd w (.slice (Option.map (fun x => x.add k) a) (n - k) (cap - k)) (bs.drop k) := by
  have := h.from k hk
  unfold sliced at this
  rw [if_neg hc, Nat.mul_one] at this
  exact this
theorem own_map {a : Option Addr} {n c n' c' k g : Nat} (h : (Value.slice (Option.map (fun x => x.add k) a) n' c').ownBlock = some g) : (Value.slice a n c).ownBlock = some g := by
  cases a with
  | none => cases h
  | some ad =>
    obtain ⟨b, off, sp⟩ := ad
    unfold Value.ownBlock at h ⊢
    simp only [Option.map_some] at h ⊢
    unfold Addr.add at h
    split at h <;> exact h
theorem text_err {bs : List Nat} {er : Nat} (h : textD 64 bs = .error er) : er = 20 ∨ er = 21 := by
  unfold textD at h
  split at h
  · cases h; exact .inl rfl
  · split at h
    · cases h; exact .inr rfl
    · split at h
      · cases h; exact .inl rfl
      · cases h
def rU (s : Option (List Nat)) : Nat × Option (List Nat) := match dec (s.getD []) with
  | none => (0, none)
  | some (m, k) => (m, some ((s.getD []).drop k))
def rI (s : Option (List Nat)) : Int × Option (List Nat) := match dec (s.getD []) with
  | none => (0, none)
  | some (m, k) => (unzz m, some ((s.getD []).drop k))
def rT (s : Option (List Nat)) : ByteArray × Option (List Nat) := match textD 64 (s.getD []) with
  | .error _ => (ByteArray.empty, none)
  | .ok (t, k) => (ofB t, some ((s.getD []).drop k))
theorem dec_none_state {s : Option (List Nat)} {m k : Nat} (h : dec (s.getD []) = some (m, k)) : s = some (s.getD []) := by
  cases s with
  | none => simp [dec, decAt] at h
  | some bs => rfl
theorem text_some_state {s : Option (List Nat)} {t : List Nat} {k : Nat} (h : textD 64 (s.getD []) = .ok (t, k)) : s = some (s.getD []) ∧ k ≤ (s.getD []).length := by
  unfold textD at h
  split at h
  · cases h
  · rename_i n k' hd
    refine ⟨dec_none_state hd, ?_⟩
    split at h
    · cases h
    · split at h
      · cases h
      · cases h; omega
set_option maxHeartbeats 2000000 in
theorem readOneU_any (w : World) (R D : Nat) (s : Option (List Nat)) (h : Rst w R D s) : Calls Tryz.prog 80 #[.pointer (some ⟨R, 0, none⟩), .func (.func 81) #[] #[]] w (RdP w R D (.int .u64 ((rU s).1 : Int)) (rU s).2) := by
  have KFl := hid (fail_any w R D s h)
  obtain ⟨⟨a, n, c, h1, h2, h3, h4⟩, h5, h6, h7⟩ := h
  have c0 := cellOf h1 0
  have f0 := freeOf h1 0
  simp only [List.getElem?_toArray, List.getElem?_cons_zero, List.getElem?_cons_succ] at c0
  have K := uint_any w (.slice a n c) (s.getD []) h2 (by omega)
  cases hd : dec (s.getD []) with
  | none =>
    rw [hd] at K
    simp only [uintV] at K
    have K := hid K
    have HR : Hid (rU s = (0, none)) := hid (by simp [rU, hd])
    rw [HR.out]
    clear h1 h2 h3 h4 h5 h6 h7 hd
    go_enter Tryz.func80, Tryz.ntmps80
    go_wp2_with (first
      | (go_at_call 81; (refine (Hid.out K).mono ?_; rintro e w1 ⟨rfl, rfl⟩))
      | (go_at_call 82; (refine (Hid.out KFl).mono ?_; rintro e w2 ⟨⟨r2, rfl⟩, hs2, hg2⟩; have HS := hid hs2; have HG := hid hg2; clear hs2 hg2)))
    go_ret
    exact ⟨rfl, HS.out, HG.out⟩
  | some mk =>
    obtain ⟨m, k⟩ := mk
    have hst := dec_none_state hd
    have hkb : k ≤ (s.getD []).length := by obtain ⟨_, _, _, _, hb, _⟩ := h2; exact (dec_back hb hd).2.2.1
    rw [hd] at K
    simp only [uintV] at K
    have K := hid K
    have hnl : n = (s.getD []).length := by obtain ⟨_, _, e, _⟩ := h2; cases e; rfl
    have hnc : n ≤ c := by obtain ⟨_, _, e, hq, _⟩ := h2; cases e; omega
    have hs0 : s.isNone = false := by rw [hst]; rfl
    rw [hs0] at h1
    have HR : Hid (rU s = (m, some ((s.getD []).drop k))) := hid (by simp [rU, hd])
    rw [HR.out]
    have kI : (k : Int) ≤ (n : Int) := by omega
    have k0 : (0 : Int) ≤ (k : Int) := by omega
    have nI : (n : Int) ≤ 1000000000 := by omega
    have ncI : (n : Int) ≤ (c : Int) := by omega
    by_cases hck : c = k
    · have FIN : Hid (Rst (w.setCell ⟨R, 0, none⟩ (.slice a 0 0)) R D (some ((s.getD []).drop k))) := hid (Rst.set h1 h6 h7 h5 (by rw [← hck]; exact Rd.slA h2) (fun g e => h3 g (by cases a with | none => cases e | some ad => exact e)))
      have hnk : n - k = 0 := by omega
      subst hck
      clear h1 h2 h3 h4 h5 h6 h7 hd hkb hnl hst hs0
      go_enter Tryz.func80, Tryz.ntmps80
      go_wp2_with (first
        | (go_at_call 81; (refine (Hid.out K).mono ?_; rintro e w1 ⟨rfl, rfl⟩)))
      go_ret
      exact ⟨rfl, FIN.out, grown_set _ _ _ _⟩
    · have FIN : Hid (Rst (w.setCell ⟨R, 0, none⟩ (.slice (Option.map (fun x => x.add k) a) (n - k) (c - k))) R D (some ((s.getD []).drop k))) := hid (Rst.set h1 h6 h7 h5 (Rd.slB h2 (by omega) hck) (fun g e => h3 g (own_map e)))
      have hckf : (c = k) = False := by simp [hck]
      clear h1 h2 h3 h4 h5 h6 h7 hd hkb hnl hst hs0
      go_enter Tryz.func80, Tryz.ntmps80
      go_wp2_with (first
        | (go_at_call 81; (refine (Hid.out K).mono ?_; rintro e w1 ⟨rfl, rfl⟩)))
      go_ret
      exact ⟨rfl, FIN.out, grown_set _ _ _ _⟩
set_option maxHeartbeats 2000000 in
theorem readOneI_any (w : World) (R D : Nat) (s : Option (List Nat)) (h : Rst w R D s) : Calls Tryz.prog 61 #[.pointer (some ⟨R, 0, none⟩), .func (.func 62) #[] #[]] w (RdP w R D (.int .i64 (rI s).1) (rI s).2) := by
  have KFl := hid (fail_any w R D s h)
  obtain ⟨⟨a, n, c, h1, h2, h3, h4⟩, h5, h6, h7⟩ := h
  have c0 := cellOf h1 0
  have f0 := freeOf h1 0
  simp only [List.getElem?_toArray, List.getElem?_cons_zero, List.getElem?_cons_succ] at c0
  have K := int_any w (.slice a n c) (s.getD []) h2 (by omega)
  cases hd : dec (s.getD []) with
  | none =>
    rw [hd] at K
    simp only [intV] at K
    have K := hid K
    have HR : Hid (rI s = (0, none)) := hid (by simp [rI, hd])
    rw [HR.out]
    clear h1 h2 h3 h4 h5 h6 h7 hd
    go_enter Tryz.func61, Tryz.ntmps61
    go_wp2_with (first
      | (go_at_call 62; (refine (Hid.out K).mono ?_; rintro e w1 ⟨rfl, rfl⟩))
      | (go_at_call 82; (refine (Hid.out KFl).mono ?_; rintro e w2 ⟨⟨r2, rfl⟩, hs2, hg2⟩; have HS := hid hs2; have HG := hid hg2; clear hs2 hg2)))
    go_ret
    exact ⟨rfl, HS.out, HG.out⟩
  | some mk =>
    obtain ⟨m, k⟩ := mk
    have hst := dec_none_state hd
    have hkb : k ≤ (s.getD []).length := by obtain ⟨_, _, _, _, hb, _⟩ := h2; exact (dec_back hb hd).2.2.1
    rw [hd] at K
    simp only [intV] at K
    have K := hid K
    have hnl : n = (s.getD []).length := by obtain ⟨_, _, e, _⟩ := h2; cases e; rfl
    have hnc : n ≤ c := by obtain ⟨_, _, e, hq, _⟩ := h2; cases e; omega
    have hs0 : s.isNone = false := by rw [hst]; rfl
    rw [hs0] at h1
    have HR : Hid (rI s = (unzz m, some ((s.getD []).drop k))) := hid (by simp [rI, hd])
    rw [HR.out]
    have kI : (k : Int) ≤ (n : Int) := by omega
    have k0 : (0 : Int) ≤ (k : Int) := by omega
    have nI : (n : Int) ≤ 1000000000 := by omega
    have ncI : (n : Int) ≤ (c : Int) := by omega
    by_cases hck : c = k
    · have FIN : Hid (Rst (w.setCell ⟨R, 0, none⟩ (.slice a 0 0)) R D (some ((s.getD []).drop k))) := hid (Rst.set h1 h6 h7 h5 (by rw [← hck]; exact Rd.slA h2) (fun g e => h3 g (by cases a with | none => cases e | some ad => exact e)))
      have hnk : n - k = 0 := by omega
      subst hck
      clear h1 h2 h3 h4 h5 h6 h7 hd hkb hnl hst hs0
      go_enter Tryz.func61, Tryz.ntmps61
      go_wp2_with (first
        | (go_at_call 62; (refine (Hid.out K).mono ?_; rintro e w1 ⟨rfl, rfl⟩)))
      go_ret
      exact ⟨rfl, FIN.out, grown_set _ _ _ _⟩
    · have FIN : Hid (Rst (w.setCell ⟨R, 0, none⟩ (.slice (Option.map (fun x => x.add k) a) (n - k) (c - k))) R D (some ((s.getD []).drop k))) := hid (Rst.set h1 h6 h7 h5 (Rd.slB h2 (by omega) hck) (fun g e => h3 g (own_map e)))
      have hckf : (c = k) = False := by simp [hck]
      clear h1 h2 h3 h4 h5 h6 h7 hd hkb hnl hst hs0
      go_enter Tryz.func61, Tryz.ntmps61
      go_wp2_with (first
        | (go_at_call 62; (refine (Hid.out K).mono ?_; rintro e w1 ⟨rfl, rfl⟩)))
      go_ret
      exact ⟨rfl, FIN.out, grown_set _ _ _ _⟩
set_option maxHeartbeats 2000000 in
theorem readOneT_any (w : World) (R D : Nat) (s : Option (List Nat)) (h : Rst w R D s) : Calls Tryz.prog 63 #[.pointer (some ⟨R, 0, none⟩), .func (.func 64) #[] #[]] w (RdP w R D (.string (rT s).1) (rT s).2) := by
  have KFl := hid (fail_any w R D s h)
  obtain ⟨⟨a, n, c, h1, h2, h3, h4⟩, h5, h6, h7⟩ := h
  have c0 := cellOf h1 0
  have f0 := freeOf h1 0
  simp only [List.getElem?_toArray, List.getElem?_cons_zero, List.getElem?_cons_succ] at c0
  have K := text_any w (.slice a n c) (s.getD []) h2 (by omega)
  cases hd : textD 64 (s.getD []) with
  | error er =>
    rw [hd] at K
    simp only [textV] at K
    have K := hid K
    have HR : Hid (rT s = (ByteArray.empty, none)) := hid (by simp [rT, hd])
    rw [HR.out]
    have her : ¬ (er : Int) = 0 := by have := text_err hd; omega
    have hez : ((er : Int) != 0) = true := by simp; omega
    clear h1 h2 h3 h4 h5 h6 h7 hd
    go_enter Tryz.func63, Tryz.ntmps63
    go_wp2_with (first
      | (go_at_call 64; (refine (Hid.out K).mono ?_; rintro e w1 ⟨rfl, rfl⟩))
      | (go_at_call 82; (refine (Hid.out KFl).mono ?_; rintro e w2 ⟨⟨r2, rfl⟩, hs2, hg2⟩; have HS := hid hs2; have HG := hid hg2; clear hs2 hg2)))
    go_ret
    exact ⟨rfl, HS.out, HG.out⟩
  | ok mk =>
    obtain ⟨m, k⟩ := mk
    obtain ⟨hst, hkb⟩ := text_some_state hd
    rw [hd] at K
    simp only [textV] at K
    have K := hid K
    have hnl : n = (s.getD []).length := by obtain ⟨_, _, e, _⟩ := h2; cases e; rfl
    have hnc : n ≤ c := by obtain ⟨_, _, e, hq, _⟩ := h2; cases e; omega
    have hs0 : s.isNone = false := by rw [hst]; rfl
    rw [hs0] at h1
    have HR : Hid (rT s = (ofB m, some ((s.getD []).drop k))) := hid (by simp [rT, hd])
    rw [HR.out]
    have kI : (k : Int) ≤ (n : Int) := by omega
    have k0 : (0 : Int) ≤ (k : Int) := by omega
    have nI : (n : Int) ≤ 1000000000 := by omega
    have ncI : (n : Int) ≤ (c : Int) := by omega
    by_cases hck : c = k
    · have FIN : Hid (Rst (w.setCell ⟨R, 0, none⟩ (.slice a 0 0)) R D (some ((s.getD []).drop k))) := hid (Rst.set h1 h6 h7 h5 (by rw [← hck]; exact Rd.slA h2) (fun g e => h3 g (by cases a with | none => cases e | some ad => exact e)))
      have hnk : n - k = 0 := by omega
      subst hck
      clear h1 h2 h3 h4 h5 h6 h7 hd hkb hnl hst hs0
      go_enter Tryz.func63, Tryz.ntmps63
      go_wp2_with (first
        | (go_at_call 64; (refine (Hid.out K).mono ?_; rintro e w1 ⟨rfl, rfl⟩)))
      go_ret
      exact ⟨rfl, FIN.out, grown_set _ _ _ _⟩
    · have FIN : Hid (Rst (w.setCell ⟨R, 0, none⟩ (.slice (Option.map (fun x => x.add k) a) (n - k) (c - k))) R D (some ((s.getD []).drop k))) := hid (Rst.set h1 h6 h7 h5 (Rd.slB h2 (by omega) hck) (fun g e => h3 g (own_map e)))
      have hckf : (c = k) = False := by simp [hck]
      clear h1 h2 h3 h4 h5 h6 h7 hd hkb hnl hst hs0
      go_enter Tryz.func63, Tryz.ntmps63
      go_wp2_with (first
        | (go_at_call 64; (refine (Hid.out K).mono ?_; rintro e w1 ⟨rfl, rfl⟩)))
      go_ret
      exact ⟨rfl, FIN.out, grown_set _ _ _ _⟩
end Go.Proofs.YthnolocldeokeaaGreatDoor

