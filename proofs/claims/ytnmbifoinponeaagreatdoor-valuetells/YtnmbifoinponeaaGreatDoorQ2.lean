/- A zero is of its type; comparing answers -1, 0 or 1. -/
import Derived.Test.YtnmbifoinponeaaGreatDoorP2
namespace Go.Proofs.YtnmbifoinponeaaGreatDoor
open Go.RowKit Go.Deep Go.Shelf
set_option linter.unusedVariables false
set_option linter.unusedSimpArgs false

theorem orL_bnd : ∀ l : List Int, (∀ x ∈ l, -1 ≤ x ∧ x ≤ 1) → -1 ≤ orL l ∧ orL l ≤ 1
  | [], _ => ⟨by simp [orL], by simp [orL]⟩
  | x :: l, h => by
    unfold orL
    split
    · exact orL_bnd l (fun y hy => h y (by simp [hy]))
    · exact h x (by simp)
theorem ci_bnd (a b : Int) : -1 ≤ ci a b ∧ ci a b ≤ 1 := by unfold ci; split <;> (try split) <;> omega

theorem cmpL_bnd {α : Type} (f : α → α → Int) : ∀ (l m : List α), (∀ a b, -1 ≤ f a b ∧ f a b ≤ 1) → -1 ≤ cmpL f l m ∧ cmpL f l m ≤ 1
  | [], [], _ => ⟨by simp [cmpL], by simp [cmpL]⟩
  | [], _ :: _, _ => ⟨by simp [cmpL], by simp [cmpL]⟩
  | _ :: _, [], _ => ⟨by simp [cmpL], by simp [cmpL]⟩
  | a :: l, b :: m, h => by
    unfold cmpL
    split
    · exact cmpL_bnd f l m h
    · exact h a b
theorem cH_bnd (a b : Hd) : -1 ≤ cH a b ∧ cH a b ≤ 1 := by
  unfold cH
  refine orL_bnd _ (fun x hx => ?_)
  simp only [List.mem_cons, List.mem_nil_iff, or_false] at hx
  rcases hx with rfl | rfl | rfl | rfl
  · exact ci_bnd _ _
  · exact ci_bnd _ _
  · unfold cS; rw [cB_eq]; exact cmpL_bnd _ _ _ (fun a b => ci_bnd _ _)
  · exact ci_bnd _ _
theorem cmpT_bnd : ∀ (k : Nat) (s t : VT k), -1 ≤ cmpT k s t ∧ cmpT k s t ≤ 1
  | 0, _, _ => ⟨by simp [cmpT], by simp [cmpT]⟩
  | k + 1, s, t => by
    unfold cmpT
    split
    · exact cmpL_bnd _ _ _ (cmpT_bnd k)
    · exact cH_bnd _ _

theorem simB_kind {t : TyP} (h : simB t = true) : t.2 = 0 ∧ (t.1 = 1 ∨ t.1 = 2 ∨ t.1 = 3) := by
  unfold simB at h
  simp only [Bool.and_eq_true, Bool.or_eq_true, decide_eq_true_eq] at h
  exact ⟨h.1, by rcases h.2 with (h | h) | h <;> simp [h]⟩
theorem zH_sim {t : TyP} (h : simB t = true) : zH t = ⟨t.1, 0, ⟨#[]⟩, 0, none, 0, 0⟩ := by unfold zH; rw [if_pos h]
theorem zH_simple {t : TyP} (h : simB t = true) : simpleB (zH t) = true := by
  rw [zH_sim h]
  obtain ⟨_, h2⟩ := simB_kind h
  unfold simpleB
  rcases h2 with h | h | h
  · simp [h]; rfl
  · simp [h]; decide
  · simp [h]; rfl
theorem zH_in {t : TyP} (h : simB t = true) : (zH t).In := by
  rw [zH_sim h]
  obtain ⟨_, h2⟩ := simB_kind h
  exact ⟨by show (_ : Int) ≤ 0; omega, by show (0 : Int) ≤ _; omega, by show _ ≤ t.1; omega, by show t.1 ≤ _; omega, by show (_ : Int) ≤ 0; omega, by show (0 : Int) ≤ _; omega, by show (0 : Nat) ≤ _; omega, by show (0 : Nat) ≤ _; omega⟩

theorem right_recs {p : Pg} (h : rightB p = true) : p.recs.length ≤ 16 ∧ ∀ x ∈ p.recs, x.2.fields.length ≤ 12 ∧ x.2.fields.length = x.2.types.length ∧ x.2.types.all simB = true := by
  unfold rightB recordsB at h
  simp only [Bool.and_eq_true, decide_eq_true_eq, List.length_map] at h
  refine ⟨h.1.1.1.1.1.1, fun x hx => ?_⟩
  have h2 := (List.all_eq_true.1 h.1.1.1.1.1.2) x.2 (List.mem_map.2 ⟨x, hx, rfl⟩)
  unfold fieldsB at h2
  simp only [Bool.and_eq_true, decide_eq_true_eq] at h2
  exact ⟨h2.1.1.1.2, h2.1.1.2, h2.1.2⟩

theorem zero_is {p : Pg} {t : TyP} {h : Hd} {zs : List Hd} (hR : rightB p = true) (hT : typB p.rn t = true) (hz : ZeroIs p t h zs) (hn : h.n = zs.length) : isB p t h zs = true ∧ h.In ∧ ∀ f ∈ zs, f.In := by
  obtain ⟨k, r⟩ := t
  obtain ⟨hl, hrec⟩ := right_recs hR
  unfold ZeroIs at hz
  by_cases h4 : k = 4
  · subst h4
    rw [if_pos ⟨rfl, hT⟩] at hz
    obtain ⟨z1, z2, z3, z4, rfl⟩ := hz
    have hr : 0 ≤ r ∧ r < (p.recs.length : Int) := by have h9 := hT; unfold typB Pg.rn at h9; simp only [if_true, Bool.and_eq_true, decide_eq_true_eq] at h9; exact h9
    obtain ⟨pr, hpr⟩ : ∃ pr, p.recs[r.toNat]? = some pr := ⟨p.recs[r.toNat]'(by omega), by rw [List.getElem?_eq_getElem]⟩
    obtain ⟨q1, q2, q3⟩ := hrec pr (List.mem_of_getElem? hpr)
    have hzs : zsOf p r = (List.finRange pr.2.fields.length).map fun i => zH (pr.2.types.getD i.val (0, 0)) := by unfold zsOf; rw [hpr]; rfl
    have hlen : (zsOf p r).length = pr.2.fields.length := by rw [hzs]; simp
    have hn' : h.n = (zsOf p r).length := hn
    have hsim : ∀ i, i < pr.2.fields.length → simB (pr.2.types.getD i (0, 0)) = true := fun i hi => by
      have hi2 : i < pr.2.types.length := by omega
      rw [List.getD_eq_getElem?_getD, List.getElem?_eq_getElem hi2]
      exact (List.all_eq_true.1 q3) _ (List.getElem_mem hi2)
    have hat : ∀ i, i < pr.2.fields.length → (zsOf p r)[i]? = some (zH (pr.2.types.getD i (0, 0))) := fun i hi => by
      rw [hzs, List.getElem?_map, List.getElem?_eq_getElem (by simpa using hi)]; simp
    have hfa : fieldsAre pr.2 (zsOf p r) = true := by
      unfold fieldsAre
      rw [decide_eq_true hlen, Bool.true_and, List.all_eq_true]
      intro i hi
      have hi' := List.mem_range.1 hi
      rw [hat i hi']
      have hs := hsim i hi'
      rw [zH_sim hs]
      obtain ⟨e2, _⟩ := simB_kind hs
      generalize pr.2.types.getD i (0, 0) = tt at *
      obtain ⟨tk, tr⟩ := tt
      simp only at e2
      subst e2
      simp
    have hmem : ∀ f ∈ zsOf p r, simpleB f = true ∧ f.In := fun f hf => by
      obtain ⟨i, hi⟩ := List.getElem?_of_mem hf
      have hlt : i < pr.2.fields.length := by have := (List.getElem?_eq_some_iff.1 hi).1; omega
      rw [hat i hlt] at hi
      cases hi
      exact ⟨zH_simple (hsim i hlt), zH_in (hsim i hlt)⟩
    have hpl : plainB h (zsOf p r) = true := by
      rw [plainB_rec z1]
      have e1 : h.text = ByteArray.empty := z3
      have e2 : 0 ≤ h.rc := by rw [z4]; exact hr.1
      have e3 : h.rc ≤ 15 := by rw [z4]; show r ≤ 15; omega
      have e4 : h.n ≤ 12 := by omega
      have e5 : (zsOf p r).all simpleB = true := List.all_eq_true.2 fun f hf => (hmem f hf).1
      rw [decide_eq_true z2, decide_eq_true e1, decide_eq_true e2, decide_eq_true e3, decide_eq_true e4, e5]; rfl
    refine ⟨?_, ?_, fun f hf => (hmem f hf).2⟩
    · unfold isB
      rw [hT, hpl, decide_eq_true (show h.kind = ((4 : Int), r).1 from z1), decide_eq_true (show h.rc = ((4 : Int), r).2 from z4)]
      simp [hpr, hfa]
    · have z4' : h.rc = r := z4
      have z3' : h.text.size = 0 := by rw [z3]; rfl
      exact ⟨by omega, by omega, by omega, by omega, by omega, by omega, by omega, by omega⟩
  · rw [if_neg (by simp [h4])] at hz
    obtain ⟨rfl, rfl⟩ := hz
    have hs : simB (k, r) = true := by simpa [typB, h4] using hT
    obtain ⟨e2, e3⟩ := simB_kind hs
    have hpl : plainB (zH (k, r)) [] = true := by
      unfold plainB
      rw [if_neg (by rw [zH_sim hs]; exact h4)]
      exact zH_simple hs
    refine ⟨?_, zH_in hs, fun f hf => by simp at hf⟩
    unfold isB
    rw [hT, hpl, zH_sim hs]
    simp only at e2
    subst e2
    simp [h4]
end Go.Proofs.YtnmbifoinponeaaGreatDoor
