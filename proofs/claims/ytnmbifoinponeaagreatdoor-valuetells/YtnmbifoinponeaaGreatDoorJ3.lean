/- Two zeros of one type are the same. -/
import Derived.Test.YtnmbifoinponeaaGreatDoorI3
import Derived.Test.YtnmbifoinponeaaGreatDoorE2
namespace Go.Proofs.YtnmbifoinponeaaGreatDoor
open Go.RowKit Go.Deep Go.Shelf
set_option linter.unusedVariables false
set_option linter.unusedSimpArgs false

def zT (h : Hd) (zs : List Hd) : VT 2 := mkV 1 h (zs.map (fun f => mkV 0 f []))
theorem zT_hd (h : Hd) (zs : List Hd) : hdT 2 (zT h zs) = h := rfl
theorem zero_in {p : Pg} {t : TyP} {h : Hd} {zs : List Hd} (hR : rightB p = true) (hz : ZeroIs p t h zs) (hn : h.n = zs.length) : h.In ∧ h.n ≤ 12 ∧ ∀ f ∈ zs, f.In ∧ f.n = 0 := by
  cases hT : typB p.rn t with
  | true =>
    obtain ⟨h1, h2, h3⟩ := zero_is hR hT hz hn
    refine ⟨h2, ?_, fun f hf => ⟨h3 f hf, ?_⟩⟩
    · unfold ZeroIs at hz
      split at hz
      · rename_i hc
        obtain ⟨k, r⟩ := t
        obtain ⟨z1, z2, z3, z4, rfl⟩ := hz
        have hr : 0 ≤ r ∧ r < (p.recs.length : Int) := by
          have h9 := hT
          simp only at hc
          rw [hc.1] at h9
          unfold typB Pg.rn at h9; simp only [if_true, Bool.and_eq_true, decide_eq_true_eq] at h9; exact h9
        obtain ⟨pr, hpr⟩ : ∃ pr, p.recs[r.toNat]? = some pr := ⟨p.recs[r.toNat]'(by omega), by rw [List.getElem?_eq_getElem]⟩
        have q1 := ((right_recs hR).2 pr (List.mem_of_getElem? hpr)).1
        rw [hn]
        simp only [zsOf, hpr, Option.map_some, Option.getD_some, List.length_map, List.length_finRange]
        exact q1
      · obtain ⟨rfl, rfl⟩ := hz
        rw [hn]; simp
    · unfold ZeroIs at hz
      split at hz
      · obtain ⟨z1, z2, z3, z4, rfl⟩ := hz
        unfold zsOf at hf
        cases hp : p.recs[t.2.toNat]? with
        | none => rw [hp] at hf; simp at hf
        | some x =>
          rw [hp] at hf
          simp only [Option.map_some, Option.getD_some, List.mem_map] at hf
          obtain ⟨i, _, rfl⟩ := hf
          exact zH_n _
      · obtain ⟨rfl, rfl⟩ := hz
        simp at hf
  | false =>
    unfold ZeroIs at hz
    rw [if_neg (by rw [hT]; simp)] at hz
    obtain ⟨rfl, rfl⟩ := hz
    have e : zH t = ⟨0, 0, ⟨#[]⟩, 0, none, 0, 0⟩ := by
      unfold zH
      rw [if_neg]
      intro h
      unfold typB at hT
      split at hT
      · rename_i h4
        obtain ⟨k, r⟩ := t
        simp only at h4
        subst h4
        simp [simB] at h
      · rw [h] at hT; cases hT
    rw [e]
    exact ⟨⟨by decide, by decide, by decide, by decide, by decide, by decide, by decide, by decide⟩, by decide, fun f hf => by simp at hf⟩
theorem zero_rds {w : World} {p : Pg} {t : TyP} {h : Hd} {zs : List Hd} (hR : rightB p = true) (hz : ZeroIs p t h zs) (hn : h.n = zs.length) (hv : VRd w h.a zs) : Rds 2 w (zT h zs) := by
  obtain ⟨h1, h2, h3⟩ := zero_in hR hz hn
  refine rds_mkV h1 (by rw [List.length_map]; exact hn) (by omega) (by rw [map_leaf]; exact hv) ?_
  intro u hu
  simp only [List.mem_map] at hu
  obtain ⟨f, hf, rfl⟩ := hu
  obtain ⟨q1, q2⟩ := h3 f hf
  exact rds_mkV q1 (by simpa using q2) (by omega) (fun j x e => by simp at e) (fun u hu => by simp at hu)
theorem zero_cmp {p : Pg} {t : TyP} {h1 h2 : Hd} {z1 z2 : List Hd} (a : ZeroIs p t h1 z1) (b : ZeroIs p t h2 z2) : cmpT 2 (zT h1 z1) (zT h2 z2) = 0 := by
  have key : h1.kind = h2.kind ∧ h1.int = h2.int ∧ h1.text = h2.text ∧ h1.rc = h2.rc ∧ z1 = z2 := by
    unfold ZeroIs at a b
    split at a
    · rename_i hc
      rw [if_pos hc] at b
      obtain ⟨a1, a2, a3, a4, rfl⟩ := a
      obtain ⟨b1, b2, b3, b4, rfl⟩ := b
      exact ⟨a1.trans b1.symm, a2.trans b2.symm, a3.trans b3.symm, a4.trans b4.symm, rfl⟩
    · rename_i hc
      rw [if_neg hc] at b
      obtain ⟨rfl, rfl⟩ := a
      obtain ⟨rfl, rfl⟩ := b
      exact ⟨rfl, rfl, rfl, rfl, rfl⟩
  obtain ⟨e1, e2, e3, e4, rfl⟩ := key
  have hs := (ord_cmpT 2).self (zT h1 z1)
  have hc : cH h1 h2 = cH h1 h1 := by unfold cH; rw [e1, e2, e3, e4]
  have h0 := ord_cH.self h1
  change (if cH h1 h2 = 0 then cmpL (cmpT 1) (z1.map (fun f => mkV 0 f [])) (z1.map (fun f => mkV 0 f [])) else cH h1 h2) = 0
  change (if cH h1 h1 = 0 then cmpL (cmpT 1) (z1.map (fun f => mkV 0 f [])) (z1.map (fun f => mkV 0 f [])) else cH h1 h1) = 0 at hs
  rw [hc]; exact hs
end Go.Proofs.YtnmbifoinponeaaGreatDoor
