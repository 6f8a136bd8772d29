/- Replacing all, by recursion: quotes made two, two made one. -/
import Derived.Test.YtebhmalegdpibaaDoorA
import Derived.Lib.Replace
namespace Go.Proofs.YtebhmalegdpibaaDoor
set_option linter.unusedVariables false
set_option linter.unusedSimpArgs false

def repF (sub new : Bs) (l : Bs) : Bs := Lib.replaceK sub new (Lib.count l sub) l
theorem repF_nil (sub new : Bs) (hs : sub ≠ []) : repF sub new [] = [] := by
  have : Lib.index [] sub = -1 := by
    cases sub with
    | nil => exact absurd rfl hs
    | cons a b => rfl
  unfold repF
  rw [Lib.count_miss this]; rfl
theorem repF_hit (sub new : Bs) (hs : sub ≠ []) (l : Bs) (hp : sub.isPrefixOf l = true) : repF sub new l = new ++ repF sub new (l.drop sub.length) := by
  have hi : Lib.index l sub = (0 : Nat) := by
    cases l with
    | nil => cases sub with
      | nil => exact absurd rfl hs
      | cons a b => simp [List.isPrefixOf] at hp
    | cons c t => simp [Lib.index, hp]
  unfold repF
  rw [Lib.count_hit hs hi, Nat.add_comm, Lib.replaceK_hit _ _ _ _ 0 hi]
  simp
theorem repF_miss (sub new : Bs) (hs : sub ≠ []) (c : UInt8) (t : Bs) (hp : sub.isPrefixOf (c :: t) = false) : repF sub new (c :: t) = c :: repF sub new t := by
  have hx : Lib.index (c :: t) sub = if Lib.index t sub = -1 then -1 else Lib.index t sub + 1 := by simp [Lib.index, hp]
  unfold repF
  by_cases hi : Lib.index t sub = -1
  · rw [Lib.count_miss hi, Lib.count_miss (by rw [hx, if_pos hi])]; rfl
  · have hge := Lib.index_ge t sub
    obtain ⟨i, e⟩ : ∃ i : Nat, Lib.index t sub = i := ⟨(Lib.index t sub).toNat, by omega⟩
    have e2 : Lib.index (c :: t) sub = ((i + 1 : Nat) : Int) := by rw [hx, if_neg hi, e]; rfl
    rw [Lib.count_hit hs e, Lib.count_hit hs e2, show i + 1 + sub.length = (i + sub.length) + 1 from by omega, List.drop_succ_cons, Nat.add_comm 1, Lib.replaceK_hit _ _ _ _ i e, Lib.replaceK_hit _ _ _ _ (i + 1) e2]
    rw [show i + 1 + sub.length = (i + sub.length) + 1 from by omega, List.drop_succ_cons]
    simp
def dbl (b : UInt8) : Bs := if b = 34 then [34, 34] else [b]
theorem repF_dbl : ∀ l : Bs, repF [34] [34, 34] l = l.flatMap dbl
  | [] => repF_nil _ _ (by simp)
  | b :: l => by
    by_cases h : b = 34
    · subst h
      rw [repF_hit _ _ (by simp) _ (by simp [List.isPrefixOf])]
      simp [dbl, repF_dbl l]
    · have : ¬ 34 = b := fun e => h e.symm
      rw [repF_miss _ _ (by simp) _ _ (by simp [List.isPrefixOf, this]), repF_dbl l]
      simp [dbl, h]
theorem repF_unq : ∀ (n : Nat) (l : Bs), l.length ≤ n → repF [34, 34] [34] l = unq l
  | _, [], _ => repF_nil _ _ (by simp)
  | _, [c], _ => by
    rw [repF_miss _ _ (by simp) _ _ (by simp [List.isPrefixOf]), repF_nil _ _ (by simp)]; rfl
  | 0, c :: d :: t, h => by simp at h
  | n + 1, c :: d :: t, h => by
    simp only [List.length_cons] at h
    unfold unq
    by_cases hc : c = 34 ∧ d = 34
    · rw [if_pos hc]
      obtain ⟨rfl, rfl⟩ := hc
      rw [repF_hit _ _ (by simp) _ (by simp [List.isPrefixOf])]
      simp [repF_unq n t (by omega)]
    · rw [if_neg hc]
      have hp : List.isPrefixOf [34, 34] (c :: d :: t) = false := by
        simp only [List.isPrefixOf, Bool.and_eq_false_iff, beq_eq_false_iff_ne]
        by_cases h1 : c = 34
        · exact .inr (.inl fun e => hc ⟨h1, e.symm⟩)
        · exact .inl fun e => h1 e.symm
      rw [repF_miss _ _ (by simp) _ _ hp, repF_unq n (d :: t) (by simp; omega)]
theorem replace_eq (l sub new : Bs) (h : sub ≠ new) : Lib.replaceAll l sub new = repF sub new l := by
  unfold Lib.replaceAll Lib.replace Lib.replaceNum repF
  rw [if_neg (by simpa using h), if_pos (.inl (by omega))]
theorem replace_dbl (l : Bs) : Lib.replaceAll l [34] [34, 34] = l.flatMap dbl := by rw [replace_eq _ _ _ (by decide), repF_dbl]
theorem replace_unq (l : Bs) : Lib.replaceAll l [34, 34] [34] = unq l := by rw [replace_eq _ _ _ (by decide), repF_unq _ l (Nat.le_refl _)]
theorem dbl_len (l : Bs) : (l.flatMap dbl).length ≤ 2 * l.length := by
  induction l with
  | nil => simp
  | cons b l ih =>
    simp only [List.flatMap_cons, List.length_append, List.length_cons]
    have : (dbl b).length ≤ 2 := by unfold dbl; split <;> simp
    omega
end Go.Proofs.YtebhmalegdpibaaDoor
