/- What is written: how long it is. -/
import Derived.Test.YtnmbifoinponeaaGreatDoorN
import Derived.Lib.ItoaLen
namespace Go.Proofs.YtnmbifoinponeaaGreatDoor
open Go.RowKit Go.Deep Go.Shelf
set_option linter.unusedVariables false
set_option linter.unusedSimpArgs false

def dbl (c : UInt8) : List UInt8 := if c = 34 then [34, 34] else [c]
theorem idx_quote (l : List UInt8) : Lib.index (34 :: l) [34] = 0 := by simp [Lib.index, List.isPrefixOf]
theorem idx_other {b : UInt8} (h : b ≠ 34) (l : List UInt8) : Lib.index (b :: l) [34] = if Lib.index l [34] = -1 then -1 else Lib.index l [34] + 1 := by
  have : ¬ (34 : UInt8) = b := fun e => h e.symm
  simp [Lib.index, List.isPrefixOf, this]
theorem count_quote (l : List UInt8) : Lib.count (34 :: l) [34] = 1 + Lib.count l [34] := by
  have := Lib.count_hit (s := 34 :: l) (sub := [34]) (i := 0) (by simp) (by rw [idx_quote]; rfl)
  simpa using this
theorem count_other {b : UInt8} (h : b ≠ 34) (l : List UInt8) : Lib.count (b :: l) [34] = Lib.count l [34] := by
  by_cases hi : Lib.index l [34] = -1
  · rw [Lib.count_miss hi, Lib.count_miss (by rw [idx_other h, if_pos hi])]
  · have hge := Lib.index_ge l [34]
    obtain ⟨i, e⟩ : ∃ i : Nat, Lib.index l [34] = i := ⟨(Lib.index l [34]).toNat, by omega⟩
    rw [Lib.count_hit (i := i) (by simp) e, Lib.count_hit (s := b :: l) (i := i + 1) (by simp) (by rw [idx_other h, if_neg hi, e]; rfl)]
    rw [show i + 1 + [(34 : UInt8)].length = (i + [(34 : UInt8)].length) + 1 from by omega, List.drop_succ_cons]
theorem rep_quote (k : Nat) (l : List UInt8) : Lib.replaceK [34] [34, 34] (k + 1) (34 :: l) = 34 :: 34 :: Lib.replaceK [34] [34, 34] k l := by
  rw [Lib.replaceK_hit _ _ _ _ 0 (by rw [idx_quote]; rfl)]
  simp
theorem rep_other {b : UInt8} (h : b ≠ 34) (k : Nat) (l : List UInt8) : Lib.replaceK [34] [34, 34] k (b :: l) = b :: Lib.replaceK [34] [34, 34] k l := by
  cases k with
  | zero => rfl
  | succ k =>
    by_cases hi : Lib.index l [34] = -1
    · have h2 : Lib.index (b :: l) [34] = -1 := by rw [idx_other h, if_pos hi]
      simp [Lib.replaceK, hi, h2]
    · have hge := Lib.index_ge l [34]
      obtain ⟨i, e⟩ : ∃ i : Nat, Lib.index l [34] = i := ⟨(Lib.index l [34]).toNat, by omega⟩
      rw [Lib.replaceK_hit _ _ _ _ i e, Lib.replaceK_hit _ _ _ _ (i + 1) (by rw [idx_other h, if_neg hi, e]; rfl)]
      rw [show i + 1 + [(34 : UInt8)].length = (i + [(34 : UInt8)].length) + 1 from by omega, List.drop_succ_cons]
      simp
theorem rep_all : ∀ l : List UInt8, Lib.replaceK [34] [34, 34] (Lib.count l [34]) l = l.flatMap dbl
  | [] => by
    have : Lib.count [] [34] = 0 := Lib.count_miss (by simp [Lib.index])
    rw [this]; rfl
  | b :: l => by
    by_cases h : b = 34
    · subst h
      rw [count_quote, Nat.add_comm, rep_quote, rep_all l]
      simp [dbl]
    · rw [count_other h, rep_other h, rep_all l]
      simp [dbl, h]
theorem quoL_eq (s : ByteArray) : quoL s = s.data.toList.flatMap dbl := by
  have : ¬ ([34] : List UInt8) = [34, 34] := by decide
  unfold quoL Lib.replaceAll Lib.replace Lib.replaceNum
  rw [if_neg (by simp), if_pos (.inl (by omega))]
  exact rep_all _
theorem dbl_len (l : List UInt8) : (l.flatMap dbl).length ≤ 2 * l.length := by
  induction l with
  | nil => simp
  | cons b l ih =>
    simp only [List.flatMap_cons, List.length_append, List.length_cons]
    have : (dbl b).length ≤ 2 := by unfold dbl; split <;> simp
    omega
theorem quoL_len (s : ByteArray) : (quoL s).length ≤ 2 * s.size := by
  rw [quoL_eq]
  have := dbl_len s.data.toList
  rw [Array.length_toList] at this
  exact this

/- How long a print is. -/
def bnd : Nat → Nat
  | 0 => 0
  | k + 1 => 3000000 + 1000 * (bnd k + 2)
theorem joinC_len (M : Nat) (l : List (List UInt8)) (h : ∀ x ∈ l, x.length ≤ M) : (joinC l).length ≤ l.length * (M + 2) := by
  unfold joinC
  generalize hf : (fun i (x : List UInt8) => if i = 0 then x else 44 :: 32 :: x) = f
  have hfl : ∀ i x, x.length ≤ M → (f i x).length ≤ M + 2 := fun i x hx => by
    rw [← hf]; simp only; split
    · omega
    · simp; omega
  have key : ∀ (m : List (List UInt8)), (∀ x ∈ m, x.length ≤ M + 2) → m.flatten.length ≤ m.length * (M + 2) := by
    intro m
    induction m with
    | nil => simp
    | cons x m ih =>
      intro hm
      have h1 := hm x (by simp)
      have h2 := ih (fun y hy => hm y (by simp [hy]))
      simp only [List.flatten_cons, List.length_append, List.length_cons, Nat.add_mul, Nat.one_mul]
      omega
  have := key (l.mapIdx f) (fun x hx => by
    rw [List.mem_mapIdx] at hx
    obtain ⟨i, hi, rfl⟩ := hx
    exact hfl i _ (h _ (by simp)))
  simpa using this
theorem prT_len : ∀ (k : Nat) (w : World) (t : VT k), Rds k w t → Tx k t → (prT k t).length ≤ bnd k
  | 0, _, _, h, _ => h.elim
  | k + 1, w, t, h, hx => by
    obtain ⟨hd, l⟩ := t
    obtain ⟨hin, hn, hle, _, hu⟩ := h
    obtain ⟨htx, hxu⟩ := hx
    simp only at hin hn hle hu htx hxu
    have e1 := Lib.itoa_length_le hd.int hin.i0 hin.i1
    have e2 := Lib.itoa_length_le hd.rc hin.r0 hin.r1
    have e3 := quoL_len hd.text
    have e4 := joinC_len (bnd k) (l.map (prT k)) (fun x hx => by
      rw [List.mem_map] at hx
      obtain ⟨u, hu', rfl⟩ := hx
      exact prT_len k w u (hu u hu') (hxu u hu'))
    have e5 : (l.map (prT k)).length * (bnd k + 2) ≤ 1000 * (bnd k + 2) := Nat.mul_le_mul_right _ (by rw [List.length_map]; omega)
    simp only [prT, prH, bnd]
    split
    · omega
    · split
      · simp; omega
      · split
        · have : (Lib.formatBool (hd.int == 1)).length ≤ 5 := by cases (hd.int == 1) <;> decide
          omega
        · split
          · simp; omega
          · simp; omega
end Go.Proofs.YtnmbifoinponeaaGreatDoor
