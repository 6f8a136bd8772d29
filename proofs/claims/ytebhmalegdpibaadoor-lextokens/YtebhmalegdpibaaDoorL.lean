/- How the tokens of what is left follow from the rune at hand. -/
import Derived.Test.YtebhmalegdpibaaDoorK
namespace Go.Proofs.YtebhmalegdpibaaDoor
set_option linter.unusedVariables false
set_option linter.unusedSimpArgs false

def catE (a : List LTok) : Except (Nat × Nat) (List LTok) → Except (Nat × Nat) (List LTok)
  | .ok ts => .ok (a ++ ts)
  | .error e => .error e
theorem catE_nil (x : Except (Nat × Nat) (List LTok)) : catE [] x = x := by cases x <;> rfl
theorem lexG_skip : ∀ (n k at' : Nat) (l : Bs), n ≤ k → n ≤ l.length → lexG k at' l = lexG (k - n) (at' + n) (l.drop n)
  | 0, k, at', l, _, _ => by simp
  | n + 1, k, at', [], _, h => by simp at h
  | n + 1, 0, at', c :: t, h, _ => by omega
  | n + 1, k + 1, at', c :: t, h, h2 => by
    rw [lexG, lexG_skip n k (at' + 1) t (by omega) (by simpa using h2)]
    simp only [List.drop_succ_cons]
    congr 1
    · omega
    · omega
def Good (L : Bs) (pos behind : Nat) : Prop := behind ≤ pos ∨ (∀ c, L[behind]? = some c → c.toNat < 128) ∨ (∃ c, L[behind - 1]? = some c ∧ c.toNat < 128)
theorem Good.mono {L : Bs} {pos behind q : Nat} (h : Good L pos behind) (hq : pos ≤ q) : Good L q behind := by
  rcases h with h | h
  · exact .inl (by omega)
  · exact .inr h
theorem Good.step {L : Bs} {pos behind r wd : Nat} (R : Rune L pos r wd) (h : Good L pos behind) (hb : pos < behind) : pos + wd ≤ behind := by
  obtain ⟨c, e, hd⟩ := R.at
  by_cases hc : c.toNat < 128
  · have := (R.low c e hc).2; omega
  · have hall := R.all c e (by omega)
    have hf := R.fit
    rcases Nat.lt_or_ge behind (pos + wd) with hlt | hge
    · exfalso
      rcases h with h | h | ⟨d, h1, h2⟩
      · omega
      · have hx : behind < L.length := by omega
        have h1 := h L[behind] (List.getElem?_eq_getElem hx)
        have h2 := hall (behind - pos) L[behind] (by omega) (by rw [show pos + (behind - pos) = behind by omega]; exact List.getElem?_eq_getElem hx)
        omega
      · have h3 := hall (behind - 1 - pos) d (by omega) (by rw [show pos + (behind - 1 - pos) = behind - 1 by omega]; exact h1)
        omega
    · exact hge
theorem runF_stop (p : UInt8 → Bool) : ∀ (l : Bs) (c : UInt8), l[runF p l]? = some c → p c = false
  | [], c, h => by simp at h
  | d :: t, c, h => by
    cases hd : p d
    · simp only [runF, hd, Bool.false_eq_true, if_false] at h
      simp at h; subst h; exact hd
    · simp only [runF, hd, if_true] at h
      simp at h
      exact runF_stop p t c h
theorem runF_in (p : UInt8 → Bool) : ∀ (l : Bs) (k : Nat) (c : UInt8), k < runF p l → l[k]? = some c → p c = true
  | [], k, c, h, e => by simp at e
  | d :: t, k, c, h, e => by
    cases hd : p d
    · simp [runF, hd] at h
    · simp only [runF, hd, if_true] at h
      cases k with
      | zero => simp at e; subst e; exact hd
      | succ k => simp at e; exact runF_in p t k c (by omega) e
theorem textF_last : ∀ (l : Bs) (e : Bool) (n : Nat), textF e l = some n → (n = 0 ∧ e = true) ∨ (1 ≤ n ∧ l[n - 1]? = some 34)
  | [], e, n, h => by cases e <;> simp [textF] at h <;> exact .inl ⟨h.symm, rfl⟩
  | c :: t, e, n, h => by
    simp only [textF] at h
    split at h
    · rename_i hc
      cases hx : textF (!e) t with
      | none => rw [hx] at h; simp at h
      | some m =>
        rw [hx] at h; simp at h; subst h
        refine .inr ⟨by omega, ?_⟩
        rcases textF_last t _ m hx with ⟨rfl, _⟩ | ⟨h1, h2⟩
        · simp [hc]
        · rw [show m + 1 - 1 = (m - 1) + 1 by omega]; simpa using h2
    · split at h
      · rename_i he; simp at h; exact .inl ⟨h.symm, he⟩
      · cases hx : textF false t with
        | none => rw [hx] at h; simp at h
        | some m =>
          rw [hx] at h; simp at h; subst h
          refine .inr ⟨by omega, ?_⟩
          rcases textF_last t _ m hx with ⟨_, h2⟩ | ⟨h1, h2⟩
          · cases h2
          · rw [show m + 1 - 1 = (m - 1) + 1 by omega]; simpa using h2
theorem isLt_low {c : UInt8} (h : isLt c = true) : c.toNat < 128 := by unfold isLt at h; simp at h; omega
theorem isDg_low {c : UInt8} (h : isDg c = true) : c.toNat < 128 := by unfold isDg at h; simp at h; omega
theorem isPt_low {c : UInt8} (h : isPt c = true) : c.toNat < 128 := by
  unfold isPt at h
  rcases Bool.or_eq_true _ _ ▸ h with h | h
  · exact isLt_low h
  · exact isDg_low h
theorem sg1_low {c : UInt8} (h : sg1 c = true) : c.toNat < 128 := by
  unfold sg1 sg1s at h
  rw [List.contains_iff_mem] at h
  simp only [List.mem_cons, List.mem_nil_iff, or_false] at h
  rcases h with rfl | rfl | rfl | rfl | rfl | rfl | rfl | rfl | rfl | rfl | rfl | rfl | rfl | rfl | rfl | rfl | rfl | rfl | rfl <;> decide
theorem sg2_low {a b : UInt8} (h : sg2 a b = true) : a.toNat < 128 ∧ b.toNat < 128 := by
  rw [sg2_iff] at h
  simp only [sg2L, List.mem_cons, List.mem_nil_iff, or_false, List.cons.injEq, and_true] at h
  rcases h with ⟨rfl, rfl⟩ | ⟨rfl, rfl⟩ | ⟨rfl, rfl⟩ | ⟨rfl, rfl⟩ | ⟨rfl, rfl⟩ | ⟨rfl, rfl⟩ | ⟨rfl, rfl⟩ | ⟨rfl, rfl⟩ <;> decide
theorem signF_low : ∀ l : Bs, signF l ≠ 0 → (∃ c, l[0]? = some c ∧ c.toNat < 128) ∧ (∃ c, l[signF l - 1]? = some c ∧ c.toNat < 128)
  | [], h => absurd rfl h
  | [a], h => by
    simp only [signF] at h ⊢
    split at h
    · rename_i ha; rw [if_pos ha]; exact ⟨⟨a, rfl, sg1_low ha⟩, ⟨a, rfl, sg1_low ha⟩⟩
    · exact absurd rfl h
  | a :: b :: t, h => by
    simp only [signF] at h ⊢
    split at h
    · rename_i ha; rw [if_pos ha]; exact ⟨⟨a, rfl, (sg2_low ha).1⟩, ⟨b, rfl, (sg2_low ha).2⟩⟩
    · rename_i ha
      rw [if_neg ha]
      split at h
      · rename_i hb; rw [if_pos hb]; exact ⟨⟨a, rfl, sg1_low hb⟩, ⟨a, rfl, sg1_low hb⟩⟩
      · exact absurd rfl h
/- A token begins and ends with a byte below 128. -/
theorem first_low (c : UInt8) (t : Bs) (h : (firstF (c :: t)).2.2 = 0) : c.toNat < 128 ∧ ∃ d, (c :: t)[(firstF (c :: t)).2.1 - 1]? = some d ∧ d.toNat < 128 := by
  have ok := first_ok c t h
  cases hc : isLt c
  · cases hd : isDg c
    · by_cases hq : c = 34
      · subst hq
        refine ⟨by decide, ?_⟩
        cases htx : textF false t with
        | none =>
          have e : firstF (34 :: t) = (0, 0, 52) := by unfold firstF; simp only; rw [if_neg (by decide), if_neg (by decide), if_pos trivial, htx]
          rw [e] at h; simp at h
        | some n =>
          have e : firstF (34 :: t) = (4, n + 1, 0) := by unfold firstF; simp only; rw [if_neg (by decide), if_neg (by decide), if_pos trivial, htx]
          rw [e]
          rcases textF_last t _ n htx with ⟨_, h2⟩ | ⟨h1, h2⟩
          · cases h2
          · exact ⟨34, by simp only; rw [show n + 1 - 1 = (n - 1) + 1 by omega]; simpa using h2, by decide⟩
      · by_cases hz : signF (c :: t) = 0
        · have e : firstF (c :: t) = (0, 0, 51) := by simp only [firstF, hc, hd, hq, hz, if_true, Bool.false_eq_true, if_false]
          rw [e] at h; simp at h
        · have e : firstF (c :: t) = (5, signF (c :: t), 0) := by simp only [firstF, hc, hd, hq, hz, if_true, Bool.false_eq_true, if_false]
          rw [e]
          obtain ⟨⟨d, h1, h2⟩, h3⟩ := signF_low (c :: t) hz
          simp at h1; subst h1
          exact ⟨h2, h3⟩
    · have e : firstF (c :: t) = (3, runF isDg (c :: t), 0) := by simp only [firstF, hc, hd, if_true, Bool.false_eq_true, if_false]
      rw [e]
      have h1 := runF_pos isDg c t hd
      have h2 := runF_le isDg (c :: t)
      refine ⟨isDg_low hd, _, List.getElem?_eq_getElem (show runF isDg (c :: t) - 1 < (c :: t).length by omega), ?_⟩
      exact isDg_low (runF_in isDg (c :: t) (runF isDg (c :: t) - 1) _ (by omega) (List.getElem?_eq_getElem _))
  · have e : firstF (c :: t) = (if isWd ((c :: t).take (runF isPt (c :: t))) then 2 else 1, runF isPt (c :: t), 0) := by simp only [firstF, hc, if_true]
    rw [e]
    have h1 := runF_pos isPt c t (by unfold isPt; rw [hc]; rfl)
    have h2 := runF_le isPt (c :: t)
    refine ⟨isLt_low hc, _, List.getElem?_eq_getElem (show runF isPt (c :: t) - 1 < (c :: t).length by omega), ?_⟩
    exact isPt_low (runF_in isPt (c :: t) (runF isPt (c :: t) - 1) _ (by omega) (List.getElem?_eq_getElem _))
end Go.Proofs.YtebhmalegdpibaaDoor
