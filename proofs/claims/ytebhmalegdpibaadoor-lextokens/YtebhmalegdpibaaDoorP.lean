/- Tokens of what is written one behind the other. -/
import Derived.Test.YtebhmalegdpibaaDoorO
namespace Go.Proofs.YtebhmalegdpibaaDoor
set_option linter.unusedVariables false
set_option linter.unusedSimpArgs false

theorem lexG_at {c : UInt8} (t : Bs) (at' k n : Nat) (h : isBl c = false) (hc : ¬ c = 35) (hf : firstF (c :: t) = (k, n, 0)) :
    lexG 0 at' (c :: t) = catE [⟨k, tokText k ((c :: t).take n), at'⟩] (lexG 0 (at' + n) ((c :: t).drop n)) := by
  have ok := first_ok c t (by rw [hf])
  have h1 := ok.n1
  have h2 := ok.n2
  rw [hf] at h1 h2
  simp only at h1 h2
  rw [lexG_tok t at' h hc (by rw [hf]), hf]
  simp only
  rw [lexG_skip (n - 1) (n - 1) (at' + 1) t (Nat.le_refl _) (by simp at h2; omega), Nat.sub_self, show at' + 1 + (n - 1) = at' + n by omega]
  obtain ⟨m, rfl⟩ : ∃ m, n = m + 1 := ⟨n - 1, by omega⟩
  simp
theorem lexG_blanks : ∀ (n at' : Nat) (r : Bs), lexG 0 at' (List.replicate n 32 ++ r) = lexG 0 (at' + n) r
  | 0, at', r => by simp
  | n + 1, at', r => by
    rw [List.replicate_succ, List.cons_append, lexG_blank _ _ (by decide), lexG_blanks n (at' + 1) r]
    congr 1; omega
theorem textF_dbl : ∀ (l r : Bs), textF false (l.flatMap dbl ++ r) = (textF false r).map (· + (l.flatMap dbl).length)
  | [], r => by simp
  | b :: l, r => by
    have ih := textF_dbl l r
    by_cases h : b = 34
    · subst h
      simp only [List.flatMap_cons, dbl, if_true, List.cons_append, List.nil_append, textF, Bool.not_false, Bool.not_true, ih, Option.map_map, List.length_cons]
      congr 1
    · simp only [List.flatMap_cons, dbl, h, if_false, List.cons_append, List.nil_append, textF, Bool.false_eq_true, ih, Option.map_map, List.length_cons]
      congr 1
theorem unq_other (b : UInt8) (h : ¬ b = 34) : ∀ l : Bs, unq (b :: l) = b :: unq l
  | [] => rfl
  | d :: t => by rw [unq, if_neg (fun e => h e.1)]
theorem unq_dbl : ∀ l : Bs, unq (l.flatMap dbl) = l
  | [] => rfl
  | b :: l => by
    have ih := unq_dbl l
    by_cases h : b = 34
    · subst h
      simp only [List.flatMap_cons, dbl, if_true, List.cons_append, List.nil_append, unq, and_self, ih]
    · simp only [List.flatMap_cons, dbl, h, if_false, List.cons_append, List.nil_append]
      rw [unq_other b h, ih]
theorem quoB_len (l : Bs) : (quoB l).length = (l.flatMap dbl).length + 2 := by simp [quoB]
/- A quote, and no quote behind it. -/
theorem first_quo (l r : Bs) (hr : ∀ c t, r = c :: t → ¬ c = 34) : firstF (quoB l ++ r) = (4, (quoB l).length, 0) := by
  have e : quoB l ++ r = 34 :: (l.flatMap dbl ++ (34 :: r)) := by simp [quoB]
  have ht : textF false (34 :: r) = some 1 := by
    cases r with
    | nil => rfl
    | cons c t => simp [textF, hr c t rfl]
  rw [e]
  unfold firstF
  simp only
  rw [if_neg (by decide), if_neg (by decide), if_pos trivial, textF_dbl, ht, quoB_len]
  simp
  omega
theorem lexG_quo (l r : Bs) (at' : Nat) (hr : ∀ c t, r = c :: t → ¬ c = 34) : lexG 0 at' (quoB l ++ r) = catE [⟨4, l, at'⟩] (lexG 0 (at' + (quoB l).length) r) := by
  have hf := first_quo l r hr
  have e : quoB l ++ r = 34 :: (l.flatMap dbl ++ (34 :: r)) := by simp [quoB]
  have hd : (quoB l ++ r).drop (quoB l).length = r := by simp
  have ht : (quoB l ++ r).take (quoB l).length = quoB l := by simp
  rw [e] at hf hd ht ⊢
  rw [lexG_at _ at' 4 _ (by decide) (by decide) hf, hd, ht]
  congr 2
  have : tokText 4 (quoB l) = l := by
    unfold tokText
    rw [if_neg (by decide), if_pos rfl, quoB_len]
    have h2 : ((quoB l).take ((l.flatMap dbl).length + 2 - 1)).drop 1 = l.flatMap dbl := by
      unfold quoB
      rw [show (l.flatMap dbl).length + 2 - 1 = (l.flatMap dbl).length + 1 by omega]
      simp
    rw [h2, unq_dbl]
  rw [this]
theorem quo_one (l : Bs) (n : Nat) (hl : l.length ≤ 1500) (hn : n ≤ 100) : lexT (List.replicate n 32 ++ quoB l ++ [32, 120]) = .ok [⟨4, l, n⟩, ⟨1, [120], n + (quoB l).length + 1⟩, ⟨0, [], n + (quoB l).length + 2⟩] := by
  have hd := dbl_len l
  have hq := quoB_len l
  unfold lexT
  rw [if_neg (by simp only [List.length_append, List.length_replicate, List.length_cons, List.length_nil]; omega), List.append_assoc, lexG_blanks, lexG_quo l _ _ (by rintro c t e; cases e; decide)]
  rw [Nat.zero_add]
  rfl
theorem quo_open (l : Bs) (n : Nat) (hl : l.length ≤ 1500) (hn : n ≤ 100) : lexT (List.replicate n 32 ++ quoB l ++ [34]) = .error (n, 52) := by
  have hd := dbl_len l
  have hq := quoB_len l
  have e : quoB l ++ [34] = 34 :: (l.flatMap dbl ++ [34, 34]) := by simp [quoB]
  have hf : firstF (34 :: (l.flatMap dbl ++ [34, 34])) = (0, 0, 52) := by
    unfold firstF
    simp only
    rw [if_neg (by decide), if_neg (by decide), if_pos trivial, textF_dbl]
    rfl
  unfold lexT
  rw [if_neg (by simp only [List.length_append, List.length_replicate, List.length_cons, List.length_nil]; omega), List.append_assoc, lexG_blanks, e, lexG_err _ _ (by decide) (by decide) (by rw [hf]; decide), hf]
  simp
end Go.Proofs.YtebhmalegdpibaaDoor
