/- Reading a number. -/
import Derived.Test.YtjfkcafocindjaaC
namespace Go.Proofs.Ytjfkcafocindjaa
open Go.RowKit Go.Deep
set_option linter.unusedVariables false
set_option linter.unusedSimpArgs false

def decAt (n i : Nat) : List Nat → Option (Nat × Nat)
  | [] => none
  | c :: r => if 0 < i ∧ c = 0 ∨ i = 9 ∧ 1 < c then none else if c < 128 then some (n + c * 2 ^ (7 * i), i + 1) else decAt (n + (c - 128) * 2 ^ (7 * i)) (i + 1) r
def dec (bs : List Nat) : Option (Nat × Nat) := decAt 0 0 bs

theorem decAt_size (bs : List Nat) : ∀ (n i m k : Nat), decAt n i bs = some (m, k) → i < k ∧ k ≤ i + bs.length := by
  induction bs with
  | nil => intro n i m k h; cases h
  | cons c r ih =>
    intro n i m k h
    simp only [decAt] at h
    split at h
    · cases h
    · split at h
      · cases h; simp
      · have := ih _ _ _ _ h
        simp; omega
theorem decAt_enc : ∀ (n m i : Nat) (more : List Nat), (0 < i → n ≠ 0) → i ≤ 9 → n < 128 ^ (9 - i) * 2 → decAt m i (enc n ++ more) = some (m + n * 2 ^ (7 * i), i + (enc n).length) := by
  intro n
  induction n using Nat.strongRecOn with
  | _ n ih =>
    intro m i more h0 hi hn
    by_cases h : n < 128
    · rw [enc_small h]
      simp only [List.cons_append, List.nil_append, decAt]
      rw [if_neg (by
        rintro (⟨a, rfl⟩ | ⟨rfl, b⟩)
        · exact h0 a rfl
        · simp at hn; omega), if_pos h]
      simp
    · rw [enc_big h]
      simp only [List.cons_append, decAt]
      have hi9 : i ≠ 9 := by rintro rfl; simp at hn; omega
      rw [if_neg (by
        rintro (⟨a, b⟩ | ⟨rfl, b⟩)
        · omega
        · exact hi9 rfl), if_neg (by omega)]
      rw [ih (n / 128) (by omega) _ (i + 1) more (fun _ => by omega) (by omega) (by
        rw [show 9 - i = (9 - (i + 1)) + 1 from by omega, Nat.pow_succ] at hn
        omega)]
      have e : 2 ^ (7 * (i + 1)) = 128 * 2 ^ (7 * i) := by rw [Nat.mul_add, Nat.pow_add]; omega
      congr 2
      · rw [e, show n % 128 + 128 - 128 = n % 128 from by omega]
        have hd := Nat.div_add_mod n 128
        calc m + n % 128 * 2 ^ (7 * i) + n / 128 * (128 * 2 ^ (7 * i)) = m + (128 * (n / 128) + n % 128) * 2 ^ (7 * i) := by rw [Nat.add_mul, ← Nat.mul_assoc, Nat.mul_comm (n / 128) 128]; omega
          _ = m + n * 2 ^ (7 * i) := by rw [hd]
      · simp; omega
theorem dec_enc (n : Nat) (more : List Nat) (h : n < 18446744073709551616) : dec (enc n ++ more) = some (n, (enc n).length) := by
  have := decAt_enc n 0 0 more (by omega) (by omega) (by simpa using h)
  simpa [dec] using this
theorem decAt_back (bs : List Nat) (hb : Byt bs) : ∀ (n i m k : Nat), i ≤ 9 → n < 2 ^ (7 * i) → decAt n i bs = some (m, k) → ∃ q, m = n + q * 2 ^ (7 * i) ∧ q < 128 ^ (9 - i) * 2 ∧ bs.take (k - i) = enc q ∧ i < k ∧ k ≤ 10 ∧ (0 < i → 0 < q) := by
  induction bs with
  | nil => intro n i m k _ _ h; cases h
  | cons c r ih =>
    intro n i m k hi hn h
    simp only [decAt] at h
    have hc : c < 256 := hb c (by simp)
    split at h
    · cases h
    · rename_i h1
      split at h
      · rename_i h2
        cases h
        refine ⟨c, rfl, ?_, ?_, by omega, by omega, fun a => ?_⟩
        · rcases Nat.lt_or_ge i 9 with h9 | h9
          · have : 128 ^ 1 ≤ 128 ^ (9 - i) := Nat.pow_le_pow_right (by decide) (by omega)
            omega
          · have : i = 9 := by omega
            subst this
            simp at h1 ⊢; omega
        · rw [enc_small h2]; simp
        · have : c ≠ 0 := fun e => h1 (.inl ⟨a, e⟩)
          omega
      · rename_i h2
        have hi9 : i < 9 := by
          rcases Nat.lt_or_ge i 9 with h9 | h9
          · exact h9
          · exact absurd (.inr ⟨by omega, by omega⟩) h1
        have e : 2 ^ (7 * (i + 1)) = 128 * 2 ^ (7 * i) := by rw [Nat.mul_add, Nat.pow_add]; omega
        obtain ⟨q, e1, e2, e3, e4, e5, e6⟩ := ih (fun x hx => hb x (by simp [hx])) _ _ _ _ (by omega) (by
          rw [e]
          have : (c - 128) * 2 ^ (7 * i) ≤ 127 * 2 ^ (7 * i) := Nat.mul_le_mul_right _ (by omega)
          omega) h
        have e6' := e6 (by omega)
        refine ⟨(c - 128) + 128 * q, ?_, ?_, ?_, by omega, by omega, fun _ => by omega⟩
        · rw [e1, e, Nat.add_mul, ← Nat.mul_assoc, Nat.mul_comm 128 q]; omega
        · rw [show 9 - i = (9 - (i + 1)) + 1 from by omega, Nat.pow_succ]; omega
        · rw [show k - i = (k - (i + 1)) + 1 from by omega, List.take_succ_cons, e3, enc_big (n := c - 128 + 128 * q) (by omega)]
          congr 1
          · omega
          · congr 1; omega
theorem dec_back {bs : List Nat} (hb : Byt bs) {m k : Nat} (h : dec bs = some (m, k)) : bs.take k = enc m ∧ m < 18446744073709551616 ∧ k ≤ bs.length ∧ 0 < k ∧ k ≤ 10 := by
  obtain ⟨q, e1, e2, e3, e4, e5, _⟩ := decAt_back bs hb 0 0 m k (by omega) (by simp) h
  have hs := decAt_size bs 0 0 m k h
  simp at e1 e2 e3
  subst e1
  exact ⟨e3, by omega, by omega, by omega, e5⟩
end Go.Proofs.Ytjfkcafocindjaa
