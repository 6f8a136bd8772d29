/- LexLongest: a row of signs, told whole, each as long as may be. -/
import Derived.Test.YtebhmalegdpibaaDoorE2
namespace Go.Proofs.YtebhmalegdpibaaDoor
set_option linter.unusedVariables false
set_option linter.unusedSimpArgs false

def sgs : Bs := [123, 125, 40, 41, 91, 93, 44, 59, 58, 46, 61, 60, 62, 43, 45, 42, 47, 37, 38, 33]
def sgI (bs : Bs) (i : Nat) : Nat := (bs.getD i 0).toNat % 20
theorem sgI_lt (bs : Bs) (i : Nat) : sgI bs i < 20 := Nat.mod_lt _ (by decide)
def sgS (bs : Bs) : Nat → Bs
  | 0 => []
  | i + 1 => sgS bs i ++ [sgs.getD (sgI bs i) 0]
theorem sgS_len (bs : Bs) : ∀ i, (sgS bs i).length = i
  | 0 => rfl
  | i + 1 => by rw [sgS, List.length_append, sgS_len bs i]; rfl
theorem sgS_mem (bs : Bs) : ∀ i, ∀ c ∈ sgS bs i, c ∈ sgs
  | 0, c, h => by simp [sgS] at h
  | i + 1, c, h => by
    rw [sgS] at h
    rcases List.mem_append.1 h with h | h
    · exact sgS_mem bs i c h
    · simp at h; subst h
      have h2 : ∀ k, k < 20 → sgs.getD k 0 ∈ sgs := by decide
      have := h2 _ (sgI_lt bs i)
      simpa [List.getD_eq_getElem?_getD] using this
theorem sgs_plain : ∀ c ∈ sgs, isBl c = false ∧ ¬ c = 35 ∧ isLt c = false ∧ isDg c = false ∧ ¬ c = 34 ∧ (sg1 c = true ∨ c = 33) := by decide
def SgRow : Nat → Bs → List LTok → Prop
  | _, _, [] => False
  | n, l, [e] => e = ⟨0, [], n⟩ ∧ l = []
  | n, l, t :: u :: r => t.kind = 5 ∧ t.pos = n ∧ ∃ rest, l = t.text ++ rest ∧ (t.text.length = 1 ∨ t.text.length = 2) ∧ (∀ a b, t.text = [a] → rest.head? = some b → sg2 a b = false) ∧ SgRow (n + t.text.length) rest (u :: r)
def SgErr (n : Nat) (l : Bs) (p : Nat × Nat) : Prop := p.2 = 51 ∧ ∃ k, p.1 = n + k ∧ l[k]? = some 33 ∧ l[k + 1]? ≠ some 61
def SgRes (n : Nat) (l : Bs) : Except (Nat × Nat) (List LTok) → Prop
  | .ok ts => SgRow n l ts
  | .error p => SgErr n l p
theorem SgRes.cons {n : Nat} {rest tx : Bs} {x : Except (Nat × Nat) (List LTok)} (h : SgRes (n + tx.length) rest x) (hl : tx.length = 1 ∨ tx.length = 2) (hs : ∀ a b, tx = [a] → rest.head? = some b → sg2 a b = false) :
    SgRes n (tx ++ rest) (catE [⟨5, tx, n⟩] x) := by
  cases x with
  | error p =>
    obtain ⟨h1, k, h2, h3, h4⟩ := h
    refine ⟨h1, tx.length + k, by omega, ?_, ?_⟩
    · rw [List.getElem?_append_right (by omega)]; rw [show tx.length + k - tx.length = k by omega]; exact h3
    · rw [List.getElem?_append_right (by omega)]; rw [show tx.length + k + 1 - tx.length = k + 1 by omega]; exact h4
  | ok ts =>
    cases ts with
    | nil => exact absurd h (by simp [SgRes, SgRow])
    | cons u r => exact ⟨rfl, rfl, rest, rfl, hl, hs, h⟩
theorem signs_lex : ∀ (m : Nat) (l : Bs) (n : Nat), l.length ≤ m → (∀ c ∈ l, c ∈ sgs) → SgRes n l (lexG 0 n l)
  | m, [], n, _, _ => ⟨rfl, rfl⟩
  | 0, c :: t, n, h, _ => by simp at h
  | m + 1, c :: t, n, h, hm => by
    obtain ⟨h1, h2, h3, h4, h5, h6⟩ := sgs_plain c (hm c (by simp))
    simp only [List.length_cons] at h
    by_cases hz : signF (c :: t) = 0
    · have e : firstF (c :: t) = (0, 0, 51) := by simp only [firstF, h3, h4, h5, hz, if_true, Bool.false_eq_true, if_false]
      rw [lexG_err t n h1 h2 (by rw [e]; decide), e]
      have hs1 : sg1 c = false := by
        cases hs : sg1 c
        · rfl
        · exfalso
          cases t with
          | nil => simp [signF, hs] at hz
          | cons b u => simp only [signF, hs, if_true] at hz; split at hz <;> omega
      have hc : c = 33 := by
        rcases h6 with h6 | h6
        · rw [hs1] at h6; cases h6
        · exact h6
      subst hc
      refine ⟨rfl, 0, rfl, rfl, ?_⟩
      cases t with
      | nil => simp
      | cons b u =>
        simp only [List.getElem?_cons_succ, List.getElem?_cons_zero, ne_eq, Option.some.injEq]
        rintro rfl
        have : sg2 33 61 = true := by decide
        simp [signF, this] at hz
    · have e := first_sg c t h3 h4 h5 hz
      cases t with
      | nil =>
        have hs : sg1 c = true := by
          cases hs : sg1 c
          · exact absurd (by simp [signF, hs]) hz
          · rfl
        have e1 : signF [c] = 1 := by simp [signF, hs]
        rw [e1] at e
        rw [lexG_at [] n 5 1 h1 h2 e]
        exact SgRes.cons (n := n) (tx := [c]) (rest := []) (x := lexG 0 (n + 1) []) (signs_lex m [] (n + 1) (by simp) (by simp)) (.inl rfl) (fun a b _ hb => by simp at hb)
      | cons b u =>
        cases hs2 : sg2 c b
        · have hs : sg1 c = true := by
            cases hs : sg1 c
            · exact absurd (by simp [signF, hs, hs2]) hz
            · rfl
          have e1 : signF (c :: b :: u) = 1 := by simp [signF, hs, hs2]
          rw [e1] at e
          rw [lexG_at (b :: u) n 5 1 h1 h2 e]
          exact SgRes.cons (n := n) (tx := [c]) (rest := b :: u) (x := lexG 0 (n + 1) (b :: u)) (signs_lex m (b :: u) (n + 1) (by omega) (fun x hx => hm x (List.mem_cons_of_mem _ hx))) (.inl rfl) (fun a b' ha hb => by
            cases ha; simp at hb; subst hb; exact hs2)
        · have e1 : signF (c :: b :: u) = 2 := by simp [signF, hs2]
          rw [e1] at e
          rw [lexG_at (b :: u) n 5 2 h1 h2 e]
          exact SgRes.cons (n := n) (tx := [c, b]) (rest := u) (x := lexG 0 (n + 2) u) (signs_lex m u (n + 2) (by simp at h; omega) (fun x hx => hm x (List.mem_cons_of_mem _ (List.mem_cons_of_mem _ hx)))) (.inr rfl) (fun a b' ha hb => by cases ha)
theorem signs_res (l : Bs) (h : ∀ c ∈ l, c ∈ sgs) (hl : l.length ≤ 4096) : SgRes 0 l (lexT l) := by
  unfold lexT
  rw [if_neg (by omega)]
  exact signs_lex _ l 0 (Nat.le_refl _) h
/- What stands at a place of the row. -/
theorem SgRow.one {n : Nat} {l : Bs} {t : LTok} (h : SgRow n l [t]) : l = [] := h.2
theorem SgRow.more {n : Nat} {l : Bs} {t u : LTok} {r : List LTok} (h : SgRow n l (t :: u :: r)) : t.kind = 5 ∧ t.pos = n ∧ ∃ rest, l = t.text ++ rest ∧ (t.text.length = 1 ∨ t.text.length = 2) ∧ (∀ a b, t.text = [a] → rest.head? = some b → sg2 a b = false) ∧ SgRow (n + t.text.length) rest (u :: r) := h
theorem SgRow.head {n : Nat} {l : Bs} {t u : LTok} {r : List LTok} (h : SgRow n l (t :: u :: r)) : ∃ b x, t.text = b :: x ∧ l.head? = some b := by
  obtain ⟨_, _, rest, hl, h1, _⟩ := h.more
  cases ht : t.text with
  | nil => rw [ht] at h1; simp at h1
  | cons b x => rw [ht] at hl; exact ⟨b, x, rfl, by rw [hl]; rfl⟩
end Go.Proofs.YtebhmalegdpibaaDoor
