/- LexNames: bytes handed over; which names are tokens by themselves. -/
import Derived.Test.YtebhmalegdpibaaDoorP
import Derived.Lib.ConvBytes
namespace Go.Proofs.YtebhmalegdpibaaDoor
open Go.RowKit Go.Deep
set_option linter.unusedVariables false
set_option linter.unusedSimpArgs false

/- What a slice of bytes reads. -/
def BRd (w : World) (a : Option Addr) (bs : Bs) : Prop := ∀ (j : Nat) (c : UInt8), bs[j]? = some c → ∃ b off, a = some ⟨b, off, none⟩ ∧ w.cell? ⟨b, off + j, none⟩ = some (.int .u8 (c.toNat : Int))
theorem BRd.below {w w' : World} {a bs B} (h : BRd w a bs) (hB : w.heap.size ≤ B) (k : Below B w w') : BRd w' a bs := by
  intro j c hc
  obtain ⟨b, off, rfl, e⟩ := h j c hc
  have hb : b < w.heap.size := World.block_lt_of_cell? w _ e
  exact ⟨b, off, rfl, by rw [World.cell?_of_block (w := w) (k.block b (by omega))]; exact e⟩

/- A name by its bytes. -/
def nmB (l : Bs) : Bool := decide (1 ≤ l.length) && decide (l.length ≤ 20) && (match l with | [] => false | c :: t => isLt c && t.all isPt) && !isWd l
theorem runF_full (p : UInt8 → Bool) : ∀ l : Bs, l.all p = true → runF p l = l.length
  | [], _ => rfl
  | c :: t, h => by
    simp only [List.all_cons, Bool.and_eq_true] at h
    simp [runF, h.1, runF_full p t h.2]
theorem runF_full_inv (p : UInt8 → Bool) : ∀ l : Bs, runF p l = l.length → l.all p = true
  | [], _ => rfl
  | c :: t, h => by
    cases hc : p c
    · simp [runF, hc] at h
    · simp only [runF, hc, if_true, List.length_cons] at h
      simp [hc]
      have := runF_full_inv p t (by omega)
      simpa using this
theorem isLt_plain {c : UInt8} (h : isLt c = true) : isBl c = false ∧ ¬ c = 35 ∧ isPt c = true := by
  have h2 : isPt c = true := by unfold isPt; rw [h]; rfl
  refine ⟨?_, ?_, h2⟩
  · cases hb : isBl c
    · rfl
    · unfold isBl at hb
      simp only [Bool.or_eq_true, beq_iff_eq] at hb
      rcases hb with ((rfl | rfl) | rfl) | rfl <;> simp [isLt] at h
  · rintro rfl; simp [isLt] at h
theorem first_kind1 (c : UInt8) (t : Bs) (h : (firstF (c :: t)).1 = 1) : isLt c = true := by
  cases hc : isLt c
  · cases hd : isDg c
    · by_cases hq : c = 34
      · subst hq
        cases htx : textF false t with
        | none =>
          have e : firstF (34 :: t) = (0, 0, 52) := by unfold firstF; simp only; rw [if_neg (by decide), if_neg (by decide), if_pos trivial, htx]
          rw [e] at h; simp at h
        | some n =>
          have e : firstF (34 :: t) = (4, n + 1, 0) := by unfold firstF; simp only; rw [if_neg (by decide), if_neg (by decide), if_pos trivial, htx]
          rw [e] at h; simp at h
      · by_cases hz : signF (c :: t) = 0
        · have e : firstF (c :: t) = (0, 0, 51) := by simp only [firstF, hc, hd, hq, hz, if_true, Bool.false_eq_true, if_false]
          rw [e] at h; simp at h
        · have e : firstF (c :: t) = (5, signF (c :: t), 0) := by simp only [firstF, hc, hd, hq, hz, if_true, Bool.false_eq_true, if_false]
          rw [e] at h; simp at h
    · have e : firstF (c :: t) = (3, runF isDg (c :: t), 0) := by simp only [firstF, hc, hd, if_true, Bool.false_eq_true, if_false]
      rw [e] at h; simp at h
  · rfl
theorem lexG_names : ∀ (l : Bs) (k at' : Nat) (ts : List LTok), lexG k at' l = .ok ts → ∀ x ∈ ts, x.kind = 1 → ∃ c t, x.text = c :: t ∧ isLt c = true
  | [], k, at', ts, h, x, hx, hk => by simp only [lexG] at h; cases h; simp at hx; subst hx; cases hk
  | c :: t, k + 1, at', ts, h, x, hx, hk => lexG_names t k (at' + 1) ts (by rw [lexG] at h; exact h) x hx hk
  | c :: t, 0, at', ts, h, x, hx, hk => by
    cases hb : isBl c
    · by_cases hn : c = 35
      · rw [lexG_note t at' hb hn] at h
        exact lexG_names t _ _ ts h x hx hk
      · by_cases he : (firstF (c :: t)).2.2 = 0
        · rw [lexG_tok t at' hb hn he] at h
          cases hr : lexG ((firstF (c :: t)).2.1 - 1) (at' + 1) t with
          | error e => rw [hr] at h; cases h
          | ok rs =>
            rw [hr] at h
            simp only [catE, Except.ok.injEq] at h
            subst h
            simp only [List.cons_append, List.nil_append, List.mem_cons] at hx
            rcases hx with rfl | hx
            · simp only at hk
              have ok := (first_ok c t he).n1
              obtain ⟨m, hm⟩ : ∃ m, (firstF (c :: t)).2.1 = m + 1 := ⟨(firstF (c :: t)).2.1 - 1, by omega⟩
              refine ⟨c, t.take m, ?_, first_kind1 c t hk⟩
              simp [tokText, hk, hm]
            · exact lexG_names t _ _ rs hr x hx hk
        · rw [lexG_err t at' hb hn he] at h; cases h
    · rw [lexG_blank t at' hb] at h
      exact lexG_names t _ _ ts h x hx hk
def headB (l : Bs) (x : Except (Nat × Nat) (List LTok)) : Bool := match x with | .ok (t :: _) => decide (t.kind = 1) && decide (t.text = l) | _ => false
theorem nameB_head (l : Bs) : nameB l = (decide (l.length ≤ 20) && headB l (lexT l)) := rfl
theorem tokText_name (k : Nat) (p : Bs) (h3 : ¬ k = 3) (h4 : ¬ k = 4) : tokText k p = p := by simp [tokText, h3, h4]
theorem nameB_eq (l : Bs) : nameB l = nmB l := by
  rw [nameB_head]
  unfold nmB
  by_cases h20 : l.length ≤ 20
  · have hT : lexT l = lexG 0 0 l := by unfold lexT; rw [if_neg (by omega)]
    rw [hT]
    cases l with
    | nil => rfl
    | cons c t =>
      cases hc : isLt c
      · have : headB (c :: t) (lexG 0 0 (c :: t)) = false := by
          cases hr : lexG 0 0 (c :: t) with
          | error e => rfl
          | ok ts =>
            cases ts with
            | nil => rfl
            | cons x r =>
              unfold headB
              simp only
              by_cases hk : x.kind = 1
              · by_cases ht : x.text = c :: t
                · obtain ⟨d, u, h1, h2⟩ := lexG_names _ _ _ _ hr x (by simp) hk
                  rw [ht] at h1; cases h1
                  rw [hc] at h2; cases h2
                · simp [ht]
              · simp [hk]
        rw [this]; simp [hc]
      · obtain ⟨h1, h2, h3⟩ := isLt_plain hc
        have hf : firstF (c :: t) = (if isWd ((c :: t).take (runF isPt (c :: t))) then 2 else 1, runF isPt (c :: t), 0) := by simp only [firstF, hc, if_true]
        rw [lexG_at t 0 _ _ h1 h2 hf, tokText_name _ _ (by split <;> decide) (by split <;> decide)]
        have hle := runF_le isPt (c :: t)
        by_cases hn : runF isPt (c :: t) = (c :: t).length
        · have hall := runF_full_inv isPt _ hn
          simp only [List.all_cons, Bool.and_eq_true] at hall
          rw [hn, List.drop_length, List.take_length, lexG]
          simp only [catE, headB, List.cons_append, hc, hall.2, Bool.and_true, decide_true]
          cases isWd (c :: t) <;> simp
        · have hall : t.all isPt = false := by
            cases ha : t.all isPt
            · rfl
            · exact absurd (runF_full isPt (c :: t) (by simp only [List.all_cons, h3, ha, Bool.and_self])) hn
          have hne : ¬ (c :: t).take (runF isPt (c :: t)) = c :: t := fun e => hn (by have := congrArg List.length e; rw [List.length_take] at this; omega)
          simp only [hall, Bool.and_false, Bool.false_and]
          cases lexG 0 (0 + runF isPt (c :: t)) ((c :: t).drop (runF isPt (c :: t))) <;> simp [catE, headB, hne]
  · simp [h20]
end Go.Proofs.YtebhmalegdpibaaDoor
