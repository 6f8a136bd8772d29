/- LexBack: tokens that are written with blanks between are told again. -/
import Derived.Test.YtebhmalegdpibaaDoorS
namespace Go.Proofs.YtebhmalegdpibaaDoor
set_option linter.unusedVariables false
set_option linter.unusedSimpArgs false

def spell (t : LTok) : Bs := if t.kind = 4 then quoB t.text else t.text
def backS : List LTok → Bs
  | [] => []
  | t :: r => spell t ++ (32 :: backS r)
theorem backS_snoc : ∀ (l : List LTok) (t : LTok), backS (l ++ [t]) = backS l ++ (spell t ++ [32])
  | [], t => by simp [backS]
  | a :: l, t => by
    rw [List.cons_append, backS, backS, backS_snoc l t]
    simp
/- A token as it may come. -/
def WT (t : LTok) : Prop :=
  ((t.kind = 1 ∨ t.kind = 2) ∧ ∃ c r, t.text = c :: r ∧ isLt c = true ∧ r.all isPt = true ∧ t.kind = if isWd (c :: r) then 2 else 1) ∨
  (t.kind = 3 ∧ ∃ d c, t.text = d ++ [c] ∧ d.all isDg = true ∧ isDg c = true ∧ d.dropWhile (· == 48) = d) ∨
  t.kind = 4 ∨
  (t.kind = 5 ∧ ((∃ a, t.text = [a] ∧ sg1 a = true) ∨ ∃ a b, t.text = [a, b] ∧ sg2 a b = true))
theorem runF_app (p : UInt8 → Bool) (c : UInt8) (r : Bs) (hc : p c = false) : ∀ l : Bs, l.all p = true → runF p (l ++ c :: r) = l.length
  | [], _ => by simp [runF, hc]
  | a :: l, h => by
    simp only [List.all_cons, Bool.and_eq_true] at h
    simp [runF, h.1, runF_app p c r hc l h.2]
theorem sg1_plain {a : UInt8} (h : sg1 a = true) : isBl a = false ∧ ¬ a = 35 ∧ isLt a = false ∧ isDg a = false ∧ ¬ a = 34 := by
  unfold sg1 sg1s at h
  rw [List.contains_iff_mem] at h
  simp only [List.mem_cons, List.mem_nil_iff, or_false] at h
  rcases h with rfl | rfl | rfl | rfl | rfl | rfl | rfl | rfl | rfl | rfl | rfl | rfl | rfl | rfl | rfl | rfl | rfl | rfl | rfl <;> decide
theorem sg2_plain {a b : UInt8} (h : sg2 a b = true) : isBl a = false ∧ ¬ a = 35 ∧ isLt a = false ∧ isDg a = false ∧ ¬ a = 34 := by
  rw [sg2_iff] at h
  simp only [sg2L, List.mem_cons, List.mem_nil_iff, or_false, List.cons.injEq, and_true] at h
  rcases h with ⟨rfl, rfl⟩ | ⟨rfl, rfl⟩ | ⟨rfl, rfl⟩ | ⟨rfl, rfl⟩ | ⟨rfl, rfl⟩ | ⟨rfl, rfl⟩ | ⟨rfl, rfl⟩ | ⟨rfl, rfl⟩ <;> decide
theorem sg2_blank (a : UInt8) : sg2 a 32 = false := by simp [sg2]
theorem isDg_plain {c : UInt8} (h : isDg c = true) : isBl c = false ∧ ¬ c = 35 ∧ isLt c = false := by
  unfold isDg at h
  simp at h
  have e : ∀ k : UInt8, k.toNat < 48 → ¬ c = k := by rintro k hk rfl; omega
  refine ⟨?_, e 35 (by decide), ?_⟩
  · unfold isBl; simp [e 32 (by decide), e 9 (by decide), e 10 (by decide), e 13 (by decide)]
  · unfold isLt; simp; omega
theorem first_word (c : UInt8) (t : Bs) (hc : isLt c = true) : firstF (c :: t) = (if isWd ((c :: t).take (runF isPt (c :: t))) then 2 else 1, runF isPt (c :: t), 0) := by simp only [firstF, hc, if_true]
theorem first_int (c : UInt8) (t : Bs) (hc : isLt c = false) (hd : isDg c = true) : firstF (c :: t) = (3, runF isDg (c :: t), 0) := by simp only [firstF, hc, hd, if_true, Bool.false_eq_true, if_false]
theorem first_sg (c : UInt8) (t : Bs) (hc : isLt c = false) (hd : isDg c = false) (hq : ¬ c = 34) (hz : ¬ signF (c :: t) = 0) : firstF (c :: t) = (5, signF (c :: t), 0) := by simp only [firstF, hc, hd, hq, hz, if_true, Bool.false_eq_true, if_false]
theorem lexG_step {l r : Bs} {c : UInt8} {u : Bs} {k at' : Nat} {x : Bs} (e : l = c :: u) (h : isBl c = false) (hc : ¬ c = 35) (hf : firstF (l ++ r) = (k, l.length, 0)) (ht : tokText k l = x) :
    lexG 0 at' (l ++ r) = catE [⟨k, x, at'⟩] (lexG 0 (at' + l.length) r) := by
  subst e
  have hd : (c :: u ++ r).drop (c :: u).length = r := by simp
  have htk : (c :: u ++ r).take (c :: u).length = c :: u := by simp
  rw [List.cons_append] at hf hd htk ⊢
  rw [lexG_at _ at' k _ h hc hf, hd, htk, ht]
theorem WT.lex {t : LTok} (h : WT t) (r : Bs) (at' : Nat) : lexG 0 at' (spell t ++ 32 :: r) = catE [⟨t.kind, t.text, at'⟩] (lexG 0 (at' + (spell t).length) (32 :: r)) := by
  obtain ⟨k, x, p⟩ := t
  rcases h with ⟨hk, c, u, hx, hc, hu, hw⟩ | ⟨hk, d, c, hx, hd, hc, hz⟩ | hk | ⟨hk, ⟨a, hx, ha⟩ | ⟨a, b, hx, hab⟩⟩
  · simp only at hk hx hw
    subst hx
    have hs : spell ⟨k, c :: u, p⟩ = c :: u := by unfold spell; rw [if_neg (by simp only; omega)]
    obtain ⟨h1, h2, h3⟩ := isLt_plain hc
    rw [hs]
    refine lexG_step (k := k) rfl h1 h2 ?_ (tokText_name k _ (by omega) (by omega))
    have hr : runF isPt (c :: u ++ 32 :: r) = (c :: u).length := runF_app isPt 32 r (by decide) (c :: u) (by simp only [List.all_cons, h3, hu, Bool.and_self])
    rw [List.cons_append] at hr ⊢
    rw [first_word c _ hc, hr, hw]
    congr 2
    rw [show (c :: (u ++ 32 :: r)).take (c :: u).length = c :: u by simp]
  · simp only at hk hx
    subst hx hk
    have hs : spell ⟨3, d ++ [c], p⟩ = d ++ [c] := rfl
    rw [hs]
    have hall : (d ++ [c]).all isDg = true := by simp only [List.all_append, hd, List.all_cons, hc, List.all_nil, Bool.and_self]
    have hr : runF isDg (d ++ [c] ++ 32 :: r) = (d ++ [c]).length := runF_app isDg 32 r (by decide) _ hall
    obtain ⟨a, u, e⟩ : ∃ a u, d ++ [c] = a :: u := by cases d <;> simp
    have ha : isDg a = true := by rw [e] at hall; simp only [List.all_cons, Bool.and_eq_true] at hall; exact hall.1
    obtain ⟨h1, h2, h3⟩ := isDg_plain ha
    refine lexG_step e h1 h2 ?_ ?_
    · rw [← hr, e, List.cons_append]; exact first_int a _ h3 ha
    · unfold tokText
      rw [if_pos rfl]
      simp [hz]
  · simp only at hk
    subst hk
    exact lexG_quo x (32 :: r) at' (by rintro c t e; cases e; decide)
  · simp only at hk hx
    subst hx hk
    obtain ⟨h1, h2, h3, h4, h5⟩ := sg1_plain ha
    refine lexG_step (l := [a]) rfl h1 h2 ?_ rfl
    have hsg : signF (a :: 32 :: r) = 1 := by simp [signF, sg2_blank, ha]
    rw [List.cons_append, List.nil_append, first_sg a _ h3 h4 h5 (by rw [hsg]; decide), hsg]; rfl
  · simp only at hk hx
    subst hx hk
    obtain ⟨h1, h2, h3, h4, h5⟩ := sg2_plain hab
    refine lexG_step (l := [a, b]) rfl h1 h2 ?_ rfl
    have hsg : signF (a :: b :: 32 :: r) = 2 := by simp [signF, hab]
    rw [List.cons_append, List.cons_append, List.nil_append, first_sg a _ h3 h4 h5 (by rw [hsg]; decide), hsg]; rfl
theorem unq_le : ∀ (n : Nat) (l : Bs), l.length ≤ n → (unq l).length ≤ l.length
  | _, [], _ => Nat.le_refl _
  | _, [c], _ => Nat.le_refl _
  | 0, c :: d :: t, h => by simp at h
  | n + 1, c :: d :: t, h => by
    simp only [List.length_cons] at h
    unfold unq
    split
    · have := unq_le n t (by omega)
      simp only [List.length_cons]; omega
    · have := unq_le n (d :: t) (by simp; omega)
      simp only [List.length_cons] at this ⊢; omega
theorem tokText_le (k : Nat) (p : Bs) : (tokText k p).length ≤ p.length := by
  unfold tokText
  split
  · have := dropWhile_le (· == 48) (p.take (p.length - 1))
    simp only [List.length_append, List.length_take, List.length_drop] at this ⊢
    omega
  · split
    · have := unq_le _ ((p.take (p.length - 1)).drop 1) (Nat.le_refl _)
      simp only [List.length_take, List.length_drop] at this ⊢
      omega
    · exact Nat.le_refl _
theorem dropWhile_idem (p : UInt8 → Bool) : ∀ l : Bs, (l.dropWhile p).dropWhile p = l.dropWhile p
  | [] => rfl
  | a :: l => by
    rw [List.dropWhile_cons]
    split
    · exact dropWhile_idem p l
    · rename_i h
      rw [List.dropWhile_cons, if_neg h]
theorem dropWhile_all (p q : UInt8 → Bool) : ∀ l : Bs, l.all q = true → (l.dropWhile p).all q = true
  | [], _ => rfl
  | a :: l, h => by
    rw [List.dropWhile_cons]
    split
    · simp only [List.all_cons, Bool.and_eq_true] at h; exact dropWhile_all p q l h.2
    · exact h
theorem runF_take (p : UInt8 → Bool) : ∀ l : Bs, (l.take (runF p l)).all p = true
  | [] => rfl
  | a :: l => by
    cases h : p a
    · simp [runF, h]
    · simp only [runF, h, if_true, List.take_succ_cons, List.all_cons, runF_take p l, Bool.and_self]
theorem first_wt (c : UInt8) (t : Bs) (he : (firstF (c :: t)).2.2 = 0) (pos : Nat) : WT ⟨(firstF (c :: t)).1, tokText (firstF (c :: t)).1 ((c :: t).take (firstF (c :: t)).2.1), pos⟩ := by
  cases hc : isLt c
  · cases hd : isDg c
    · by_cases hq : c = 34
      · subst hq
        refine .inr (.inr (.inl ?_))
        cases htx : textF false t with
        | none =>
          have e : firstF (34 :: t) = (0, 0, 52) := by unfold firstF; simp only; rw [if_neg (by decide), if_neg (by decide), if_pos trivial, htx]
          rw [e] at he; simp at he
        | some n =>
          have e : firstF (34 :: t) = (4, n + 1, 0) := by unfold firstF; simp only; rw [if_neg (by decide), if_neg (by decide), if_pos trivial, htx]
          rw [e]
      · by_cases hz : signF (c :: t) = 0
        · have e : firstF (c :: t) = (0, 0, 51) := by simp only [firstF, hc, hd, hq, hz, if_true, Bool.false_eq_true, if_false]
          rw [e] at he; simp at he
        · rw [first_sg c t hc hd hq hz]
          refine .inr (.inr (.inr ⟨rfl, ?_⟩))
          simp only
          rw [tokText_name _ _ (by decide) (by decide)]
          cases t with
          | nil =>
            have hs : sg1 c = true := by
              cases h : sg1 c
              · exact absurd (by simp [signF, h]) hz
              · rfl
            have : signF [c] = 1 := by simp [signF, hs]
            rw [this]
            exact .inl ⟨c, rfl, hs⟩
          | cons b u =>
            cases h2 : sg2 c b
            · have hs : sg1 c = true := by
                cases h : sg1 c
                · exact absurd (by simp [signF, h, h2]) hz
                · rfl
              have : signF (c :: b :: u) = 1 := by simp [signF, hs, h2]
              rw [this]
              exact .inl ⟨c, rfl, hs⟩
            · have : signF (c :: b :: u) = 2 := by simp [signF, h2]
              rw [this]
              exact .inr ⟨c, b, rfl, h2⟩
    · rw [first_int c t hc hd]
      refine .inr (.inl ⟨rfl, ?_⟩)
      have hall := runF_take isDg (c :: t)
      have hp := runF_pos isDg c t hd
      have hl : ((c :: t).take (runF isDg (c :: t))).length = runF isDg (c :: t) := by rw [List.length_take]; have := runF_le isDg (c :: t); omega
      simp only
      obtain ⟨P, hP⟩ : ∃ P, P = (c :: t).take (runF isDg (c :: t)) := ⟨_, rfl⟩
      rw [← hP] at hall hl ⊢
      obtain ⟨d, z, rfl⟩ : ∃ d z, P = d ++ [z] := by
        refine ⟨P.dropLast, P.getLast (by rintro rfl; simp at hl; omega), (List.dropLast_concat_getLast _).symm⟩
      simp only [List.all_append, List.all_cons, List.all_nil, Bool.and_true, Bool.and_eq_true] at hall
      refine ⟨d.dropWhile (· == 48), z, ?_, dropWhile_all _ _ _ hall.1, hall.2, dropWhile_idem _ _⟩
      unfold tokText
      rw [if_pos rfl]
      simp
  · rw [first_word c t hc]
    simp only
    have hn := runF_pos isPt c t (isLt_plain hc).2.2
    obtain ⟨m, hm⟩ : ∃ m, runF isPt (c :: t) = m + 1 := ⟨runF isPt (c :: t) - 1, by omega⟩
    have hall := runF_take isPt (c :: t)
    rw [hm, List.take_succ_cons] at hall ⊢
    simp only [List.all_cons, Bool.and_eq_true] at hall
    refine .inl ⟨by simp only; split <;> simp, c, t.take m, ?_, hc, hall.2, rfl⟩
    simp only
    rw [tokText_name _ _ (by split <;> decide) (by split <;> decide)]
theorem lexG_wt : ∀ (l : Bs) (k at' : Nat) (ts : List LTok), lexG k at' l = .ok ts → ∃ us n, ts = us ++ [⟨0, [], n⟩] ∧ us.length ≤ l.length ∧ ∀ u ∈ us, WT u ∧ u.text.length ≤ l.length
  | [], k, at', ts, h => by simp only [lexG] at h; cases h; exact ⟨[], _, rfl, Nat.le_refl _, fun u hu => by simp at hu⟩
  | c :: t, k + 1, at', ts, h => by
    obtain ⟨us, n, h1, h2, h3⟩ := lexG_wt t k (at' + 1) ts (by rw [lexG] at h; exact h)
    exact ⟨us, n, h1, by simp; omega, fun u hu => ⟨(h3 u hu).1, by have := (h3 u hu).2; simp; omega⟩⟩
  | c :: t, 0, at', ts, h => by
    cases hb : isBl c
    · by_cases hn : c = 35
      · rw [lexG_note t at' hb hn] at h
        obtain ⟨us, n, h1, h2, h3⟩ := lexG_wt t _ _ ts h
        exact ⟨us, n, h1, by simp; omega, fun u hu => ⟨(h3 u hu).1, by have := (h3 u hu).2; simp; omega⟩⟩
      · by_cases he : (firstF (c :: t)).2.2 = 0
        · rw [lexG_tok t at' hb hn he] at h
          cases hr : lexG ((firstF (c :: t)).2.1 - 1) (at' + 1) t with
          | error e => rw [hr] at h; cases h
          | ok rs =>
            rw [hr] at h
            simp only [catE, Except.ok.injEq] at h
            subst h
            obtain ⟨us, n, rfl, h2, h3⟩ := lexG_wt t _ _ rs hr
            refine ⟨_ :: us, n, rfl, by simp; omega, fun u hu => ?_⟩
            rcases List.mem_cons.1 hu with rfl | hu
            · refine ⟨first_wt c t he at', ?_⟩
              have := tokText_le (firstF (c :: t)).1 ((c :: t).take (firstF (c :: t)).2.1)
              rw [List.length_take] at this
              simp only
              omega
            · exact ⟨(h3 u hu).1, by have := (h3 u hu).2; simp; omega⟩
        · rw [lexG_err t at' hb hn he] at h; cases h
    · rw [lexG_blank t at' hb] at h
      obtain ⟨us, n, h1, h2, h3⟩ := lexG_wt t _ _ ts h
      exact ⟨us, n, h1, by simp; omega, fun u hu => ⟨(h3 u hu).1, by have := (h3 u hu).2; simp; omega⟩⟩
def kt (t : LTok) : Nat × Bs := (t.kind, t.text)
theorem backS_lex : ∀ (us : List LTok) (at' : Nat) (r : Bs), (∀ u ∈ us, WT u) → ∃ vs, lexG 0 at' (backS us ++ r) = catE vs (lexG 0 (at' + (backS us).length) r) ∧ vs.map kt = us.map kt
  | [], at', r, _ => ⟨[], by simp [backS, catE_nil], rfl⟩
  | u :: us, at', r, h => by
    obtain ⟨vs, h1, h2⟩ := backS_lex us (at' + (spell u).length + 1) r (fun x hx => h x (by simp [hx]))
    refine ⟨⟨u.kind, u.text, at'⟩ :: vs, ?_, by simp [kt, h2]⟩
    rw [backS, List.append_assoc, List.cons_append, (h u (by simp)).lex, lexG_blank _ _ (by decide), h1, catE_cat]
    congr 2
    simp
    omega
theorem lexT_back {l : Bs} {ts : List LTok} (h : lexT l = .ok ts) (hs : (backS ts).length ≤ 4096) : ∃ ms, lexT (backS ts) = .ok ms ∧ ms.map kt = ts.map kt := by
  have hl : lexG 0 0 l = .ok ts := by
    unfold lexT at h
    split at h
    · cases h
    · exact h
  obtain ⟨us, n, rfl, h2, h3⟩ := lexG_wt _ _ _ _ hl
  obtain ⟨vs, h4, h5⟩ := backS_lex us 0 [32] (fun u hu => (h3 u hu).1)
  refine ⟨vs ++ [⟨0, [], 0 + (backS us).length + 1⟩], ?_, by simp [h5, kt]⟩
  unfold lexT
  rw [if_neg (by omega), backS_snoc]
  rw [show spell ⟨0, [], n⟩ ++ [32] = [32] from rfl, h4]
  rfl
theorem lexT_small {l : Bs} {ts : List LTok} (h : lexT l = .ok ts) : ts.length ≤ l.length + 1 ∧ ∀ t ∈ ts, t.text.length ≤ l.length := by
  have hl : lexG 0 0 l = .ok ts := by
    unfold lexT at h
    split at h
    · cases h
    · exact h
  obtain ⟨us, n, rfl, h2, h3⟩ := lexG_wt _ _ _ _ hl
  refine ⟨by simp; omega, fun t ht => ?_⟩
  rcases List.mem_append.1 ht with ht | ht
  · exact (h3 t ht).2
  · simp at ht; subst ht; simp
theorem spell_len (t : LTok) : (spell t).length ≤ 2 * t.text.length + 2 := by
  unfold spell
  split
  · rw [quoB_len]; have := dbl_len t.text; omega
  · omega
theorem backS_len (m : Nat) : ∀ l : List LTok, (∀ t ∈ l, t.text.length ≤ m) → (backS l).length ≤ l.length * (2 * m + 3)
  | [], _ => by simp [backS]
  | t :: l, h => by
    have h1 := spell_len t
    have h2 := h t (by simp)
    have h3 := backS_len m l (fun x hx => h x (by simp [hx]))
    rw [backS, List.length_append, List.length_cons, List.length_cons, Nat.succ_mul]
    omega
end Go.Proofs.YtebhmalegdpibaaDoor
