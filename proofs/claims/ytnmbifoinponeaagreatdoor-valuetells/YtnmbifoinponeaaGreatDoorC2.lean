/- Prints of plain values: no two are one. -/
import Derived.Test.YtnmbifoinponeaaGreatDoorO
import Derived.Test.YtnmbifoinponeaaGreatDoorA1
namespace Go.Proofs.YtnmbifoinponeaaGreatDoor
open Go.RowKit Go.Deep Go.Shelf
set_option linter.unusedVariables false
set_option linter.unusedSimpArgs false

/- Digits. -/
def dv (l : List UInt8) : Nat := l.foldl (fun a b => a * 10 + (b.toNat - 48)) 0
theorem dig_toNat (d : Nat) (h : d < 10) : (UInt8.ofNat (48 + d)).toNat = 48 + d := by
  rw [UInt8.toNat_ofNat']; omega
theorem dv_dec : ∀ (f u : Nat), u < f → dv (Lib.decDigits u) = u
  | 0, u, h => by omega
  | f + 1, u, h => by
    rw [Lib.decDigits]
    by_cases hu : u < 10
    · rw [dif_pos hu]
      simp only [dv, List.foldl_cons, List.foldl_nil]
      rw [dig_toNat u hu]; omega
    · rw [dif_neg hu]
      have ih := dv_dec f (u / 10) (by omega)
      unfold dv at ih ⊢
      rw [List.foldl_append, ih]
      simp only [List.foldl_cons, List.foldl_nil]
      rw [dig_toNat (u % 10) (by omega)]; omega
theorem dec_inj {u v : Nat} (h : Lib.decDigits u = Lib.decDigits v) : u = v := by
  have h1 := dv_dec (u + 1) u (by omega)
  have h2 := dv_dec (v + 1) v (by omega)
  rw [h] at h1; omega
theorem dec_mem : ∀ (f u : Nat), u < f → ∀ b ∈ Lib.decDigits u, 48 ≤ b.toNat ∧ b.toNat ≤ 57
  | 0, u, h, _, _ => by omega
  | f + 1, u, h, b, hb => by
    rw [Lib.decDigits] at hb
    by_cases hu : u < 10
    · rw [dif_pos hu] at hb
      rw [List.mem_singleton] at hb; subst hb
      rw [dig_toNat u hu]; omega
    · rw [dif_neg hu] at hb
      rcases List.mem_append.1 hb with hb | hb
      · exact dec_mem f (u / 10) (by omega) b hb
      · rw [List.mem_singleton] at hb; subst hb
        rw [dig_toNat (u % 10) (by omega)]; omega
theorem dec_ne (u : Nat) : Lib.decDigits u ≠ [] := by
  rw [Lib.decDigits]; split <;> simp
theorem itoa_mem (n : Int) : ∀ b ∈ Lib.itoa n, b = 45 ∨ (48 ≤ b.toNat ∧ b.toNat ≤ 57) := by
  unfold Lib.itoa
  split
  · intro b hb
    rcases List.mem_cons.1 hb with rfl | hb
    · exact .inl rfl
    · exact .inr (dec_mem _ _ (Nat.lt_succ_self _) b hb)
  · intro b hb
    exact .inr (dec_mem _ _ (Nat.lt_succ_self _) b hb)
theorem itoa_ne (n : Int) : Lib.itoa n ≠ [] := by
  unfold Lib.itoa; split
  · simp
  · exact dec_ne _
theorem itoa_inj {m n : Int} (h : Lib.itoa m = Lib.itoa n) : m = n := by
  have hd : ∀ (u v : Nat), Lib.decDigits u ≠ 45 :: Lib.decDigits v := fun u v e => by
    have := dec_mem _ u (Nat.lt_succ_self _) 45 (by rw [e]; simp)
    simp at this
  unfold Lib.itoa at h
  split at h <;> split at h
  · have := dec_inj (List.cons.inj h).2; omega
  · exact absurd h.symm (hd _ _)
  · exact absurd h (hd _ _)
  · have := dec_inj h; omega

/- Quotes. -/
def NQ (r : List UInt8) : Prop := ∀ x, r ≠ 34 :: x
theorem quo_split : ∀ (s t r q : List UInt8), NQ r → NQ q → s.flatMap dbl ++ 34 :: r = t.flatMap dbl ++ 34 :: q → s = t ∧ r = q
  | [], [], r, q, _, _, h => ⟨rfl, by simpa using h⟩
  | [], c :: t, r, q, hr, _, h => by
    by_cases hc : c = 34
    · subst hc
      simp [dbl] at h
      exact absurd h (hr _)
    · simp [dbl, hc] at h
      exact absurd h.1.symm hc
  | c :: s, [], r, q, _, hq, h => by
    by_cases hc : c = 34
    · subst hc
      simp [dbl] at h
      exact absurd h.symm (hq _)
    · simp [dbl, hc] at h
  | c :: s, d :: t, r, q, hr, hq, h => by
    by_cases hc : c = 34
    · by_cases hd : d = 34
      · subst hc; subst hd
        simp [dbl] at h
        have := quo_split s t r q hr hq (by simpa using h)
        exact ⟨by rw [this.1], this.2⟩
      · subst hc
        simp [dbl, hd] at h
        exact absurd h.1.symm hd
    · by_cases hd : d = 34
      · subst hd
        simp [dbl, hc] at h
      · simp [dbl, hc, hd] at h
        have := quo_split s t r q hr hq (by simpa using h.2)
        exact ⟨by rw [h.1, this.1], this.2⟩

/- What stands behind a field: nothing, or a comma. -/
def CE (r : List UInt8) : Prop := r = [] ∨ ∃ x, r = 44 :: x
theorem CE.nq {r : List UInt8} (h : CE r) : NQ r := by
  rintro x rfl
  rcases h with h | ⟨y, h⟩
  · cases h
  · simp at h
theorem no_comma : ∀ (p q r s : List UInt8), (∀ b ∈ p, b ≠ 44) → (∀ b ∈ q, b ≠ 44) → CE r → CE s → p ++ r = q ++ s → p = q ∧ r = s
  | [], [], r, s, _, _, _, _, h => ⟨rfl, by simpa using h⟩
  | [], c :: q, r, s, _, hq, hr, _, h => by
    rcases hr with rfl | ⟨x, rfl⟩
    · simp at h
    · simp at h
      exact absurd h.1.symm (hq c (by simp))
  | c :: p, [], r, s, hp, _, _, hs, h => by
    rcases hs with rfl | ⟨x, rfl⟩
    · simp at h
    · simp at h
      exact absurd h.1 (hp c (by simp))
  | c :: p, d :: q, r, s, hp, hq, hr, hs, h => by
    simp at h
    have := no_comma p q r s (fun b hb => hp b (by simp [hb])) (fun b hb => hq b (by simp [hb])) hr hs h.2
    exact ⟨by rw [h.1, this.1], this.2⟩
/- A simple print: an integer's, a text's, a truth's. -/
theorem simp_kinds {h : Hd} (hs : simpleB h = true) : h.rc = 0 ∧ h.n = 0 ∧ ((h.kind = 1 ∧ h.text = ByteArray.empty) ∨ (h.kind = 2 ∧ h.int = 0) ∨ (h.kind = 3 ∧ h.text = ByteArray.empty ∧ (h.int = 0 ∨ h.int = 1))) := by
  unfold simpleB at hs
  simp only [Bool.and_eq_true, Bool.or_eq_true, decide_eq_true_eq] at hs
  refine ⟨hs.1.1, hs.1.2, ?_⟩
  rcases hs.2 with (h | h) | h
  · exact .inl h
  · exact .inr (.inl h.1)
  · exact .inr (.inr ⟨h.1.1, h.1.2, h.2⟩)
theorem fb_bytes (x : Bool) : ∀ b ∈ Lib.formatBool x, b ≠ 44 ∧ b ≠ 34 ∧ b ≠ 45 ∧ ¬ (48 ≤ b.toNat ∧ b.toNat ≤ 57) ∧ b ≠ 35 := by cases x <;> decide
theorem fb_ne (x : Bool) : Lib.formatBool x ≠ [] := by cases x <;> decide
theorem fb_inj {x y : Bool} (h : Lib.formatBool x = Lib.formatBool y) : x = y := by
  cases x <;> cases y <;> first | rfl | exact absurd h (by decide)
theorem itoa_no (n : Int) : ∀ b ∈ Lib.itoa n, b ≠ 44 ∧ b ≠ 34 ∧ b ≠ 123 ∧ b ≠ 35 := fun b hb => by
  rcases itoa_mem n b hb with rfl | h
  · decide
  · refine ⟨?_, ?_, ?_, ?_⟩ <;> (rintro rfl; simp at h)
theorem byteArray_ext {a b : ByteArray} (h : a.data.toList = b.data.toList) : a = b := by
  cases a; cases b
  simp only at h
  rw [ByteArray.mk.injEq]
  exact Array.toList_inj.1 h

/- Two simple prints with something behind each: the same, if all is the same. -/
theorem simp_split {h g : Hd} (hs : simpleB h = true) (gs : simpleB g = true) (a b : List (List UInt8)) (r q : List UInt8) (hr : CE r) (hq : CE q) (e : prH h a ++ r = prH g b ++ q) :
    (h.kind = g.kind ∧ h.int = g.int ∧ h.text = g.text ∧ h.rc = g.rc) ∧ r = q := by
  obtain ⟨r1, n1, c1⟩ := simp_kinds hs
  obtain ⟨r2, n2, c2⟩ := simp_kinds gs
  have d3 : ¬ (3 : Int) = 1 := by omega
  have d4 : ¬ (3 : Int) = 2 := by omega
  have d5 : ¬ (2 : Int) = 1 := by omega
  have first_ne : ∀ (p q : List UInt8) (x y : List UInt8), p ≠ [] → q ≠ [] → (∀ b ∈ p, ∀ c ∈ q, b ≠ c) → p ++ x ≠ q ++ y := fun p q x y hp hq hpq e => by
    cases p with
    | nil => exact hp rfl
    | cons b p =>
      cases q with
      | nil => exact hq rfl
      | cons c q =>
        simp at e
        exact hpq b (by simp) c (by simp) e.1
  have comma : ∀ (p q : List UInt8), (∀ b ∈ p, b ≠ 44) → (∀ b ∈ q, b ≠ 44) → True := fun _ _ _ _ => trivial
  rcases c1 with ⟨k1, t1⟩ | ⟨k1, i1⟩ | ⟨k1, t1, i1⟩ <;> rcases c2 with ⟨k2, t2⟩ | ⟨k2, i2⟩ | ⟨k2, t2, i2⟩ <;> simp only [prH, k1, k2, d3, d4, d5, if_true, if_false] at e
  · have := no_comma _ _ r q (fun b hb => (itoa_no _ b hb).1) (fun b hb => (itoa_no _ b hb).1) hr hq e
    exact ⟨⟨by rw [k1, k2], itoa_inj this.1, by rw [t1, t2], by rw [r1, r2]⟩, this.2⟩
  · exact absurd e (by
      rw [List.append_assoc, List.append_assoc]
      exact first_ne _ [34] _ _ (itoa_ne _) (by simp) (fun b hb c hc => by simp at hc; subst hc; exact (itoa_no _ b hb).2.1))
  · exact absurd e (first_ne _ _ _ _ (itoa_ne _) (fb_ne _) (fun b hb c hc e' => by
      subst e'
      have := fb_bytes _ b hc
      rcases itoa_mem _ b hb with h | h
      · exact this.2.2.1 h
      · exact this.2.2.2.1 h))
  · exact absurd e (by
      rw [List.append_assoc, List.append_assoc]
      exact first_ne [34] _ _ _ (by simp) (itoa_ne _) (fun b hb c hc e' => by simp at hb; subst hb; exact (itoa_no _ c hc).2.1 e'.symm))
  · rw [quoL_eq, quoL_eq] at e
    simp only [List.append_assoc, List.cons_append, List.nil_append, List.cons.injEq, true_and] at e
    have := quo_split _ _ r q hr.nq hq.nq e
    exact ⟨⟨by rw [k1, k2], by rw [i1, i2], byteArray_ext this.1, by rw [r1, r2]⟩, this.2⟩
  · exact absurd e (by
      rw [List.append_assoc, List.append_assoc]
      exact first_ne [34] _ _ _ (by simp) (fb_ne _) (fun b hb c hc e' => by simp at hb; subst hb; exact (fb_bytes _ c hc).2.1 e'.symm))
  · exact absurd e (first_ne _ _ _ _ (fb_ne _) (itoa_ne _) (fun b hb c hc e' => by
      subst e'
      have := fb_bytes _ b hb
      rcases itoa_mem _ b hc with h | h
      · exact this.2.2.1 h
      · exact this.2.2.2.1 h))
  · exact absurd e (by
      rw [List.append_assoc, List.append_assoc]
      exact first_ne _ [34] _ _ (fb_ne _) (by simp) (fun b hb c hc => by simp at hc; subst hc; exact (fb_bytes _ b hb).2.1))
  · have := no_comma _ _ r q (fun b hb => (fb_bytes _ b hb).1) (fun b hb => (fb_bytes _ b hb).1) hr hq e
    have hb := fb_inj this.1
    refine ⟨⟨by rw [k1, k2], ?_, by rw [t1, t2], by rw [r1, r2]⟩, this.2⟩
    rcases i1 with i1 | i1 <;> rcases i2 with i2 | i2 <;> rw [i1, i2] at hb ⊢ <;> first | rfl | simp at hb

/- The heads alike. -/
def HEq4 (h g : Hd) : Prop := h.kind = g.kind ∧ h.int = g.int ∧ h.text = g.text ∧ h.rc = g.rc
theorem ci_self (a : Int) : ci a a = 0 := ord_ci.self a
theorem ci_zero {a b : Int} (h : ci a b = 0) : a = b := by
  unfold ci at h; split at h
  · omega
  · split at h <;> omega
theorem cS_zero {s t : ByteArray} (h : cS s t = 0) : s = t := by
  unfold cS cB at h
  split at h
  · omega
  · split at h
    · rename_i h2
      have := beq_iff_eq.1 h2
      rw [ByteArray.toList_eq, ByteArray.toList_eq] at this
      exact byteArray_ext this
    · omega
theorem cH_iff (h g : Hd) : cH h g = 0 ↔ HEq4 h g := by
  constructor
  · intro e
    unfold cH at e
    simp only [orL] at e
    by_cases h1 : ci h.kind g.kind = 0
    · rw [if_pos h1] at e
      by_cases h2 : ci h.int g.int = 0
      · rw [if_pos h2] at e
        by_cases h3 : cS h.text g.text = 0
        · rw [if_pos h3] at e
          by_cases h4 : ci h.rc g.rc = 0
          · exact ⟨ci_zero h1, ci_zero h2, cS_zero h3, ci_zero h4⟩
          · rw [if_neg h4] at e; exact absurd e h4
        · rw [if_neg h3] at e; exact absurd e h3
      · rw [if_neg h2] at e; exact absurd e h2
    · rw [if_neg h1] at e; exact absurd e h1
  · rintro ⟨h1, h2, h3, h4⟩
    unfold cH
    rw [h1, h2, h3, h4, ci_self, ci_self, ci_self, ord_cS.self]
    rfl
theorem prH_cong {h g : Hd} (e : HEq4 h g) (a : List (List UInt8)) : prH h a = prH g a := by
  obtain ⟨h1, h2, h3, h4⟩ := e
  unfold prH
  rw [h1, h2, h3, h4]
theorem cmpL_zero {α : Type} {f : α → α → Int} {g : α → List UInt8} (h : ∀ a b, f a b = 0 → g a = g b) : ∀ (l m : List α), cmpL f l m = 0 → l.map g = m.map g
  | [], [], _ => rfl
  | [], _ :: _, e => by simp [cmpL] at e
  | _ :: _, [], e => by simp [cmpL] at e
  | a :: l, b :: m, e => by
    simp only [cmpL] at e
    by_cases h0 : f a b = 0
    · rw [if_pos h0] at e
      simp only [List.map_cons, h a b h0, cmpL_zero h l m e]
    · rw [if_neg h0] at e; exact absurd e h0
/- Values that compare as the same have one print. -/
theorem print_same : ∀ (k : Nat) (s t : VT k), cmpT k s t = 0 → prT k s = prT k t
  | 0, s, _, _ => Empty.elim s
  | k + 1, s, t, e => by
    have e' : (if cH s.1 t.1 = 0 then cmpL (cmpT k) s.2 t.2 else cH s.1 t.1) = 0 := e
    by_cases h0 : cH s.1 t.1 = 0
    · rw [if_pos h0] at e'
      show prH s.1 (s.2.map (prT k)) = prH t.1 (t.2.map (prT k))
      rw [cmpL_zero (print_same k) _ _ e', prH_cong ((cH_iff _ _).1 h0)]
    · rw [if_neg h0] at e'; exact absurd e' h0

/- Rows of simple prints. -/
def jt (l : List (List UInt8)) : List UInt8 := l.flatMap fun x => 44 :: 32 :: x
theorem joinC_cons (x : List UInt8) (l : List (List UInt8)) : joinC (x :: l) = x ++ jt l := by
  unfold joinC jt
  rw [List.mapIdx_cons]
  simp only [if_true, List.flatten_cons]
  congr 1
  rw [List.flatMap_def]
  congr 1
  apply List.ext_getElem?
  intro i
  simp
theorem jt_ce (l : List (List UInt8)) : CE (jt l) := by
  cases l with
  | nil => exact .inl rfl
  | cons x l => exact .inr ⟨32 :: x ++ jt l, by simp [jt]⟩
theorem cmp_simple {k : Nat} {w : World} {u v : VT k} (hu : Rds k w u) (hv : Rds k w v) (su : simpleB (hdT k u) = true) (sv : simpleB (hdT k v) = true) (e : HEq4 (hdT k u) (hdT k v)) : cmpT k u v = 0 := by
  cases k with
  | zero => exact hu.elim
  | succ k =>
    obtain ⟨h, us⟩ := u
    obtain ⟨g, vs⟩ := v
    have h1 := (simp_kinds su).2.1
    have h2 := (simp_kinds sv).2.1
    have e1 : us = [] := List.eq_nil_of_length_eq_zero (by rw [← hu.2.1]; exact h1)
    have e2 : vs = [] := List.eq_nil_of_length_eq_zero (by rw [← hv.2.1]; exact h2)
    subst e1; subst e2
    show (if cH h g = 0 then cmpL (cmpT k) [] [] else cH h g) = 0
    have e' : HEq4 h g := e
    rw [if_pos ((cH_iff h g).2 e')]; rfl
theorem prT_hd {k : Nat} {w : World} {u : VT k} (hu : Rds k w u) : ∃ a, prT k u = prH (hdT k u) a := by
  cases k with
  | zero => exact hu.elim
  | succ k => exact ⟨_, rfl⟩
theorem jt_inj {k : Nat} {w : World} : ∀ (l m : List (VT k)), (∀ u ∈ l, Rds k w u ∧ simpleB (hdT k u) = true) → (∀ u ∈ m, Rds k w u ∧ simpleB (hdT k u) = true) → jt (l.map (prT k)) = jt (m.map (prT k)) → cmpL (cmpT k) l m = 0
  | [], [], _, _, _ => rfl
  | [], v :: m, _, _, e => by simp [jt] at e
  | u :: l, [], _, _, e => by simp [jt] at e
  | u :: l, v :: m, hl, hm, e => by
    obtain ⟨ru, su⟩ := hl u (by simp)
    obtain ⟨rv, sv⟩ := hm v (by simp)
    obtain ⟨a, ea⟩ := prT_hd ru
    obtain ⟨b, eb⟩ := prT_hd rv
    have e' : prT k u ++ jt (l.map (prT k)) = prT k v ++ jt (m.map (prT k)) := by
      simpa [jt] using e
    rw [ea, eb] at e'
    have := simp_split su sv a b _ _ (jt_ce _) (jt_ce _) e'
    simp only [cmpL]
    rw [if_pos (cmp_simple ru rv su sv this.1)]
    exact jt_inj l m (fun x hx => hl x (by simp [hx])) (fun x hx => hm x (by simp [hx])) this.2
theorem simp_ne {h : Hd} (hs : simpleB h = true) (a : List (List UInt8)) : prH h a ≠ [] := by
  obtain ⟨_, _, c⟩ := simp_kinds hs
  unfold prH
  rcases c with ⟨k, _⟩ | ⟨k, _⟩ | ⟨k, _⟩
  · rw [if_pos k]; exact itoa_ne _
  · rw [if_neg (by omega), if_pos k]; simp
  · rw [if_neg (by omega), if_neg (by omega), if_pos k]; exact fb_ne _
theorem joinC_inj {k : Nat} {w : World} (l m : List (VT k)) (hl : ∀ u ∈ l, Rds k w u ∧ simpleB (hdT k u) = true) (hm : ∀ u ∈ m, Rds k w u ∧ simpleB (hdT k u) = true) (e : joinC (l.map (prT k)) = joinC (m.map (prT k))) : cmpL (cmpT k) l m = 0 := by
  cases l with
  | nil =>
    cases m with
    | nil => rfl
    | cons v m =>
      rw [List.map_cons, joinC_cons] at e
      obtain ⟨b, eb⟩ := prT_hd (hm v (by simp)).1
      have := simp_ne (hm v (by simp)).2 b
      rw [← eb] at this
      have e0 : ([] : List UInt8) = prT k v ++ jt (m.map (prT k)) := e
      exact absurd (List.append_eq_nil_iff.1 e0.symm).1 this
  | cons u l =>
    cases m with
    | nil =>
      rw [List.map_cons, joinC_cons] at e
      obtain ⟨b, eb⟩ := prT_hd (hl u (by simp)).1
      have := simp_ne (hl u (by simp)).2 b
      rw [← eb] at this
      have e0 : prT k u ++ jt (l.map (prT k)) = [] := e
      exact absurd (List.append_eq_nil_iff.1 e0).1 this
    | cons v m =>
      rw [List.map_cons, List.map_cons, joinC_cons, joinC_cons] at e
      exact jt_inj (u :: l) (v :: m) hl hm (by simp only [List.map_cons, jt, List.flatMap_cons]; simp only [jt] at e; rw [List.cons_append, List.cons_append, List.cons_append, List.cons_append, e])

/- Plain values with one print compare as the same. -/
theorem print_inj (k : Nat) (w : World) (s t : VT (k + 1)) (hs : Rds (k + 1) w s) (ht : Rds (k + 1) w t) (ps : plainB s.1 (s.2.map (hdT k)) = true) (pt : plainB t.1 (t.2.map (hdT k)) = true) (e : prT (k + 1) s = prT (k + 1) t) : cmpT (k + 1) s t = 0 := by
  obtain ⟨h, us⟩ := s
  obtain ⟨g, vs⟩ := t
  have e' : prH h (us.map (prT k)) = prH g (vs.map (prT k)) := e
  show (if cH h g = 0 then cmpL (cmpT k) us vs else cH h g) = 0
  simp only at ps pt
  have hash_ne : ∀ {h g : Hd} (a b : List (List UInt8)), simpleB h = true → g.kind = 4 → prH h a ≠ prH g b := fun {h g} a b hs hk e => by
    have hg : prH g b = 35 :: (Lib.itoa g.rc ++ [123] ++ joinC b ++ [125]) := by
      unfold prH
      rw [if_neg (by omega), if_neg (by omega), if_neg (by omega), if_pos hk]; simp
    rw [hg] at e
    obtain ⟨_, _, c⟩ := simp_kinds hs
    unfold prH at e
    rcases c with ⟨k, _⟩ | ⟨k, _⟩ | ⟨k, _⟩
    · rw [if_pos k] at e
      exact (itoa_no _ 35 (by rw [e]; simp)).2.2.2 rfl
    · rw [if_neg (by omega), if_pos k] at e
      simp at e
    · rw [if_neg (by omega), if_neg (by omega), if_pos k] at e
      exact (fb_bytes _ 35 (by rw [e]; simp)).2.2.2.2 rfl
  by_cases k1 : h.kind = 4
  · rw [plainB_rec k1] at ps
    simp only [Bool.and_eq_true, decide_eq_true_eq] at ps
    by_cases k2 : g.kind = 4
    · rw [plainB_rec k2] at pt
      simp only [Bool.and_eq_true, decide_eq_true_eq] at pt
      have hp : ∀ (x : Hd) (b : List (List UInt8)), x.kind = 4 → prH x b = 35 :: (Lib.itoa x.rc ++ 123 :: (joinC b ++ [125])) := fun x b hk => by
        unfold prH
        rw [if_neg (by omega), if_neg (by omega), if_neg (by omega), if_pos hk]; simp
      rw [hp h _ k1, hp g _ k2] at e'
      have brace : ∀ (p q r s : List UInt8), (∀ b ∈ p, b ≠ 123) → (∀ b ∈ q, b ≠ 123) → p ++ 123 :: r = q ++ 123 :: s → p = q ∧ r = s := by
        intro p
        induction p with
        | nil =>
          intro q r s _ hq e
          cases q with
          | nil => exact ⟨rfl, by simpa using e⟩
          | cons c q => simp at e; exact absurd e.1.symm (hq c (by simp))
        | cons b p ih =>
          intro q r s hp hq e
          cases q with
          | nil => simp at e; exact absurd e.1 (hp b (by simp))
          | cons c q =>
            simp at e
            have := ih q r s (fun x hx => hp x (by simp [hx])) (fun x hx => hq x (by simp [hx])) e.2
            exact ⟨by rw [e.1, this.1], this.2⟩
      obtain ⟨er, ej⟩ := brace _ _ _ _ (fun b hb => (itoa_no _ b hb).2.2.1) (fun b hb => (itoa_no _ b hb).2.2.1) (List.cons.inj e').2
      have ej' := List.append_cancel_right ej
      have hh : HEq4 h g := ⟨by rw [k1, k2], by rw [ps.1.1.1.1.1, pt.1.1.1.1.1], by rw [ps.1.1.1.1.2, pt.1.1.1.1.2], itoa_inj er⟩
      rw [if_pos ((cH_iff _ _).2 hh)]
      have fl : ∀ u ∈ us, Rds k w u ∧ simpleB (hdT k u) = true := fun u hu => ⟨hs.2.2.2.2 u hu, (List.all_eq_true.1 ps.2) _ (List.mem_map_of_mem hu)⟩
      have fm : ∀ u ∈ vs, Rds k w u ∧ simpleB (hdT k u) = true := fun u hu => ⟨ht.2.2.2.2 u hu, (List.all_eq_true.1 pt.2) _ (List.mem_map_of_mem hu)⟩
      exact joinC_inj us vs fl fm ej'
    · have pt' : simpleB g = true := by unfold plainB at pt; rw [if_neg k2] at pt; exact pt
      exact absurd e'.symm (hash_ne _ _ pt' k1)
  · have ps' : simpleB h = true := by unfold plainB at ps; rw [if_neg k1] at ps; exact ps
    by_cases k2 : g.kind = 4
    · exact absurd e' (hash_ne _ _ ps' k2)
    · have pt' : simpleB g = true := by unfold plainB at pt; rw [if_neg k2] at pt; exact pt
      have := simp_split ps' pt' _ _ [] [] (.inl rfl) (.inl rfl) (by rw [List.append_nil, List.append_nil]; exact e')
      exact cmp_simple (k := k + 1) hs ht ps' pt' this.1
end Go.Proofs.YtnmbifoinponeaaGreatDoor
