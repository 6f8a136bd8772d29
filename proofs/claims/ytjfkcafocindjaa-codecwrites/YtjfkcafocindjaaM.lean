/- Rows put behind rows; what is read with more behind it. -/
import Derived.Test.YtjfkcafocindjaaJ
namespace Go.Proofs.Ytjfkcafocindjaa
open Go.RowKit Go.Deep
set_option linter.unusedVariables false
set_option linter.unusedSimpArgs false

theorem run_appR (w : World) (ty : TypeId) (B : Nat) (v u : Value) (xs ys : List Nat) (h : Row w B v xs) (hu : Rd w u ys) (hnil : u.ownBlock = none → u = .slice none 0 0) (hB : B ≤ w.heap.size) (hl : xs.length ≤ 1099511627776) (hl2 : ys.length ≤ 1099511627776) :
    ∃ v' w', (Builtin.append_ #[23, 23] ty #[v, u]).run Try.prog w = .ok v' w' ∧ Row w' B v' (xs ++ ys) ∧ Grw w v w' v' := by
  obtain ⟨i0, hi, hz0, hz1, hz2⟩ := info_parts info5
  obtain ⟨a, cap, rfl, hc, hb, h3⟩ := hu
  cases a with
  | none =>
    have e := hnil rfl
    injection e with _ e1 e2
    have : ys = [] := List.eq_nil_of_length_eq_zero e1
    subst this
    subst e2
    exact ⟨v, w, run_append_owned_none w B 23 ty 5 i0 1 Try.underlying23 hi v xs.length (bv xs) h, by simpa using h, Grw.refl _ _⟩
  | some ad =>
    obtain ⟨v', w', hrun, hown, hg, _, hat⟩ := run_append_own_at (P := Try.prog) w B 23 ty 5 i0 (.int .u8 0) 1 1 Try.underlying23 hi hz0 hz1 hz2 rfl (by decide) v xs.length (bv xs) h ad ys.length cap (bv ys) (by simp [bv_length]) (by
      intro j x hx
      simp only [bv, List.getElem?_map, Option.map_eq_some_iff] at hx
      obtain ⟨y, hy, rfl⟩ := hx
      obtain ⟨b, off, e, hcell⟩ := h3 j y hy
      cases e
      rw [Addr.add_lit]; exact hcell) (bv_one ys) (by unfold maxLen; omega) (by omega) hB
    refine ⟨v', w', hrun, ?_, hg, ?_⟩
    · unfold Row
      rw [bv_append, List.length_append]
      exact hown
    · rcases hat with hat | hat
      · exact .inl hat
      · exact .inr ⟨_, hat, Nat.le_refl _⟩

theorem wpList_appR {ops : Array Oper} {rest : List Oper} {o : Oper} {a : Act} {Q : Exit → Act → World → Prop} (w : World) (hgd : o.guard = none) (sl x : Operand)
    (ho : o.op = .call { callee := .builtin .append, args := #[sl, x], argTypes := #[23, 23] }) (v u : Value) (hs : a.eval sl = v) (hx : a.eval x = u)
    (B : Nat) (xs ys : List Nat) (h : Row w B v xs) (hu : Rd w u ys) (hnil : u.ownBlock = none → u = .slice none 0 0) (hB : B ≤ w.heap.size) (hl : xs.length ≤ 1099511627776) (hl2 : ys.length ≤ 1099511627776)
    (k : ∀ v' w', Row w' B v' (xs ++ ys) → Grw w v w' v' → wpList Try.prog ops Q rest (a.put o.dst v') w') :
    wpList Try.prog ops Q (o :: rest) a w := by
  refine wpList_plain hgd fun K hK => ?_
  obtain ⟨v', w', hr, h2, h3⟩ := run_appR w o.type B v u xs ys h hu hnil hB hl hl2
  unfold Oper.wp execOp
  simp only [ho, resolve, invoke, builtin, Sem.run_bind, Sem.run_pure, Result.andThen_ok, List.map_toArray, List.map_cons, List.map_nil, hs, hx, hr]
  exact hK _ _ (k v' w' h2 h3)

theorem Row.nilOf {w B v xs} (h : Row w B v xs) : v.ownBlock = none → v = .slice none 0 0 := by
  intro e
  rcases h.2 with ⟨rfl, _⟩ | ⟨g, cap, cur, rfl, _⟩
  · rfl
  · cases e

theorem uint_more (w : World) (B : Nat) (v : Value) (n : Nat) (m : List Nat) (hn : n < 18446744073709551616) (h : Row w B v (enc n ++ m)) (hm : Byt m) (hl : m.length ≤ 10000) :
    Calls Try.prog 17 #[v] w fun e w' => e = .returned (.tuple #[.int .u64 (n : Int), .int .i64 ((enc n).length : Int), .int .i64 0]) ∧ w' = w := by
  have hl := enc_le n hn
  refine (uint_any w v (enc n ++ m) (h.rd ((enc_byt n).append hm)) (by simp; omega)).mono ?_
  rintro e w' ⟨rfl, rfl⟩
  exact ⟨by rw [dec_enc n m hn]; rfl, rfl⟩
theorem int_more (w : World) (B : Nat) (v : Value) (k : Int) (m : List Nat) (h0 : -9223372036854775808 ≤ k) (h1 : k ≤ 9223372036854775807) (h : Row w B v (enc (zz k) ++ m)) (hm : Byt m) (hl : m.length ≤ 10000) :
    Calls Try.prog 18 #[v] w fun e w' => e = .returned (.tuple #[.int .i64 k, .int .i64 ((enc (zz k)).length : Int), .int .i64 0]) ∧ w' = w := by
  have hl := enc_le (zz k) (zz_lt k h0 h1)
  refine (int_any w v (enc (zz k) ++ m) (h.rd ((enc_byt _).append hm)) (by simp; omega)).mono ?_
  rintro e w' ⟨rfl, rfl⟩
  exact ⟨by rw [dec_enc _ m (zz_lt k h0 h1)]; simp only [intV, unzz_zz], rfl⟩
theorem textD_more (M : Nat) (s : ByteArray) (m : List Nat) (hs : s.size < 18446744073709551616) : textD M (encT s ++ m) = if M < s.size then .error 21 else .ok ((sb s), (encT s).length) := by
  unfold textD encT
  rw [List.append_assoc, dec_enc _ _ hs]
  simp only
  split
  · rfl
  · rw [if_neg (by simp [sb_length])]
    congr 2
    · rw [List.drop_left, List.take_left' (sb_length s)]
    · simp [sb_length]
theorem text_more (w : World) (B : Nat) (v : Value) (s : ByteArray) (m : List Nat) (hs : s.size ≤ 64) (h : Row w B v (encT s ++ m)) (hm : Byt m) (hl : m.length ≤ 10000) :
    Calls Try.prog 19 #[v] w fun e w' => e = .returned (.tuple #[.string s, .int .i64 ((encT s).length : Int), .int .i64 0]) ∧ w' = w := by
  have hl := enc_le s.size (by omega)
  refine (text_any w v (encT s ++ m) (h.rd ((encT_byt s).append hm)) (by simp [encT, sb_length]; omega)).mono ?_
  rintro e w' ⟨rfl, rfl⟩
  exact ⟨by rw [textD_more _ _ _ (by omega), if_neg (by omega)]; simp only [textV, ofB_sb], rfl⟩
theorem text_more_long (w : World) (B : Nat) (v : Value) (s : ByteArray) (m : List Nat) (hs : 64 < s.size) (hs2 : s.size ≤ 10000) (h : Row w B v (encT s ++ m)) (hm : Byt m) (hl : m.length ≤ 10000) :
    Calls Try.prog 19 #[v] w fun e w' => e = .returned (.tuple #[.string ByteArray.empty, .int .i64 0, .int .i64 21]) ∧ w' = w := by
  have hl := enc_le s.size (by omega)
  refine (text_any w v (encT s ++ m) (h.rd ((encT_byt s).append hm)) (by simp [encT, sb_length]; omega)).mono ?_
  rintro e w' ⟨rfl, rfl⟩
  exact ⟨by rw [textD_more _ _ _ (by omega), if_pos hs]; rfl, rfl⟩
end Go.Proofs.Ytjfkcafocindjaa
