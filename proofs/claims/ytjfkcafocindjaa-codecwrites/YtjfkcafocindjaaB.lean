/- The other writers of numbers and texts, and the statement's Bytes. -/
import Derived.Test.YtjfkcafocindjaaA
import Derived.Laws.Bits64b
import Derived.Laws.BitsLemmas
namespace Go.Proofs.Ytjfkcafocindjaa
open Go.RowKit Go.Deep
set_option linter.unusedVariables false
set_option linter.unusedSimpArgs false

def zz (k : Int) : Nat := if k < 0 then (-2 * k - 1).toNat else (2 * k).toNat
theorem zz_neg (m : Nat) : zz (-(m : Int) - 1) = 2 * m + 1 := by unfold zz; rw [if_pos (by omega)]; omega
theorem zz_pos (m : Nat) : zz (m : Int) = 2 * m := by unfold zz; rw [if_neg (by omega)]; omega
theorem zz_lt (k : Int) (h0 : -9223372036854775808 ≤ k) (h1 : k ≤ 9223372036854775807) : zz k < 18446744073709551616 := by
  unfold zz; split <;> omega

def sb (s : ByteArray) : List Nat := s.data.toList.map UInt8.toNat
theorem sb_length (s : ByteArray) : (sb s).length = s.size := by simp [sb]
theorem strCells_eq (s : ByteArray) : Lib.strCells s = bv (sb s) := by simp [Lib.strCells, bv, sb]

theorem or_one (m : Nat) (h : m < 9223372036854775808) : bits .or .u64 ((m : Int) * 2) 1 = (2 * m + 1 : Nat) := by
  have h' := bits_or_u64_nat (m * 2) 1 (by omega) (by omega)
  have e : m * 2 ||| 1 = 2 * m + 1 := by
    have := Nat.two_pow_add_eq_or_of_lt (i := 1) (b := 1) (by decide) m
    rw [Nat.mul_comm]
    simpa using this.symm
  rw [e] at h'
  simpa using h'

set_option maxHeartbeats 400000 in
theorem putUint_any (w : World) (n : Nat) (hn : n < 18446744073709551616) :
    Calls Try.prog 10 #[.int .u64 (n : Int)] w fun e w' => ∃ v', e = .returned v' ∧ Row w' w.heap.size v' (enc n) ∧ Below w.heap.size w w' := by
  have h := hid (appendUint_any w w.heap.size _ [] n (Row.nil _ _) (Nat.le_refl _) (by simp) hn)
  go_enter Try.func10, Try.ntmps10
  go_wp2_with (go_at_call 35; refine (Hid.out h).mono ?_; rintro e w' ⟨v', rfl, hr, hb⟩)
  go_ret
  exact ⟨_, rfl, by simpa using hr, hb.nil⟩

theorem xor_neg (m : Nat) (h : m < 9223372036854775808) : bits .xor .i64 (if IntKind.i64.signed = true then -1 else 9223372036854775807) (-(m : Int) - 1) = m := by
  show IntKind.i64.wrap ((BitVec.ofInt 64 (-1) ^^^ BitVec.ofInt 64 (-(m : Int) - 1)).toNat : Int) = _
  have e1 : (-(m : Int) - 1) = Int.negSucc m := by omega
  have e2 : BitVec.ofInt 64 (-1) = BitVec.allOnes 64 := by decide
  rw [e1, BitVec.ofInt_negSucc_eq_not_ofNat, e2, BitVec.xor_comm, BitVec.xor_allOnes, BitVec.not_not, BitVec.toNat_ofNat, IntKind.wrap_i64]
  omega

theorem appendUint_int (w : World) (B : Nat) (v : Value) (xs : List Nat) (x : Int) (n : Nat) (hx : x = n) (h : Row w B v xs) (hB : B ≤ w.heap.size) (hl : xs.length ≤ 1000000000000) (hn : n < 18446744073709551616) :
    Calls Try.prog 35 #[v, .int .u64 x] w fun e w' => ∃ v', e = .returned v' ∧ Row w' B v' (xs ++ enc n) ∧ Grw w v w' v' := by
  subst hx; exact appendUint_any w B v xs n h hB hl hn

set_option maxHeartbeats 400000 in
theorem appendInt_any (w : World) (B : Nat) (v : Value) (xs : List Nat) (k : Int) (h : Row w B v xs) (hB : B ≤ w.heap.size) (hl : xs.length ≤ 1000000000000) (h0 : -9223372036854775808 ≤ k) (h1 : k ≤ 9223372036854775807) :
    Calls Try.prog 36 #[v, .int .i64 k] w fun e w' => ∃ v', e = .returned v' ∧ Row w' B v' (xs ++ enc (zz k)) ∧ Grw w v w' v' := by
  have hz := zz_lt k h0 h1
  by_cases hk : k < 0
  · obtain ⟨m, rfl⟩ : ∃ m : Nat, k = -(m : Int) - 1 := ⟨(-k - 1).toNat, by omega⟩
    rw [zz_neg] at hz ⊢
    have ho := or_one m (by omega)
    go_enter Try.func36, Try.ntmps36
    go_wp2_with (go_at_call 35; refine (appendUint_int w B v xs _ (2 * m + 1) (by rw [xor_neg m (by omega), IntKind.wrap_u64, IntKind.wrap_u64, Int.emod_eq_of_lt (by omega) (by omega), Int.emod_eq_of_lt (by omega) (by omega), ho]) h hB hl hz).mono ?_; rintro e w1 ⟨v1, rfl, hr, hb⟩)
    go_ret
    exact ⟨_, rfl, hr, hb⟩
  · obtain ⟨m, rfl⟩ := Int.eq_ofNat_of_zero_le (show 0 ≤ k by omega)
    rw [zz_pos] at hz ⊢
    go_enter Try.func36, Try.ntmps36
    go_wp2_with (go_at_call 35; refine (appendUint_int w B v xs _ (2 * m) (by omega) h hB hl hz).mono ?_; rintro e w1 ⟨v1, rfl, hr, hb⟩)
    go_ret
    exact ⟨_, rfl, hr, hb⟩

set_option maxHeartbeats 400000 in
theorem putInt_any (w : World) (k : Int) (h0 : -9223372036854775808 ≤ k) (h1 : k ≤ 9223372036854775807) :
    Calls Try.prog 11 #[.int .i64 k] w fun e w' => ∃ v', e = .returned v' ∧ Row w' w.heap.size v' (enc (zz k)) ∧ Below w.heap.size w w' := by
  have h := hid (appendInt_any w w.heap.size _ [] k (Row.nil _ _) (Nat.le_refl _) (by simp) h0 h1)
  go_enter Try.func11, Try.ntmps11
  go_wp2_with (go_at_call 36; refine (Hid.out h).mono ?_; rintro e w' ⟨v', rfl, hr, hb⟩)
  go_ret
  exact ⟨_, rfl, by simpa using hr, hb.nil⟩

theorem run_appS (w : World) (ty : TypeId) (B : Nat) (v : Value) (xs : List Nat) (s : ByteArray) (h : Row w B v xs) (hB : B ≤ w.heap.size) (hl : xs.length ≤ 1099511627776) (hl2 : s.size ≤ 1099511627776) :
    ∃ v' w', (Builtin.append_ #[23, 9] ty #[v, .string s]).run Try.prog w = .ok v' w' ∧ Row w' B v' (xs ++ sb s) ∧ Grw w v w' v' := by
  obtain ⟨i0, hi, hz0, hz1, hz2⟩ := info_parts info5
  obtain ⟨v', w', hrun, hown, hg, hiff⟩ := Lib.run_append_own_string (P := Try.prog) w B 23 9 ty 5 i0 Try.underlying23 Try.underlying9 hi hz0 hz1 hz2 v xs.length (bv xs) h s (by unfold maxLen; omega) (by omega) hB
  refine ⟨v', w', hrun, ?_, hg, ?_⟩
  · unfold Row
    rw [bv_append, List.length_append, sb_length, ← strCells_eq]
    exact hown
  · rcases h.2 with ⟨rfl, hn⟩ | ⟨g, cap, cur, rfl, hbg, hgg, hnc, hcm, hcs, htake⟩
    · by_cases hm : s.size = 0
      · rw [hiff.2 ⟨rfl, hm⟩]; exact .inl rfl
      · have hr := Lib.run_append_own_string (P := Try.prog) w w.heap.size 23 9 ty 5 i0 Try.underlying23 Try.underlying9 hi hz0 hz1 hz2 (.slice none 0 0) 0 [] (World.ownsRow_nil _ _ _ _) s (by unfold maxLen; omega) (by omega) (Nat.le_refl _)
        obtain ⟨v2, w2, hrun2, hown2, _, _⟩ := hr
        rw [hrun] at hrun2
        cases hrun2
        rcases hown2.2 with ⟨rfl, hn2⟩ | ⟨g, cap, cur, rfl, hbg, _⟩
        · omega
        · exact .inr ⟨g, rfl, hbg⟩
    · by_cases hroom : xs.length + s.size ≤ cap
      · have hcs' : cur.size = cap := by simpa using hcs
        have hr := Lib.run_append_room_string (P := Try.prog) w 23 9 ty 5 i0 Try.underlying23 Try.underlying9 hi hz1 g xs.length cap cur hgg s hroom (by omega)
        rw [hrun] at hr
        cases hr
        exact .inl rfl
      · have hr := Lib.run_append_grow_string (P := Try.prog) w 23 9 ty 5 i0 (.int .u8 0) Try.underlying23 Try.underlying9 hi hz0 ⟨g, 0, none⟩ xs.length cap (bv xs) (by rw [hz1]; simp [bv_length]) (World.ownsRow.cells h (g := g) rfl) s (by omega) (by omega) (by rw [hz2]; exact growslice_fits (by omega) (by omega))
        rw [hrun] at hr
        cases hr
        exact .inr ⟨_, rfl, Nat.le_refl _⟩

theorem wpList_appS {ops : Array Oper} {rest : List Oper} {o : Oper} {a : Act} {Q : Exit → Act → World → Prop} (w : World) (hgd : o.guard = none) (sl x : Operand)
    (ho : o.op = .call { callee := .builtin .append, args := #[sl, x], argTypes := #[23, 9] }) (v : Value) (s : ByteArray) (hs : a.eval sl = v) (hx : a.eval x = .string s)
    (B : Nat) (xs : List Nat) (h : Row w B v xs) (hB : B ≤ w.heap.size) (hl : xs.length ≤ 1099511627776) (hl2 : s.size ≤ 1099511627776)
    (k : ∀ v' w', Row w' B v' (xs ++ sb s) → Grw w v w' v' → wpList Try.prog ops Q rest (a.put o.dst v') w') :
    wpList Try.prog ops Q (o :: rest) a w := by
  refine wpList_plain hgd fun K hK => ?_
  obtain ⟨v', w', hr, h2, h3⟩ := run_appS w o.type B v xs s h hB hl hl2
  unfold Oper.wp execOp
  simp only [ho, resolve, invoke, builtin, Sem.run_bind, Sem.run_pure, Result.andThen_ok, List.map_toArray, List.map_cons, List.map_nil, hs, hx, hr]
  exact hK _ _ (k v' w' h2 h3)

def encT (s : ByteArray) : List Nat := enc s.size ++ sb s

set_option maxHeartbeats 400000 in
theorem appendText_any (w : World) (B : Nat) (v : Value) (xs : List Nat) (s : ByteArray) (h : Row w B v xs) (hB : B ≤ w.heap.size) (hl : xs.length ≤ 1000000000000) (hs : s.size ≤ 1000000000000) :
    Calls Try.prog 37 #[v, .string s] w fun e w' => ∃ v', e = .returned v' ∧ Row w' B v' (xs ++ encT s) ∧ Grw w v w' v' := by
  go_enter Try.func37, Try.ntmps37
  have h10 := enc_le s.size (by omega)
  have hl1 : (xs ++ enc s.size).length ≤ 1099511627776 := by simp; omega
  go_wp2_with (first
    | (go_at_call 35; refine (appendUint_int w B v xs _ s.size (by omega) h hB hl (by omega)).mono ?_; rintro e w1 ⟨v1, rfl, hr, hb⟩)
    | (at_builtin; refine wpList_appS _ rfl _ _ rfl _ _ (by rfl) (by rfl) B _ hr (Nat.le_trans hB hb.size) hl1 (by omega) ?_))
  intro v2 w2 hr2 hb2
  go_wp2
  go_ret
  exact ⟨_, rfl, by unfold encT; exact hr2, hb.trans hb2⟩

set_option maxHeartbeats 400000 in
theorem putText_any (w : World) (s : ByteArray) (hs : s.size ≤ 1000000000000) :
    Calls Try.prog 12 #[.string s] w fun e w' => ∃ v', e = .returned v' ∧ Row w' w.heap.size v' (encT s) ∧ Below w.heap.size w w' := by
  have h := hid (appendText_any w w.heap.size _ [] s (Row.nil _ _) (Nat.le_refl _) (by simp) hs)
  go_enter Try.func12, Try.ntmps12
  go_wp2_with (go_at_call 37; refine (Hid.out h).mono ?_; rintro e w' ⟨v', rfl, hr, hb⟩)
  go_ret
  exact ⟨_, rfl, by simpa using hr, hb.nil⟩

set_option maxRecDepth 10000 in
set_option maxHeartbeats 400000 in
theorem refPutUint_any (w : World) (x : Int) (n : Nat) (hx : x = n) (hn : n < 18446744073709551616) :
    Calls Try.prog 14 #[.int .u64 x] w fun e w' => ∃ v', e = .returned v' ∧ Row w' w.heap.size v' (enc n) ∧ Grw w (.slice none 0 0) w' v' := by
  subst hx
  go_enter Try.func14, Try.ntmps14
  go_wp2
  go_loopw [0, 3] (fun nn vv wr => ∃ (ys : List Nat) (m : Nat), nn = .int .u64 (m : Int) ∧ m ≤ n ∧ Row wr w.heap.size vv ys ∧ Grw w (.slice none 0 0) wr vv ∧ ys ++ enc m = enc n) (fun nn _ _ => (intOf nn).toNat)
  case atStart => exact ⟨[], n, rfl, Nat.le_refl _, Row.nil _ _, Grw.refl _ _, rfl⟩
  case round =>
    obtain ⟨ys, m, rfl, hm, hr, hb, he⟩ := hrel
    have hlen : ys.length ≤ 1099511627776 := by
      have := congrArg List.length he
      have h10 := enc_le n hn
      simp at this; omega
    have hBs : w.heap.size ≤ wr.heap.size := hb.size
    have He := hid he
    clear he
    by_cases hlt : m < 128
    · go_wp2_with (at_builtin; refine wpList_app1 _ rfl _ _ rfl _ _ (by rfl) (by rfl) _ ys m ?cy hr hBs hlen ?_)
      case cy => omega
      intro v' w' hr' hb'
      go_wp2
      go_ret
      refine ⟨_, rfl, ?_, hb.trans hb'⟩
      rw [← He.out, enc_small hlt]; exact hr'
    · go_wp2_with (at_builtin; refine wpList_app1 _ rfl _ _ rfl _ _ (by rfl) (by rfl) _ ys (m % 128 + 128) ?cy hr hBs hlen ?_)
      case cy => omega
      intro v' w' hr' hb'
      go_wp2
      go_roundw
      case rel =>
        refine ⟨_, m / 128, by go_num, by omega, hr', hb.trans hb', ?_⟩
        rw [← He.out, enc_big hlt]; simp
      case measure => simp [intOf]; omega

set_option maxHeartbeats 400000 in
theorem refPutInt_any (w : World) (k : Int) (h0 : -9223372036854775808 ≤ k) (h1 : k ≤ 9223372036854775807) :
    Calls Try.prog 15 #[.int .i64 k] w fun e w' => ∃ v', e = .returned v' ∧ Row w' w.heap.size v' (enc (zz k)) ∧ Below w.heap.size w w' := by
  have hz := zz_lt k h0 h1
  by_cases hk : k < 0
  · obtain ⟨m, rfl⟩ : ∃ m : Nat, k = -(m : Int) - 1 := ⟨(-k - 1).toNat, by omega⟩
    rw [zz_neg] at hz ⊢
    go_enter Try.func15, Try.ntmps15
    go_wp2_with (go_at_call 14; refine (refPutUint_any w _ (2 * m + 1) (by omega) hz).mono ?_; rintro e w' ⟨v', rfl, hr, hb⟩)
    go_ret
    exact ⟨_, rfl, hr, hb.nil⟩
  · obtain ⟨m, rfl⟩ := Int.eq_ofNat_of_zero_le (show 0 ≤ k by omega)
    rw [zz_pos] at hz ⊢
    go_enter Try.func15, Try.ntmps15
    go_wp2_with (go_at_call 14; refine (refPutUint_any w _ (2 * m) (by omega) hz).mono ?_; rintro e w' ⟨v', rfl, hr, hb⟩)
    go_ret
    exact ⟨_, rfl, hr, hb.nil⟩

set_option maxHeartbeats 400000 in
theorem refPutText_any (w : World) (s : ByteArray) (hs : s.size ≤ 1000000000000) :
    Calls Try.prog 16 #[.string s] w fun e w' => ∃ v', e = .returned v' ∧ Row w' w.heap.size v' (encT s) ∧ Below w.heap.size w w' := by
  go_enter Try.func16, Try.ntmps16
  have h10 := enc_le s.size (by omega)
  have hl1 : (enc s.size).length ≤ 1099511627776 := by omega
  go_wp2_with (first
    | (go_at_call 14; refine (refPutUint_any w _ s.size (by omega) (by omega)).mono ?_; rintro e w1 ⟨v1, rfl, hr, hb⟩)
    | (at_builtin; refine wpList_appS _ rfl _ _ rfl _ _ (by rfl) (by rfl) _ _ hr hb.size hl1 (by omega) ?_))
  intro v2 w2 hr2 hb2
  go_wp2
  go_ret
  exact ⟨_, rfl, hr2, (hb.trans hb2).nil⟩
end Go.Proofs.Ytjfkcafocindjaa
