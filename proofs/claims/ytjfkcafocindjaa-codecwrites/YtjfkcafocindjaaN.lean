/- CodecNumbers: the walk. -/
import Derived.Test.YtjfkcafocindjaaM
namespace Go.Proofs.Ytjfkcafocindjaa
open Go.RowKit Go.Deep
set_option linter.unusedVariables false
set_option linter.unusedSimpArgs false

set_option maxRecDepth 100000 in
set_option maxHeartbeats 1000000 in
theorem numbers_yes (w : World) (n : Nat) (k : Int) (s : ByteArray) (am : Option Addr) (cm : Nat) (ms : List Nat) (hn : n < 18446744073709551616) (h0 : -9223372036854775808 ≤ k) (h1 : k ≤ 9223372036854775807)
    (hs5 : s.size ≤ 500) (hm5 : ms.length ≤ 500) (hmo : Rd w (.slice am ms.length cm) ms) (hnil : (Value.slice am ms.length cm).ownBlock = none → (Value.slice am ms.length cm) = .slice none 0 0) :
    Calls Try.prog 3 #[.int .u64 (n : Int), .int .i64 k, .string s, .slice am ms.length cm] w fun e w' => e = .returned (.bool true) ∧ Below w.heap.size w w' := by
  have hmb : Byt ms := by obtain ⟨_, _, _, _, hb, _⟩ := hmo; exact hb
  have hnl := hid hnil
  have ln := enc_le n hn
  have lk := enc_le (zz k) (zz_lt k h0 h1)
  have ls : (encT s).length ≤ 1000 := by
    have := enc_le s.size (by omega)
    simp [encT, sb_length]; omega
  clear hnil
  rcases Nat.lt_or_ge 64 s.size with h64' | h64
  all_goals
   go_enter Try.func3, Try.ntmps3
   go_wp2_with (first
    | (at_builtin; have hno := hr11; (refine wpList_appR _ rfl _ _ rfl _ _ (by rfl) (by rfl) _ _ ms hr11 hmoC hnl.out hg11.size (by omega) (by omega) ?_; intro v12 w12 hr12 hg12; have hb := (hg11.trans hg12).nil; replace hr1 := hr1.below (Nat.le_refl _) hb; replace hr2 := hr2.below (Nat.le_refl _) hb; replace hr3 := hr3.below (Nat.le_refl _) hb; replace hmo := hmo.below (Nat.le_refl _) hb; replace hB := hB.trans (hb.mono hB.size); clear hb hg11 hg12 hr11 hmoC))
    | (go_at_call 19; have hno := h64; (refine (text_more _ _ _ s ms h64 hr12 hmb (by omega)).mono ?_; rintro e w13 ⟨rfl, rfl⟩))
    | (go_at_call 19; have hno := h64'; (refine (text_more_long _ _ _ s ms h64' (by omega) hr12 hmb (by omega)).mono ?_; rintro e w13 ⟨rfl, rfl⟩))
    | (at_builtin; have hno := hr10; (refine wpList_appR _ rfl _ _ rfl _ _ (by rfl) (by rfl) _ [] (encT s) (Row.nil _ _) (hr3.rd (encT_byt s)) hr3.nilOf (Nat.le_refl _) (by simp) (by omega) ?_; intro v11 w11 hr11 hg11; rw [List.nil_append] at hr11; have hmoC := hmo.below (Nat.le_refl _) hg11.nil; clear hr10))
    | (at_builtin; have hno := hr9; (refine wpList_appR _ rfl _ _ rfl _ _ (by rfl) (by rfl) _ _ ms hr9 hmoC hnl.out hg9.size (by omega) (by omega) ?_; intro v10 w10 hr10 hg10; have hb := (hg9.trans hg10).nil; replace hr1 := hr1.below (Nat.le_refl _) hb; replace hr2 := hr2.below (Nat.le_refl _) hb; replace hr3 := hr3.below (Nat.le_refl _) hb; replace hmo := hmo.below (Nat.le_refl _) hb; replace hB := hB.trans (hb.mono hB.size); clear hb hg9 hg10 hr9 hmoC))
    | (go_at_call 18; (refine (int_more _ _ _ k ms h0 h1 hr10 hmb (by omega)).mono ?_; rintro e w13 ⟨rfl, rfl⟩))
    | (at_builtin; have hno := hr8; (refine wpList_appR _ rfl _ _ rfl _ _ (by rfl) (by rfl) _ [] (enc (zz k)) (Row.nil _ _) (hr2.rd (enc_byt _)) hr2.nilOf (Nat.le_refl _) (by simp) (by omega) ?_; intro v9 w9 hr9 hg9; rw [List.nil_append] at hr9; have hmoC := hmo.below (Nat.le_refl _) hg9.nil; clear hr8))
    | (at_builtin; have hno := hr7; (refine wpList_appR _ rfl _ _ rfl _ _ (by rfl) (by rfl) _ _ ms hr7 hmoC hnl.out hg7.size (by omega) (by omega) ?_; intro v8 w8 hr8 hg8; have hb := (hg7.trans hg8).nil; replace hr1 := hr1.below (Nat.le_refl _) hb; replace hr2 := hr2.below (Nat.le_refl _) hb; replace hr3 := hr3.below (Nat.le_refl _) hb; replace hmo := hmo.below (Nat.le_refl _) hb; replace hB := hB.trans (hb.mono hB.size); clear hb hg7 hg8 hr7 hmoC))
    | (go_at_call 17; (refine (uint_more _ _ _ n ms hn hr8 hmb (by omega)).mono ?_; rintro e w13 ⟨rfl, rfl⟩))
    | (at_builtin; have hno := hr6; (refine wpList_appR _ rfl _ _ rfl _ _ (by rfl) (by rfl) _ [] (enc n) (Row.nil _ _) (hr1.rd (enc_byt n)) hr1.nilOf (Nat.le_refl _) (by simp) (by omega) ?_; intro v7 w7 hr7 hg7; rw [List.nil_append] at hr7; have hmoC := hmo.below (Nat.le_refl _) hg7.nil; clear hr6 hr5 hr4))
    | (go_at_call 9; refine (known_any _).mono ?_; rintro e w0 ⟨rfl, hB⟩; replace hmo := hmo.below (Nat.le_refl _) hB)
    | (go_at_call 10; (refine (putUint_any _ n hn).mono ?_; rintro e w1 ⟨v1, rfl, hr1, hb⟩; obtain ⟨a1, c1, rfl, _⟩ := hr1.form; replace hmo := hmo.below (Nat.le_refl _) hb; replace hB := hB.trans (hb.mono hB.size); clear hb))
    | (go_at_call 11; (refine (putInt_any _ k h0 h1).mono ?_; rintro e w2 ⟨v2, rfl, hr2, hb⟩; obtain ⟨a2, c2, rfl, _⟩ := hr2.form; replace hr1 := hr1.below (Nat.le_refl _) hb; replace hmo := hmo.below (Nat.le_refl _) hb; replace hB := hB.trans (hb.mono hB.size); clear hb))
    | (go_at_call 12; (refine (putText_any _ s (by omega)).mono ?_; rintro e w3 ⟨v3, rfl, hr3, hb⟩; obtain ⟨a3, c3, rfl, _⟩ := hr3.form; replace hr1 := hr1.below (Nat.le_refl _) hb; replace hr2 := hr2.below (Nat.le_refl _) hb; replace hmo := hmo.below (Nat.le_refl _) hb; replace hB := hB.trans (hb.mono hB.size); clear hb))
    | (go_at_call 14; (refine (refPutUint_any _ _ n rfl hn).mono ?_; rintro e w4 ⟨v4, rfl, hr4, hg⟩; have hb := hg.nil; replace hr1 := hr1.below (Nat.le_refl _) hb; replace hr2 := hr2.below (Nat.le_refl _) hb; replace hr3 := hr3.below (Nat.le_refl _) hb; replace hmo := hmo.below (Nat.le_refl _) hb; replace hB := hB.trans (hb.mono hB.size); clear hb hg))
    | (go_at_call 15; (refine (refPutInt_any _ k h0 h1).mono ?_; rintro e w5 ⟨v5, rfl, hr5, hb⟩; replace hr1 := hr1.below (Nat.le_refl _) hb; replace hr2 := hr2.below (Nat.le_refl _) hb; replace hr3 := hr3.below (Nat.le_refl _) hb; replace hmo := hmo.below (Nat.le_refl _) hb; replace hB := hB.trans (hb.mono hB.size); clear hb))
    | (go_at_call 16; (refine (refPutText_any _ s (by omega)).mono ?_; rintro e w6 ⟨v6, rfl, hr6, hb⟩; replace hr1 := hr1.below (Nat.le_refl _) hb; replace hr2 := hr2.below (Nat.le_refl _) hb; replace hr3 := hr3.below (Nat.le_refl _) hb; replace hmo := hmo.below (Nat.le_refl _) hb; replace hB := hB.trans (hb.mono hB.size); clear hb))
    | (go_at_call 13; refine (bytes_same _ _ _ _ (hr3.rd (encT_byt _)) (hr6.rd (encT_byt _))).mono ?_; rintro e w7 ⟨rfl, rfl⟩)
    | (go_at_call 13; refine (bytes_same _ _ _ _ (hr2.rd (enc_byt _)) (hr5.rd (enc_byt _))).mono ?_; rintro e w7 ⟨rfl, rfl⟩)
    | (go_at_call 13; refine (bytes_same _ _ _ _ (hr1.rd (enc_byt _)) (hr4.rd (enc_byt _))).mono ?_; rintro e w7 ⟨rfl, rfl⟩))
   go_ret
   exact ⟨by simp, hB⟩

set_option maxRecDepth 100000 in
set_option maxHeartbeats 400000 in
theorem numbers_longS (w : World) (n : Nat) (k : Int) (s : ByteArray) (am : Option Addr) (lm cm : Nat) (hs5 : 500 < s.size) :
    Calls Try.prog 3 #[.int .u64 (n : Int), .int .i64 k, .string s, .slice am lm cm] w fun e w' => e = .returned (.bool true) ∧ Below w.heap.size w w' := by
  go_enter Try.func3, Try.ntmps3
  go_wp2_with (go_at_call 9; refine (known_any _).mono ?_; rintro e w0 ⟨rfl, hB⟩)
  go_ret
  exact ⟨rfl, hB⟩

set_option maxRecDepth 100000 in
set_option maxHeartbeats 400000 in
theorem numbers_longM (w : World) (n : Nat) (k : Int) (s : ByteArray) (am : Option Addr) (lm cm : Nat) (hs5 : s.size ≤ 500) (hm5 : 500 < lm) :
    Calls Try.prog 3 #[.int .u64 (n : Int), .int .i64 k, .string s, .slice am lm cm] w fun e w' => e = .returned (.bool true) ∧ Below w.heap.size w w' := by
  go_enter Try.func3, Try.ntmps3
  go_wp2_with (go_at_call 9; refine (known_any _).mono ?_; rintro e w0 ⟨rfl, hB⟩)
  go_ret
  exact ⟨rfl, hB⟩
end Go.Proofs.Ytjfkcafocindjaa
