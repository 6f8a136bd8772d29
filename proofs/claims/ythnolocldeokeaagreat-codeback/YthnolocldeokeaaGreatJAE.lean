/- Reading a number. -/
import Derived.Test.YthnolocldeokeaaGreatJAD
import Derived.WalkMore
namespace Go.Proofs.YthnolocldeokeaaGreat
open Go.RowKit Go.Deep
set_option linter.unusedVariables false
set_option linter.unusedSimpArgs false

def decAt (n i : Nat) : List Nat → Option (Nat × Nat)
  | [] => none
  | c :: r => if 0 < i ∧ c = 0 ∨ i = 9 ∧ 1 < c then none else if c < 128 then some (n + c * 2 ^ (7 * i), i + 1) else decAt (n + (c - 128) * 2 ^ (7 * i)) (i + 1) r
def dec (bs : List Nat) : Option (Nat × Nat) := decAt 0 0 bs

theorem decAt_size (bs : List Nat) : ∀ (n i m k : Nat), decAt n i bs = some (m, k) → i < k ∧ k ≤ i + bs.length := by
  induction bs with
  | nil => intro n i m k h; cases h
  | cons c r ih =>
    intro n i m k h
    simp only [decAt] at h
    split at h
    · cases h
    · split at h
      · cases h; simp
      · have := ih _ _ _ _ h
        simp; omega
theorem decAt_enc : ∀ (n m i : Nat) (more : List Nat), (0 < i → n ≠ 0) → i ≤ 9 → n < 128 ^ (9 - i) * 2 → decAt m i (enc n ++ more) = some (m + n * 2 ^ (7 * i), i + (enc n).length) := by
  intro n
  induction n using Nat.strongRecOn with
  | _ n ih =>
    intro m i more h0 hi hn
    by_cases h : n < 128
    · rw [enc_small h]
      simp only [List.cons_append, List.nil_append, decAt]
      rw [if_neg (by
        rintro (⟨a, rfl⟩ | ⟨rfl, b⟩)
        · exact h0 a rfl
        · simp at hn; omega), if_pos h]
      simp
    · rw [enc_big h]
      simp only [List.cons_append, decAt]
      have hi9 : i ≠ 9 := by rintro rfl; simp at hn; omega
      rw [if_neg (by
        rintro (⟨a, b⟩ | ⟨rfl, b⟩)
        · omega
        · exact hi9 rfl), if_neg (by omega)]
      rw [ih (n / 128) (by omega) _ (i + 1) more (fun _ => by omega) (by omega) (by
        rw [show 9 - i = (9 - (i + 1)) + 1 from by omega, Nat.pow_succ] at hn
        omega)]
      have e : 2 ^ (7 * (i + 1)) = 128 * 2 ^ (7 * i) := by rw [Nat.mul_add, Nat.pow_add]; omega
      congr 2
      · rw [e, show n % 128 + 128 - 128 = n % 128 from by omega]
        have hd := Nat.div_add_mod n 128
        calc m + n % 128 * 2 ^ (7 * i) + n / 128 * (128 * 2 ^ (7 * i)) = m + (128 * (n / 128) + n % 128) * 2 ^ (7 * i) := by rw [Nat.add_mul, ← Nat.mul_assoc, Nat.mul_comm (n / 128) 128]; omega
          _ = m + n * 2 ^ (7 * i) := by rw [hd]
      · simp; omega
theorem dec_enc (n : Nat) (more : List Nat) (h : n < 18446744073709551616) : dec (enc n ++ more) = some (n, (enc n).length) := by
  have := decAt_enc n 0 0 more (by omega) (by omega) (by simpa using h)
  simpa [dec] using this
theorem decAt_back (bs : List Nat) (hb : Byt bs) : ∀ (n i m k : Nat), i ≤ 9 → n < 2 ^ (7 * i) → decAt n i bs = some (m, k) → ∃ q, m = n + q * 2 ^ (7 * i) ∧ q < 128 ^ (9 - i) * 2 ∧ bs.take (k - i) = enc q ∧ i < k ∧ k ≤ 10 ∧ (0 < i → 0 < q) := by
  induction bs with
  | nil => intro n i m k _ _ h; cases h
  | cons c r ih =>
    intro n i m k hi hn h
    simp only [decAt] at h
    have hc : c < 256 := hb c (by simp)
    split at h
    · cases h
    · rename_i h1
      split at h
      · rename_i h2
        cases h
        refine ⟨c, rfl, ?_, ?_, by omega, by omega, fun a => ?_⟩
        · rcases Nat.lt_or_ge i 9 with h9 | h9
          · have : 128 ^ 1 ≤ 128 ^ (9 - i) := Nat.pow_le_pow_right (by decide) (by omega)
            omega
          · have : i = 9 := by omega
            subst this
            simp at h1 ⊢; omega
        · rw [enc_small h2]; simp
        · have : c ≠ 0 := fun e => h1 (.inl ⟨a, e⟩)
          omega
      · rename_i h2
        have hi9 : i < 9 := by
          rcases Nat.lt_or_ge i 9 with h9 | h9
          · exact h9
          · exact absurd (.inr ⟨by omega, by omega⟩) h1
        have e : 2 ^ (7 * (i + 1)) = 128 * 2 ^ (7 * i) := by rw [Nat.mul_add, Nat.pow_add]; omega
        obtain ⟨q, e1, e2, e3, e4, e5, e6⟩ := ih (fun x hx => hb x (by simp [hx])) _ _ _ _ (by omega) (by
          rw [e]
          have : (c - 128) * 2 ^ (7 * i) ≤ 127 * 2 ^ (7 * i) := Nat.mul_le_mul_right _ (by omega)
          omega) h
        have e6' := e6 (by omega)
        refine ⟨(c - 128) + 128 * q, ?_, ?_, ?_, by omega, by omega, fun _ => by omega⟩
        · rw [e1, e, Nat.add_mul, ← Nat.mul_assoc, Nat.mul_comm 128 q]; omega
        · rw [show 9 - i = (9 - (i + 1)) + 1 from by omega, Nat.pow_succ]; omega
        · rw [show k - i = (k - (i + 1)) + 1 from by omega, List.take_succ_cons, e3, enc_big (n := c - 128 + 128 * q) (by omega)]
          congr 1
          · omega
          · congr 1; omega
theorem dec_back {bs : List Nat} (hb : Byt bs) {m k : Nat} (h : dec bs = some (m, k)) : bs.take k = enc m ∧ m < 18446744073709551616 ∧ k ≤ bs.length ∧ 0 < k ∧ k ≤ 10 := by
  obtain ⟨q, e1, e2, e3, e4, e5, _⟩ := decAt_back bs hb 0 0 m k (by omega) (by simp) h
  have hs := decAt_size bs 0 0 m k h
  simp at e1 e2 e3
  subst e1
  exact ⟨e3, by omega, by omega, by omega, e5⟩
end Go.Proofs.YthnolocldeokeaaGreat

namespace Go.Proofs.YthnolocldeokeaaGreat
open Go.RowKit Go.Deep
set_option linter.unusedVariables false
set_option linter.unusedSimpArgs false

def uintV : Option (Nat × Nat) → Value
  | none => .tuple #[.int .u64 0, .int .i64 0, .int .i64 20]
  | some (n, k) => .tuple #[.int .u64 (n : Int), .int .i64 (k : Int), .int .i64 0]

theorem pow7 (i : Nat) : 2 ^ (7 * (i + 1)) = 128 * 2 ^ (7 * i) := by rw [Nat.mul_add, Nat.pow_add]; omega
theorem pow9 {i : Nat} (h : i ≤ 8) : 128 * 2 ^ (7 * i) ≤ 9223372036854775808 := by
  have : 2 ^ (7 * i) ≤ 2 ^ 56 := Nat.pow_le_pow_right (by decide) (by omega)
  omega
theorem fits7 {c i : Nat} (hc : c < 128) (hi : i ≤ 9) (h9 : i = 9 → c ≤ 1) : c * 2 ^ (7 * i) < 18446744073709551616 := by
  rcases Nat.lt_or_ge i 9 with h | h
  · have h1 := pow9 (i := i) (by omega)
    have : c * 2 ^ (7 * i) ≤ 128 * 2 ^ (7 * i) := Nat.mul_le_mul_right _ (by omega)
    omega
  · have : i = 9 := by omega
    subst this
    have := h9 rfl
    omega
theorem or_join {m c i : Nat} (hm : m < 2 ^ (7 * i)) (hc : c * 2 ^ (7 * i) < 18446744073709551616) (h9 : i ≤ 9) : bits .or .u64 (m : Int) ((c * 2 ^ (7 * i) : Nat) : Int) = ((m + c * 2 ^ (7 * i) : Nat) : Int) := by
  have hp : 2 ^ (7 * i) ≤ 2 ^ 63 := Nat.pow_le_pow_right (by decide) (by omega)
  rw [bits_or_u64_nat m (c * 2 ^ (7 * i)) (by omega) hc]
  have := Nat.two_pow_add_eq_or_of_lt hm c
  rw [Nat.mul_comm c, Nat.or_comm, ← this, Nat.add_comm]
theorem or_shl {m c i : Nat} (hm : m < 2 ^ (7 * i)) (hc : c * 2 ^ (7 * i) < 18446744073709551616) (h9 : i ≤ 9) : bits .or .u64 (m : Int) (IntKind.u64.wrap ((c : Int) * 2 ^ (7 * i))) = ((m + c * 2 ^ (7 * i) : Nat) : Int) := by
  rw [← or_join hm hc h9, IntKind.wrap_u64]
  rw [show (c : Int) * 2 ^ (7 * i) = ((c * 2 ^ (7 * i) : Nat) : Int) from by simp]
  congr 1
  omega
theorem and127_all : ∀ a : Fin 128, bits .and .u8 (128 + (a.val : Int)) 127 = (a.val : Int) := by decide +kernel
theorem and127 (d : Nat) (h : d < 128) : bits .and .u8 (128 + (d : Int)) 127 = (d : Int) := and127_all ⟨d, h⟩

theorem Rd.len {w v bs} (h : Rd w v bs) : ∃ a cap, v = .slice a bs.length cap := by obtain ⟨a, cap, e, _⟩ := h; exact ⟨a, cap, e⟩

set_option maxRecDepth 10000 in
set_option maxHeartbeats 1000000 in
theorem uint_any (w : World) (v : Value) (bs : List Nat) (h : Rd w v bs) (hl : bs.length ≤ 1000000000000) :
    Calls Tryz.prog 104 #[v] w fun e w' => e = .returned (uintV (dec bs)) ∧ w' = w := by
  obtain ⟨a, cap, rfl, h1, h2, h3⟩ := h
  go_enter Tryz.func104, Tryz.ntmps104
  go_wp2; go_step3; go_wp2; go_step3; go_wp2
  go_loopw [5, 10] (fun nn ii wr => ∃ (m i : Nat), nn = .int .u64 (m : Int) ∧ ii = .int .i64 (i : Int) ∧ i ≤ 9 ∧ m < 2 ^ (7 * i) ∧ i ≤ bs.length ∧ dec bs = decAt m i (bs.drop i) ∧ wr = w) (fun _ ii _ => 10 - (intOf ii).toNat)
  case atStart => exact ⟨0, 0, rfl, rfl, by omega, by simp, by omega, rfl, rfl⟩
  case round =>
    obtain ⟨m, i, rfl, rfl, hi, hm, hil, he, rfl⟩ := hrel
    rcases Nat.lt_or_ge i bs.length with hlt | hge
    · obtain ⟨c, hc⟩ : ∃ c, bs[i]? = some c := ⟨bs[i], by simp [hlt]⟩
      obtain ⟨b, off, rfl, hcell⟩ := h3 i c hc
      have hcb := h2.at hc
      have hd : bs.drop i = c :: bs.drop (i + 1) := by rw [List.drop_eq_getElem_cons hlt]; congr 1; simpa [hlt] using hc
      rw [hd] at he
      simp only [decAt] at he
      clear hd hc h1 h2 h3
      by_cases hA : 0 < i ∧ c = 0 ∨ i = 9 ∧ 1 < c
      · rw [if_pos hA] at he
        have He := hid he
        clear he
        rcases hA with ⟨hi0, rfl⟩ | ⟨rfl, hc1⟩
        · go_wp2
          (try rw [Exit.noGoto_ret]); go_ret3
          exact ⟨by rw [He.out]; rfl, rfl⟩
        · have hc0 : (0 : Nat) < c := by omega
          go_wp2
          (try rw [Exit.noGoto_ret]); go_ret3
          exact ⟨by rw [He.out]; rfl, rfl⟩
      · rw [if_neg hA] at he
        have hA1 : ¬ (0 < i ∧ c = 0) := fun x => hA (.inl x)
        have hA2 : ¬ (i = 9 ∧ 1 < c) := fun x => hA (.inr x)
        clear hA
        by_cases hC : c < 128
        · rw [if_pos hC] at he
          have hf := fits7 hC hi (fun e => by omega)
          have E : Hid (Ending.returned (.tuple #[.int .u64 (bits .or .u64 (m : Int) (IntKind.u64.wrap ((c : Int) * 2 ^ (7 * i)))), .int .i64 ((i : Int) + 1), .int .i64 0]) = Ending.returned (uintV (dec bs))) := by
            rw [he, or_shl hm hf hi]; rfl
          clear he hf
          rcases Nat.lt_or_ge i 1 with hi0 | hi0
          · go_wp2
            (try rw [Exit.noGoto_ret]); go_ret3
            exact ⟨E.out, rfl⟩
          · have hc0 : 0 < c := by omega
            rcases Nat.lt_or_ge i 9 with h9 | h9
            · go_wp2
              (try rw [Exit.noGoto_ret]); go_ret3
              exact ⟨E.out, rfl⟩
            · obtain rfl : i = 9 := by omega
              obtain rfl : c = 1 := by omega
              have E9 : Hid (Ending.returned (.tuple #[.int .u64 (bits .or .u64 (m : Int) 9223372036854775808), .int .i64 10, .int .i64 0]) = Ending.returned (uintV (dec bs))) := E
              clear E
              go_wp2
              (try rw [Exit.noGoto_ret]); go_ret3
              exact ⟨E9.out, rfl⟩
        · rw [if_neg hC] at he
          have h9 : i < 9 := by omega
          obtain ⟨d, rfl⟩ : ∃ d, c = 128 + d := ⟨c - 128, by omega⟩
          have hdl : d < 128 := by omega
          rw [show 128 + d - 128 = d from by omega] at he
          have hf := fits7 hdl hi (fun e => by omega)
          have e3 := and127 d hdl
          have hm2 : m + d * 2 ^ (7 * i) < 2 ^ (7 * (i + 1)) := by
            rw [pow7]
            have : d * 2 ^ (7 * i) ≤ 127 * 2 ^ (7 * i) := Nat.mul_le_mul_right _ (by omega)
            omega
          have E := hid (or_shl hm hf hi)
          have He := hid he
          have Hm2 := hid hm2
          clear he hm2 hf hm hA1 hA2
          rcases Nat.lt_or_ge i 1 with hi0 | hi0
          · go_wp2
            go_roundw
            case rel => exact ⟨_, i + 1, congrArg (Value.int .u64) E.out, by go_num, by omega, Hm2.out, by omega, He.out, trivial⟩
            case measure => simp [intOf]; omega
          · go_wp2
            go_roundw
            case rel => exact ⟨_, i + 1, congrArg (Value.int .u64) E.out, by go_num, by omega, Hm2.out, by omega, He.out, trivial⟩
            case measure => simp [intOf]; omega
    · have : i = bs.length := by omega
      subst this
      rw [List.drop_length] at he
      have He := hid he
      clear he h1 h2 h3
      go_wp2
      (try rw [Exit.noGoto_ret]); go_ret3
      exact ⟨by rw [He.out]; rfl, rfl⟩
end Go.Proofs.YthnolocldeokeaaGreat

namespace Go.Proofs.YthnolocldeokeaaGreat
open Go.RowKit Go.Deep
set_option linter.unusedVariables false
set_option linter.unusedSimpArgs false
set_option maxRecDepth 100000

def unzz (n : Nat) : Int := if n % 2 = 1 then -((n / 2 : Nat) : Int) - 1 else ((n / 2 : Nat) : Int)
theorem unzz_zz (k : Int) : unzz (zz k) = k := by
  unfold unzz zz
  split <;> split <;> omega
theorem zz_unzz (n : Nat) : zz (unzz n) = n := by
  unfold unzz zz
  split <;> split <;> omega
def intV : Option (Nat × Nat) → Value
  | none => .tuple #[.int .i64 0, .int .i64 0, .int .i64 20]
  | some (n, k) => .tuple #[.int .i64 (unzz n), .int .i64 (k : Int), .int .i64 0]

theorem and_one (n : Nat) (h : n < 18446744073709551616) : bits .and .u64 (n : Int) 1 = ((n % 2 : Nat) : Int) := by
  have h' := bits_and_u64_nat n 1 h (by omega)
  rw [show n &&& 1 = n % 2 from Nat.and_one_is_mod n] at h'
  exact h'
theorem xor_pos (m : Nat) (h : m < 9223372036854775808) : bits .xor .i64 (if IntKind.i64.signed = true then -1 else 9223372036854775807) (m : Int) = -(m : Int) - 1 := by
  show IntKind.i64.wrap ((BitVec.ofInt 64 (-1) ^^^ BitVec.ofInt 64 (m : Int)).toNat : Int) = _
  have e2 : BitVec.ofInt 64 (-1) = BitVec.allOnes 64 := by decide
  rw [e2, BitVec.xor_comm, BitVec.xor_allOnes, BitVec.toNat_not, BitVec.ofInt_natCast, BitVec.toNat_ofNat, IntKind.wrap_i64]
  omega

set_option maxHeartbeats 400000 in
theorem int_any (w : World) (v : Value) (bs : List Nat) (h : Rd w v bs) (hl : bs.length ≤ 1000000000000) :
    Calls Tryz.prog 75 #[v] w fun e w' => e = .returned (intV (dec bs)) ∧ w' = w := by
  have hu := uint_any w v bs h hl
  cases hd : dec bs with
  | none =>
    rw [hd] at hu
    have Hu := hid hu
    clear hu hd h
    go_enter Tryz.func75, Tryz.ntmps75
    go_wp2_with (go_at_call 104; refine (Hid.out Hu).mono ?_; rintro e w' ⟨rfl, rfl⟩; simp only [uintV])
    go_ret3
    exact ⟨rfl, rfl⟩
  | some p =>
    obtain ⟨n, k⟩ := p
    rw [hd] at hu
    obtain ⟨_, hn, _⟩ := dec_back (by obtain ⟨_, _, _, _, hb, _⟩ := h; exact hb) hd
    have Hu := hid hu
    have ha := and_one n hn
    clear hu hd h
    by_cases h2 : n % 2 = 1
    · rw [h2] at ha
      have ha' : bits .and .u64 (n : Int) 1 = 1 := ha
      have E : Hid (bits .xor .i64 (if IntKind.i64.signed = true then -1 else 9223372036854775807) ((n : Int) / 2) = unzz n) := by
        refine hid ?_
        have := xor_pos (n / 2) (by omega)
        unfold unzz
        rw [if_pos h2]
        simpa using this
      clear ha h2
      go_enter Tryz.func75, Tryz.ntmps75
      go_wp2_with (go_at_call 104; refine (Hid.out Hu).mono ?_; rintro e w' ⟨rfl, rfl⟩; simp only [uintV])
      go_ret3
      refine ⟨?_, rfl⟩
      simp only [intV]
      rw [← E.out]
      rfl
    · rw [show n % 2 = 0 from by omega] at ha
      have ha' : bits .and .u64 (n : Int) 1 = 0 := ha
      have E : Hid ((n : Int) / 2 = unzz n) := by
        refine hid ?_
        unfold unzz
        rw [if_neg h2]
        simp
      clear ha h2
      go_enter Tryz.func75, Tryz.ntmps75
      go_wp2_with (go_at_call 104; refine (Hid.out Hu).mono ?_; rintro e w' ⟨rfl, rfl⟩; simp only [uintV])
      go_ret3
      refine ⟨?_, rfl⟩
      simp only [intV]
      rw [← E.out]
      rfl

abbrev TextR : Type := Except Nat (List Nat × Nat)
def textD (most : Nat) (bs : List Nat) : TextR := match dec bs with
  | none => .error 20
  | some (n, k) => if most < n then .error 21 else if bs.length < k + n then .error 20 else .ok (((bs.drop k).take n), (k + n))
def textV : TextR → Value
  | .error e => .tuple #[.string ByteArray.empty, .int .i64 0, .int .i64 (e : Int)]
  | .ok (s, k) => .tuple #[.string (ofB s), .int .i64 (k : Int), .int .i64 0]

set_option maxHeartbeats 400000 in
theorem text_any (w : World) (v : Value) (bs : List Nat) (h : Rd w v bs) (hl : bs.length ≤ 1000000000000) :
    Calls Tryz.prog 77 #[v] w fun e w' => e = .returned (textV (textD 64 bs)) ∧ w' = w := by
  have hu := uint_any w v bs h hl
  have hb : Byt bs := by obtain ⟨_, _, _, _, hb, _⟩ := h; exact hb
  cases hd : dec bs with
  | none =>
    have E : Hid (textD 64 bs = .error 20) := by refine hid ?_; simp [textD, hd]
    rw [hd] at hu
    have Hu := hid hu
    clear hu hd h
    go_enter Tryz.func77, Tryz.ntmps77
    go_wp2_with (go_at_call 104; refine (Hid.out Hu).mono ?_; rintro e w' ⟨rfl, rfl⟩; simp only [uintV])
    go_ret3
    exact ⟨by rw [E.out]; rfl, rfl⟩
  | some p =>
    obtain ⟨n, k⟩ := p
    rw [hd] at hu
    obtain ⟨_, hn, hk, _, _⟩ := dec_back hb hd
    have Hu := hid hu
    by_cases h64 : 64 < n
    · have E : Hid (textD 64 bs = .error 21) := by refine hid ?_; simp [textD, hd, h64]
      clear hu hd h
      go_enter Tryz.func77, Tryz.ntmps77
      go_wp2_with (go_at_call 104; refine (Hid.out Hu).mono ?_; rintro e w' ⟨rfl, rfl⟩; simp only [uintV])
      go_ret3
      exact ⟨by rw [E.out]; rfl, rfl⟩
    · by_cases hs : bs.length < k + n
      · have E : Hid (textD 64 bs = .error 20) := by refine hid ?_; simp [textD, hd, h64, hs]
        obtain ⟨a, cap, rfl⟩ := h.len
        clear hu hd h
        go_enter Tryz.func77, Tryz.ntmps77
        go_wp2_with (go_at_call 104; refine (Hid.out Hu).mono ?_; rintro e w' ⟨rfl, rfl⟩; simp only [uintV])
        go_ret3
        exact ⟨by rw [E.out]; rfl, rfl⟩
      · have E : Hid (textD 64 bs = .ok (((bs.drop k).take n), (k + n))) := by refine hid ?_; simp [textD, hd, h64, hs]
        obtain ⟨a, cap, rfl⟩ := h.len
        have hp := (h.part k (k + n) (by omega) (by omega)).conv
        have hcap : bs.length ≤ cap := by obtain ⟨_, _, e, hc, _⟩ := h; cases e; exact hc
        unfold sliced at hp
        rw [show k + n - k = n from by omega, Nat.mul_one, show List.drop k (List.take (k + n) bs) = (bs.drop k).take n from by rw [List.drop_take]; congr 1; omega] at hp
        clear hu hd h
        go_enter Tryz.func77, Tryz.ntmps77
        go_wp2_with (go_at_call 104; refine (Hid.out Hu).mono ?_; rintro e w' ⟨rfl, rfl⟩; simp only [uintV])
        all_goals (go_ret3; exact ⟨by rw [E.out]; rfl, rfl⟩)
end Go.Proofs.YthnolocldeokeaaGreat

namespace Go.Proofs.YthnolocldeokeaaGreat
open Go.RowKit Go.Deep
set_option linter.unusedVariables false
set_option linter.unusedSimpArgs false
set_option maxRecDepth 100000

theorem run_appR (w : World) (ty : TypeId) (B : Nat) (v u : Value) (xs ys : List Nat) (h : Row w B v xs) (hu : Rd w u ys) (hnil : u.ownBlock = none → u = .slice none 0 0) (hB : B ≤ w.heap.size) (hl : xs.length ≤ 1099511627776) (hl2 : ys.length ≤ 1099511627776) :
    ∃ v' w', (Builtin.append_ #[34, 34] ty #[v, u]).run Tryz.prog w = .ok v' w' ∧ Row w' B v' (xs ++ ys) ∧ Grw w v w' v' := by
  obtain ⟨i0, hi, hz0, hz1, hz2⟩ := info_parts info5
  obtain ⟨a, cap, rfl, hc, hb, h3⟩ := hu
  cases a with
  | none =>
    have e := hnil rfl
    injection e with _ e1 e2
    have : ys = [] := List.eq_nil_of_length_eq_zero e1
    subst this
    subst e2
    exact ⟨v, w, run_append_owned_none w B 34 ty 5 i0 1 Tryz.underlying34 hi v xs.length (bv xs) h, by simpa using h, Grw.refl _ _⟩
  | some ad =>
    obtain ⟨v', w', hrun, hown, hg, _, hat⟩ := run_append_own_at (P := Tryz.prog) w B 34 ty 5 i0 (.int .u8 0) 1 1 Tryz.underlying34 hi hz0 hz1 hz2 rfl (by decide) v xs.length (bv xs) h ad ys.length cap (bv ys) (by simp [bv_length]) (by
      intro j x hx
      simp only [bv, List.getElem?_map, Option.map_eq_some_iff] at hx
      obtain ⟨y, hy, rfl⟩ := hx
      obtain ⟨b, off, e, hcell⟩ := h3 j y hy
      cases e
      rw [Addr.add_lit]; exact hcell) (bv_one ys) (by unfold maxLen; omega) (by omega) hB
    refine ⟨v', w', hrun, ?_, hg, ?_⟩
    · unfold Row
      rw [bv_append, List.length_append]
      exact hown
    · rcases hat with hat | hat
      · exact .inl hat
      · exact .inr ⟨_, hat, Nat.le_refl _⟩

theorem wpList_appR {ops : Array Oper} {rest : List Oper} {o : Oper} {a : Act} {Q : Exit → Act → World → Prop} (w : World) (hgd : o.guard = none) (sl x : Operand)
    (ho : o.op = .call { callee := .builtin .append, args := #[sl, x], argTypes := #[34, 34] }) (v u : Value) (hs : a.eval sl = v) (hx : a.eval x = u)
    (B : Nat) (xs ys : List Nat) (h : Row w B v xs) (hu : Rd w u ys) (hnil : u.ownBlock = none → u = .slice none 0 0) (hB : B ≤ w.heap.size) (hl : xs.length ≤ 1099511627776) (hl2 : ys.length ≤ 1099511627776)
    (k : ∀ v' w', Row w' B v' (xs ++ ys) → Grw w v w' v' → wpList Tryz.prog ops Q rest (a.put o.dst v') w') :
    wpList Tryz.prog ops Q (o :: rest) a w := by
  refine wpList_plain hgd fun K hK => ?_
  obtain ⟨v', w', hr, h2, h3⟩ := run_appR w o.type B v u xs ys h hu hnil hB hl hl2
  unfold Oper.wp execOp
  simp only [ho, resolve, invoke, builtin, Sem.run_bind, Sem.run_pure, Result.andThen_ok, List.map_toArray, List.map_cons, List.map_nil, hs, hx, hr]
  exact hK _ _ (k v' w' h2 h3)

theorem Row.nilOf {w B v xs} (h : Row w B v xs) : v.ownBlock = none → v = .slice none 0 0 := by
  intro e
  rcases h.2 with ⟨rfl, _⟩ | ⟨g, cap, cur, rfl, _⟩
  · rfl
  · cases e

theorem textD_more (M : Nat) (s : ByteArray) (m : List Nat) (hs : s.size < 18446744073709551616) : textD M (encX s ++ m) = if M < s.size then .error 21 else .ok ((sb s), (encX s).length) := by
  unfold textD encX
  rw [List.append_assoc, dec_enc _ _ hs]
  simp only
  split
  · rfl
  · rw [if_neg (by simp [sb_length])]
    congr 2
    · rw [List.drop_left, List.take_left' (sb_length s)]
    · simp [sb_length]
end Go.Proofs.YthnolocldeokeaaGreat

namespace Go.Proofs.YthnolocldeokeaaGreat
open Go.RowKit Go.Deep Go.Shelf
set_option linter.unusedVariables false
set_option linter.unusedSimpArgs false
set_option maxRecDepth 100000
/- What is put behind a row of one's own. -/
def ApP (w : World) (B : Nat) (v : Value) (ys : List Nat) (e : Ending) (w' : World) : Prop := ∃ v', e = .returned v' ∧ Row w' B v' ys ∧ Grw w v w' v'
theorem Grw.ofBelow {w w' : World} (v : Value) (b : Below w.heap.size w w') : Grw w v w' v := ⟨⟨b.os, b.tape, b.output, b.size, fun j hj _ => b.block j hj⟩, .inl rfl⟩
theorem Grw.undrew {w w' : World} {v v' : Value} (h : Grw w.drew v w' v') : Grw w v w' v' := (Grw.ofBelow v (Below.refl _ w).drew).trans h
def inR (k : Int) : Prop := -9223372036854775808 ≤ k ∧ k ≤ 9223372036854775807
theorem putInt_lim (w : World) (k : Int) (hk : inR k) : Calls Tryz.prog 63 #[.int .i64 k] w fun e w' => ∃ v', e = .returned v' ∧ Row w' w.heap.size v' (enc (zz k)) ∧ Below w.heap.size w w' := putInt_any w k hk.1 hk.2
theorem enc_zz_le (k : Int) (hk : inR k) : (enc (zz k)).length ≤ 10 := enc_le _ (zz_lt k hk.1 hk.2)
set_option maxHeartbeats 1000000 in
theorem appInt_any (w : World) (B : Nat) (v : Value) (xs : List Nat) (k : Int) (h : Row w B v xs) (hB : B ≤ w.heap.size) (hl : xs.length ≤ 1000000000) (hk : inR k) :
    Calls Tryz.prog 27 #[v, .int .i64 k] w (ApP w B v (xs ++ enc (zz k))) := by
  have K := hid (putInt_lim w k hk)
  have H := hid h
  have HE := hid (enc_zz_le k hk)
  have HBy := hid (enc_byt (zz k))
  clear h hk
  go_enter Tryz.func27, Tryz.ntmps27
  go_wp2_with (first
    | (go_at_call 63; (refine (Hid.out K).mono ?_; rintro e w1 ⟨v1, rfl, hr, hb⟩; have HR := hid hr; have HB := hid hb; clear hr hb))
    | (at_builtin; refine wpList_appR _ rfl _ _ rfl _ _ (by rfl) (by rfl) B xs _ (H.out.below (Nat.le_refl _) HB.out) (HR.out.rd HBy.out) HR.out.nilOf (Nat.le_trans hB HB.out.size) (by omega) (by have := HE.out; omega) ?_; intro v2 w2 h1 h2; have H1 := hid h1; have H2 := hid h2; clear h1 h2))
  go_ret
  exact ⟨_, rfl, H1.out, (Grw.ofBelow v HB.out).trans H2.out⟩
set_option maxHeartbeats 1000000 in
theorem appText_any (w : World) (B : Nat) (v : Value) (xs : List Nat) (s : ByteArray) (h : Row w B v xs) (hB : B ≤ w.heap.size) (hl : xs.length ≤ 1000000000) (hs : s.size ≤ 1000000) :
    Calls Tryz.prog 29 #[v, .string s] w (ApP w B v (xs ++ encX s)) := by
  have K := hid (putText_any w s (by omega))
  have H := hid h
  have HE : Hid ((encX s).length ≤ 1000010) := hid (by unfold encX; rw [List.length_append, sb_length]; have := enc_le s.size (by omega); omega)
  have HBy := hid (encX_byt s)
  clear h hs
  go_enter Tryz.func29, Tryz.ntmps29
  go_wp2_with (first
    | (go_at_call 64; (refine (Hid.out K).mono ?_; rintro e w1 ⟨v1, rfl, hr, hb⟩; have HR := hid hr; have HB := hid hb; clear hr hb))
    | (at_builtin; refine wpList_appR _ rfl _ _ rfl _ _ (by rfl) (by rfl) B xs _ (H.out.below (Nat.le_refl _) HB.out) (HR.out.rd HBy.out) HR.out.nilOf (Nat.le_trans hB HB.out.size) (by omega) (by have := HE.out; omega) ?_; intro v2 w2 h1 h2; have H1 := hid h1; have H2 := hid h2; clear h1 h2))
  go_ret
  exact ⟨_, rfl, H1.out, (Grw.ofBelow v HB.out).trans H2.out⟩
set_option maxHeartbeats 1000000 in
theorem appNumber_any (w : World) (B : Nat) (v : Value) (xs : List Nat) (k : Int) (h : Row w B v xs) (hB : B ≤ w.heap.size) (hl : xs.length ≤ 1000000000) (hk : inR k) :
    Calls Tryz.prog 32 #[v, .int .i64 k] w (ApP w B v (xs ++ enc (zz k))) := by
  have K := hid (appInt_any w B v xs k h hB hl hk)
  clear h hk
  go_enter Tryz.func32, Tryz.ntmps32
  go_wp2_with (go_at_call 27; (refine (Hid.out K).mono ?_; rintro e w1 ⟨v1, rfl, hr, hb⟩; have HR := hid hr; have HB := hid hb; clear hr hb))
  go_ret
  exact ⟨_, rfl, HR.out, HB.out⟩
def encTy (t : TyP) : List Nat := enc (zz t.1) ++ enc (zz t.2)
set_option maxHeartbeats 1000000 in
theorem appType_any (w : World) (B : Nat) (v : Value) (xs : List Nat) (t : TyP) (h : Row w B v xs) (hB : B ≤ w.heap.size) (hl : xs.length ≤ 100000000) (hk : inR t.1 ∧ inR t.2) :
    Calls Tryz.prog 62 #[v, .agg #[.int .i64 t.1, .int .i64 t.2]] w (ApP w B v (xs ++ encTy t)) := by
  obtain ⟨t1, t2⟩ := t
  simp only at hk ⊢
  obtain ⟨W0, hW0⟩ : ∃ W0, W0 = w.alloc (.cells #[.int .i64 t1, .int .i64 t2] 46) := ⟨_, rfl⟩
  obtain ⟨X, hX⟩ : ∃ X, X = w.heap.size := ⟨_, rfl⟩
  have mX : W0.heap[X]? = some (.cells #[.int .i64 t1, .int .i64 t2] 46 (0, 0)) := by rw [hW0, hX]; exact heap_alloc_new w _
  have r0 : Row W0 B v xs := by rw [hW0]; exact h.alloc _
  have hB0 : B ≤ W0.heap.size := by rw [hW0, World.size_alloc]; omega
  have own : some X ≠ v.ownBlock := fun e => by have := (h.own X e.symm).2; omega
  have K1 := hid (appNumber_any W0.drew B v xs t1 r0.drew hB0 (by omega) hk.1)
  have K2 := hid (fun (V : World) (u : Value) (hr : Row V B u (xs ++ enc (zz t1))) (hb : B ≤ V.heap.size) => appNumber_any V B u (xs ++ enc (zz t1)) t2 hr hb (by rw [List.length_append]; have := enc_zz_le t1 hk.1; omega) hk.2)
  have ST : Hid (∀ (V : World) (u : Value), Grw W0 v V u → V.cell? ⟨X, 0, none⟩ = some (.int .i64 t1) ∧ V.cell? ⟨X, 1, none⟩ = some (.int .i64 t2)) := hid (fun V u hg => by
    have h2 := (hg.1.block X (lt_of_heap mX) own).trans mX
    exact ⟨cellOf h2 0, cellOf h2 1⟩)
  have UN : Hid (∀ (V : World) (u : Value), Grw W0 v V u → Grw w v V u) := hid (fun V u hg => by rw [hW0] at hg; exact hg.unalloc)
  obtain ⟨x0, x1⟩ := ST.out W0 v (Grw.refl _ _)
  have HE : Hid (xs ++ encTy (t1, t2) = xs ++ enc (zz t1) ++ enc (zz t2)) := hid (by simp [encTy])
  clear h r0 mX own hk
  go_enter Tryz.func62, Tryz.ntmps62
  go_upto_region 1 with fail
  rw [← hX, ← hW0]
  clear hX hW0
  go_region_held3 (fun V => V.cell? ⟨X, 0, none⟩ = some (.int .i64 t1) ∧ V.cell? ⟨X, 1, none⟩ = some (.int .i64 t2)) (first | exact s2 | exact s1 | go_keep) (first
    | (have hno := hs1; (go_at_call 32; (refine (K2.out w1 u1 HR1.out HB1.out).mono ?_; rintro e w2 ⟨u2, rfl, hr2, hg2⟩; have HR2 := hid hr2; have HG2 := hid (HG1.out.trans hg2); have s2 := ST.out w2 u2 HG2.out; clear hr2 hg2)))
    | (go_at_call 32; (refine (Hid.out K1).mono ?_; rintro e w1 ⟨u1, rfl, hr1, hg1⟩; have HR1 := hid hr1; have HG1 := hid hg1.undrew; have HB1 := hid (Nat.le_trans hB0 hg1.size); have s1 := ST.out w1 u1 HG1.out; have hs1 := True.intro; clear hr1 hg1)))
  go_wp2
  go_ret
  exact ⟨_, rfl, by rw [HE.out]; exact HR2.out, UN.out _ _ HG2.out⟩
end Go.Proofs.YthnolocldeokeaaGreat

