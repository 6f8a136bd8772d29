/- Reading numbers, texts and values out of bytes: the code's side. -/
import Derived.Test.YtenfgahedbeekaaJAG
import Derived.Below
import Derived.Deep.AppendLies
import Derived.Deep.OwnRows
import Derived.Deep.RegionHeld3
import Derived.Laws.Bits64b
import Derived.Laws.BitsLemmas
import Derived.Lib.AppendStr
import Derived.Maps.AppendAt
import Derived.WalkKit
import Derived.WalkLawsBesides
import Derived.WalkSpells
import Derived.Deep.LoopGhost
import Derived.ChangeOld
import Derived.Deep.Slices
import Derived.OpenShut
import Derived.ProofKit
import Derived.WalkMore
namespace Go.Proofs.Ytenfgahedbeekaa
open Go.RowKit Go.Deep
set_option linter.unusedVariables false
set_option linter.unusedSimpArgs false

theorem Row.form {w B v xs} (h : Row w B v xs) : ∃ a cap, v = .slice a xs.length cap ∧ xs.length ≤ cap := by
  rcases h.2 with ⟨rfl, hn⟩ | ⟨g, cap, cur, rfl, hb, hgg, hc, rest⟩
  · exact ⟨none, 0, by rw [hn], by omega⟩
  · exact ⟨_, _, rfl, hc⟩

theorem Byt.take {bs : List Nat} (h : Byt bs) (n : Nat) : Byt (bs.take n) := fun x hx => h x (List.mem_of_mem_take hx)
theorem Byt.at {bs : List Nat} (h : Byt bs) {j x : Nat} (e : bs[j]? = some x) : x < 256 := h x (List.mem_of_getElem? e)
theorem ofB_sb (s : ByteArray) : ofB (sb s) = s := by
  cases s with
  | mk d =>
    simp only [sb, ofB, List.map_map]
    congr 1
    apply Array.ext'
    simp
    conv => rhs; rw [← List.map_id d.toList]
    exact List.map_congr_left fun x hx => by simp
theorem ofB_size (bs : List Nat) : (ofB bs).size = bs.length := by simp [ofB, ByteArray.size]
theorem Rd.from {w : World} {a : Option Addr} {n cap : Nat} {bs : List Nat} (h : Rd w (.slice a n cap) bs) (k : Nat) (hk : k ≤ bs.length) : Rd w (sliced a k n cap 1) (bs.drop k) := by
  obtain ⟨a, cap, e, h1, h2, h3⟩ := h
  cases e
  refine ⟨_, _, by unfold sliced; rw [List.length_drop], by rw [List.length_drop]; omega, h2.drop k, fun j x hx => ?_⟩
  rw [List.getElem?_drop] at hx
  obtain ⟨b, off, rfl, hc⟩ := h3 _ _ hx
  have hlt : k + j < bs.length := (List.getElem?_eq_some_iff.1 hx).1
  refine ⟨b, off + k, ?_, ?_⟩
  · rw [if_neg (by omega)]
    simp [Addr.add_lit]
  · rw [Nat.add_assoc]; exact hc
theorem Rd.part {w : World} {a : Option Addr} {n cap : Nat} {bs : List Nat} (h : Rd w (.slice a n cap) bs) (k l : Nat) (hk : k ≤ l) (hl : l ≤ bs.length) : Rd w (sliced a k l cap 1) ((bs.take l).drop k) := by
  obtain ⟨a, cap, e, h1, h2, h3⟩ := h
  cases e
  refine ⟨_, _, by unfold sliced; rw [List.length_drop, List.length_take, Nat.min_eq_left hl], by rw [List.length_drop, List.length_take]; omega, (h2.take l).drop k, fun j x hx => ?_⟩
  rw [List.getElem?_drop, List.getElem?_take] at hx
  split at hx
  · obtain ⟨b, off, rfl, hc⟩ := h3 _ _ hx
    have hlt : k + j < bs.length := (List.getElem?_eq_some_iff.1 hx).1
    refine ⟨b, off + k, ?_, ?_⟩
    · rw [if_neg (by omega)]
      simp [Addr.add_lit]
    · rw [Nat.add_assoc]; exact hc
  · cases hx
def decAt (n i : Nat) : List Nat → Option (Nat × Nat)
  | [] => none
  | c :: r => if 0 < i ∧ c = 0 ∨ i = 9 ∧ 1 < c then none else if c < 128 then some (n + c * 2 ^ (7 * i), i + 1) else decAt (n + (c - 128) * 2 ^ (7 * i)) (i + 1) r
def dec (bs : List Nat) : Option (Nat × Nat) := decAt 0 0 bs

theorem decAt_size (bs : List Nat) : ∀ (n i m k : Nat), decAt n i bs = some (m, k) → i < k ∧ k ≤ i + bs.length := by
  induction bs with
  | nil => intro n i m k h; cases h
  | cons c r ih =>
    intro n i m k h
    simp only [decAt] at h
    split at h
    · cases h
    · split at h
      · cases h; simp
      · have := ih _ _ _ _ h
        simp; omega
theorem decAt_enc : ∀ (n m i : Nat) (more : List Nat), (0 < i → n ≠ 0) → i ≤ 9 → n < 128 ^ (9 - i) * 2 → decAt m i (enc n ++ more) = some (m + n * 2 ^ (7 * i), i + (enc n).length) := by
  intro n
  induction n using Nat.strongRecOn with
  | _ n ih =>
    intro m i more h0 hi hn
    by_cases h : n < 128
    · rw [enc_small h]
      simp only [List.cons_append, List.nil_append, decAt]
      rw [if_neg (by
        rintro (⟨a, rfl⟩ | ⟨rfl, b⟩)
        · exact h0 a rfl
        · simp at hn; omega), if_pos h]
      simp
    · rw [enc_big h]
      simp only [List.cons_append, decAt]
      have hi9 : i ≠ 9 := by rintro rfl; simp at hn; omega
      rw [if_neg (by
        rintro (⟨a, b⟩ | ⟨rfl, b⟩)
        · omega
        · exact hi9 rfl), if_neg (by omega)]
      rw [ih (n / 128) (by omega) _ (i + 1) more (fun _ => by omega) (by omega) (by
        rw [show 9 - i = (9 - (i + 1)) + 1 from by omega, Nat.pow_succ] at hn
        omega)]
      have e : 2 ^ (7 * (i + 1)) = 128 * 2 ^ (7 * i) := by rw [Nat.mul_add, Nat.pow_add]; omega
      congr 2
      · rw [e, show n % 128 + 128 - 128 = n % 128 from by omega]
        have hd := Nat.div_add_mod n 128
        calc m + n % 128 * 2 ^ (7 * i) + n / 128 * (128 * 2 ^ (7 * i)) = m + (128 * (n / 128) + n % 128) * 2 ^ (7 * i) := by rw [Nat.add_mul, ← Nat.mul_assoc, Nat.mul_comm (n / 128) 128]; omega
          _ = m + n * 2 ^ (7 * i) := by rw [hd]
      · simp; omega
theorem dec_enc (n : Nat) (more : List Nat) (h : n < 18446744073709551616) : dec (enc n ++ more) = some (n, (enc n).length) := by
  have := decAt_enc n 0 0 more (by omega) (by omega) (by simpa using h)
  simpa [dec] using this
theorem decAt_back (bs : List Nat) (hb : Byt bs) : ∀ (n i m k : Nat), i ≤ 9 → n < 2 ^ (7 * i) → decAt n i bs = some (m, k) → ∃ q, m = n + q * 2 ^ (7 * i) ∧ q < 128 ^ (9 - i) * 2 ∧ bs.take (k - i) = enc q ∧ i < k ∧ k ≤ 10 ∧ (0 < i → 0 < q) := by
  induction bs with
  | nil => intro n i m k _ _ h; cases h
  | cons c r ih =>
    intro n i m k hi hn h
    simp only [decAt] at h
    have hc : c < 256 := hb c (by simp)
    split at h
    · cases h
    · rename_i h1
      split at h
      · rename_i h2
        cases h
        refine ⟨c, rfl, ?_, ?_, by omega, by omega, fun a => ?_⟩
        · rcases Nat.lt_or_ge i 9 with h9 | h9
          · have : 128 ^ 1 ≤ 128 ^ (9 - i) := Nat.pow_le_pow_right (by decide) (by omega)
            omega
          · have : i = 9 := by omega
            subst this
            simp at h1 ⊢; omega
        · rw [enc_small h2]; simp
        · have : c ≠ 0 := fun e => h1 (.inl ⟨a, e⟩)
          omega
      · rename_i h2
        have hi9 : i < 9 := by
          rcases Nat.lt_or_ge i 9 with h9 | h9
          · exact h9
          · exact absurd (.inr ⟨by omega, by omega⟩) h1
        have e : 2 ^ (7 * (i + 1)) = 128 * 2 ^ (7 * i) := by rw [Nat.mul_add, Nat.pow_add]; omega
        obtain ⟨q, e1, e2, e3, e4, e5, e6⟩ := ih (fun x hx => hb x (by simp [hx])) _ _ _ _ (by omega) (by
          rw [e]
          have : (c - 128) * 2 ^ (7 * i) ≤ 127 * 2 ^ (7 * i) := Nat.mul_le_mul_right _ (by omega)
          omega) h
        have e6' := e6 (by omega)
        refine ⟨(c - 128) + 128 * q, ?_, ?_, ?_, by omega, by omega, fun _ => by omega⟩
        · rw [e1, e, Nat.add_mul, ← Nat.mul_assoc, Nat.mul_comm 128 q]; omega
        · rw [show 9 - i = (9 - (i + 1)) + 1 from by omega, Nat.pow_succ]; omega
        · rw [show k - i = (k - (i + 1)) + 1 from by omega, List.take_succ_cons, e3, enc_big (n := c - 128 + 128 * q) (by omega)]
          congr 1
          · omega
          · congr 1; omega
theorem dec_back {bs : List Nat} (hb : Byt bs) {m k : Nat} (h : dec bs = some (m, k)) : bs.take k = enc m ∧ m < 18446744073709551616 ∧ k ≤ bs.length ∧ 0 < k ∧ k ≤ 10 := by
  obtain ⟨q, e1, e2, e3, e4, e5, _⟩ := decAt_back bs hb 0 0 m k (by omega) (by simp) h
  have hs := decAt_size bs 0 0 m k h
  simp at e1 e2 e3
  subst e1
  exact ⟨e3, by omega, by omega, by omega, e5⟩
def uintV : Option (Nat × Nat) → Value
  | none => .tuple #[.int .u64 0, .int .i64 0, .int .i64 20]
  | some (n, k) => .tuple #[.int .u64 (n : Int), .int .i64 (k : Int), .int .i64 0]

theorem pow7 (i : Nat) : 2 ^ (7 * (i + 1)) = 128 * 2 ^ (7 * i) := by rw [Nat.mul_add, Nat.pow_add]; omega
theorem pow9 {i : Nat} (h : i ≤ 8) : 128 * 2 ^ (7 * i) ≤ 9223372036854775808 := by
  have : 2 ^ (7 * i) ≤ 2 ^ 56 := Nat.pow_le_pow_right (by decide) (by omega)
  omega
theorem fits7 {c i : Nat} (hc : c < 128) (hi : i ≤ 9) (h9 : i = 9 → c ≤ 1) : c * 2 ^ (7 * i) < 18446744073709551616 := by
  rcases Nat.lt_or_ge i 9 with h | h
  · have h1 := pow9 (i := i) (by omega)
    have : c * 2 ^ (7 * i) ≤ 128 * 2 ^ (7 * i) := Nat.mul_le_mul_right _ (by omega)
    omega
  · have : i = 9 := by omega
    subst this
    have := h9 rfl
    omega
theorem or_join {m c i : Nat} (hm : m < 2 ^ (7 * i)) (hc : c * 2 ^ (7 * i) < 18446744073709551616) (h9 : i ≤ 9) : bits .or .u64 (m : Int) ((c * 2 ^ (7 * i) : Nat) : Int) = ((m + c * 2 ^ (7 * i) : Nat) : Int) := by
  have hp : 2 ^ (7 * i) ≤ 2 ^ 63 := Nat.pow_le_pow_right (by decide) (by omega)
  rw [bits_or_u64_nat m (c * 2 ^ (7 * i)) (by omega) hc]
  have := Nat.two_pow_add_eq_or_of_lt hm c
  rw [Nat.mul_comm c, Nat.or_comm, ← this, Nat.add_comm]
theorem or_shl {m c i : Nat} (hm : m < 2 ^ (7 * i)) (hc : c * 2 ^ (7 * i) < 18446744073709551616) (h9 : i ≤ 9) : bits .or .u64 (m : Int) (IntKind.u64.wrap ((c : Int) * 2 ^ (7 * i))) = ((m + c * 2 ^ (7 * i) : Nat) : Int) := by
  rw [← or_join hm hc h9, IntKind.wrap_u64]
  rw [show (c : Int) * 2 ^ (7 * i) = ((c * 2 ^ (7 * i) : Nat) : Int) from by simp]
  congr 1
  omega
theorem and127_all : ∀ a : Fin 128, bits .and .u8 (128 + (a.val : Int)) 127 = (a.val : Int) := by decide +kernel
theorem and127 (d : Nat) (h : d < 128) : bits .and .u8 (128 + (d : Int)) 127 = (d : Int) := and127_all ⟨d, h⟩

theorem Rd.len {w v bs} (h : Rd w v bs) : ∃ a cap, v = .slice a bs.length cap := by obtain ⟨a, cap, e, _⟩ := h; exact ⟨a, cap, e⟩

set_option maxRecDepth 100000 in
set_option maxHeartbeats 1000000 in
theorem uint_any (w : World) (v : Value) (bs : List Nat) (h : Rd w v bs) (hl : bs.length ≤ 1000000000000) :
    Calls Try.prog 86 #[v] w fun e w' => e = .returned (uintV (dec bs)) ∧ w' = w := by
  obtain ⟨a, cap, rfl, h1, h2, h3⟩ := h
  go_enter Try.func86, Try.ntmps86
  go_wp2; go_step3; go_wp2; go_step3; go_wp2
  go_loopw [5, 10] (fun nn ii wr => ∃ (m i : Nat), nn = .int .u64 (m : Int) ∧ ii = .int .i64 (i : Int) ∧ i ≤ 9 ∧ m < 2 ^ (7 * i) ∧ i ≤ bs.length ∧ dec bs = decAt m i (bs.drop i) ∧ wr = w) (fun _ ii _ => 10 - (intOf ii).toNat)
  case atStart => exact ⟨0, 0, rfl, rfl, by omega, by simp, by omega, rfl, rfl⟩
  case round =>
    obtain ⟨m, i, rfl, rfl, hi, hm, hil, he, rfl⟩ := hrel
    rcases Nat.lt_or_ge i bs.length with hlt | hge
    · obtain ⟨c, hc⟩ : ∃ c, bs[i]? = some c := ⟨bs[i], by simp [hlt]⟩
      obtain ⟨b, off, rfl, hcell⟩ := h3 i c hc
      have hcb := h2.at hc
      have hd : bs.drop i = c :: bs.drop (i + 1) := by rw [List.drop_eq_getElem_cons hlt]; congr 1; simpa [hlt] using hc
      rw [hd] at he
      simp only [decAt] at he
      clear hd hc h1 h2 h3
      by_cases hA : 0 < i ∧ c = 0 ∨ i = 9 ∧ 1 < c
      · rw [if_pos hA] at he
        have He := hid he
        clear he
        rcases hA with ⟨hi0, rfl⟩ | ⟨rfl, hc1⟩
        · go_wp2
          (try rw [Exit.noGoto_ret]); go_ret3
          exact ⟨by rw [He.out]; rfl, rfl⟩
        · have hc0 : (0 : Nat) < c := by omega
          go_wp2
          (try rw [Exit.noGoto_ret]); go_ret3
          exact ⟨by rw [He.out]; rfl, rfl⟩
      · rw [if_neg hA] at he
        have hA1 : ¬ (0 < i ∧ c = 0) := fun x => hA (.inl x)
        have hA2 : ¬ (i = 9 ∧ 1 < c) := fun x => hA (.inr x)
        clear hA
        by_cases hC : c < 128
        · rw [if_pos hC] at he
          have hf := fits7 hC hi (fun e => by omega)
          have E : Hid (Ending.returned (.tuple #[.int .u64 (bits .or .u64 (m : Int) (IntKind.u64.wrap ((c : Int) * 2 ^ (7 * i)))), .int .i64 ((i : Int) + 1), .int .i64 0]) = Ending.returned (uintV (dec bs))) := by
            rw [he, or_shl hm hf hi]; rfl
          clear he hf
          rcases Nat.lt_or_ge i 1 with hi0 | hi0
          · go_wp2
            (try rw [Exit.noGoto_ret]); go_ret3
            exact ⟨E.out, rfl⟩
          · have hc0 : 0 < c := by omega
            rcases Nat.lt_or_ge i 9 with h9 | h9
            · go_wp2
              (try rw [Exit.noGoto_ret]); go_ret3
              exact ⟨E.out, rfl⟩
            · obtain rfl : i = 9 := by omega
              obtain rfl : c = 1 := by omega
              have E9 : Hid (Ending.returned (.tuple #[.int .u64 (bits .or .u64 (m : Int) 9223372036854775808), .int .i64 10, .int .i64 0]) = Ending.returned (uintV (dec bs))) := E
              clear E
              go_wp2
              (try rw [Exit.noGoto_ret]); go_ret3
              exact ⟨E9.out, rfl⟩
        · rw [if_neg hC] at he
          have h9 : i < 9 := by omega
          obtain ⟨d, rfl⟩ : ∃ d, c = 128 + d := ⟨c - 128, by omega⟩
          have hdl : d < 128 := by omega
          rw [show 128 + d - 128 = d from by omega] at he
          have hf := fits7 hdl hi (fun e => by omega)
          have e3 := and127 d hdl
          have hm2 : m + d * 2 ^ (7 * i) < 2 ^ (7 * (i + 1)) := by
            rw [pow7]
            have : d * 2 ^ (7 * i) ≤ 127 * 2 ^ (7 * i) := Nat.mul_le_mul_right _ (by omega)
            omega
          have E := hid (or_shl hm hf hi)
          have He := hid he
          have Hm2 := hid hm2
          clear he hm2 hf hm hA1 hA2
          rcases Nat.lt_or_ge i 1 with hi0 | hi0
          · go_wp2
            go_roundw
            case rel => exact ⟨_, i + 1, congrArg (Value.int .u64) E.out, by go_num, by omega, Hm2.out, by omega, He.out, trivial⟩
            case measure => simp [intOf]; omega
          · go_wp2
            go_roundw
            case rel => exact ⟨_, i + 1, congrArg (Value.int .u64) E.out, by go_num, by omega, Hm2.out, by omega, He.out, trivial⟩
            case measure => simp [intOf]; omega
    · have : i = bs.length := by omega
      subst this
      rw [List.drop_length] at he
      have He := hid he
      clear he h1 h2 h3
      go_wp2
      (try rw [Exit.noGoto_ret]); go_ret3
      exact ⟨by rw [He.out]; rfl, rfl⟩
def unzz (n : Nat) : Int := if n % 2 = 1 then -((n / 2 : Nat) : Int) - 1 else ((n / 2 : Nat) : Int)
theorem unzz_zz (k : Int) : unzz (zz k) = k := by
  unfold unzz zz
  split <;> split <;> omega
theorem zz_unzz (n : Nat) : zz (unzz n) = n := by
  unfold unzz zz
  split <;> split <;> omega
theorem unzz_in (n : Nat) (h : n < 18446744073709551616) : -9223372036854775808 ≤ unzz n ∧ unzz n ≤ 9223372036854775807 := by
  unfold unzz
  split <;> omega

def intV : Option (Nat × Nat) → Value
  | none => .tuple #[.int .i64 0, .int .i64 0, .int .i64 20]
  | some (n, k) => .tuple #[.int .i64 (unzz n), .int .i64 (k : Int), .int .i64 0]

theorem and_one (n : Nat) (h : n < 18446744073709551616) : bits .and .u64 (n : Int) 1 = ((n % 2 : Nat) : Int) := by
  have h' := bits_and_u64_nat n 1 h (by omega)
  rw [show n &&& 1 = n % 2 from Nat.and_one_is_mod n] at h'
  exact h'
theorem xor_pos (m : Nat) (h : m < 9223372036854775808) : bits .xor .i64 (if IntKind.i64.signed = true then -1 else 9223372036854775807) (m : Int) = -(m : Int) - 1 := by
  show IntKind.i64.wrap ((BitVec.ofInt 64 (-1) ^^^ BitVec.ofInt 64 (m : Int)).toNat : Int) = _
  have e2 : BitVec.ofInt 64 (-1) = BitVec.allOnes 64 := by decide
  rw [e2, BitVec.xor_comm, BitVec.xor_allOnes, BitVec.toNat_not, BitVec.ofInt_natCast, BitVec.toNat_ofNat, IntKind.wrap_i64]
  omega

set_option maxRecDepth 100000 in
set_option maxHeartbeats 400000 in
theorem int_any (w : World) (v : Value) (bs : List Nat) (h : Rd w v bs) (hl : bs.length ≤ 1000000000000) :
    Calls Try.prog 119 #[v] w fun e w' => e = .returned (intV (dec bs)) ∧ w' = w := by
  have hu := uint_any w v bs h hl
  cases hd : dec bs with
  | none =>
    rw [hd] at hu
    have Hu := hid hu
    clear hu hd h
    go_enter Try.func119, Try.ntmps119
    go_wp2_with (go_at_call 86; refine (Hid.out Hu).mono ?_; rintro e w' ⟨rfl, rfl⟩; simp only [uintV])
    go_ret3
    exact ⟨rfl, rfl⟩
  | some p =>
    obtain ⟨n, k⟩ := p
    rw [hd] at hu
    obtain ⟨_, hn, _⟩ := dec_back (by obtain ⟨_, _, _, _, hb, _⟩ := h; exact hb) hd
    have Hu := hid hu
    have ha := and_one n hn
    clear hu hd h
    by_cases h2 : n % 2 = 1
    · rw [h2] at ha
      have ha' : bits .and .u64 (n : Int) 1 = 1 := ha
      have E : Hid (bits .xor .i64 (if IntKind.i64.signed = true then -1 else 9223372036854775807) ((n : Int) / 2) = unzz n) := by
        refine hid ?_
        have := xor_pos (n / 2) (by omega)
        unfold unzz
        rw [if_pos h2]
        simpa using this
      clear ha h2
      go_enter Try.func119, Try.ntmps119
      go_wp2_with (go_at_call 86; refine (Hid.out Hu).mono ?_; rintro e w' ⟨rfl, rfl⟩; simp only [uintV])
      go_ret3
      refine ⟨?_, rfl⟩
      simp only [intV]
      rw [← E.out]
      rfl
    · rw [show n % 2 = 0 from by omega] at ha
      have ha' : bits .and .u64 (n : Int) 1 = 0 := ha
      have E : Hid ((n : Int) / 2 = unzz n) := by
        refine hid ?_
        unfold unzz
        rw [if_neg h2]
        simp
      clear ha h2
      go_enter Try.func119, Try.ntmps119
      go_wp2_with (go_at_call 86; refine (Hid.out Hu).mono ?_; rintro e w' ⟨rfl, rfl⟩; simp only [uintV])
      go_ret3
      refine ⟨?_, rfl⟩
      simp only [intV]
      rw [← E.out]
      rfl

abbrev TextR : Type := Except Nat (List Nat × Nat)
def textD (most : Nat) (bs : List Nat) : TextR := match dec bs with
  | none => .error 20
  | some (n, k) => if most < n then .error 21 else if bs.length < k + n then .error 20 else .ok (((bs.drop k).take n), (k + n))
def textV : TextR → Value
  | .error e => .tuple #[.string ByteArray.empty, .int .i64 0, .int .i64 (e : Int)]
  | .ok (s, k) => .tuple #[.string (ofB s), .int .i64 (k : Int), .int .i64 0]

set_option maxRecDepth 100000 in
set_option maxHeartbeats 400000 in
theorem text_any (w : World) (v : Value) (bs : List Nat) (h : Rd w v bs) (hl : bs.length ≤ 1000000000000) :
    Calls Try.prog 120 #[v] w fun e w' => e = .returned (textV (textD 64 bs)) ∧ w' = w := by
  have hu := uint_any w v bs h hl
  have hb : Byt bs := by obtain ⟨_, _, _, _, hb, _⟩ := h; exact hb
  cases hd : dec bs with
  | none =>
    have E : Hid (textD 64 bs = .error 20) := by refine hid ?_; simp [textD, hd]
    rw [hd] at hu
    have Hu := hid hu
    clear hu hd h
    go_enter Try.func120, Try.ntmps120
    go_wp2_with (go_at_call 86; refine (Hid.out Hu).mono ?_; rintro e w' ⟨rfl, rfl⟩; simp only [uintV])
    go_ret3
    exact ⟨by rw [E.out]; rfl, rfl⟩
  | some p =>
    obtain ⟨n, k⟩ := p
    rw [hd] at hu
    obtain ⟨_, hn, hk, _, _⟩ := dec_back hb hd
    have Hu := hid hu
    by_cases h64 : 64 < n
    · have E : Hid (textD 64 bs = .error 21) := by refine hid ?_; simp [textD, hd, h64]
      clear hu hd h
      go_enter Try.func120, Try.ntmps120
      go_wp2_with (go_at_call 86; refine (Hid.out Hu).mono ?_; rintro e w' ⟨rfl, rfl⟩; simp only [uintV])
      go_ret3
      exact ⟨by rw [E.out]; rfl, rfl⟩
    · by_cases hs : bs.length < k + n
      · have E : Hid (textD 64 bs = .error 20) := by refine hid ?_; simp [textD, hd, h64, hs]
        obtain ⟨a, cap, rfl⟩ := h.len
        clear hu hd h
        go_enter Try.func120, Try.ntmps120
        go_wp2_with (go_at_call 86; refine (Hid.out Hu).mono ?_; rintro e w' ⟨rfl, rfl⟩; simp only [uintV])
        go_ret3
        exact ⟨by rw [E.out]; rfl, rfl⟩
      · have E : Hid (textD 64 bs = .ok (((bs.drop k).take n), (k + n))) := by refine hid ?_; simp [textD, hd, h64, hs]
        obtain ⟨a, cap, rfl⟩ := h.len
        have hp := (h.part k (k + n) (by omega) (by omega)).conv
        have hcap : bs.length ≤ cap := by obtain ⟨_, _, e, hc, _⟩ := h; cases e; exact hc
        unfold sliced at hp
        rw [show k + n - k = n from by omega, Nat.mul_one, show List.drop k (List.take (k + n) bs) = (bs.drop k).take n from by rw [List.drop_take]; congr 1; omega] at hp
        clear hu hd h
        go_enter Try.func120, Try.ntmps120
        go_wp2_with (go_at_call 86; refine (Hid.out Hu).mono ?_; rintro e w' ⟨rfl, rfl⟩; simp only [uintV])
        all_goals (go_ret3; exact ⟨by rw [E.out]; rfl, rfl⟩)
def mkI (n : Int) : Hd := ⟨1, n, ⟨#[]⟩, 0, none, 0, 0⟩
def mkT (s : ByteArray) : Hd := ⟨2, 0, s, 0, none, 0, 0⟩
def mkB (n : Int) : Hd := ⟨3, n, ⟨#[]⟩, 0, none, 0, 0⟩
def simpD : List Nat → Option (Hd × Nat)
  | [] => none
  | c :: r => if c = 1 then (match dec r with | none => none | some (n, k) => some (mkI (unzz n), 1 + k))
    else if c = 2 then (match textD 64 r with | .error _ => none | .ok (s, k) => some (mkT (ofB s), 1 + k))
    else if c = 3 then (match r with | [] => none | x :: _ => if x ≤ 1 then some (mkB x, 2) else none)
    else none
def valV : Option (Hd × Nat) → Value
  | none => .tuple #[zeroV, .int .i64 0, .int .i64 20]
  | some (h, k) => .tuple #[h.v, .int .i64 (k : Int), .int .i64 0]

def truthV : List Nat → Value
  | [] => .tuple #[.int .i64 0, .int .i64 0, .int .i64 20]
  | x :: _ => if x ≤ 1 then .tuple #[.int .i64 (x : Int), .int .i64 1, .int .i64 0] else .tuple #[.int .i64 0, .int .i64 0, .int .i64 20]

set_option maxHeartbeats 400000 in
theorem truth_nil (w : World) (a : Option Addr) (cap : Nat) :
    Calls Try.prog 121 #[.slice a 0 cap] w fun e w' => e = .returned (truthV []) ∧ w' = w := by
  go_enter Try.func121, Try.ntmps121
  go_wp2
  go_ret3
  exact ⟨rfl, rfl⟩

set_option maxRecDepth 100000 in
set_option maxHeartbeats 400000 in
theorem truth_cons (w : World) (b off n cap x : Nat) (r : List Nat) (hn : 0 < n) (hn2 : n ≤ 1000000000000) (hx : x < 256) (hc : w.cell? ⟨b, off, none⟩ = some (.int .u8 (x : Int))) :
    Calls Try.prog 121 #[.slice (some ⟨b, off, none⟩) n cap] w fun e w' => e = .returned (truthV (x :: r)) ∧ w' = w := by
  have q : ((n : Int) == 0) = false := by simp; omega
  by_cases h1 : x ≤ 1
  · have E : Hid (truthV (x :: r) = .tuple #[.int .i64 (x : Int), .int .i64 1, .int .i64 0]) := by refine hid ?_; simp [truthV, h1]
    go_enter Try.func121, Try.ntmps121
    go_wp2
    go_ret3
    exact ⟨by rw [E.out]; rfl, rfl⟩
  · have E : Hid (truthV (x :: r) = .tuple #[.int .i64 0, .int .i64 0, .int .i64 20]) := by refine hid ?_; simp [truthV, h1]
    go_enter Try.func121, Try.ntmps121
    go_wp2
    go_ret3
    exact ⟨by rw [E.out]; rfl, rfl⟩

set_option maxRecDepth 100000 in
theorem truth_any (w : World) (v : Value) (bs : List Nat) (h : Rd w v bs) (hl : bs.length ≤ 1000000000000) :
    Calls Try.prog 121 #[v] w fun e w' => e = .returned (truthV bs) ∧ w' = w := by
  obtain ⟨a, cap, rfl, h1, h2, h3⟩ := h
  cases bs with
  | nil => exact truth_nil w a cap
  | cons x r =>
    obtain ⟨b, off, rfl, hc⟩ := h3 0 x rfl
    exact truth_cons w b off _ cap x r (by simp) hl (h2 x (by simp)) hc

theorem Rd.tail {w : World} {a : Option Addr} {n cap : Nat} {x : Nat} {r : List Nat} (h : Rd w (.slice a n cap) (x :: r)) : Rd w (sliced a 1 n cap 1) r := h.from 1 (by simp)
set_option maxRecDepth 100000 in
set_option maxHeartbeats 400000 in
theorem simple_nil (w : World) (v : Value) (h : Rd w v []) :
    Calls Try.prog 116 #[v] w fun e w' => e = .returned (valV none) ∧ Below w.heap.size w w' := by
  obtain ⟨a, cap, rfl, h1, h2, h3⟩ := h
  clear h3 h1 h2
  go_enter Try.func116, Try.ntmps116
  go_wp2
  refine bodyPost_ret (v := valV none) (by simp [results, Try.results116, go_sem, valV, zeroV]) rfl ⟨rfl, (Below.refl _ _).alloc (Nat.le_refl _) _⟩

theorem textD_bad {M : Nat} {bs : List Nat} {e : Nat} (h : textD M bs = .error e) : e = 20 ∨ e = 21 := by
  unfold textD at h
  split at h
  · cases h; exact .inl rfl
  · split at h
    · cases h; exact .inr rfl
    · split at h
      · cases h; exact .inl rfl
      · cases h
theorem textD_le {M : Nat} {bs : List Nat} (hb : Byt bs) {s : List Nat} {k : Nat} (h : textD M bs = .ok (s, k)) : k ≤ bs.length ∧ s.length ≤ M ∧ Byt s := by
  unfold textD at h
  split at h
  · cases h
  · rename_i n q hd
    split at h
    · cases h
    · split at h
      · cases h
      · cases h
        have := dec_back hb hd
        refine ⟨by omega, by simp; omega, (hb.drop _).take _⟩

set_option maxRecDepth 100000 in
set_option maxHeartbeats 400000 in
theorem simple_oneA (w : World) (b off n cap : Nat) (r : List Nat) (hn : n = r.length + 1) (h1 : n ≤ cap) (hcap : 1 < cap) (hc : w.cell? ⟨b, off, none⟩ = some (.int .u8 1)) (hl : n ≤ 100000000000) (hby : Byt r)
    (hi : ∀ w' : World, Below w.heap.size w w' → Calls Try.prog 119 #[.slice (some ⟨b, off + 1, none⟩) (n - 1) (cap - 1)] w' fun e w'' => e = .returned (intV (dec r)) ∧ w'' = w') :
    Calls Try.prog 116 #[.slice (some ⟨b, off, none⟩) n cap] w fun e w' => e = .returned (valV (simpD (1 :: r))) ∧ Below w.heap.size w w' := by
  have Hi := hid hi
  have hb := World.block_lt_of_cell? _ _ hc
  simp only at hb
  have q : ((n : Int) == 0) = false := by simp; omega
  have q1 : ¬ cap = 1 := by omega
  have q2 : 1 ≤ n := by omega
  clear hi
  cases hd : dec r with
  | none =>
    rw [hd] at Hi
    clear hn
    have E : Hid (simpD (1 :: r) = none) := by refine hid ?_; simp [simpD, hd]
    go_enter Try.func116, Try.ntmps116
    go_wp2_with (go_at_call 119; refine (Hid.out Hi _ (((Below.refl _ _).alloc (Nat.le_refl _) _).alloc (by simp) _)).mono ?_; rintro e w' ⟨rfl, rfl⟩; simp only [intV, textV])
    refine bodyPost_ret (v := valV none) (by simp [results, Try.results116, go_sem, valV, zeroV]) rfl ⟨by rw [E.out], ((Below.refl _ _).alloc (Nat.le_refl _) _).alloc (by simp) _⟩
  | some p =>
    obtain ⟨m, k⟩ := p
    have hk := (dec_back hby hd).2.2.2.2
    rw [hd] at Hi
    clear hn
    have E : Hid (simpD (1 :: r) = some (mkI (unzz m), 1 + k)) := by refine hid ?_; simp [simpD, hd]
    go_enter Try.func116, Try.ntmps116
    go_wp2_with (go_at_call 119; refine (Hid.out Hi _ (((Below.refl _ _).alloc (Nat.le_refl _) _).alloc (by simp) _)).mono ?_; rintro e w' ⟨rfl, rfl⟩; simp only [intV, textV])
    refine bodyPost_ret (v := valV (some (mkI (unzz m), 1 + k))) (by simp [results, Try.results116, go_sem, valV, zeroV, mkI, mkT, mkB, Hd.v]; try omega) rfl ⟨by rw [E.out], ((Below.refl _ _).alloc (Nat.le_refl _) _).alloc (by simp) _⟩

set_option maxRecDepth 100000 in
set_option maxHeartbeats 400000 in
theorem simple_oneB (w : World) (b off : Nat) (hc : w.cell? ⟨b, off, none⟩ = some (.int .u8 1))
    (hi : ∀ w' : World, Below w.heap.size w w' → Calls Try.prog 119 #[.slice (some ⟨b, off, none⟩) 0 0] w' fun e w'' => e = .returned (intV (dec [])) ∧ w'' = w') :
    Calls Try.prog 116 #[.slice (some ⟨b, off, none⟩) 1 1] w fun e w' => e = .returned (valV (simpD (1 :: []))) ∧ Below w.heap.size w w' := by
  have Hi := hid hi
  have hb := World.block_lt_of_cell? _ _ hc
  simp only at hb
  clear hi
  · have hd : dec [] = none := rfl
    rw [hd] at Hi
    have E : Hid (simpD (1 :: []) = none) := by refine hid ?_; simp [simpD, hd]
    go_enter Try.func116, Try.ntmps116
    go_wp2_with (go_at_call 119; refine (Hid.out Hi _ (((Below.refl _ _).alloc (Nat.le_refl _) _).alloc (by simp) _)).mono ?_; rintro e w' ⟨rfl, rfl⟩; simp only [intV, textV])
    refine bodyPost_ret (v := valV none) (by simp [results, Try.results116, go_sem, valV, zeroV]) rfl ⟨by rw [E.out], ((Below.refl _ _).alloc (Nat.le_refl _) _).alloc (by simp) _⟩

set_option maxRecDepth 100000 in
set_option maxHeartbeats 400000 in
theorem simple_twoA (w : World) (b off n cap : Nat) (r : List Nat) (hn : n = r.length + 1) (h1 : n ≤ cap) (hcap : 1 < cap) (hc : w.cell? ⟨b, off, none⟩ = some (.int .u8 2)) (hl : n ≤ 100000000000) (hby : Byt r)
    (hi : ∀ w' : World, Below w.heap.size w w' → Calls Try.prog 120 #[.slice (some ⟨b, off + 1, none⟩) (n - 1) (cap - 1)] w' fun e w'' => e = .returned (textV (textD 64 r)) ∧ w'' = w') :
    Calls Try.prog 116 #[.slice (some ⟨b, off, none⟩) n cap] w fun e w' => e = .returned (valV (simpD (2 :: r))) ∧ Below w.heap.size w w' := by
  have Hi := hid hi
  have hb := World.block_lt_of_cell? _ _ hc
  simp only at hb
  have q : ((n : Int) == 0) = false := by simp; omega
  have q1 : ¬ cap = 1 := by omega
  have q2 : 1 ≤ n := by omega
  clear hi
  cases hd : textD 64 r with
  | error x =>
    have hx := textD_bad hd
    rw [hd] at Hi
    clear hn
    have E : Hid (simpD (2 :: r) = none) := by refine hid ?_; simp [simpD, hd]
    go_enter Try.func116, Try.ntmps116
    go_wp2_with (go_at_call 120; refine (Hid.out Hi _ (((Below.refl _ _).alloc (Nat.le_refl _) _).alloc (by simp) _)).mono ?_; rintro e w' ⟨rfl, rfl⟩; simp only [intV, textV])
    refine bodyPost_ret (v := valV none) (by simp [results, Try.results116, go_sem, valV, zeroV]) rfl ⟨by rw [E.out], ((Below.refl _ _).alloc (Nat.le_refl _) _).alloc (by simp) _⟩
  | ok pp =>
    obtain ⟨s, k⟩ := pp
    have hk : k ≤ 100000000000 := by have := (textD_le hby hd).1; omega
    rw [hd] at Hi
    clear hn
    have E : Hid (simpD (2 :: r) = some (mkT (ofB s), 1 + k)) := by refine hid ?_; simp [simpD, hd]
    go_enter Try.func116, Try.ntmps116
    go_wp2_with (go_at_call 120; refine (Hid.out Hi _ (((Below.refl _ _).alloc (Nat.le_refl _) _).alloc (by simp) _)).mono ?_; rintro e w' ⟨rfl, rfl⟩; simp only [intV, textV])
    refine bodyPost_ret (v := valV (some (mkT (ofB s), 1 + k))) (by simp [results, Try.results116, go_sem, valV, zeroV, mkI, mkT, mkB, Hd.v]; try omega) rfl ⟨by rw [E.out], ((Below.refl _ _).alloc (Nat.le_refl _) _).alloc (by simp) _⟩

set_option maxRecDepth 100000 in
set_option maxHeartbeats 400000 in
theorem simple_twoB (w : World) (b off : Nat) (hc : w.cell? ⟨b, off, none⟩ = some (.int .u8 2))
    (hi : ∀ w' : World, Below w.heap.size w w' → Calls Try.prog 120 #[.slice (some ⟨b, off, none⟩) 0 0] w' fun e w'' => e = .returned (textV (textD 64 [])) ∧ w'' = w') :
    Calls Try.prog 116 #[.slice (some ⟨b, off, none⟩) 1 1] w fun e w' => e = .returned (valV (simpD (2 :: []))) ∧ Below w.heap.size w w' := by
  have Hi := hid hi
  have hb := World.block_lt_of_cell? _ _ hc
  simp only at hb
  clear hi
  · have hd : textD 64 [] = .error 20 := rfl
    rw [hd] at Hi
    have E : Hid (simpD (2 :: []) = none) := by refine hid ?_; simp [simpD, hd]
    go_enter Try.func116, Try.ntmps116
    go_wp2_with (go_at_call 120; refine (Hid.out Hi _ (((Below.refl _ _).alloc (Nat.le_refl _) _).alloc (by simp) _)).mono ?_; rintro e w' ⟨rfl, rfl⟩; simp only [intV, textV])
    refine bodyPost_ret (v := valV none) (by simp [results, Try.results116, go_sem, valV, zeroV]) rfl ⟨by rw [E.out], ((Below.refl _ _).alloc (Nat.le_refl _) _).alloc (by simp) _⟩

set_option maxRecDepth 100000 in
set_option maxHeartbeats 400000 in
theorem simple_threeA (w : World) (b off n cap : Nat) (r : List Nat) (hn : n = r.length + 1) (h1 : n ≤ cap) (hcap : 1 < cap) (hc : w.cell? ⟨b, off, none⟩ = some (.int .u8 3)) (hl : n ≤ 100000000000) (hby : Byt r)
    (hi : ∀ w' : World, Below w.heap.size w w' → Calls Try.prog 121 #[.slice (some ⟨b, off + 1, none⟩) (n - 1) (cap - 1)] w' fun e w'' => e = .returned (truthV r) ∧ w'' = w') :
    Calls Try.prog 116 #[.slice (some ⟨b, off, none⟩) n cap] w fun e w' => e = .returned (valV (simpD (3 :: r))) ∧ Below w.heap.size w w' := by
  have Hi := hid hi
  have hb := World.block_lt_of_cell? _ _ hc
  simp only at hb
  have q : ((n : Int) == 0) = false := by simp; omega
  have q1 : ¬ cap = 1 := by omega
  have q2 : 1 ≤ n := by omega
  clear hi
  rcases r with _ | ⟨x, r⟩
  · have hd : truthV [] = .tuple #[.int .i64 0, .int .i64 0, .int .i64 20] := rfl
    rw [hd] at Hi
    clear hn
    have E : Hid (simpD (3 :: []) = none) := by refine hid ?_; simp [simpD]
    go_enter Try.func116, Try.ntmps116
    go_wp2_with (go_at_call 121; refine (Hid.out Hi _ (((Below.refl _ _).alloc (Nat.le_refl _) _).alloc (by simp) _)).mono ?_; rintro e w' ⟨rfl, rfl⟩; simp only [intV, textV])
    refine bodyPost_ret (v := valV none) (by simp [results, Try.results116, go_sem, valV, zeroV]) rfl ⟨by rw [E.out], ((Below.refl _ _).alloc (Nat.le_refl _) _).alloc (by simp) _⟩
  · by_cases hx : x ≤ 1
    · have hd : truthV (x :: r) = .tuple #[.int .i64 (x : Int), .int .i64 1, .int .i64 0] := by simp [truthV, hx]
      rw [hd] at Hi
      clear hn
      have E : Hid (simpD (3 :: x :: r) = some (mkB x, 2)) := by refine hid ?_; simp [simpD, hx]
      go_enter Try.func116, Try.ntmps116
      go_wp2_with (go_at_call 121; refine (Hid.out Hi _ (((Below.refl _ _).alloc (Nat.le_refl _) _).alloc (by simp) _)).mono ?_; rintro e w' ⟨rfl, rfl⟩; simp only [intV, textV])
      refine bodyPost_ret (v := valV (some (mkB x, 2))) (by simp [results, Try.results116, go_sem, valV, zeroV, mkI, mkT, mkB, Hd.v]; try omega) rfl ⟨by rw [E.out], ((Below.refl _ _).alloc (Nat.le_refl _) _).alloc (by simp) _⟩
    · have hd : truthV (x :: r) = .tuple #[.int .i64 0, .int .i64 0, .int .i64 20] := by simp [truthV, hx]
      rw [hd] at Hi
      clear hn
      have E : Hid (simpD (3 :: x :: r) = none) := by refine hid ?_; simp [simpD, hx]
      go_enter Try.func116, Try.ntmps116
      go_wp2_with (go_at_call 121; refine (Hid.out Hi _ (((Below.refl _ _).alloc (Nat.le_refl _) _).alloc (by simp) _)).mono ?_; rintro e w' ⟨rfl, rfl⟩; simp only [intV, textV])
      refine bodyPost_ret (v := valV none) (by simp [results, Try.results116, go_sem, valV, zeroV]) rfl ⟨by rw [E.out], ((Below.refl _ _).alloc (Nat.le_refl _) _).alloc (by simp) _⟩

set_option maxRecDepth 100000 in
set_option maxHeartbeats 400000 in
theorem simple_threeB (w : World) (b off : Nat) (hc : w.cell? ⟨b, off, none⟩ = some (.int .u8 3))
    (hi : ∀ w' : World, Below w.heap.size w w' → Calls Try.prog 121 #[.slice (some ⟨b, off, none⟩) 0 0] w' fun e w'' => e = .returned (truthV []) ∧ w'' = w') :
    Calls Try.prog 116 #[.slice (some ⟨b, off, none⟩) 1 1] w fun e w' => e = .returned (valV (simpD (3 :: []))) ∧ Below w.heap.size w w' := by
  have Hi := hid hi
  have hb := World.block_lt_of_cell? _ _ hc
  simp only at hb
  clear hi
  · have hd : truthV [] = .tuple #[.int .i64 0, .int .i64 0, .int .i64 20] := rfl
    rw [hd] at Hi
    have E : Hid (simpD (3 :: []) = none) := by refine hid ?_; simp [simpD]
    go_enter Try.func116, Try.ntmps116
    go_wp2_with (go_at_call 121; refine (Hid.out Hi _ (((Below.refl _ _).alloc (Nat.le_refl _) _).alloc (by simp) _)).mono ?_; rintro e w' ⟨rfl, rfl⟩; simp only [intV, textV])
    refine bodyPost_ret (v := valV none) (by simp [results, Try.results116, go_sem, valV, zeroV]) rfl ⟨by rw [E.out], ((Below.refl _ _).alloc (Nat.le_refl _) _).alloc (by simp) _⟩

set_option maxRecDepth 100000 in
set_option maxHeartbeats 400000 in
theorem simple_other (w : World) (b off n cap c : Nat) (r : List Nat) (hn : 0 < n) (hl : n ≤ 100000000000) (hc : w.cell? ⟨b, off, none⟩ = some (.int .u8 (c : Int))) (hcb : c < 256) (c1 : c ≠ 1) (c2 : c ≠ 2) (c3 : c ≠ 3) :
    Calls Try.prog 116 #[.slice (some ⟨b, off, none⟩) n cap] w fun e w' => e = .returned (valV (simpD (c :: r))) ∧ Below w.heap.size w w' := by
  have hb := World.block_lt_of_cell? _ _ hc
  simp only at hb
  have q : ((n : Int) == 0) = false := by simp; omega
  have k1 : ((c : Int) == 1) = false := by simp; omega
  have k2 : ((c : Int) == 2) = false := by simp; omega
  have k3 : ((c : Int) == 3) = false := by simp; omega
  have E : Hid (simpD (c :: r) = none) := by refine hid ?_; simp [simpD, c1, c2, c3]
  clear c1 c2 c3
  go_enter Try.func116, Try.ntmps116
  go_wp2
  refine bodyPost_ret (v := valV none) (by simp [results, Try.results116, go_sem, valV, zeroV]) rfl ⟨by rw [E.out], ((Below.refl _ _).alloc (Nat.le_refl _) _).alloc (by simp) _⟩

theorem simple_any (w : World) (v : Value) (bs : List Nat) (h : Rd w v bs) (hl : bs.length ≤ 100000000000) :
    Calls Try.prog 116 #[v] w fun e w' => e = .returned (valV (simpD bs)) ∧ Below w.heap.size w w' := by
  cases bs with
  | nil => exact simple_nil w v h
  | cons c r =>
    have h' := h
    obtain ⟨a, cap, rfl, h1, h2, h3⟩ := h
    obtain ⟨b, off, rfl, hc⟩ := h3 0 c rfl
    rw [Nat.add_zero] at hc
    have hby : Byt r := fun x hx => h2 x (by simp [hx])
    have ht := h'.tail
    simp only [List.length_cons] at h1 hl ht ⊢
    by_cases hcap : cap = 1
    · subst hcap
      have : r = [] := List.eq_nil_of_length_eq_zero (by omega)
      subst this
      have e : sliced (some ⟨b, off, none⟩) 1 (0 + 1) 1 1 = .slice (some ⟨b, off, none⟩) 0 0 := rfl
      simp only [List.length_nil] at ht
      rw [e] at ht
      by_cases k1 : c = 1
      · subst k1; exact simple_oneB w b off hc (fun w' hb => int_any w' _ [] (ht.below (Nat.le_refl _) hb) (by simp))
      · by_cases k2 : c = 2
        · subst k2; exact simple_twoB w b off hc (fun w' hb => text_any w' _ [] (ht.below (Nat.le_refl _) hb) (by simp))
        · by_cases k3 : c = 3
          · subst k3; exact simple_threeB w b off hc (fun w' hb => truth_any w' _ [] (ht.below (Nat.le_refl _) hb) (by simp))
          · exact simple_other w b off _ _ c [] (by omega) hl hc (h2 c (by simp)) k1 k2 k3
    · have e : sliced (some ⟨b, off, none⟩) 1 (r.length + 1) cap 1 = .slice (some ⟨b, off + 1, none⟩) (r.length + 1 - 1) (cap - 1) := by
        unfold sliced
        rw [if_neg hcap]
        simp [Addr.add]
      rw [e] at ht
      by_cases k1 : c = 1
      · subst k1; exact simple_oneA w b off _ cap r rfl h1 (by omega) hc hl hby (fun w' hb => int_any w' _ r (ht.below (Nat.le_refl _) hb) (by omega))
      · by_cases k2 : c = 2
        · subst k2; exact simple_twoA w b off _ cap r rfl h1 (by omega) hc hl hby (fun w' hb => text_any w' _ r (ht.below (Nat.le_refl _) hb) (by omega))
        · by_cases k3 : c = 3
          · subst k3; exact simple_threeA w b off _ cap r rfl h1 (by omega) hc hl hby (fun w' hb => truth_any w' _ r (ht.below (Nat.le_refl _) hb) (by omega))
          · exact simple_other w b off _ _ c r (by omega) hl hc (h2 c (by simp)) k1 k2 k3
theorem info45 : (Try.prog.info? 31).map (fun i => (i.zero, i.size, i.bytes)) = some (some zeroV, 5, 64) := by kernel_rfl

theorem cd_run_appV (w : World) (ty : TypeId) (B : Nat) (v : Value) (hs : List Hd) (h : Hd) (hr : VRow w B v hs) (hB : B ≤ w.heap.size) (hl : hs.length ≤ 1000000) :
    ∃ v' w', (Builtin.append_ #[29, 29] ty #[v, .slice (some ⟨w.heap.size, 0, none⟩) 1 1]).run Try.prog (w.alloc (.cells h.cs.toArray 31)) = .ok v' w' ∧ VRow w' B v' (hs ++ [h]) ∧ Grw w v w' v' := by
  obtain ⟨i0, hi, hz0, hz1, hz2⟩ := info_parts info45
  obtain ⟨v', w', hrun, hown, hg, _, hat⟩ := run_append_own_at (P := Try.prog) (w.alloc (.cells h.cs.toArray 31)) B 29 ty 31 i0 zeroV 5 64 Try.underlying29 hi hz0 hz1 hz2 rfl (by decide) v hs.length (vv hs) (World.ownsRow.alloc hr _) ⟨w.heap.size, 0, none⟩ 1 1 h.cs rfl (by
    intro j u hu
    exact World.news_of_block (heap_alloc_new w (.cells h.cs.toArray 31)) j u (by simpa using hu)) (cs_one h) (by unfold maxLen; omega) (by omega) (by simp; omega)
  refine ⟨v', w', hrun, ?_, alloc_grown hg, ?_⟩
  · unfold VRow
    rw [vv_snoc, List.length_append]
    exact hown
  · rcases hat with hat | hat
    · exact .inl hat
    · exact .inr ⟨_, hat, by simp⟩
theorem cd_wpList_appV {ops : Array Oper} {rest : List Oper} {o : Oper} {a : Act} {Q : Exit → Act → World → Prop} (w : World) (hgd : o.guard = none) (sl x : Operand)
    (ho : o.op = .call { callee := .builtin .append, args := #[sl, x], argTypes := #[29, 29] }) (v : Value) (h : Hd) (hs : a.eval sl = v) (hx : a.eval x = .slice (some ⟨w.heap.size, 0, none⟩) 1 1)
    (B : Nat) (xs : List Hd) (hr : VRow w B v xs) (hB : B ≤ w.heap.size) (hl : xs.length ≤ 1000000)
    (k : ∀ v' w', VRow w' B v' (xs ++ [h]) → Grw w v w' v' → wpList Try.prog ops Q rest (a.put o.dst v') w') :
    wpList Try.prog ops Q (o :: rest) a (w.alloc (.cells h.cs.toArray 31)) := by
  refine wpList_plain hgd fun K hK => ?_
  obtain ⟨v', w', hrun, h2, h3⟩ := cd_run_appV w o.type B v xs h hr hB hl
  unfold Oper.wp execOp
  simp only [ho, resolve, invoke, builtin, Sem.run_bind, Sem.run_pure, Result.andThen_ok, List.map_toArray, List.map_cons, List.map_nil, hs, hx, hrun]
  exact hK _ _ (k v' w' h2 h3)
def goD {α : Type} (D : List Nat → Option (α × Nat)) (bs : List Nat) : Nat → Nat → List α → Option (List α × Nat)
  | 0, i, acc => some (acc, i)
  | c + 1, i, acc => match D (bs.drop i) with
    | none => none
    | some (x, k) => goD D bs c (i + k) (acc ++ [x])
def rowD {α : Type} (D : List Nat → Option (α × Nat)) (bs : List Nat) : Option (List α × Nat) := match dec bs with
  | none => none
  | some (c, i) => if 12 < c then none else goD D bs c i []

theorem simpD_le {bs : List Nat} (hb : Byt bs) {h : Hd} {k : Nat} (e : simpD bs = some (h, k)) : k ≤ bs.length := by
  cases bs with
  | nil => cases e
  | cons c r =>
    have hr : Byt r := fun x hx => hb x (by simp [hx])
    simp only [simpD] at e
    split at e
    · split at e
      · cases e
      · rename_i n q hd
        cases e
        have := dec_back hr hd
        simp; omega
    · split at e
      · split at e
        · cases e
        · rename_i s q hd
          cases e
          have := (textD_le hr hd).1
          simp; omega
      · split at e
        · split at e
          · cases e
          · split at e
            · cases e; simp
            · cases e
        · cases e

def RowP (B : Nat) (o : Option (List Hd × Nat)) (e : Ending) (w' : World) : Prop := match o with
  | none => e = .returned (.tuple #[.slice none 0 0, .int .i64 0, .int .i64 20])
  | some (hs, k) => ∃ v', e = .returned (.tuple #[v', .int .i64 (k : Int), .int .i64 0]) ∧ VRow w' B v' hs

theorem Rd.cap {w : World} {a : Option Addr} {n cap : Nat} {bs : List Nat} (h : Rd w (.slice a n cap) bs) : n = bs.length ∧ bs.length ≤ cap := by
  obtain ⟨a', cap', e, hc, _⟩ := h
  cases e
  exact ⟨rfl, hc⟩

set_option maxRecDepth 100000 in
set_option maxHeartbeats 1000000 in
theorem rowS_any (w : World) (v : Value) (bs : List Nat) (h : Rd w v bs) (hl : bs.length ≤ 10000000000) :
    Calls Try.prog 117 #[v, .func (.func 116) #[] #[]] w fun e w' => Below w.heap.size w w' ∧ RowP w.heap.size (rowD simpD bs) e w' := by
  obtain ⟨a, cap, rfl⟩ := h.len
  have hu := uint_any w _ bs h (by omega)
  have hby : Byt bs := by obtain ⟨_, _, _, _, hb, _⟩ := h; exact hb
  cases hd : dec bs with
  | none =>
    rw [hd] at hu
    have Hu := hid hu
    have R0 : Hid (rowD simpD bs = none) := by refine hid ?_; simp [rowD, hd]
    clear hu h
    go_enter Try.func117, Try.ntmps117
    go_wp2_with (go_at_call 86; refine (Hid.out Hu).mono ?_; rintro e w ⟨rfl, rfl⟩; simp only [uintV])
    go_ret3
    exact ⟨Below.refl _ _, by rw [R0.out]; rfl⟩
  | some p =>
    obtain ⟨c, at0⟩ := p
    rw [hd] at hu
    have Hu := hid hu
    obtain ⟨_, hc64, hat, _, _⟩ := dec_back hby hd
    clear hu
    by_cases h12 : 12 < c
    · have R0 : Hid (rowD simpD bs = none) := by refine hid ?_; simp [rowD, hd, h12]
      clear h
      go_enter Try.func117, Try.ntmps117
      go_wp2_with (go_at_call 86; refine (Hid.out Hu).mono ?_; rintro e w ⟨rfl, rfl⟩; simp only [uintV])
      go_ret3
      exact ⟨Below.refl _ _, by rw [R0.out]; rfl⟩
    · have R0 : Hid (rowD simpD bs = goD simpD bs c at0 []) := by refine hid ?_; simp [rowD, hd, h12]
      go_enter Try.func117, Try.ntmps117
      go_wp2_with (go_at_call 86; refine (Hid.out Hu).mono ?_; rintro e w ⟨rfl, rfl⟩; simp only [uintV])
      go_loopg [8, 10, 28] c (fun g att vals ii wr => ∃ (i at1 : Nat) (hs : List Hd), i + g = c ∧ ii = .int .i64 (i : Int) ∧ att = .int .i64 (at1 : Int) ∧ at1 ≤ bs.length ∧ hs.length = i ∧ VRow wr w.heap.size vals hs ∧ Below w.heap.size w wr ∧ goD simpD bs c at0 [] = goD simpD bs g at1 hs)
      case atStart => exact ⟨0, at0, [], by omega, rfl, rfl, hat, rfl, VRow.nil _ _, Below.refl _ _, rfl⟩
      case round =>
        obtain ⟨i, at1, hs, hi, rfl, rfl, hat1, hhs, hrow, hbel, hgo⟩ := hrel
        have Hi := hid hi
        have Hgo := hid hgo
        have Hhs := hid hhs
        clear hi hgo hhs
        have Hr := hid (h.below (Nat.le_refl _) hbel)
        cases gk with
        | zero =>
          have hic : i = c := by have := Hi.out; omega
          go_wp2
          go_ret3
          refine ⟨hbel, ?_⟩
          rw [R0.out, Hgo.out]
          exact ⟨_, rfl, hrow⟩
        | succ g =>
          have hic : i < c := by have := Hi.out; omega
          have hs1 := (Hr.out).from at1 hat1
          unfold sliced at hs1
          rw [Nat.mul_one] at hs1
          have Hs1 := hid hs1
          clear hs1
          have hcap := (Hr.out).cap.2
          have hbs : w.heap.size ≤ wr.heap.size := hbel.size
          have hsR := hid (show (if cap = at1 then a else Option.map (fun x => x.add at1) a) = (if cap = at1 then a else Option.map (fun x => x.add at1) a) from rfl)
          have Hsl : Hid (∀ (a' : Option Addr) (m c' : Nat), a' = (if cap = at1 then a else Option.map (fun x => x.add at1) a) → m = bs.length - at1 → c' = cap - at1 → Rd wr (.slice a' m c') (bs.drop at1)) := hid (by
            rintro _ _ _ rfl rfl rfl
            exact Hs1.out)
          cases hsd : simpD (bs.drop at1) with
          | none =>
            have E : Hid (goD simpD bs (g + 1) at1 hs = none) := by refine hid ?_; simp [goD, hsd]
            rcases Nat.lt_or_ge at1 cap with hca | hca
            · have hca' : ¬ cap = at1 := by omega
              go_wp2_with (go_at_call 116; (refine (simple_any wr _ (bs.drop at1) (Hid.out Hsl _ _ _ (by rw [if_neg hca']) rfl rfl) (by simp; omega)).mono ?_; rintro e w2 ⟨rfl, hb2⟩; rw [hsd]; simp only [valV, zeroV]))
              go_ret3
              refine ⟨(hbel.trans (hb2.mono hbs)).alloc (Nat.le_trans hbs hb2.size) _, ?_⟩
              rw [R0.out, Hgo.out, E.out]; rfl
            · obtain rfl : at1 = cap := by omega
              go_wp2_with (go_at_call 116; (refine (simple_any wr _ (bs.drop at1) (Hid.out Hsl _ _ _ (by rw [if_pos rfl]) (by omega) (by omega)) (by simp; omega)).mono ?_; rintro e w2 ⟨rfl, hb2⟩; rw [hsd]; simp only [valV, zeroV]))
              go_ret3
              refine ⟨(hbel.trans (hb2.mono hbs)).alloc (Nat.le_trans hbs hb2.size) _, ?_⟩
              rw [R0.out, Hgo.out, E.out]; rfl
          | some p =>
            obtain ⟨hh, k⟩ := p
            have hk := simpD_le (hby.drop at1) hsd
            rw [List.length_drop] at hk
            have E : Hid (goD simpD bs (g + 1) at1 hs = goD simpD bs g (at1 + k) (hs ++ [hh])) := by refine hid ?_; simp [goD, hsd]
            have hlen : hs.length ≤ 1000000 := by have := Hhs.out; omega
            rcases Nat.lt_or_ge at1 cap with hca | hca
            · have hca' : ¬ cap = at1 := by omega
              go_wp2_with (first
                | (go_at_call 116; (refine (simple_any wr _ (bs.drop at1) (Hid.out Hsl _ _ _ (by rw [if_neg hca']) rfl rfl) (by simp; omega)).mono ?_; rintro e w2 ⟨rfl, hb2⟩; rw [hsd]; simp only [valV, Hd.v]))
                | (at_builtin; have hno := hb2; (refine cd_wpList_appV _ rfl _ _ rfl _ hh (by rfl) (by first | rfl | (rw [World.size_alloc]; rfl)) w.heap.size hs ((VRow.below hrow (Nat.le_refl _) hb2).same (fun g' e' => by rw [Below.heap_alloc]; exact (hrow.below (Nat.le_refl _) hb2 |>.own g' e').2)) (by simp; have := hb2.size; omega) hlen ?_; intro v3 w3 hr3 hg3)))
              go_roundg g
              case measure => omega
              case rel =>
                refine ⟨i + 1, at1 + k, hs ++ [hh], by have := Hi.out; omega, by go_num, by go_num, by omega, by simp; exact Hhs.out, hr3, ?_, by rw [Hgo.out, E.out]⟩
                have s2 := hb2.size
                exact ((hbel.trans (hb2.mono hbs)).alloc (Nat.le_trans hbs s2) _).grown hg3.1 (by simp; omega) (fun k hk => (hrow.own k hk).1)
            · rw [List.drop_eq_nil_of_le (by omega)] at hsd
              cases hsd
theorem goD_le {α : Type} {D : List Nat → Option (α × Nat)} (hD : ∀ bs x k, Byt bs → D bs = some (x, k) → k ≤ bs.length) {bs : List Nat} (hb : Byt bs) : ∀ (c i : Nat) (acc xs : List α) (k : Nat), i ≤ bs.length → goD D bs c i acc = some (xs, k) → k ≤ bs.length
  | 0, i, acc, xs, k, hi, e => by simp only [goD] at e; cases e; exact hi
  | c + 1, i, acc, xs, k, hi, e => by
    simp only [goD] at e
    split at e
    · cases e
    · rename_i x q hd
      have := hD _ _ _ (hb.drop i) hd
      rw [List.length_drop] at this
      exact goD_le hD hb c (i + q) _ xs k (by omega) e
theorem rowD_le {bs : List Nat} (hb : Byt bs) {fs : List Hd} {k : Nat} (e : rowD simpD bs = some (fs, k)) : k ≤ bs.length := by
  unfold rowD at e
  split at e
  · cases e
  · rename_i c i hd
    split at e
    · cases e
    · exact goD_le (fun bs x k hb e => simpD_le hb e) hb c i [] fs k (dec_back hb hd).2.2.1 e

def vl (h : Hd) : Vl := ⟨h.kind, h.int, h.text, h.rc, []⟩
def valD : List Nat → Option (Vl × Nat)
  | [] => none
  | c :: r => if c = 4 then (match dec r with
      | none => none
      | some (q, size) => if 15 < q then none else match rowD simpD (r.drop size) with
        | none => none
        | some (fs, k) => some (⟨4, 0, ⟨#[]⟩, (q : Int), fs⟩, 1 + size + k))
    else match simpD (c :: r) with
      | none => none
      | some (h, k) => some (vl h, k)
structure Rep (w : World) (x : Vl) (h : Hd) : Prop where
  kind : h.kind = x.kind
  int : h.int = x.int
  text : h.text = x.text
  rc : h.rc = x.rc
  n : h.n = x.fs.length
  fs : VRd w h.a x.fs
def ValP (B : Nat) (o : Option (Vl × Nat)) (e : Ending) (w' : World) : Prop := match o with
  | none => e = .returned (valV none)
  | some (x, k) => ∃ h : Hd, e = .returned (.tuple #[h.v, .int .i64 (k : Int), .int .i64 0]) ∧ Rep w' x h ∧ ∀ b, (Value.slice h.a h.n h.cap).ownBlock = some b → B ≤ b

theorem simpD_flat {bs : List Nat} {h : Hd} {k : Nat} (e : simpD bs = some (h, k)) : h.n = 0 ∧ h.a = none ∧ h.rc = 0 := by
  cases bs with
  | nil => cases e
  | cons c r =>
    simp only [simpD] at e
    split at e
    · split at e <;> cases e
      exact ⟨rfl, rfl, rfl⟩
    · split at e
      · split at e <;> cases e
        exact ⟨rfl, rfl, rfl⟩
      · split at e
        · split at e
          · cases e
          · split at e <;> cases e
            exact ⟨rfl, rfl, rfl⟩
        · cases e
theorem Rep.flat (w : World) {bs : List Nat} {h : Hd} {k : Nat} (e : simpD bs = some (h, k)) : Rep w (vl h) h :=
  ⟨rfl, rfl, rfl, rfl, (simpD_flat e).1, fun j x hx => by simp [vl] at hx⟩

theorem Rd.sl {w : World} {a : Option Addr} {n cap : Nat} {bs : List Nat} (h : Rd w (.slice a n cap) bs) (k : Nat) (hk : k ≤ bs.length) {a' : Option Addr} {m c' : Nat} (ha : a' = (if cap = k then a else Option.map (fun x => x.add k) a)) (hm : m = n - k) (hc : c' = cap - k) : Rd w (.slice a' m c') (bs.drop k) := by
  subst ha hm hc
  have := h.from k hk
  unfold sliced at this
  rw [Nat.mul_one] at this
  exact this

def cd_five (w : World) (b : Nat) (h : Hd) : World := ((((w.setCell ⟨b, 0, none⟩ (.int .i64 h.kind)).setCell ⟨b, 1, none⟩ (.int .i64 h.int)).setCell ⟨b, 2, none⟩ (.string h.text)).setCell ⟨b, 3, none⟩ (.int .i64 h.rc)).setCell ⟨b, 4, none⟩ (.slice h.a h.n h.cap)
theorem cd_five_heap (w : World) (b : Nat) (h : Hd) {k : Nat} (hk : k ≠ b) : (cd_five w b h).heap[k]? = w.heap[k]? := by
  unfold cd_five
  rw [Below.heap_setCell _ _ _ _ hk, Below.heap_setCell _ _ _ _ hk, Below.heap_setCell _ _ _ _ hk, Below.heap_setCell _ _ _ _ hk, Below.heap_setCell _ _ _ _ hk]
theorem cd_five_below {B : Nat} {w0 w : World} (hb : Below B w0 w) {b : Nat} (hB : B ≤ b) (h : Hd) : Below B w0 (cd_five w b h) := by
  unfold cd_five
  exact ((((hb.setCell hB _).setCell hB _).setCell hB _).setCell hB _).setCell hB _
theorem first_below {w w2 : World} {o : Obj} (h : Below (w.heap.size + 1) (w.alloc o) w2) : Below w.heap.size w w2 :=
  ((Below.refl _ _).alloc (Nat.le_refl _) o).trans (h.mono (by omega))
def zeroH : Hd := ⟨0, 0, ⟨#[]⟩, 0, none, 0, 0⟩

set_option maxRecDepth 100000 in
set_option maxHeartbeats 1000000 in
theorem value_nil (w : World) (a : Option Addr) (cap : Nat) :
    Calls Try.prog 105 #[.slice a 0 cap] w fun e w' => Below w.heap.size w w' ∧ ValP w.heap.size (valD []) e w' := by
  have hs := hid (simple_any (w.alloc (.cells #[.int .i64 0, .int .i64 0, .string ⟨#[]⟩, .int .i64 0, .slice none 0 0] 31)) _ [] (Rd.empty _ a cap) (by simp))
  rw [show simpD [] = none from rfl] at hs
  go_enter Try.func105, Try.ntmps105
  go_wp2_with (go_at_call 116; (refine (Hid.out hs).mono ?_; rintro e w2 ⟨rfl, hb2⟩; (try simp only [World.size_alloc] at hb2); have hr := res_cells hb2; have g0 := cellOf hr 0; have g1 := cellOf hr 1; have g2 := cellOf hr 2; have g3 := cellOf hr 3; have g4 := cellOf hr 4; have gf := freeOf hr; simp only [List.getElem?_toArray, List.getElem?_cons_zero, List.getElem?_cons_succ] at g0 g1 g2 g3 g4; clear hr; simp only [valV, zeroV]))
  refine bodyPost_ret (v := valV none) (by simp [results, Try.results105, go_sem, valV, zeroV, g0, g1, g2, g3, g4]) rfl ⟨cd_five_below (first_below hb2) (Nat.le_refl _) zeroH, rfl⟩

set_option maxRecDepth 100000 in
set_option maxHeartbeats 1000000 in
theorem value_flat (w : World) (b off n cap c : Nat) (r : List Nat) (h : Rd w (.slice (some ⟨b, off, none⟩) n cap) (c :: r)) (hl : n ≤ 1000000000) (hc : w.cell? ⟨b, off, none⟩ = some (.int .u8 (c : Int))) (hc4 : c ≠ 4) (hc5 : c < 256) :
    Calls Try.prog 105 #[.slice (some ⟨b, off, none⟩) n cap] w fun e w' => Below w.heap.size w w' ∧ ValP w.heap.size (valD (c :: r)) e w' := by
  have hn := h.cap.1
  have hs := simple_any (w.alloc (.cells #[.int .i64 0, .int .i64 0, .string ⟨#[]⟩, .int .i64 0, .slice none 0 0] 31)) _ (c :: r) (h.below (Nat.le_refl _) ((Below.refl _ _).alloc (Nat.le_refl _) _)) (by omega)
  have hb := World.block_lt_of_cell? _ _ hc
  simp only at hb
  have q0 : ((n : Int) == 0) = false := by simp; simp at hn; omega
  have q4 : ((c : Int) != 4) = true := by simp; omega
  have q1 : 0 < n := by simp at hn; omega
  clear h hn
  cases hsd : simpD (c :: r) with
  | none =>
    have V : Hid (valD (c :: r) = none) := by refine hid ?_; simp only [valD]; rw [if_neg hc4, hsd]
    rw [hsd] at hs
    have Hs := hid hs
    clear hs
    go_enter Try.func105, Try.ntmps105
    go_wp2_with (go_at_call 116; (refine (Hid.out Hs).mono ?_; rintro e w2 ⟨rfl, hb2⟩; (try simp only [World.size_alloc] at hb2); have hr := res_cells hb2; have g0 := cellOf hr 0; have g1 := cellOf hr 1; have g2 := cellOf hr 2; have g3 := cellOf hr 3; have g4 := cellOf hr 4; have gf := freeOf hr; simp only [List.getElem?_toArray, List.getElem?_cons_zero, List.getElem?_cons_succ] at g0 g1 g2 g3 g4; clear hr; simp only [valV, zeroV]))
    refine bodyPost_ret (v := valV none) (by simp [results, Try.results105, go_sem, valV, zeroV, g0, g1, g2, g3, g4]) rfl ⟨cd_five_below (first_below hb2) (Nat.le_refl _) zeroH, by rw [V.out]; rfl⟩
  | some p =>
    obtain ⟨hh, k⟩ := p
    have V : Hid (valD (c :: r) = some (vl hh, k)) := by refine hid ?_; simp only [valD]; rw [if_neg hc4, hsd]
    have RR := hid (fun w => Rep.flat w hsd)
    have Hfl := hid (simpD_flat hsd).2.1
    rw [hsd] at hs
    have Hs := hid hs
    clear hs
    go_enter Try.func105, Try.ntmps105
    go_wp2_with (go_at_call 116; (refine (Hid.out Hs).mono ?_; rintro e w2 ⟨rfl, hb2⟩; (try simp only [World.size_alloc] at hb2); have hr := res_cells hb2; have g0 := cellOf hr 0; have g1 := cellOf hr 1; have g2 := cellOf hr 2; have g3 := cellOf hr 3; have g4 := cellOf hr 4; have gf := freeOf hr; simp only [List.getElem?_toArray, List.getElem?_cons_zero, List.getElem?_cons_succ] at g0 g1 g2 g3 g4; clear hr; simp only [valV, Hd.v]))
    refine bodyPost_ret (v := .tuple #[hh.v, .int .i64 (k : Int), .int .i64 0]) (by simp [results, Try.results105, go_sem, Hd.v, g0, g1, g2, g3, g4]) rfl ⟨cd_five_below (first_below hb2) (Nat.le_refl _) hh, by rw [V.out]; exact ⟨hh, rfl, RR.out _, fun b e => by rw [Hfl.out] at e; cases e⟩⟩

set_option maxRecDepth 100000 in
set_option maxHeartbeats 1000000 in
theorem value_rec (w : World) (b off n cap : Nat) (r : List Nat) (h : Rd w (.slice (some ⟨b, off, none⟩) n cap) (4 :: r)) (hl : n ≤ 1000000000) (hc : w.cell? ⟨b, off, none⟩ = some (.int .u8 4)) :
    Calls Try.prog 105 #[.slice (some ⟨b, off, none⟩) n cap] w fun e w' => Below w.heap.size w w' ∧ ValP w.heap.size (valD (4 :: r)) e w' := by
  have hn := h.cap.1
  have hcap := h.cap.2
  simp only [List.length_cons] at hn hcap
  have hby : Byt r := by obtain ⟨_, _, _, _, hb, _⟩ := h; exact fun x hx => hb x (by simp [hx])
  have hb := World.block_lt_of_cell? _ _ hc
  simp only at hb
  have q0 : ((n : Int) == 0) = false := by simp; omega
  have q1 : 0 < n := by omega
  have q2 : 1 ≤ n := by omega
  have h0 := h.below (Nat.le_refl _) ((Below.refl _ _).alloc (Nat.le_refl _) (.cells #[.int .i64 0, .int .i64 0, .string ⟨#[]⟩, .int .i64 0, .slice none 0 0] 31))
  have H1 : Hid (∀ (a' : Option Addr) (m c' : Nat), a' = (if cap = 1 then some ⟨b, off, none⟩ else some ⟨b, off + 1, none⟩) → m = n - 1 → c' = cap - 1 → Calls Try.prog 86 #[.slice a' m c'] (w.alloc (.cells #[.int .i64 0, .int .i64 0, .string ⟨#[]⟩, .int .i64 0, .slice none 0 0] 31)) fun e w' => e = .returned (uintV (dec r)) ∧ w' = w.alloc (.cells #[.int .i64 0, .int .i64 0, .string ⟨#[]⟩, .int .i64 0, .slice none 0 0] 31)) := hid (by
    intro a' m c' ea em ec
    exact uint_any _ _ r (h0.sl 1 (by simp) (by rw [ea]; split <;> simp_all [Addr.add]) em ec) (by omega))
  cases hd : dec r with
  | none =>
    have V : Hid (valD (4 :: r) = none) := by refine hid ?_; simp [valD, hd]
    rw [hd] at H1
    clear h h0
    rcases Nat.lt_or_ge 1 cap with hc1 | hc1
    · have hc1' : ¬ cap = 1 := by omega
      go_enter Try.func105, Try.ntmps105
      go_wp2_with (go_at_call 86; (refine (Hid.out H1 _ _ _ (by rw [if_neg hc1']) (by omega) (by omega)).mono ?_; rintro e w2 ⟨rfl, rfl⟩; simp only [uintV]))
      refine bodyPost_ret (v := valV none) (by simp [results, Try.results105, go_sem, valV, zeroV]) rfl ⟨(Below.refl _ _).alloc (Nat.le_refl _) _, by rw [V.out]; rfl⟩
    · obtain rfl : cap = 1 := by omega
      go_enter Try.func105, Try.ntmps105
      go_wp2_with (go_at_call 86; (refine (Hid.out H1 _ _ _ (by simp) (by omega) (by omega)).mono ?_; rintro e w2 ⟨rfl, rfl⟩; simp only [uintV]))
      refine bodyPost_ret (v := valV none) (by simp [results, Try.results105, go_sem, valV, zeroV]) rfl ⟨(Below.refl _ _).alloc (Nat.le_refl _) _, by rw [V.out]; rfl⟩
  | some p =>
    obtain ⟨q, size⟩ := p
    obtain ⟨_, _, hsz, hsz0, hsz1⟩ := dec_back hby hd
    rw [hd] at H1
    have hc1 : 1 < cap := by omega
    have hc1' : ¬ cap = 1 := by omega
    by_cases hq : 15 < q
    · have V : Hid (valD (4 :: r) = none) := by refine hid ?_; simp [valD, hd, hq]
      clear h h0
      go_enter Try.func105, Try.ntmps105
      go_wp2_with (go_at_call 86; (refine (Hid.out H1 _ _ _ (by rw [if_neg hc1']) (by omega) (by omega)).mono ?_; rintro e w2 ⟨rfl, rfl⟩; simp only [uintV]))
      refine bodyPost_ret (v := valV none) (by simp [results, Try.results105, go_sem, valV, zeroV]) rfl ⟨(Below.refl _ _).alloc (Nat.le_refl _) _, by rw [V.out]; rfl⟩
    · have H2 : Hid (∀ (a' : Option Addr) (m c' : Nat), a' = (if cap = 1 + size then some ⟨b, off, none⟩ else some ⟨b, off + (1 + size), none⟩) → m = n - (1 + size) → c' = cap - (1 + size) → Calls Try.prog 117 #[.slice a' m c', .func (.func 116) #[] #[]] (w.alloc (.cells #[.int .i64 0, .int .i64 0, .string ⟨#[]⟩, .int .i64 0, .slice none 0 0] 31)) fun e w' => Below (w.heap.size + 1) (w.alloc (.cells #[.int .i64 0, .int .i64 0, .string ⟨#[]⟩, .int .i64 0, .slice none 0 0] 31)) w' ∧ RowP (w.heap.size + 1) (rowD simpD (r.drop size)) e w') := hid (by
        intro a' m c' ea em ec
        have hs := h0.sl (1 + size) (by simp; omega) (a' := a') (m := m) (c' := c') (by rw [ea]; split <;> simp_all [Addr.add]) em ec
        rw [show List.drop (1 + size) (4 :: r) = r.drop size from by rw [Nat.add_comm]; rfl] at hs
        have := rowS_any _ _ (r.drop size) hs (by simp; omega)
        simp only [World.size_alloc] at this
        exact this)
      clear h h0
      have hsn : 1 + size ≤ n := by omega
      have hncap : n ≤ cap := by omega
      have Hn := hid hn
      clear hn hcap
      cases hrd : rowD simpD (r.drop size) with
      | none =>
        have V : Hid (valD (4 :: r) = none) := by refine hid ?_; simp [valD, hd, hq, hrd]
        rw [hrd] at H2
        by_cases hcs : cap = 1 + size
        · subst hcs
          go_enter Try.func105, Try.ntmps105
          go_wp2_with (first
            | (go_at_call 86; (refine (Hid.out H1 _ _ _ (by rw [if_neg hc1']) (by omega) (by omega)).mono ?_; rintro e w2 ⟨rfl, rfl⟩; simp only [uintV]))
            | (go_at_call 117; (refine (Hid.out H2 _ _ _ (by simp) (by omega) (by omega)).mono ?_; rintro e w2 ⟨hb2, hP⟩; obtain rfl := hP; (try simp only [World.size_alloc] at hb2); have hr := res_cells hb2; have g0 := cellOf hr 0; have g1 := cellOf hr 1; have g2 := cellOf hr 2; have g3 := cellOf hr 3; have g4 := cellOf hr 4; have gf := freeOf hr; simp only [List.getElem?_toArray, List.getElem?_cons_zero, List.getElem?_cons_succ] at g0 g1 g2 g3 g4; clear hr)))
          refine bodyPost_ret (v := valV none) (by simp [results, Try.results105, go_sem, valV, zeroV, g0, g1, g2, g3, g4]) rfl ⟨cd_five_below (first_below hb2) (Nat.le_refl _) zeroH, by rw [V.out]; rfl⟩
        · go_enter Try.func105, Try.ntmps105
          go_wp2_with (first
            | (go_at_call 86; (refine (Hid.out H1 _ _ _ (by rw [if_neg hc1']) (by omega) (by omega)).mono ?_; rintro e w2 ⟨rfl, rfl⟩; simp only [uintV]))
            | (go_at_call 117; (refine (Hid.out H2 _ _ _ (by rw [if_neg hcs]) (by omega) (by omega)).mono ?_; rintro e w2 ⟨hb2, hP⟩; obtain rfl := hP; (try simp only [World.size_alloc] at hb2); have hr := res_cells hb2; have g0 := cellOf hr 0; have g1 := cellOf hr 1; have g2 := cellOf hr 2; have g3 := cellOf hr 3; have g4 := cellOf hr 4; have gf := freeOf hr; simp only [List.getElem?_toArray, List.getElem?_cons_zero, List.getElem?_cons_succ] at g0 g1 g2 g3 g4; clear hr)))
          refine bodyPost_ret (v := valV none) (by simp [results, Try.results105, go_sem, valV, zeroV, g0, g1, g2, g3, g4]) rfl ⟨cd_five_below (first_below hb2) (Nat.le_refl _) zeroH, by rw [V.out]; rfl⟩
      | some p =>
        obtain ⟨fs, k⟩ := p
        have V : Hid (valD (4 :: r) = some (⟨4, 0, ⟨#[]⟩, (q : Int), fs⟩, 1 + size + k)) := by refine hid ?_; simp [valD, hd, hq, hrd]
        rw [hrd] at H2
        have hk := rowD_le (hby.drop size) hrd
        rw [List.length_drop] at hk
        have hk2 : k ≤ 1000000000 := by have := Hn.out; omega
        have hcs : ¬ cap = 1 + size := by
          have := Hn.out
          intro e
          rw [List.drop_eq_nil_of_le (by omega)] at hrd
          cases hrd
        go_enter Try.func105, Try.ntmps105
        go_wp2_with (first
          | (go_at_call 86; (refine (Hid.out H1 _ _ _ (by rw [if_neg hc1']) (by omega) (by omega)).mono ?_; rintro e w2 ⟨rfl, rfl⟩; simp only [uintV]))
          | (go_at_call 117; (refine (Hid.out H2 _ _ _ (by rw [if_neg hcs]) (by omega) (by omega)).mono ?_; rintro e w2 ⟨hb2, hP⟩; obtain ⟨v', rfl, hrow⟩ := hP; obtain ⟨a3, c3, rfl, _⟩ := hrow.form; (try simp only [World.size_alloc] at hb2); have hr := res_cells hb2; have g0 := cellOf hr 0; have g1 := cellOf hr 1; have g2 := cellOf hr 2; have g3 := cellOf hr 3; have g4 := cellOf hr 4; have gf := freeOf hr; simp only [List.getElem?_toArray, List.getElem?_cons_zero, List.getElem?_cons_succ] at g0 g1 g2 g3 g4; clear hr)))
        refine bodyPost_ret (v := .tuple #[Hd.v ⟨4, 0, ⟨#[]⟩, (q : Int), a3, fs.length, c3⟩, .int .i64 ((1 + size + k : Nat) : Int), .int .i64 0]) (by simp [results, Try.results105, go_sem, Hd.v, g0, g1, g2, g3, g4]) rfl ⟨cd_five_below (first_below hb2) (Nat.le_refl _) ⟨4, 0, ⟨#[]⟩, (q : Int), a3, fs.length, c3⟩, ?_⟩
        rw [V.out]
        refine ⟨_, rfl, ⟨rfl, rfl, rfl, rfl, rfl, ?_⟩, fun b' e' => by have := (hrow.own b' e').1; omega⟩
        exact VRow.rd (hrow.same fun g' e' => cd_five_heap _ _ ⟨4, 0, ⟨#[]⟩, (q : Int), a3, fs.length, c3⟩ (by have := (hrow.own g' e').1; omega))

theorem value_any (w : World) (v : Value) (bs : List Nat) (h : Rd w v bs) (hl : bs.length ≤ 1000000000) :
    Calls Try.prog 105 #[v] w fun e w' => Below w.heap.size w w' ∧ ValP w.heap.size (valD bs) e w' := by
  cases bs with
  | nil => obtain ⟨a, cap, rfl⟩ := h.len; exact value_nil w a cap
  | cons c r =>
    have h' := h
    obtain ⟨a, cap, rfl, h1, h2, h3⟩ := h
    obtain ⟨b, off, rfl, hc⟩ := h3 0 c rfl
    rw [Nat.add_zero] at hc
    by_cases h4 : c = 4
    · subst h4; exact value_rec w b off _ cap r h' hl hc
    · exact value_flat w b off _ cap c r h' hl hc h4 (h2 c (by simp))
theorem valD_le {bs : List Nat} (hb : Byt bs) {x : Vl} {k : Nat} (e : valD bs = some (x, k)) : k ≤ bs.length := by
  cases bs with
  | nil => cases e
  | cons c r =>
    have hr : Byt r := fun x hx => hb x (by simp [hx])
    simp only [valD] at e
    split at e
    · split at e
      · cases e
      · rename_i q size hd
        split at e
        · cases e
        · split at e
          · cases e
          · rename_i fs k' hrd
            cases e
            have h1 := (dec_back hr hd).2.2.1
            have h2 := rowD_le (hr.drop size) hrd
            rw [List.length_drop] at h2
            simp; omega
    · split at e
      · cases e
      · rename_i h k' hs
        cases e
        exact simpD_le hb hs
theorem VRd.cdkeep {w w' : World} {a : Option Addr} {hs : List Hd} (h : VRd w a hs) (k : ∀ b, b < w.heap.size → (∃ off, a = some ⟨b, off, none⟩) → w'.heap[b]? = w.heap[b]?) : VRd w' a hs := by
  intro j x hx
  obtain ⟨b, off, rfl, hc⟩ := h j x hx
  refine ⟨b, off, rfl, fun i hi => ?_⟩
  have h0 := hc 0 (by omega)
  have hb : b < w.heap.size := World.block_lt_of_cell? w _ (h0.trans (show x.cs[0]? = some (.int .i64 x.kind) from rfl))
  rw [World.cell?_of_block (w := w) (k b hb ⟨off, rfl⟩)]
  exact hc i hi
theorem Rep.keep {w w' : World} {x : Vl} {h : Hd} (r : Rep w x h) (k : x.fs ≠ [] → ∀ b, b < w.heap.size → (Value.slice h.a h.n h.cap).ownBlock = some b → w'.heap[b]? = w.heap[b]?) : Rep w' x h := by
  refine ⟨r.kind, r.int, r.text, r.rc, r.n, ?_⟩
  by_cases hf : x.fs = []
  · rw [hf]; intro j y hy; simp at hy
  · exact r.fs.cdkeep fun b hb ⟨off, e⟩ => k hf b hb (by rw [e]; rfl)
theorem Rep.below {w w' : World} {x : Vl} {h : Hd} {B : Nat} (r : Rep w x h) (hB : w.heap.size ≤ B) (k : Below B w w') : Rep w' x h := r.keep fun _ b hb _ => k.block b (by omega)
theorem cd_five_size (w : World) (b : Nat) (h : Hd) : (cd_five w b h).heap.size = w.heap.size := by simp [cd_five, World.setCell]
def flatH (h : Hd) : Hd := ⟨h.kind, h.int, h.text, 0, none, 0, 0⟩

theorem textD_more64 (s : ByteArray) (m : List Nat) (hs : s.size ≤ 64) : textD 64 (cd_encT s ++ m) = .ok ((sb s), (cd_encT s).length) := by
  unfold textD cd_encT
  rw [List.append_assoc, dec_enc _ _ (by omega)]
  simp only
  rw [if_neg (by omega), if_neg (by simp [sb_length])]
  congr 2
  · rw [List.drop_left, List.take_left' (sb_length s)]
  · simp [sb_length]
theorem simpD_encS {h : Hd} (hs : simpleB h = true) (hin : h.In) (more : List Nat) : simpD (encS h ++ more) = some (flatH h, (encS h).length) := by
  obtain ⟨_, _, (⟨hk, ht⟩ | ⟨hk, hi, ht⟩ | ⟨hk, ht, hi⟩)⟩ := simpleB_cases hs
  · unfold encS; rw [if_pos hk]
    simp only [List.cons_append, simpD, if_true]
    rw [dec_enc _ _ (zz_lt _ hin.i0 hin.i1)]
    simp only [unzz_zz, List.length_cons]
    rw [Nat.add_comm]
    congr 2
    obtain ⟨kind, int, text, rc, a, n, cap⟩ := h
    simp only at hk ht
    subst hk ht
    rfl
  · unfold encS; rw [if_neg (by omega), if_pos hk]
    simp only [List.cons_append, simpD]
    rw [if_neg (by decide), if_pos trivial, textD_more64 h.text more (by omega)]
    simp only [List.length_cons, ofB_sb]
    rw [Nat.add_comm]
    congr 2
    obtain ⟨kind, int, text, rc, a, n, cap⟩ := h
    simp only at hk hi
    subst hk hi
    rfl
  · unfold encS; rw [if_neg (by omega), if_neg (by omega)]
    simp only [List.cons_append, List.nil_append, simpD]
    rw [if_neg (by decide), if_neg (by decide), if_pos trivial, if_pos (by omega)]
    congr 2
    obtain ⟨kind, int, text, rc, a, n, cap⟩ := h
    simp only at hk ht hi
    subst hk ht
    rcases hi with rfl | rfl <;> rfl

theorem goD_encR : ∀ (fs : List Hd) (pre more : List Nat) (acc : List Hd), fs.all simpleB = true → (∀ f ∈ fs, f.In) →
    goD simpD (pre ++ (encR fs ++ more)) fs.length pre.length acc = some (acc ++ fs.map flatH, pre.length + (encR fs).length)
  | [], pre, more, acc, _, _ => by simp [goD, encR]
  | f :: r, pre, more, acc, hs, hin => by
    simp only [List.all_cons, Bool.and_eq_true] at hs
    simp only [List.length_cons, goD]
    rw [List.drop_left]
    have e : encR (f :: r) = encS f ++ encR r := rfl
    rw [e, List.append_assoc, simpD_encS hs.1 (hin f (by simp))]
    simp only
    have ih := goD_encR r (pre ++ encS f) more (acc ++ [flatH f]) hs.2 (fun g hg => hin g (by simp [hg]))
    rw [List.length_append, List.append_assoc] at ih
    rw [ih]
    simp
    omega
theorem rowD_encR {fs : List Hd} (hs : fs.all simpleB = true) (hin : ∀ f ∈ fs, f.In) (hn : fs.length ≤ 12) (more : List Nat) :
    rowD simpD (enc fs.length ++ (encR fs ++ more)) = some (fs.map flatH, (enc fs.length ++ encR fs).length) := by
  unfold rowD
  rw [dec_enc _ _ (by omega)]
  simp only
  rw [if_neg (by omega), goD_encR fs (enc fs.length) more [] hs hin]
  simp

def vlOf (h : Hd) (fs : List Hd) : Vl := ⟨h.kind, h.int, h.text, h.rc, if h.kind = 4 then fs.map flatH else []⟩
theorem valD_encV {h : Hd} {fs : List Hd} (hin : h.In) (hn : h.n = fs.length) (hfs : ∀ f ∈ fs, f.In) (hp : plainB h fs = true) (more : List Nat) : valD (encV h fs ++ more) = some (vlOf h fs, (encV h fs).length) := by
  by_cases hk : h.kind = 4
  · rw [plainB_rec hk] at hp
    simp only [Bool.and_eq_true, decide_eq_true_eq] at hp
    obtain ⟨⟨⟨⟨⟨h1, h2⟩, h3⟩, h4⟩, h5⟩, h6⟩ := hp
    unfold encV
    rw [if_pos hk]
    simp only [List.cons_append, valD, if_true, List.append_assoc]
    rw [dec_enc _ _ (by omega)]
    simp only
    rw [if_neg (by omega), List.drop_left, hn, rowD_encR h6 hfs (by omega)]
    simp only
    congr 2
    · unfold vlOf
      rw [if_pos hk]
      obtain ⟨kind, int, text, rc, a, n, cap⟩ := h
      simp only at hk h1 h2 h3 ⊢
      subst hk h1 h2
      congr 1
      omega
    · simp; omega
  · have hs : simpleB h = true := by unfold plainB at hp; rw [if_neg hk] at hp; exact hp
    unfold encV
    rw [if_neg hk]
    obtain ⟨c, r, e, hc⟩ : ∃ c r, encS h = c :: r ∧ c ≠ 4 := by
      obtain ⟨_, _, (⟨hk, _⟩ | ⟨hk, _, ht⟩ | ⟨hk, _, hi⟩)⟩ := simpleB_cases hs
      · unfold encS; rw [if_pos hk]; exact ⟨_, _, rfl, by decide⟩
      · unfold encS; rw [if_neg (by omega), if_pos hk]; exact ⟨_, _, rfl, by decide⟩
      · unfold encS; rw [if_neg (by omega), if_neg (by omega)]; exact ⟨_, _, rfl, by decide⟩
    have hd := simpD_encS hs hin more
    rw [e] at hd ⊢
    simp only [List.cons_append] at hd ⊢
    simp only [valD]
    rw [if_neg hc, hd]
    simp only
    congr 2
    unfold vlOf vl flatH
    rw [if_neg hk]
    have := (simpleB_cases hs).1
    simp [this]
theorem textD_back {bs : List Nat} (hb : Byt bs) {s : List Nat} {k : Nat} (h : textD 64 bs = .ok (s, k)) : bs.take k = cd_encT (ofB s) ∧ s.length ≤ 64 ∧ Byt s ∧ k ≤ bs.length := by
  have hle := textD_le hb h
  unfold textD at h
  split at h
  · cases h
  · rename_i n q hd
    split at h
    · cases h
    · split at h
      · cases h
      · rename_i h1 h2
        cases h
        obtain ⟨e1, _, e3, _, _⟩ := dec_back hb hd
        have hl : ((bs.drop q).take n).length = n := by simp; omega
        refine ⟨?_, hle.2.1, hle.2.2, hle.1⟩
        unfold cd_encT
        rw [ofB_size, hl, sb_ofB hle.2.2, ← e1]
        exact List.take_add
theorem simpD_back {bs : List Nat} (hb : Byt bs) {h : Hd} {k : Nat} (e : simpD bs = some (h, k)) : bs.take k = encS h ∧ simpleB h = true ∧ h.In := by
  cases bs with
  | nil => cases e
  | cons c r =>
    have hr : Byt r := fun x hx => hb x (by simp [hx])
    simp only [simpD] at e
    split at e
    · rename_i hc
      split at e
      · cases e
      · rename_i n q hd
        cases e
        obtain ⟨e1, e2, _⟩ := dec_back hr hd
        have hu := unzz_in n e2
        refine ⟨?_, rfl, ⟨hu.1, hu.2, by simp [mkI], by simp [mkI], by simp [mkI], by simp [mkI], Nat.zero_le _, by simp [mkI]⟩⟩
        rw [Nat.add_comm, List.take_succ_cons, e1, hc]
        simp [encS, mkI, zz_unzz]
    · split at e
      · rename_i _ hc
        split at e
        · cases e
        · rename_i s q hd
          cases e
          obtain ⟨e1, e2, e3, e4⟩ := textD_back hr hd
          have hsz : (mkT (ofB s)).text.size ≤ 64 := by simp only [mkT]; rw [ofB_size]; exact e2
          refine ⟨?_, ?_, ⟨by simp [mkT], by simp [mkT], by simp [mkT], by simp [mkT], by simp [mkT], by simp [mkT], by omega, by simp [mkT]⟩⟩
          · rw [Nat.add_comm, List.take_succ_cons, e1, hc]
            simp [encS, mkT]
          · simp only [mkT] at hsz
            simp [simpleB, mkT, hsz]
      · split at e
        · rename_i _ _ hc
          split at e
          · cases e
          · rename_i x r'
            split at e
            · rename_i hx
              cases e
              refine ⟨?_, ?_, ⟨by simp [mkB], by simp [mkB]; omega, by simp [mkB], by simp [mkB], by simp [mkB], by simp [mkB], Nat.zero_le _, by simp [mkB]⟩⟩
              · simp [encS, mkB, hc]
              · have : x = 0 ∨ x = 1 := by omega
                rcases this with rfl | rfl <;> rfl
            · cases e
        · cases e

theorem goD_back {bs : List Nat} (hb : Byt bs) : ∀ (c i : Nat) (acc xs : List Hd) (k : Nat), i ≤ bs.length → goD simpD bs c i acc = some (xs, k) →
    ∃ ys, xs = acc ++ ys ∧ ys.length = c ∧ (bs.drop i).take (k - i) = encR ys ∧ ys.all simpleB = true ∧ (∀ f ∈ ys, f.In) ∧ i ≤ k ∧ k ≤ bs.length
  | 0, i, acc, xs, k, hi, e => by
    simp only [goD] at e
    cases e
    exact ⟨[], by simp, rfl, by simp [encR], rfl, fun f hf => (by cases hf), Nat.le_refl _, hi⟩
  | c + 1, i, acc, xs, k, hi, e => by
    simp only [goD] at e
    split at e
    · cases e
    · rename_i x q hd
      have hq := simpD_le (hb.drop i) hd
      rw [List.length_drop] at hq
      obtain ⟨b1, b2, b3⟩ := simpD_back (hb.drop i) hd
      obtain ⟨ys, e1, e2, e3, e4, e5, e6, e7⟩ := goD_back hb c (i + q) _ xs k (by omega) e
      refine ⟨x :: ys, by rw [e1]; simp, by simp [e2], ?_, by simp [b2, e4], ?_, by omega, e7⟩
      · have : encR (x :: ys) = encS x ++ encR ys := rfl
        rw [this, ← b1, ← e3, ← List.drop_drop, show k - i = q + (k - (i + q)) from by omega]
        exact List.take_add
      · intro f hf
        rcases List.mem_cons.1 hf with rfl | hf
        · exact b3
        · exact e5 f hf
theorem rowD_back {bs : List Nat} (hb : Byt bs) {fs : List Hd} {k : Nat} (e : rowD simpD bs = some (fs, k)) : bs.take k = enc fs.length ++ encR fs ∧ fs.length ≤ 12 ∧ fs.all simpleB = true ∧ (∀ f ∈ fs, f.In) ∧ k ≤ bs.length := by
  unfold rowD at e
  split at e
  · cases e
  · rename_i c i hd
    split at e
    · cases e
    · rename_i hc
      obtain ⟨d1, _, d3, _, _⟩ := dec_back hb hd
      obtain ⟨ys, e1, e2, e3, e4, e5, e6, e7⟩ := goD_back hb c i [] fs k d3 e
      simp only [List.nil_append] at e1
      subst e1
      refine ⟨?_, by omega, e4, e5, e7⟩
      rw [e2, ← d1, ← e3]
      have : k = i + (k - i) := by omega
      conv => lhs; rw [this]
      exact List.take_add

theorem valD_back {bs : List Nat} (hb : Byt bs) {x : Vl} {k : Nat} (e : valD bs = some (x, k)) : bs.take k = encV (hdOf x) x.fs ∧ plainB (hdOf x) x.fs = true ∧ (hdOf x).In ∧ (∀ f ∈ x.fs, f.In) := by
  cases bs with
  | nil => cases e
  | cons c r =>
    have hr : Byt r := fun x hx => hb x (by simp [hx])
    simp only [valD] at e
    split at e
    · rename_i hc
      split at e
      · cases e
      · rename_i q size hd
        split at e
        · cases e
        · rename_i hq
          split at e
          · cases e
          · rename_i fs k' hrd
            cases e
            obtain ⟨d1, _, d3, _, _⟩ := dec_back hr hd
            obtain ⟨r1, r2, r3, r4, r5⟩ := rowD_back (hr.drop size) hrd
            refine ⟨?_, ?_, ⟨by simp [hdOf], by simp [hdOf], by simp [hdOf], by simp [hdOf], by simp only [hdOf]; omega, by simp only [hdOf]; omega, Nat.zero_le _, by simp only [hdOf]; omega⟩, r4⟩
            · simp only [encV, hdOf, if_true, Int.toNat_natCast]
              rw [show 1 + size + k' = (size + k') + 1 from by omega, List.take_succ_cons, hc, ← r1, ← d1, List.take_add]
            · rw [plainB_rec rfl, Bool.and_eq_true, Bool.and_eq_true, Bool.and_eq_true, Bool.and_eq_true, Bool.and_eq_true]
              exact ⟨⟨⟨⟨⟨decide_eq_true rfl, decide_eq_true rfl⟩, decide_eq_true (by simp only [hdOf]; omega)⟩, decide_eq_true (by simp only [hdOf]; omega)⟩, decide_eq_true r2⟩, r3⟩
    · rename_i hc
      split at e
      · cases e
      · rename_i h k' hs
        cases e
        obtain ⟨b1, b2, b3⟩ := simpD_back hb hs
        have hk : ¬ h.kind = 4 := by
          obtain ⟨_, _, h3⟩ := simpleB_cases b2
          omega
        obtain ⟨c1, c2, c3⟩ := simpleB_cases b2
        refine ⟨?_, ?_, ⟨b3.i0, b3.i1, b3.k0, b3.k1, b3.r0, b3.r1, b3.t, by simp [hdOf, vl]⟩, fun f hf => (by cases hf)⟩
        · unfold encV
          rw [if_neg (by simpa [hdOf, vl] using hk), b1]
          rfl
        · unfold plainB
          rw [if_neg (by simpa [hdOf, vl] using hk)]
          have := b2
          simp only [simpleB, hdOf, vl, List.length_nil] at this ⊢
          rw [c2] at this
          exact this
end Go.Proofs.Ytenfgahedbeekaa

