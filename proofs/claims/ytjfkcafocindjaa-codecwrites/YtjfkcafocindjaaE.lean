/- Uint. -/
import Derived.Test.YtjfkcafocindjaaD
import Derived.WalkMore
namespace Go.Proofs.Ytjfkcafocindjaa
open Go.RowKit Go.Deep
set_option linter.unusedVariables false
set_option linter.unusedSimpArgs false

def uintV : Option (Nat × Nat) → Value
  | none => .tuple #[.int .u64 0, .int .i64 0, .int .i64 20]
  | some (n, k) => .tuple #[.int .u64 (n : Int), .int .i64 (k : Int), .int .i64 0]

theorem pow7 (i : Nat) : 2 ^ (7 * (i + 1)) = 128 * 2 ^ (7 * i) := by rw [Nat.mul_add, Nat.pow_add]; omega
theorem pow9 {i : Nat} (h : i ≤ 8) : 128 * 2 ^ (7 * i) ≤ 9223372036854775808 := by
  have : 2 ^ (7 * i) ≤ 2 ^ 56 := Nat.pow_le_pow_right (by decide) (by omega)
  omega
theorem fits7 {c i : Nat} (hc : c < 128) (hi : i ≤ 9) (h9 : i = 9 → c ≤ 1) : c * 2 ^ (7 * i) < 18446744073709551616 := by
  rcases Nat.lt_or_ge i 9 with h | h
  · have h1 := pow9 (i := i) (by omega)
    have : c * 2 ^ (7 * i) ≤ 128 * 2 ^ (7 * i) := Nat.mul_le_mul_right _ (by omega)
    omega
  · have : i = 9 := by omega
    subst this
    have := h9 rfl
    omega
theorem or_join {m c i : Nat} (hm : m < 2 ^ (7 * i)) (hc : c * 2 ^ (7 * i) < 18446744073709551616) (h9 : i ≤ 9) : bits .or .u64 (m : Int) ((c * 2 ^ (7 * i) : Nat) : Int) = ((m + c * 2 ^ (7 * i) : Nat) : Int) := by
  have hp : 2 ^ (7 * i) ≤ 2 ^ 63 := Nat.pow_le_pow_right (by decide) (by omega)
  rw [bits_or_u64_nat m (c * 2 ^ (7 * i)) (by omega) hc]
  have := Nat.two_pow_add_eq_or_of_lt hm c
  rw [Nat.mul_comm c, Nat.or_comm, ← this, Nat.add_comm]
theorem or_shl {m c i : Nat} (hm : m < 2 ^ (7 * i)) (hc : c * 2 ^ (7 * i) < 18446744073709551616) (h9 : i ≤ 9) : bits .or .u64 (m : Int) (IntKind.u64.wrap ((c : Int) * 2 ^ (7 * i))) = ((m + c * 2 ^ (7 * i) : Nat) : Int) := by
  rw [← or_join hm hc h9, IntKind.wrap_u64]
  rw [show (c : Int) * 2 ^ (7 * i) = ((c * 2 ^ (7 * i) : Nat) : Int) from by simp]
  congr 1
  omega
theorem and127_all : ∀ a : Fin 128, bits .and .u8 (128 + (a.val : Int)) 127 = (a.val : Int) := by decide +kernel
theorem and127 (d : Nat) (h : d < 128) : bits .and .u8 (128 + (d : Int)) 127 = (d : Int) := and127_all ⟨d, h⟩

theorem Rd.len {w v bs} (h : Rd w v bs) : ∃ a cap, v = .slice a bs.length cap := by obtain ⟨a, cap, e, _⟩ := h; exact ⟨a, cap, e⟩

set_option maxRecDepth 10000 in
set_option maxHeartbeats 1000000 in
theorem uint_any (w : World) (v : Value) (bs : List Nat) (h : Rd w v bs) (hl : bs.length ≤ 1000000000000) :
    Calls Try.prog 17 #[v] w fun e w' => e = .returned (uintV (dec bs)) ∧ w' = w := by
  obtain ⟨a, cap, rfl, h1, h2, h3⟩ := h
  go_enter Try.func17, Try.ntmps17
  go_wp2; go_step3; go_wp2; go_step3; go_wp2
  go_loopw [5, 10] (fun nn ii wr => ∃ (m i : Nat), nn = .int .u64 (m : Int) ∧ ii = .int .i64 (i : Int) ∧ i ≤ 9 ∧ m < 2 ^ (7 * i) ∧ i ≤ bs.length ∧ dec bs = decAt m i (bs.drop i) ∧ wr = w) (fun _ ii _ => 10 - (intOf ii).toNat)
  case atStart => exact ⟨0, 0, rfl, rfl, by omega, by simp, by omega, rfl, rfl⟩
  case round =>
    obtain ⟨m, i, rfl, rfl, hi, hm, hil, he, rfl⟩ := hrel
    rcases Nat.lt_or_ge i bs.length with hlt | hge
    · obtain ⟨c, hc⟩ : ∃ c, bs[i]? = some c := ⟨bs[i], by simp [hlt]⟩
      obtain ⟨b, off, rfl, hcell⟩ := h3 i c hc
      have hcb := h2.at hc
      have hd : bs.drop i = c :: bs.drop (i + 1) := by rw [List.drop_eq_getElem_cons hlt]; congr 1; simpa [hlt] using hc
      rw [hd] at he
      simp only [decAt] at he
      clear hd hc h1 h2 h3
      by_cases hA : 0 < i ∧ c = 0 ∨ i = 9 ∧ 1 < c
      · rw [if_pos hA] at he
        have He := hid he
        clear he
        rcases hA with ⟨hi0, rfl⟩ | ⟨rfl, hc1⟩
        · go_wp2
          (try rw [Exit.noGoto_ret]); go_ret3
          exact ⟨by rw [He.out]; rfl, rfl⟩
        · have hc0 : (0 : Nat) < c := by omega
          go_wp2
          (try rw [Exit.noGoto_ret]); go_ret3
          exact ⟨by rw [He.out]; rfl, rfl⟩
      · rw [if_neg hA] at he
        have hA1 : ¬ (0 < i ∧ c = 0) := fun x => hA (.inl x)
        have hA2 : ¬ (i = 9 ∧ 1 < c) := fun x => hA (.inr x)
        clear hA
        by_cases hC : c < 128
        · rw [if_pos hC] at he
          have hf := fits7 hC hi (fun e => by omega)
          have E : Hid (Ending.returned (.tuple #[.int .u64 (bits .or .u64 (m : Int) (IntKind.u64.wrap ((c : Int) * 2 ^ (7 * i)))), .int .i64 ((i : Int) + 1), .int .i64 0]) = Ending.returned (uintV (dec bs))) := by
            rw [he, or_shl hm hf hi]; rfl
          clear he hf
          rcases Nat.lt_or_ge i 1 with hi0 | hi0
          · go_wp2
            (try rw [Exit.noGoto_ret]); go_ret3
            exact ⟨E.out, rfl⟩
          · have hc0 : 0 < c := by omega
            rcases Nat.lt_or_ge i 9 with h9 | h9
            · go_wp2
              (try rw [Exit.noGoto_ret]); go_ret3
              exact ⟨E.out, rfl⟩
            · obtain rfl : i = 9 := by omega
              obtain rfl : c = 1 := by omega
              have E9 : Hid (Ending.returned (.tuple #[.int .u64 (bits .or .u64 (m : Int) 9223372036854775808), .int .i64 10, .int .i64 0]) = Ending.returned (uintV (dec bs))) := E
              clear E
              go_wp2
              (try rw [Exit.noGoto_ret]); go_ret3
              exact ⟨E9.out, rfl⟩
        · rw [if_neg hC] at he
          have h9 : i < 9 := by omega
          obtain ⟨d, rfl⟩ : ∃ d, c = 128 + d := ⟨c - 128, by omega⟩
          have hdl : d < 128 := by omega
          rw [show 128 + d - 128 = d from by omega] at he
          have hf := fits7 hdl hi (fun e => by omega)
          have e3 := and127 d hdl
          have hm2 : m + d * 2 ^ (7 * i) < 2 ^ (7 * (i + 1)) := by
            rw [pow7]
            have : d * 2 ^ (7 * i) ≤ 127 * 2 ^ (7 * i) := Nat.mul_le_mul_right _ (by omega)
            omega
          have E := hid (or_shl hm hf hi)
          have He := hid he
          have Hm2 := hid hm2
          clear he hm2 hf hm hA1 hA2
          rcases Nat.lt_or_ge i 1 with hi0 | hi0
          · go_wp2
            go_roundw
            case rel => exact ⟨_, i + 1, congrArg (Value.int .u64) E.out, by go_num, by omega, Hm2.out, by omega, He.out, trivial⟩
            case measure => simp [intOf]; omega
          · go_wp2
            go_roundw
            case rel => exact ⟨_, i + 1, congrArg (Value.int .u64) E.out, by go_num, by omega, Hm2.out, by omega, He.out, trivial⟩
            case measure => simp [intOf]; omega
    · have : i = bs.length := by omega
      subst this
      rw [List.drop_length] at he
      have He := hid he
      clear he h1 h2 h3
      go_wp2
      (try rw [Exit.noGoto_ret]); go_ret3
      exact ⟨by rw [He.out]; rfl, rfl⟩
end Go.Proofs.Ytjfkcafocindjaa
