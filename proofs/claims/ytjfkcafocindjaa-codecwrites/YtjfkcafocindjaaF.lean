/- The document's Uint. -/
import Derived.Test.YtjfkcafocindjaaE
namespace Go.Proofs.Ytjfkcafocindjaa
open Go.RowKit Go.Deep
set_option linter.unusedVariables false
set_option linter.unusedSimpArgs false

theorem or_shl9 {m d : Nat} (hm : m < 2 ^ 63) (hd : d ≤ 1) : bits .or .u64 (m : Int) ((d : Int) * 9223372036854775808) = ((m + d * 2 ^ 63 : Nat) : Int) := by
  have h := or_join (m := m) (c := d) (i := 9) hm (by omega) (by omega)
  rw [show ((d * 2 ^ (7 * 9) : Nat) : Int) = (d : Int) * 9223372036854775808 from by simp] at h
  rw [h]

set_option maxRecDepth 10000 in
set_option maxHeartbeats 1000000 in
theorem refUint_any (w : World) (v : Value) (bs : List Nat) (h : Rd w v bs) (hl : bs.length ≤ 1000000000000) :
    Calls Try.prog 20 #[v] w fun e w' => e = .returned (uintV (dec bs)) ∧ w' = w := by
  obtain ⟨a, cap, rfl, h1, h2, h3⟩ := h
  go_enter Try.func20, Try.ntmps20
  go_wp2
  go_loopw [5, 6] (fun nn ii wr => ∃ (m i : Nat), nn = .int .u64 (m : Int) ∧ ii = .int .i64 (i : Int) ∧ i ≤ 10 ∧ (i ≤ 9 → m < 2 ^ (7 * i)) ∧ m < 18446744073709551616 ∧ i ≤ bs.length ∧ dec bs = (if i = 10 then none else decAt m i (bs.drop i)) ∧ wr = w) (fun _ ii _ => 11 - (intOf ii).toNat)
  case atStart => exact ⟨0, 0, rfl, rfl, by omega, by simp, by omega, by omega, rfl, rfl⟩
  case round =>
    obtain ⟨m, i, rfl, rfl, hi, hm, hmm, hil, he, rfl⟩ := hrel
    rcases Nat.lt_or_ge i bs.length with hlt | hge
    · obtain ⟨c, hc⟩ : ∃ c, bs[i]? = some c := ⟨bs[i], by simp [hlt]⟩
      obtain ⟨b, off, rfl, hcell⟩ := h3 i c hc
      have hcb := h2.at hc
      have hd : bs.drop i = c :: bs.drop (i + 1) := by rw [List.drop_eq_getElem_cons hlt]; congr 1; simpa [hlt] using hc
      rw [hd] at he
      simp only [decAt] at he
      clear hd hc h1 h2 h3
      rcases Nat.lt_or_ge i 10 with h10 | h10
      · rw [if_neg (by omega)] at he
        by_cases hz : 0 < i ∧ c = 0
        · rw [if_pos (.inl hz)] at he
          have He := hid he
          obtain ⟨hi0, rfl⟩ := hz
          clear he hm
          rcases Nat.lt_or_ge i 9 with h9 | h9
          · go_wp2
            go_ret3
            exact ⟨by rw [He.out]; rfl, rfl⟩
          · obtain rfl : i = 9 := by omega
            go_wp2
            go_ret3
            exact ⟨by rw [He.out]; rfl, rfl⟩
        · rcases Nat.lt_or_ge i 9 with h9 | h9
          · rw [if_neg (by omega)] at he
            have hm' := hm (by omega)
            clear hm
            have q10 : ((i : Int) == 10) = false := by simp; omega
            have q9 : ((i : Int) == 9) = false := by simp; omega
            by_cases hC : c < 128
            · rw [if_pos hC] at he
              have hf := fits7 (i := i) hC (by omega) (fun e => by omega)
              have hcm : (c : Int) % 128 = c := by omega
              have E : Hid (Ending.returned (.tuple #[.int .u64 (bits .or .u64 (m : Int) (IntKind.u64.wrap ((c : Int) * 2 ^ (7 * i)))), .int .i64 ((i : Int) + 1), .int .i64 0]) = Ending.returned (uintV (dec bs))) := by
                rw [he, or_shl hm' hf (by omega)]; rfl
              clear he hf hm'
              rcases Nat.lt_or_ge i 1 with hi0 | hi0
              · clear hz
                go_wp2
                go_ret3
                exact ⟨E.out, rfl⟩
              · have hc0 : 0 < c := by omega
                have qc : ((c : Int) == 0) = false := by simp; omega
                clear hz
                go_wp2
                go_ret3
                exact ⟨E.out, rfl⟩
            · rw [if_neg hC] at he
              obtain ⟨d, rfl⟩ : ∃ d, c = 128 + d := ⟨c - 128, by omega⟩
              have hdl : d < 128 := by omega
              rw [show 128 + d - 128 = d from by omega] at he
              have hf := fits7 (i := i) hdl (by omega) (fun e => by omega)
              have hcm : (128 + (d : Int)) % 128 = d := by omega
              have hm2 : m + d * 2 ^ (7 * i) < 2 ^ (7 * (i + 1)) := by
                rw [pow7]
                have : d * 2 ^ (7 * i) ≤ 127 * 2 ^ (7 * i) := Nat.mul_le_mul_right _ (by omega)
                omega
              have hp : 2 ^ (7 * (i + 1)) ≤ 2 ^ 63 := Nat.pow_le_pow_right (by decide) (by omega)
              have hm3 : m + d * 2 ^ (7 * i) < 18446744073709551616 := by omega
              have E := hid (or_shl hm' hf (by omega))
              have He : Hid (dec bs = (if i + 1 = 10 then none else decAt (m + d * 2 ^ (7 * i)) (i + 1) (bs.drop (i + 1)))) := by rw [if_neg (by omega)]; exact he
              have Hm2 := hid hm2
              have Hm3 := hid hm3
              clear he hm2 hf hm' hz hm3 hp
              rcases Nat.lt_or_ge i 1 with hi0 | hi0
              · go_wp2
                go_roundw
                case rel => exact ⟨_, i + 1, congrArg (Value.int .u64) E.out, by go_num, by omega, fun _ => Hm2.out, Hm3.out, by omega, He.out, trivial⟩
                case measure => simp [intOf]; omega
              · have qc : ((128 + (d : Int)) == 0) = false := by simp; omega
                go_wp2
                go_roundw
                case rel => exact ⟨_, i + 1, congrArg (Value.int .u64) E.out, by go_num, by omega, fun _ => Hm2.out, Hm3.out, by omega, He.out, trivial⟩
                case measure => simp [intOf]; omega
          · obtain rfl : i = 9 := by omega
            have hm' : m < 2 ^ 63 := hm (by omega)
            have hc0 : 0 < c := by omega
            clear hm hz
            by_cases hC : c < 128
            · by_cases hC1 : 1 < c
              · rw [if_pos (by omega)] at he
                have He := hid he
                clear he
                have hcm : (c : Int) % 128 = c := by omega
                go_wp2
                go_ret3
                exact ⟨by rw [He.out]; rfl, rfl⟩
              · rw [if_neg (by omega), if_pos hC] at he
                obtain rfl : c = 1 := by omega
                have e9 := or_shl9 hm' (d := 1) (by omega)
                have E : Hid (Ending.returned (.tuple #[.int .u64 (bits .or .u64 (m : Int) 9223372036854775808), .int .i64 10, .int .i64 0]) = Ending.returned (uintV (dec bs))) := by
                  rw [show (9223372036854775808 : Int) = ((1 : Nat) : Int) * 9223372036854775808 from rfl, e9, he]; rfl
                clear he e9
                go_wp2
                go_ret3
                exact ⟨E.out, rfl⟩
            · obtain ⟨d, rfl⟩ : ∃ d, c = 128 + d := ⟨c - 128, by omega⟩
              rw [if_pos (by omega)] at he
              have He := hid he
              have hcm : (128 + (d : Int)) % 128 = d := by omega
              clear he
              by_cases hd1 : 1 < d
              · go_wp2
                go_ret3
                exact ⟨by rw [He.out]; rfl, rfl⟩
              · have E := hid (or_shl9 hm' (d := d) (by omega))
                have qc : ((128 + (d : Int)) == 0) = false := by simp; omega
                have hd2 : d ≤ 1 := by omega
                have hm3 := hid (show m + d * 2 ^ 63 < 18446744073709551616 from by omega)
                go_wp2
                go_roundw
                case rel => exact ⟨_, 10, congrArg (Value.int .u64) E.out, by go_num, by omega, fun x => by omega, hm3.out, by omega, He.out, trivial⟩
                case measure => simp [intOf]
      · obtain rfl : i = 10 := by omega
        rw [if_pos rfl] at he
        have He := hid he
        clear he
        go_wp2
        go_ret3
        exact ⟨by rw [He.out]; rfl, rfl⟩
    · have : i = bs.length := by omega
      have he' : dec bs = none := by
        rw [he, this, List.drop_length]; simp [decAt]
      have He := hid he'
      clear he he' h1 h2 h3
      subst this
      go_wp2
      go_ret3
      exact ⟨by rw [He.out]; rfl, rfl⟩
end Go.Proofs.Ytjfkcafocindjaa
