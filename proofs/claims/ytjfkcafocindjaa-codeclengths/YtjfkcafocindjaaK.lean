/- CodecLengths: the walk. -/
import Derived.Test.YtjfkcafocindjaaJ
import Derived.Deep.LoopGhost
namespace Go.Proofs.Ytjfkcafocindjaa
open Go.RowKit Go.Deep
set_option linter.unusedVariables false
set_option linter.unusedSimpArgs false

def blF : Nat → Nat → Nat
  | 0, _ => 0
  | f + 1, n => if n = 0 then 0 else blF f (n / 2) + 1
def bl (n : Nat) : Nat := blF n n
theorem blF_eq : ∀ (f g n : Nat), n ≤ f → n ≤ g → blF f n = blF g n
  | 0, 0, n, _, _ => rfl
  | 0, g + 1, n, h, _ => by simp only [blF]; rw [if_pos (by omega)]
  | f + 1, 0, n, _, h => by simp only [blF]; rw [if_pos (by omega)]
  | f + 1, g + 1, n, h1, h2 => by
    simp only [blF]
    split
    · rfl
    · rw [blF_eq f g (n / 2) (by omega) (by omega)]
theorem bl_zero : bl 0 = 0 := rfl
theorem bl_pos {n : Nat} (h : n ≠ 0) : bl n = bl (n / 2) + 1 := by
  unfold bl
  cases n with
  | zero => exact absurd rfl h
  | succ m =>
    simp only [blF]
    rw [if_neg h, blF_eq m ((m + 1) / 2) ((m + 1) / 2) (by omega) (Nat.le_refl _)]
theorem bl_le : ∀ (k n : Nat), n < 2 ^ k → bl n ≤ k
  | 0, n, h => by have : n = 0 := by simp at h; omega
                  subst this; rw [bl_zero]; omega
  | k + 1, n, h => by
    by_cases hn : n = 0
    · subst hn; rw [bl_zero]; omega
    · rw [bl_pos hn]
      have := bl_le k (n / 2) (by rw [Nat.pow_succ] at h; omega)
      omega
theorem bl_128 {n : Nat} (h : 128 ≤ n) : bl n = bl (n / 128) + 7 := by
  rw [bl_pos (by omega), bl_pos (n := n / 2) (by omega), bl_pos (n := n / 2 / 2) (by omega), bl_pos (n := n / 2 / 2 / 2) (by omega), bl_pos (n := n / 2 / 2 / 2 / 2) (by omega), bl_pos (n := n / 2 / 2 / 2 / 2 / 2) (by omega), bl_pos (n := n / 2 / 2 / 2 / 2 / 2 / 2) (by omega)]
  rw [show n / 2 / 2 / 2 / 2 / 2 / 2 / 2 = n / 128 from by omega]
theorem enc_bl (n : Nat) : (enc n).length = max 1 ((bl n + 6) / 7) := by
  induction n using Nat.strongRecOn with
  | _ n ih =>
    by_cases h : n < 128
    · rw [enc_small h]
      have := bl_le 7 n h
      simp; omega
    · rw [enc_big h, List.length_cons, ih (n / 128) (by omega), bl_128 (n := n) (by omega)]
      have : bl (n / 128) = bl (n / 128 / 2) + 1 := bl_pos (by omega)
      omega
theorem enc_top (n : Nat) : ∀ (i x : Nat), (enc n)[i]? = some x → (128 ≤ x ↔ i + 1 < (enc n).length) := by
  induction n using Nat.strongRecOn with
  | _ n ih =>
    intro i x hx
    by_cases h : n < 128
    · rw [enc_small h] at hx ⊢
      cases i with
      | zero => simp at hx; subst hx; simp; omega
      | succ i => simp at hx
    · rw [enc_big h] at hx ⊢
      have hp : 0 < (enc (n / 128)).length := by rw [enc_bl]; omega
      cases i with
      | zero => simp at hx; subst hx; simp; omega
      | succ i =>
        simp at hx
        have := ih (n / 128) (by omega) i x hx
        simp; omega

theorem putInt_eq (w : World) (x k : Int) (hx : x = k) (h0 : -9223372036854775808 ≤ k) (h1 : k ≤ 9223372036854775807) :
    Calls Try.prog 11 #[.int .i64 x] w fun e w' => ∃ v', e = .returned v' ∧ Row w' w.heap.size v' (enc (zz k)) ∧ Below w.heap.size w w' := by
  subst hx; exact putInt_any w x h0 h1

theorem uint_row (w : World) (B : Nat) (v : Value) (n : Nat) (hn : n < 18446744073709551616) (h : Row w B v (enc n)) :
    Calls Try.prog 17 #[v] w fun e w' => e = .returned (.tuple #[.int .u64 (n : Int), .int .i64 ((enc n).length : Int), .int .i64 0]) ∧ w' = w := by
  have hl := enc_le n hn
  refine (uint_any w v (enc n) (h.rd (enc_byt n)) (by omega)).mono ?_
  rintro e w' ⟨rfl, rfl⟩
  have := dec_enc n [] hn
  simp at this
  exact ⟨by rw [this]; rfl, rfl⟩


set_option maxRecDepth 100000 in
set_option maxHeartbeats 1000000 in
theorem lengths_any (w : World) (n : Nat) (k : Int) (hn : n < 18446744073709551616) (h0 : -9223372036854775808 ≤ k) (h1 : k ≤ 9223372036854775807) :
    Calls Try.prog 7 #[.int .u64 (n : Int), .int .i64 k] w fun e w' => e = .returned (.bool true) ∧ Below w.heap.size w w' := by
  obtain ⟨m, hm0, hmk⟩ : ∃ m : Nat, m < 9223372036854775808 ∧ ((k < 0 ∧ -(k + 1) = (m : Int)) ∨ (¬ k < 0 ∧ k = (m : Int))) := by
    by_cases hk : k < 0
    · exact ⟨(-(k + 1)).toNat, by omega, .inl ⟨hk, by omega⟩⟩
    · exact ⟨k.toNat, by omega, .inr ⟨hk, by omega⟩⟩
  obtain ⟨X, hX⟩ : ∃ X, X = 2 * m := ⟨_, rfl⟩
  have z1 : zz (m : Int) = X := by rw [zz_pos, hX]
  have z2 : zz (-(m : Int) - 1) = X + 1 := by rw [zz_neg, hX]
  have hXl : X + 1 < 18446744073709551616 := by omega
  have hXe : (X : Int) % 2 = 0 := by omega
  have P1 : Hid (∀ (w : World) (x : Int), x = (m : Int) → Calls Try.prog 11 #[.int .i64 x] w fun e w' => ∃ v', e = .returned v' ∧ Row w' w.heap.size v' (enc X) ∧ Below w.heap.size w w') := hid fun w x hx => by
    have := putInt_eq w x m hx (by omega) (by omega)
    rw [z1] at this; exact this
  have P2 : Hid (∀ (w : World) (x : Int), x = -(m : Int) - 1 → Calls Try.prog 11 #[.int .i64 x] w fun e w' => ∃ v', e = .returned v' ∧ Row w' w.heap.size v' (enc (X + 1)) ∧ Below w.heap.size w w') := hid fun w x hx => by
    have := putInt_eq w x (-(m : Int) - 1) hx (by omega) (by omega)
    rw [z2] at this; exact this
  clear hX z1 z2
  go_enter Try.func7, Try.ntmps7
  go_wp2_with (go_at_call 9; refine (known_any _).mono ?_; rintro e w1 ⟨rfl, hb1⟩)
  have hbl : bl n ≤ 64 := bl_le 64 n (by omega)
  go_loopg [5, 6] (bl n) (fun g bb mm wr => ∃ (c m : Nat), g = bl m ∧ bb = .int .i64 (c : Int) ∧ mm = .int .u64 (m : Int) ∧ m ≤ n ∧ c + bl m = bl n ∧ wr = w1)
  case atStart => exact ⟨0, n, rfl, rfl, rfl, Nat.le_refl _, by omega, rfl⟩
  case round =>
    obtain ⟨c, q, hgk, rfl, rfl, hq, hc, rfl⟩ := hrel
    have Hgk := hid hgk
    clear hgk
    rcases Nat.eq_zero_or_pos q with rfl | hpos
    · rw [bl_zero, Nat.add_zero] at hc
      have hlen := enc_bl n
      have h10 := enc_le n hn
      rw [← hc] at hlen hbl
      have hL : ((1 : Int) < ((c : Int) + 6) / 7 ∧ ((enc n).length : Int) = ((c : Int) + 6) / 7) ∨ (¬ (1 : Int) < ((c : Int) + 6) / 7 ∧ ((enc n).length : Int) = 1) := by omega
      clear hlen hc hq
      generalize hG : (enc n).length = L at *
      have hGe := hid hG
      clear hG
      have hLc : (((c : Int) + 6) / 7 = (L : Int) ∧ (1 : Int) < L ∧ 1 < L) ∨ (((c : Int) + 6) / 7 ≤ 1 ∧ ((L : Int) != 1) = false ∧ L ≤ 1 ∧ 1 ≤ L) := by
        simp; omega
      clear hL
      rcases hLc with ⟨hc2, hc1, hc3⟩ | ⟨hc2, hc1, hc3, hc4⟩
      all_goals
        go_wp2_with (go_at_call 10; refine (putUint_any _ n hn).mono ?_; rintro e w2 ⟨v2, rfl, hr2, hb2⟩; obtain ⟨a2, cap2, rfl, hcap2⟩ := hr2.form; rw [Hid.out hGe])
        have hB2 : Below w.heap.size w w2 := hb1.trans (hb2.mono hb1.size)
        obtain ⟨a0, cap0, e0, _, _, h3⟩ := hr2.rd (enc_byt n)
        cases e0
        have h3' : ∀ (j x : Nat), (enc n)[j]? = some x → ∃ b off, a2 = some ⟨b, off, none⟩ ∧ w2.cell? ⟨b, off + j, none⟩ = some (.int .u8 (x : Int)) := h3
        clear h3 hr2
        go_loopg [9] L (fun g ii wr => ∃ (i : Nat), i + g = L ∧ ii = .int .i64 (i : Int) ∧ wr = w2)
        case atStart => exact ⟨0, by omega, rfl, rfl⟩
        case round =>
          obtain ⟨i, hi, rfl, rfl⟩ := hrel
          have Hi := hid hi
          clear hi
          rcases Nat.lt_or_ge i L with hlt | hge
          · obtain ⟨x, hx⟩ : ∃ x, (enc n)[i]? = some x := ⟨(enc n)[i]'(by rw [hGe.out]; exact hlt), by rw [List.getElem?_eq_getElem]⟩
            obtain ⟨b, off, rfl, hcell⟩ := h3' i x hx
            have htop := enc_top n i x hx
            rw [hGe.out] at htop
            have hxb := (enc_byt n).at hx
            clear h3' hx
            by_cases ht : 128 ≤ x
            · have ht2 := htop.1 ht
              have t1 : (decide ((128 : Int) ≤ (x : Int)) == decide ((i : Int) + 1 < (L : Int))) = true := by simp; omega
              clear htop
              go_wp2
              all_goals
                go_roundg (L - (i + 1))
                case measure => have := Hi.out; omega
                case rel => exact ⟨i + 1, by omega, by go_num, rfl⟩
            · have ht2 : ¬ i + 1 < L := fun x => ht (htop.2 x)
              have t1 : (decide ((128 : Int) ≤ (x : Int)) == decide ((i : Int) + 1 < (L : Int))) = true := by simp; omega
              clear htop
              go_wp2
              all_goals
                go_roundg (L - (i + 1))
                case measure => have := Hi.out; omega
                case rel => exact ⟨i + 1, by omega, by go_num, rfl⟩
          · clear h3'
            rcases hmk with ⟨hk, hkm⟩ | ⟨hk, rfl⟩
            · go_wp2_with (first
                | (go_at_call 17; refine (uint_row _ _ _ (X + 1) hXl hr6).mono ?_; rintro e w7 ⟨rfl, rfl⟩)
                | (go_at_call 17; have nn : Nat := 0; refine (uint_row _ _ _ X (by omega) hr4).mono ?_; rintro e w5 ⟨rfl, rfl⟩)
                | (go_at_call 11; have hh := hr4; (refine (Hid.out P2 _ _ (by omega)).mono ?_; rintro e w6 ⟨v6, rfl, hr6, hb6⟩))
                | (go_at_call 11; refine (Hid.out P1 _ _ (by omega)).mono ?_; rintro e w4 ⟨v4, rfl, hr4, hb4⟩))
              go_ret
              have s2 := hB2.size
              have s4 := hb4.size
              exact ⟨by simp, (hB2.trans (hb4.mono s2)).trans (hb6.mono (by omega))⟩
            · go_wp2_with (first
                | (go_at_call 17; refine (uint_row _ _ _ (X + 1) hXl hr6).mono ?_; rintro e w7 ⟨rfl, rfl⟩)
                | (go_at_call 17; refine (uint_row _ _ _ X (by omega) hr4).mono ?_; rintro e w5 ⟨rfl, rfl⟩)
                | (go_at_call 11; have hh := hr4; (refine (Hid.out P2 _ _ (by omega)).mono ?_; rintro e w6 ⟨v6, rfl, hr6, hb6⟩))
                | (go_at_call 11; refine (Hid.out P1 _ _ (by omega)).mono ?_; rintro e w4 ⟨v4, rfl, hr4, hb4⟩))
              go_ret
              have s2 := hB2.size
              have s4 := hb4.size
              exact ⟨by simp, (hB2.trans (hb4.mono s2)).trans (hb6.mono (by omega))⟩
    · rw [bl_pos (by omega)] at hc
      go_wp2
      go_roundg (bl (q / 2))
      case measure => rw [Hgk.out, bl_pos (n := q) (by omega)]; omega
      case rel => exact ⟨c + 1, q / 2, rfl, by go_num, by go_num, by omega, by omega, rfl⟩
end Go.Proofs.Ytjfkcafocindjaa
