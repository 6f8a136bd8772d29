/- Int and Text. -/
import Derived.Test.YtjfkcafocindjaaF
namespace Go.Proofs.Ytjfkcafocindjaa
open Go.RowKit Go.Deep
set_option linter.unusedVariables false
set_option linter.unusedSimpArgs false

def unzz (n : Nat) : Int := if n % 2 = 1 then -((n / 2 : Nat) : Int) - 1 else ((n / 2 : Nat) : Int)
theorem unzz_zz (k : Int) : unzz (zz k) = k := by
  unfold unzz zz
  split <;> split <;> omega
theorem zz_unzz (n : Nat) : zz (unzz n) = n := by
  unfold unzz zz
  split <;> split <;> omega
theorem unzz_in (n : Nat) (h : n < 18446744073709551616) : -9223372036854775808 ≤ unzz n ∧ unzz n ≤ 9223372036854775807 := by
  unfold unzz
  split <;> omega

def intV : Option (Nat × Nat) → Value
  | none => .tuple #[.int .i64 0, .int .i64 0, .int .i64 20]
  | some (n, k) => .tuple #[.int .i64 (unzz n), .int .i64 (k : Int), .int .i64 0]

theorem and_one (n : Nat) (h : n < 18446744073709551616) : bits .and .u64 (n : Int) 1 = ((n % 2 : Nat) : Int) := by
  have h' := bits_and_u64_nat n 1 h (by omega)
  rw [show n &&& 1 = n % 2 from Nat.and_one_is_mod n] at h'
  exact h'
theorem xor_pos (m : Nat) (h : m < 9223372036854775808) : bits .xor .i64 (if IntKind.i64.signed = true then -1 else 9223372036854775807) (m : Int) = -(m : Int) - 1 := by
  show IntKind.i64.wrap ((BitVec.ofInt 64 (-1) ^^^ BitVec.ofInt 64 (m : Int)).toNat : Int) = _
  have e2 : BitVec.ofInt 64 (-1) = BitVec.allOnes 64 := by decide
  rw [e2, BitVec.xor_comm, BitVec.xor_allOnes, BitVec.toNat_not, BitVec.ofInt_natCast, BitVec.toNat_ofNat, IntKind.wrap_i64]
  omega

set_option maxHeartbeats 400000 in
theorem int_any (w : World) (v : Value) (bs : List Nat) (h : Rd w v bs) (hl : bs.length ≤ 1000000000000) :
    Calls Try.prog 18 #[v] w fun e w' => e = .returned (intV (dec bs)) ∧ w' = w := by
  have hu := uint_any w v bs h hl
  cases hd : dec bs with
  | none =>
    rw [hd] at hu
    have Hu := hid hu
    clear hu hd h
    go_enter Try.func18, Try.ntmps18
    go_wp2_with (go_at_call 17; refine (Hid.out Hu).mono ?_; rintro e w' ⟨rfl, rfl⟩; simp only [uintV])
    go_ret3
    exact ⟨rfl, rfl⟩
  | some p =>
    obtain ⟨n, k⟩ := p
    rw [hd] at hu
    obtain ⟨_, hn, _⟩ := dec_back (by obtain ⟨_, _, _, _, hb, _⟩ := h; exact hb) hd
    have Hu := hid hu
    have ha := and_one n hn
    clear hu hd h
    by_cases h2 : n % 2 = 1
    · rw [h2] at ha
      have ha' : bits .and .u64 (n : Int) 1 = 1 := ha
      have E : Hid (bits .xor .i64 (if IntKind.i64.signed = true then -1 else 9223372036854775807) ((n : Int) / 2) = unzz n) := by
        refine hid ?_
        have := xor_pos (n / 2) (by omega)
        unfold unzz
        rw [if_pos h2]
        simpa using this
      clear ha h2
      go_enter Try.func18, Try.ntmps18
      go_wp2_with (go_at_call 17; refine (Hid.out Hu).mono ?_; rintro e w' ⟨rfl, rfl⟩; simp only [uintV])
      go_ret3
      refine ⟨?_, rfl⟩
      simp only [intV]
      rw [← E.out]
      rfl
    · rw [show n % 2 = 0 from by omega] at ha
      have ha' : bits .and .u64 (n : Int) 1 = 0 := ha
      have E : Hid ((n : Int) / 2 = unzz n) := by
        refine hid ?_
        unfold unzz
        rw [if_neg h2]
        simp
      clear ha h2
      go_enter Try.func18, Try.ntmps18
      go_wp2_with (go_at_call 17; refine (Hid.out Hu).mono ?_; rintro e w' ⟨rfl, rfl⟩; simp only [uintV])
      go_ret3
      refine ⟨?_, rfl⟩
      simp only [intV]
      rw [← E.out]
      rfl

set_option maxHeartbeats 400000 in
theorem refInt_any (w : World) (v : Value) (bs : List Nat) (h : Rd w v bs) (hl : bs.length ≤ 1000000000000) :
    Calls Try.prog 21 #[v] w fun e w' => e = .returned (intV (dec bs)) ∧ w' = w := by
  have hu := refUint_any w v bs h hl
  cases hd : dec bs with
  | none =>
    rw [hd] at hu
    have Hu := hid hu
    clear hu hd h
    go_enter Try.func21, Try.ntmps21
    go_wp2_with (go_at_call 20; refine (Hid.out Hu).mono ?_; rintro e w' ⟨rfl, rfl⟩; simp only [uintV])
    go_ret3
    exact ⟨rfl, rfl⟩
  | some p =>
    obtain ⟨n, k⟩ := p
    rw [hd] at hu
    obtain ⟨_, hn, _⟩ := dec_back (by obtain ⟨_, _, _, _, hb, _⟩ := h; exact hb) hd
    have Hu := hid hu
    clear hu hd h
    by_cases h2 : n % 2 = 1
    · have h3 : ((n : Int) % 2 == 1) = true := by simp; omega
      have E : Hid (-((n : Int) / 2) - 1 = unzz n) := by
        refine hid ?_
        unfold unzz
        rw [if_pos h2]
        simp
      clear h2
      go_enter Try.func21, Try.ntmps21
      go_wp2_with (go_at_call 20; refine (Hid.out Hu).mono ?_; rintro e w' ⟨rfl, rfl⟩; simp only [uintV])
      go_ret3
      refine ⟨?_, rfl⟩
      simp only [intV]
      rw [← E.out]
      rfl
    · have h3 : ((n : Int) % 2 == 1) = false := by simp; omega
      have E : Hid ((n : Int) / 2 = unzz n) := by
        refine hid ?_
        unfold unzz
        rw [if_neg h2]
        simp
      clear h2
      go_enter Try.func21, Try.ntmps21
      go_wp2_with (go_at_call 20; refine (Hid.out Hu).mono ?_; rintro e w' ⟨rfl, rfl⟩; simp only [uintV])
      go_ret3
      refine ⟨?_, rfl⟩
      simp only [intV]
      rw [← E.out]
      rfl

abbrev TextR : Type := Except Nat (List Nat × Nat)
def textD (most : Nat) (bs : List Nat) : TextR := match dec bs with
  | none => .error 20
  | some (n, k) => if most < n then .error 21 else if bs.length < k + n then .error 20 else .ok (((bs.drop k).take n), (k + n))
def textV : TextR → Value
  | .error e => .tuple #[.string ByteArray.empty, .int .i64 0, .int .i64 (e : Int)]
  | .ok (s, k) => .tuple #[.string (ofB s), .int .i64 (k : Int), .int .i64 0]

set_option maxHeartbeats 400000 in
theorem text_any (w : World) (v : Value) (bs : List Nat) (h : Rd w v bs) (hl : bs.length ≤ 1000000000000) :
    Calls Try.prog 19 #[v] w fun e w' => e = .returned (textV (textD 64 bs)) ∧ w' = w := by
  have hu := uint_any w v bs h hl
  have hb : Byt bs := by obtain ⟨_, _, _, _, hb, _⟩ := h; exact hb
  cases hd : dec bs with
  | none =>
    have E : Hid (textD 64 bs = .error 20) := by refine hid ?_; simp [textD, hd]
    rw [hd] at hu
    have Hu := hid hu
    clear hu hd h
    go_enter Try.func19, Try.ntmps19
    go_wp2_with (go_at_call 17; refine (Hid.out Hu).mono ?_; rintro e w' ⟨rfl, rfl⟩; simp only [uintV])
    go_ret3
    exact ⟨by rw [E.out]; rfl, rfl⟩
  | some p =>
    obtain ⟨n, k⟩ := p
    rw [hd] at hu
    obtain ⟨_, hn, hk, _, _⟩ := dec_back hb hd
    have Hu := hid hu
    by_cases h64 : 64 < n
    · have E : Hid (textD 64 bs = .error 21) := by refine hid ?_; simp [textD, hd, h64]
      clear hu hd h
      go_enter Try.func19, Try.ntmps19
      go_wp2_with (go_at_call 17; refine (Hid.out Hu).mono ?_; rintro e w' ⟨rfl, rfl⟩; simp only [uintV])
      go_ret3
      exact ⟨by rw [E.out]; rfl, rfl⟩
    · by_cases hs : bs.length < k + n
      · have E : Hid (textD 64 bs = .error 20) := by refine hid ?_; simp [textD, hd, h64, hs]
        obtain ⟨a, cap, rfl⟩ := h.len
        clear hu hd h
        go_enter Try.func19, Try.ntmps19
        go_wp2_with (go_at_call 17; refine (Hid.out Hu).mono ?_; rintro e w' ⟨rfl, rfl⟩; simp only [uintV])
        go_ret3
        exact ⟨by rw [E.out]; rfl, rfl⟩
      · have E : Hid (textD 64 bs = .ok (((bs.drop k).take n), (k + n))) := by refine hid ?_; simp [textD, hd, h64, hs]
        obtain ⟨a, cap, rfl⟩ := h.len
        have hp := (h.part k (k + n) (by omega) (by omega)).conv
        have hcap : bs.length ≤ cap := by obtain ⟨_, _, e, hc, _⟩ := h; cases e; exact hc
        unfold sliced at hp
        rw [show k + n - k = n from by omega, Nat.mul_one, show List.drop k (List.take (k + n) bs) = (bs.drop k).take n from by rw [List.drop_take]; congr 1; omega] at hp
        clear hu hd h
        go_enter Try.func19, Try.ntmps19
        go_wp2_with (go_at_call 17; refine (Hid.out Hu).mono ?_; rintro e w' ⟨rfl, rfl⟩; simp only [uintV])
        all_goals (go_ret3; exact ⟨by rw [E.out]; rfl, rfl⟩)
set_option maxHeartbeats 400000 in
theorem reft_any (w : World) (v : Value) (bs : List Nat) (M : Nat) (hM : M ≤ 64) (h : Rd w v bs) (hl : bs.length ≤ 1000000000000) :
    Calls Try.prog 38 #[v, .int .u64 (M : Int)] w fun e w' => e = .returned (textV (textD M bs)) ∧ w' = w := by
  have hu := refUint_any w v bs h hl
  have hb : Byt bs := by obtain ⟨_, _, _, _, hb, _⟩ := h; exact hb
  obtain ⟨a, cap, rfl⟩ := h.len
  cases hd : dec bs with
  | none =>
    have E : Hid (textD M bs = .error 20) := by refine hid ?_; simp [textD, hd]
    rw [hd] at hu
    have Hu := hid hu
    clear hu hd h
    go_enter Try.func38, Try.ntmps38
    go_wp2_with (go_at_call 20; refine (Hid.out Hu).mono ?_; rintro e w' ⟨rfl, rfl⟩; simp only [uintV])
    go_ret3
    exact ⟨by rw [E.out]; rfl, rfl⟩
  | some p =>
    obtain ⟨n, k⟩ := p
    rw [hd] at hu
    obtain ⟨_, hn, hk, _, _⟩ := dec_back hb hd
    have Hu := hid hu
    by_cases hMn : M < n
    · have E : Hid (textD M bs = .error 21) := by refine hid ?_; simp [textD, hd, hMn]
      clear hu hd h
      go_enter Try.func38, Try.ntmps38
      go_wp2_with (go_at_call 20; refine (Hid.out Hu).mono ?_; rintro e w' ⟨rfl, rfl⟩; simp only [uintV])
      go_ret3
      exact ⟨by rw [E.out]; rfl, rfl⟩
    · by_cases hs : bs.length < k + n
      · have E : Hid (textD M bs = .error 20) := by refine hid ?_; simp [textD, hd, hMn, hs]
        clear hu hd h
        go_enter Try.func38, Try.ntmps38
        go_wp2_with (go_at_call 20; refine (Hid.out Hu).mono ?_; rintro e w' ⟨rfl, rfl⟩; simp only [uintV])
        go_ret3
        exact ⟨by rw [E.out]; rfl, rfl⟩
      · have E : Hid (textD M bs = .ok (((bs.drop k).take n), (k + n))) := by refine hid ?_; simp [textD, hd, hMn, hs]
        have hp := (h.part k (k + n) (by omega) (by omega)).conv
        have hcap : bs.length ≤ cap := by obtain ⟨_, _, e, hc, _⟩ := h; cases e; exact hc
        unfold sliced at hp
        rw [show k + n - k = n from by omega, Nat.mul_one, show List.drop k (List.take (k + n) bs) = (bs.drop k).take n from by rw [List.drop_take]; congr 1; omega] at hp
        clear hu hd h
        go_enter Try.func38, Try.ntmps38
        go_wp2_with (go_at_call 20; refine (Hid.out Hu).mono ?_; rintro e w' ⟨rfl, rfl⟩; simp only [uintV])
        all_goals (go_ret3; exact ⟨by rw [E.out]; rfl, rfl⟩)

set_option maxHeartbeats 400000 in
theorem refText_any (w : World) (v : Value) (bs : List Nat) (h : Rd w v bs) (hl : bs.length ≤ 1000000000000) :
    Calls Try.prog 22 #[v] w fun e w' => e = .returned (textV (textD 64 bs)) ∧ w' = w := by
  have hu := reft_any w v bs 64 (by omega) h hl
  have Hu := hid hu
  clear hu
  cases hd : textD 64 bs with
  | error e =>
    rw [hd] at Hu
    go_enter Try.func22, Try.ntmps22
    go_wp2_with (go_at_call 38; refine (Hid.out Hu).mono ?_; rintro e w' ⟨rfl, rfl⟩; simp only [textV])
    go_ret3
    exact ⟨rfl, rfl⟩
  | ok pp =>
    obtain ⟨s, k⟩ := pp
    rw [hd] at Hu
    go_enter Try.func22, Try.ntmps22
    go_wp2_with (go_at_call 38; refine (Hid.out Hu).mono ?_; rintro e w' ⟨rfl, rfl⟩; simp only [textV])
    go_ret3
    exact ⟨rfl, rfl⟩
end Go.Proofs.Ytjfkcafocindjaa
