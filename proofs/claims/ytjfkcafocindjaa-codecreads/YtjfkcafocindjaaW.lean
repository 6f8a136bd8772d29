/- The document's value: what is no record. -/
import Derived.Test.YtjfkcafocindjaaV
namespace Go.Proofs.Ytjfkcafocindjaa
open Go.RowKit Go.Deep
set_option linter.unusedVariables false
set_option linter.unusedSimpArgs false

set_option maxRecDepth 10000 in
set_option maxHeartbeats 400000 in
theorem rv_nil (w : World) (a : Option Addr) (cap : Nat) (fl : Bool) :
    Calls Try.prog 41 #[.slice a 0 cap, .bool fl] w fun e w' => e = .returned (valV none) ∧ Below w.heap.size w w' := by
  go_enter Try.func41, Try.ntmps41
  go_wp2
  refine bodyPost_ret (v := valV none) (by simp [results, Try.results41, go_sem, valV, zeroV]) rfl ⟨rfl, (Below.refl _ _).alloc (Nat.le_refl _) _⟩

set_option maxRecDepth 10000 in
set_option maxHeartbeats 400000 in
theorem rv_oneA (w : World) (b off n cap : Nat) (fl : Bool) (r : List Nat) (hn : n = r.length + 1) (h1 : n ≤ cap) (hcap : 1 < cap) (hc : w.cell? ⟨b, off, none⟩ = some (.int .u8 1)) (hl : n ≤ 100000000000) (hby : Byt r)
    (hi : ∀ w' : World, Below w.heap.size w w' → Calls Try.prog 21 #[.slice (some ⟨b, off + 1, none⟩) (n - 1) (cap - 1)] w' fun e w'' => e = .returned (intV (dec r)) ∧ w'' = w') :
    Calls Try.prog 41 #[.slice (some ⟨b, off, none⟩) n cap, .bool fl] w fun e w' => e = .returned (valV (simpD (1 :: r))) ∧ Below w.heap.size w w' := by
  have Hi := hid hi
  have hb := World.block_lt_of_cell? _ _ hc
  simp only at hb
  have q : ((n : Int) == 0) = false := by simp; omega
  have q1 : ¬ cap = 1 := by omega
  have q2 : 1 ≤ n := by omega
  clear hi
  cases hd : dec r with
  | none =>
    rw [hd] at Hi
    clear hn
    have E : Hid (simpD (1 :: r) = none) := by refine hid ?_; simp [simpD, hd]
    go_enter Try.func41, Try.ntmps41
    go_wp2_with (go_at_call 21; refine (Hid.out Hi _ (((Below.refl _ _).alloc (Nat.le_refl _) _).alloc (by simp) _)).mono ?_; rintro e w' ⟨rfl, rfl⟩; simp only [intV, textV])
    refine bodyPost_ret (v := valV none) (by simp [results, Try.results41, go_sem, valV, zeroV]) rfl ⟨by rw [E.out], ((Below.refl _ _).alloc (Nat.le_refl _) _).alloc (by simp) _⟩
  | some p =>
    obtain ⟨m, k⟩ := p
    have hk := (dec_back hby hd).2.2.2.2
    rw [hd] at Hi
    clear hn
    have E : Hid (simpD (1 :: r) = some (mkI (unzz m), 1 + k)) := by refine hid ?_; simp [simpD, hd]
    go_enter Try.func41, Try.ntmps41
    go_wp2_with (go_at_call 21; refine (Hid.out Hi _ (((Below.refl _ _).alloc (Nat.le_refl _) _).alloc (by simp) _)).mono ?_; rintro e w' ⟨rfl, rfl⟩; simp only [intV, textV])
    refine bodyPost_ret (v := valV (some (mkI (unzz m), 1 + k))) (by simp [results, Try.results41, go_sem, valV, zeroV, mkI, mkT, mkB, Hd.v]; try omega) rfl ⟨by rw [E.out], ((Below.refl _ _).alloc (Nat.le_refl _) _).alloc (by simp) _⟩

set_option maxRecDepth 10000 in
set_option maxHeartbeats 400000 in
theorem rv_oneB (w : World) (b off : Nat) (fl : Bool) (hc : w.cell? ⟨b, off, none⟩ = some (.int .u8 1))
    (hi : ∀ w' : World, Below w.heap.size w w' → Calls Try.prog 21 #[.slice (some ⟨b, off, none⟩) 0 0] w' fun e w'' => e = .returned (intV (dec [])) ∧ w'' = w') :
    Calls Try.prog 41 #[.slice (some ⟨b, off, none⟩) 1 1, .bool fl] w fun e w' => e = .returned (valV (simpD (1 :: []))) ∧ Below w.heap.size w w' := by
  have Hi := hid hi
  have hb := World.block_lt_of_cell? _ _ hc
  simp only at hb
  clear hi
  · have hd : dec [] = none := rfl
    rw [hd] at Hi
    have E : Hid (simpD (1 :: []) = none) := by refine hid ?_; simp [simpD, hd]
    go_enter Try.func41, Try.ntmps41
    go_wp2_with (go_at_call 21; refine (Hid.out Hi _ (((Below.refl _ _).alloc (Nat.le_refl _) _).alloc (by simp) _)).mono ?_; rintro e w' ⟨rfl, rfl⟩; simp only [intV, textV])
    refine bodyPost_ret (v := valV none) (by simp [results, Try.results41, go_sem, valV, zeroV]) rfl ⟨by rw [E.out], ((Below.refl _ _).alloc (Nat.le_refl _) _).alloc (by simp) _⟩

set_option maxRecDepth 10000 in
set_option maxHeartbeats 400000 in
theorem rv_twoA (w : World) (b off n cap : Nat) (fl : Bool) (r : List Nat) (hn : n = r.length + 1) (h1 : n ≤ cap) (hcap : 1 < cap) (hc : w.cell? ⟨b, off, none⟩ = some (.int .u8 2)) (hl : n ≤ 100000000000) (hby : Byt r)
    (hi : ∀ w' : World, Below w.heap.size w w' → Calls Try.prog 38 #[.slice (some ⟨b, off + 1, none⟩) (n - 1) (cap - 1), .int .u64 64] w' fun e w'' => e = .returned (textV (textD 64 r)) ∧ w'' = w') :
    Calls Try.prog 41 #[.slice (some ⟨b, off, none⟩) n cap, .bool fl] w fun e w' => e = .returned (valV (simpD (2 :: r))) ∧ Below w.heap.size w w' := by
  have Hi := hid hi
  have hb := World.block_lt_of_cell? _ _ hc
  simp only at hb
  have q : ((n : Int) == 0) = false := by simp; omega
  have q1 : ¬ cap = 1 := by omega
  have q2 : 1 ≤ n := by omega
  clear hi
  cases hd : textD 64 r with
  | error x =>
    have hx := textD_bad hd
    rw [hd] at Hi
    clear hn
    have E : Hid (simpD (2 :: r) = none) := by refine hid ?_; simp [simpD, hd]
    go_enter Try.func41, Try.ntmps41
    go_wp2_with (go_at_call 38; refine (Hid.out Hi _ (((Below.refl _ _).alloc (Nat.le_refl _) _).alloc (by simp) _)).mono ?_; rintro e w' ⟨rfl, rfl⟩; simp only [intV, textV])
    refine bodyPost_ret (v := valV none) (by simp [results, Try.results41, go_sem, valV, zeroV]) rfl ⟨by rw [E.out], ((Below.refl _ _).alloc (Nat.le_refl _) _).alloc (by simp) _⟩
  | ok pp =>
    obtain ⟨s, k⟩ := pp
    have hk : k ≤ 100000000000 := by have := (textD_le hby hd).1; omega
    rw [hd] at Hi
    clear hn
    have E : Hid (simpD (2 :: r) = some (mkT (ofB s), 1 + k)) := by refine hid ?_; simp [simpD, hd]
    go_enter Try.func41, Try.ntmps41
    go_wp2_with (go_at_call 38; refine (Hid.out Hi _ (((Below.refl _ _).alloc (Nat.le_refl _) _).alloc (by simp) _)).mono ?_; rintro e w' ⟨rfl, rfl⟩; simp only [intV, textV])
    refine bodyPost_ret (v := valV (some (mkT (ofB s), 1 + k))) (by simp [results, Try.results41, go_sem, valV, zeroV, mkI, mkT, mkB, Hd.v]; try omega) rfl ⟨by rw [E.out], ((Below.refl _ _).alloc (Nat.le_refl _) _).alloc (by simp) _⟩

set_option maxRecDepth 10000 in
set_option maxHeartbeats 400000 in
theorem rv_twoB (w : World) (b off : Nat) (fl : Bool) (hc : w.cell? ⟨b, off, none⟩ = some (.int .u8 2))
    (hi : ∀ w' : World, Below w.heap.size w w' → Calls Try.prog 38 #[.slice (some ⟨b, off, none⟩) 0 0, .int .u64 64] w' fun e w'' => e = .returned (textV (textD 64 [])) ∧ w'' = w') :
    Calls Try.prog 41 #[.slice (some ⟨b, off, none⟩) 1 1, .bool fl] w fun e w' => e = .returned (valV (simpD (2 :: []))) ∧ Below w.heap.size w w' := by
  have Hi := hid hi
  have hb := World.block_lt_of_cell? _ _ hc
  simp only at hb
  clear hi
  · have hd : textD 64 [] = .error 20 := rfl
    rw [hd] at Hi
    have E : Hid (simpD (2 :: []) = none) := by refine hid ?_; simp [simpD, hd]
    go_enter Try.func41, Try.ntmps41
    go_wp2_with (go_at_call 38; refine (Hid.out Hi _ (((Below.refl _ _).alloc (Nat.le_refl _) _).alloc (by simp) _)).mono ?_; rintro e w' ⟨rfl, rfl⟩; simp only [intV, textV])
    refine bodyPost_ret (v := valV none) (by simp [results, Try.results41, go_sem, valV, zeroV]) rfl ⟨by rw [E.out], ((Below.refl _ _).alloc (Nat.le_refl _) _).alloc (by simp) _⟩

set_option maxRecDepth 10000 in
set_option maxHeartbeats 400000 in
theorem rv_three0 (w : World) (b off cap : Nat) (fl : Bool) (hc : w.cell? ⟨b, off, none⟩ = some (.int .u8 3)) :
    Calls Try.prog 41 #[.slice (some ⟨b, off, none⟩) 1 cap, .bool fl] w fun e w' => e = .returned (valV (simpD [3])) ∧ Below w.heap.size w w' := by
  have hb := World.block_lt_of_cell? _ _ hc
  simp only at hb
  have E : Hid (simpD [3] = none) := by refine hid ?_; simp [simpD]
  go_enter Try.func41, Try.ntmps41
  go_wp2
  refine bodyPost_ret (v := valV none) (by simp [results, Try.results41, go_sem, valV, zeroV]) rfl ⟨by rw [E.out], ((Below.refl _ _).alloc (Nat.le_refl _) _).alloc (by simp) _⟩

set_option maxRecDepth 10000 in
set_option maxHeartbeats 400000 in
theorem rv_three (w : World) (b off n cap x : Nat) (fl : Bool) (r : List Nat) (hn : 2 ≤ n) (hl : n ≤ 100000000000) (hx : x < 256) (hc : w.cell? ⟨b, off, none⟩ = some (.int .u8 3)) (hc1 : w.cell? ⟨b, off + 1, none⟩ = some (.int .u8 (x : Int))) :
    Calls Try.prog 41 #[.slice (some ⟨b, off, none⟩) n cap, .bool fl] w fun e w' => e = .returned (valV (simpD (3 :: x :: r))) ∧ Below w.heap.size w w' := by
  have hb := World.block_lt_of_cell? _ _ hc
  simp only at hb
  have q : ((n : Int) == 0) = false := by simp; omega
  have q1 : 0 < n := by omega
  have q2 : 1 < n := by omega
  have q3 : decide ((n : Int) < 2) = false := by simp; omega
  by_cases h1 : x ≤ 1
  · have E : Hid (simpD (3 :: x :: r) = some (mkB x, 2)) := by refine hid ?_; simp [simpD, h1]
    have q4 : decide ((1 : Int) < (x : Int)) = false := by simp; omega
    go_enter Try.func41, Try.ntmps41
    go_wp2
    refine bodyPost_ret (v := valV (some (mkB x, 2))) (by simp [results, Try.results41, go_sem, valV, zeroV, mkB, Hd.v]) rfl ⟨by rw [E.out], ((Below.refl _ _).alloc (Nat.le_refl _) _).alloc (by simp) _⟩
  · have E : Hid (simpD (3 :: x :: r) = none) := by refine hid ?_; simp [simpD, h1]
    have q4 : decide ((1 : Int) < (x : Int)) = true := by simp; omega
    go_enter Try.func41, Try.ntmps41
    go_wp2
    refine bodyPost_ret (v := valV none) (by simp [results, Try.results41, go_sem, valV, zeroV]) rfl ⟨by rw [E.out], ((Below.refl _ _).alloc (Nat.le_refl _) _).alloc (by simp) _⟩

set_option maxRecDepth 10000 in
set_option maxHeartbeats 400000 in
theorem rv_other (w : World) (b off n cap c : Nat) (fl : Bool) (r : List Nat) (hn : 0 < n) (hl : n ≤ 100000000000) (hc : w.cell? ⟨b, off, none⟩ = some (.int .u8 (c : Int))) (hcb : c < 256) (c1 : c ≠ 1) (c2 : c ≠ 2) (c3 : c ≠ 3) (c4 : c ≠ 4) :
    Calls Try.prog 41 #[.slice (some ⟨b, off, none⟩) n cap, .bool fl] w fun e w' => e = .returned (valV (simpD (c :: r))) ∧ Below w.heap.size w w' := by
  have hb := World.block_lt_of_cell? _ _ hc
  simp only at hb
  have q : ((n : Int) == 0) = false := by simp; omega
  have k1 : ((c : Int) == 1) = false := by simp; omega
  have k2 : ((c : Int) == 2) = false := by simp; omega
  have k3 : ((c : Int) == 3) = false := by simp; omega
  have k4 : ((c : Int) == 4) = false := by simp; omega
  have E : Hid (simpD (c :: r) = none) := by refine hid ?_; simp [simpD, c1, c2, c3]
  clear c1 c2 c3 c4
  go_enter Try.func41, Try.ntmps41
  go_wp2
  refine bodyPost_ret (v := valV none) (by simp [results, Try.results41, go_sem, valV, zeroV]) rfl ⟨by rw [E.out], ((Below.refl _ _).alloc (Nat.le_refl _) _).alloc (by simp) _⟩

theorem rv_flat (w : World) (v : Value) (fl : Bool) (c : Nat) (r : List Nat) (h : Rd w v (c :: r)) (hl : r.length + 1 ≤ 100000000000) (hc4 : c ≠ 4) :
    Calls Try.prog 41 #[v, .bool fl] w fun e w' => e = .returned (valV (simpD (c :: r))) ∧ Below w.heap.size w w' := by
  have h' := h
  obtain ⟨a, cap, rfl, h1, h2, h3⟩ := h
  obtain ⟨b, off, rfl, hc⟩ := h3 0 c rfl
  rw [Nat.add_zero] at hc
  have hby : Byt r := fun x hx => h2 x (by simp [hx])
  have ht := h'.tail
  simp only [List.length_cons] at h1 hl ht ⊢
  by_cases k3 : c = 3
  · subst k3
    cases r with
    | nil => exact rv_three0 w b off cap fl hc
    | cons x r =>
      obtain ⟨b', off', e, hx⟩ := h3 1 x rfl
      cases e
      exact rv_three w b off _ cap x fl r (by simp) hl (h2 x (by simp)) hc hx
  · by_cases hcap : cap = 1
    · subst hcap
      have : r = [] := List.eq_nil_of_length_eq_zero (by omega)
      subst this
      have e : sliced (some ⟨b, off, none⟩) 1 (0 + 1) 1 1 = .slice (some ⟨b, off, none⟩) 0 0 := rfl
      simp only [List.length_nil] at ht
      rw [e] at ht
      by_cases k1 : c = 1
      · subst k1; exact rv_oneB w b off fl hc (fun w' hb => refInt_any w' _ [] (ht.below (Nat.le_refl _) hb) (by simp))
      · by_cases k2 : c = 2
        · subst k2; exact rv_twoB w b off fl hc (fun w' hb => reft_any w' _ [] 64 (by omega) (ht.below (Nat.le_refl _) hb) (by simp))
        · exact rv_other w b off _ _ c fl [] (by omega) hl hc (h2 c (by simp)) k1 k2 k3 hc4
    · have e : sliced (some ⟨b, off, none⟩) 1 (r.length + 1) cap 1 = .slice (some ⟨b, off + 1, none⟩) (r.length + 1 - 1) (cap - 1) := by
        unfold sliced
        rw [if_neg hcap]
        simp [Addr.add]
      rw [e] at ht
      by_cases k1 : c = 1
      · subst k1; exact rv_oneA w b off _ cap fl r rfl h1 (by omega) hc hl hby (fun w' hb => refInt_any w' _ r (ht.below (Nat.le_refl _) hb) (by omega))
      · by_cases k2 : c = 2
        · subst k2; exact rv_twoA w b off _ cap fl r rfl h1 (by omega) hc hl hby (fun w' hb => reft_any w' _ r 64 (by omega) (ht.below (Nat.le_refl _) hb) (by omega))
        · exact rv_other w b off _ _ c fl r (by omega) hl hc (h2 c (by simp)) k1 k2 k3 hc4
end Go.Proofs.Ytjfkcafocindjaa
