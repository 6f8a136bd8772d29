/- Reading values that are no records. -/
import Derived.Test.YtjfkcafocindjaaJ
namespace Go.Proofs.Ytjfkcafocindjaa
open Go.RowKit Go.Deep
set_option linter.unusedVariables false
set_option linter.unusedSimpArgs false

def mkI (n : Int) : Hd := ⟨1, n, ⟨#[]⟩, 0, none, 0, 0⟩
def mkT (s : ByteArray) : Hd := ⟨2, 0, s, 0, none, 0, 0⟩
def mkB (n : Int) : Hd := ⟨3, n, ⟨#[]⟩, 0, none, 0, 0⟩
def zeroV : Value := .agg #[.int .i64 0, .int .i64 0, .string ⟨#[]⟩, .int .i64 0, .slice none 0 0]

def simpD : List Nat → Option (Hd × Nat)
  | [] => none
  | c :: r => if c = 1 then (match dec r with | none => none | some (n, k) => some (mkI (unzz n), 1 + k))
    else if c = 2 then (match textD 64 r with | .error _ => none | .ok (s, k) => some (mkT (ofB s), 1 + k))
    else if c = 3 then (match r with | [] => none | x :: _ => if x ≤ 1 then some (mkB x, 2) else none)
    else none
def valV : Option (Hd × Nat) → Value
  | none => .tuple #[zeroV, .int .i64 0, .int .i64 20]
  | some (h, k) => .tuple #[h.v, .int .i64 (k : Int), .int .i64 0]

def truthV : List Nat → Value
  | [] => .tuple #[.int .i64 0, .int .i64 0, .int .i64 20]
  | x :: _ => if x ≤ 1 then .tuple #[.int .i64 (x : Int), .int .i64 1, .int .i64 0] else .tuple #[.int .i64 0, .int .i64 0, .int .i64 20]

set_option maxHeartbeats 400000 in
theorem truth_nil (w : World) (a : Option Addr) (cap : Nat) :
    Calls Try.prog 48 #[.slice a 0 cap] w fun e w' => e = .returned (truthV []) ∧ w' = w := by
  go_enter Try.func48, Try.ntmps48
  go_wp2
  go_ret3
  exact ⟨rfl, rfl⟩

set_option maxHeartbeats 400000 in
theorem truth_cons (w : World) (b off n cap x : Nat) (r : List Nat) (hn : 0 < n) (hn2 : n ≤ 1000000000000) (hx : x < 256) (hc : w.cell? ⟨b, off, none⟩ = some (.int .u8 (x : Int))) :
    Calls Try.prog 48 #[.slice (some ⟨b, off, none⟩) n cap] w fun e w' => e = .returned (truthV (x :: r)) ∧ w' = w := by
  have q : ((n : Int) == 0) = false := by simp; omega
  by_cases h1 : x ≤ 1
  · have E : Hid (truthV (x :: r) = .tuple #[.int .i64 (x : Int), .int .i64 1, .int .i64 0]) := by refine hid ?_; simp [truthV, h1]
    go_enter Try.func48, Try.ntmps48
    go_wp2
    go_ret3
    exact ⟨by rw [E.out]; rfl, rfl⟩
  · have E : Hid (truthV (x :: r) = .tuple #[.int .i64 0, .int .i64 0, .int .i64 20]) := by refine hid ?_; simp [truthV, h1]
    go_enter Try.func48, Try.ntmps48
    go_wp2
    go_ret3
    exact ⟨by rw [E.out]; rfl, rfl⟩

theorem truth_any (w : World) (v : Value) (bs : List Nat) (h : Rd w v bs) (hl : bs.length ≤ 1000000000000) :
    Calls Try.prog 48 #[v] w fun e w' => e = .returned (truthV bs) ∧ w' = w := by
  obtain ⟨a, cap, rfl, h1, h2, h3⟩ := h
  cases bs with
  | nil => exact truth_nil w a cap
  | cons x r =>
    obtain ⟨b, off, rfl, hc⟩ := h3 0 x rfl
    exact truth_cons w b off _ cap x r (by simp) hl (h2 x (by simp)) hc

theorem Rd.tail {w : World} {a : Option Addr} {n cap : Nat} {x : Nat} {r : List Nat} (h : Rd w (.slice a n cap) (x :: r)) : Rd w (sliced a 1 n cap 1) r := h.from 1 (by simp)
theorem Rd.drew {w v bs} (h : Rd w v bs) : Rd w.drew v bs := h

set_option maxRecDepth 10000 in
set_option maxHeartbeats 400000 in
theorem simple_nil (w : World) (v : Value) (h : Rd w v []) :
    Calls Try.prog 39 #[v] w fun e w' => e = .returned (valV none) ∧ Below w.heap.size w w' := by
  obtain ⟨a, cap, rfl, h1, h2, h3⟩ := h
  clear h3 h1 h2
  go_enter Try.func39, Try.ntmps39
  go_wp2
  refine bodyPost_ret (v := valV none) (by simp [results, Try.results39, go_sem, valV, zeroV]) rfl ⟨rfl, (Below.refl _ _).alloc (Nat.le_refl _) _⟩

theorem textD_bad {M : Nat} {bs : List Nat} {e : Nat} (h : textD M bs = .error e) : e = 20 ∨ e = 21 := by
  unfold textD at h
  split at h
  · cases h; exact .inl rfl
  · split at h
    · cases h; exact .inr rfl
    · split at h
      · cases h; exact .inl rfl
      · cases h
theorem textD_le {M : Nat} {bs : List Nat} (hb : Byt bs) {s : List Nat} {k : Nat} (h : textD M bs = .ok (s, k)) : k ≤ bs.length ∧ s.length ≤ M ∧ Byt s := by
  unfold textD at h
  split at h
  · cases h
  · rename_i n q hd
    split at h
    · cases h
    · split at h
      · cases h
      · cases h
        have := dec_back hb hd
        refine ⟨by omega, by simp; omega, (hb.drop _).take _⟩

set_option maxRecDepth 10000 in
set_option maxHeartbeats 400000 in
theorem simple_oneA (w : World) (b off n cap : Nat) (r : List Nat) (hn : n = r.length + 1) (h1 : n ≤ cap) (hcap : 1 < cap) (hc : w.cell? ⟨b, off, none⟩ = some (.int .u8 1)) (hl : n ≤ 100000000000) (hby : Byt r)
    (hi : ∀ w' : World, Below w.heap.size w w' → Calls Try.prog 18 #[.slice (some ⟨b, off + 1, none⟩) (n - 1) (cap - 1)] w' fun e w'' => e = .returned (intV (dec r)) ∧ w'' = w') :
    Calls Try.prog 39 #[.slice (some ⟨b, off, none⟩) n cap] w fun e w' => e = .returned (valV (simpD (1 :: r))) ∧ Below w.heap.size w w' := by
  have Hi := hid hi
  have hb := World.block_lt_of_cell? _ _ hc
  simp only at hb
  have q : ((n : Int) == 0) = false := by simp; omega
  have q1 : ¬ cap = 1 := by omega
  have q2 : 1 ≤ n := by omega
  clear hi
  cases hd : dec r with
  | none =>
    rw [hd] at Hi
    clear hn
    have E : Hid (simpD (1 :: r) = none) := by refine hid ?_; simp [simpD, hd]
    go_enter Try.func39, Try.ntmps39
    go_wp2_with (go_at_call 18; refine (Hid.out Hi _ (((Below.refl _ _).alloc (Nat.le_refl _) _).alloc (by simp) _)).mono ?_; rintro e w' ⟨rfl, rfl⟩; simp only [intV, textV])
    refine bodyPost_ret (v := valV none) (by simp [results, Try.results39, go_sem, valV, zeroV]) rfl ⟨by rw [E.out], ((Below.refl _ _).alloc (Nat.le_refl _) _).alloc (by simp) _⟩
  | some p =>
    obtain ⟨m, k⟩ := p
    have hk := (dec_back hby hd).2.2.2.2
    rw [hd] at Hi
    clear hn
    have E : Hid (simpD (1 :: r) = some (mkI (unzz m), 1 + k)) := by refine hid ?_; simp [simpD, hd]
    go_enter Try.func39, Try.ntmps39
    go_wp2_with (go_at_call 18; refine (Hid.out Hi _ (((Below.refl _ _).alloc (Nat.le_refl _) _).alloc (by simp) _)).mono ?_; rintro e w' ⟨rfl, rfl⟩; simp only [intV, textV])
    refine bodyPost_ret (v := valV (some (mkI (unzz m), 1 + k))) (by simp [results, Try.results39, go_sem, valV, zeroV, mkI, mkT, mkB, Hd.v]; try omega) rfl ⟨by rw [E.out], ((Below.refl _ _).alloc (Nat.le_refl _) _).alloc (by simp) _⟩

set_option maxRecDepth 10000 in
set_option maxHeartbeats 400000 in
theorem simple_oneB (w : World) (b off : Nat) (hc : w.cell? ⟨b, off, none⟩ = some (.int .u8 1))
    (hi : ∀ w' : World, Below w.heap.size w w' → Calls Try.prog 18 #[.slice (some ⟨b, off, none⟩) 0 0] w' fun e w'' => e = .returned (intV (dec [])) ∧ w'' = w') :
    Calls Try.prog 39 #[.slice (some ⟨b, off, none⟩) 1 1] w fun e w' => e = .returned (valV (simpD (1 :: []))) ∧ Below w.heap.size w w' := by
  have Hi := hid hi
  have hb := World.block_lt_of_cell? _ _ hc
  simp only at hb
  clear hi
  · have hd : dec [] = none := rfl
    rw [hd] at Hi
    have E : Hid (simpD (1 :: []) = none) := by refine hid ?_; simp [simpD, hd]
    go_enter Try.func39, Try.ntmps39
    go_wp2_with (go_at_call 18; refine (Hid.out Hi _ (((Below.refl _ _).alloc (Nat.le_refl _) _).alloc (by simp) _)).mono ?_; rintro e w' ⟨rfl, rfl⟩; simp only [intV, textV])
    refine bodyPost_ret (v := valV none) (by simp [results, Try.results39, go_sem, valV, zeroV]) rfl ⟨by rw [E.out], ((Below.refl _ _).alloc (Nat.le_refl _) _).alloc (by simp) _⟩

set_option maxRecDepth 10000 in
set_option maxHeartbeats 400000 in
theorem simple_twoA (w : World) (b off n cap : Nat) (r : List Nat) (hn : n = r.length + 1) (h1 : n ≤ cap) (hcap : 1 < cap) (hc : w.cell? ⟨b, off, none⟩ = some (.int .u8 2)) (hl : n ≤ 100000000000) (hby : Byt r)
    (hi : ∀ w' : World, Below w.heap.size w w' → Calls Try.prog 19 #[.slice (some ⟨b, off + 1, none⟩) (n - 1) (cap - 1)] w' fun e w'' => e = .returned (textV (textD 64 r)) ∧ w'' = w') :
    Calls Try.prog 39 #[.slice (some ⟨b, off, none⟩) n cap] w fun e w' => e = .returned (valV (simpD (2 :: r))) ∧ Below w.heap.size w w' := by
  have Hi := hid hi
  have hb := World.block_lt_of_cell? _ _ hc
  simp only at hb
  have q : ((n : Int) == 0) = false := by simp; omega
  have q1 : ¬ cap = 1 := by omega
  have q2 : 1 ≤ n := by omega
  clear hi
  cases hd : textD 64 r with
  | error x =>
    have hx := textD_bad hd
    rw [hd] at Hi
    clear hn
    have E : Hid (simpD (2 :: r) = none) := by refine hid ?_; simp [simpD, hd]
    go_enter Try.func39, Try.ntmps39
    go_wp2_with (go_at_call 19; refine (Hid.out Hi _ (((Below.refl _ _).alloc (Nat.le_refl _) _).alloc (by simp) _)).mono ?_; rintro e w' ⟨rfl, rfl⟩; simp only [intV, textV])
    refine bodyPost_ret (v := valV none) (by simp [results, Try.results39, go_sem, valV, zeroV]) rfl ⟨by rw [E.out], ((Below.refl _ _).alloc (Nat.le_refl _) _).alloc (by simp) _⟩
  | ok pp =>
    obtain ⟨s, k⟩ := pp
    have hk : k ≤ 100000000000 := by have := (textD_le hby hd).1; omega
    rw [hd] at Hi
    clear hn
    have E : Hid (simpD (2 :: r) = some (mkT (ofB s), 1 + k)) := by refine hid ?_; simp [simpD, hd]
    go_enter Try.func39, Try.ntmps39
    go_wp2_with (go_at_call 19; refine (Hid.out Hi _ (((Below.refl _ _).alloc (Nat.le_refl _) _).alloc (by simp) _)).mono ?_; rintro e w' ⟨rfl, rfl⟩; simp only [intV, textV])
    refine bodyPost_ret (v := valV (some (mkT (ofB s), 1 + k))) (by simp [results, Try.results39, go_sem, valV, zeroV, mkI, mkT, mkB, Hd.v]; try omega) rfl ⟨by rw [E.out], ((Below.refl _ _).alloc (Nat.le_refl _) _).alloc (by simp) _⟩

set_option maxRecDepth 10000 in
set_option maxHeartbeats 400000 in
theorem simple_twoB (w : World) (b off : Nat) (hc : w.cell? ⟨b, off, none⟩ = some (.int .u8 2))
    (hi : ∀ w' : World, Below w.heap.size w w' → Calls Try.prog 19 #[.slice (some ⟨b, off, none⟩) 0 0] w' fun e w'' => e = .returned (textV (textD 64 [])) ∧ w'' = w') :
    Calls Try.prog 39 #[.slice (some ⟨b, off, none⟩) 1 1] w fun e w' => e = .returned (valV (simpD (2 :: []))) ∧ Below w.heap.size w w' := by
  have Hi := hid hi
  have hb := World.block_lt_of_cell? _ _ hc
  simp only at hb
  clear hi
  · have hd : textD 64 [] = .error 20 := rfl
    rw [hd] at Hi
    have E : Hid (simpD (2 :: []) = none) := by refine hid ?_; simp [simpD, hd]
    go_enter Try.func39, Try.ntmps39
    go_wp2_with (go_at_call 19; refine (Hid.out Hi _ (((Below.refl _ _).alloc (Nat.le_refl _) _).alloc (by simp) _)).mono ?_; rintro e w' ⟨rfl, rfl⟩; simp only [intV, textV])
    refine bodyPost_ret (v := valV none) (by simp [results, Try.results39, go_sem, valV, zeroV]) rfl ⟨by rw [E.out], ((Below.refl _ _).alloc (Nat.le_refl _) _).alloc (by simp) _⟩

set_option maxRecDepth 10000 in
set_option maxHeartbeats 400000 in
theorem simple_threeA (w : World) (b off n cap : Nat) (r : List Nat) (hn : n = r.length + 1) (h1 : n ≤ cap) (hcap : 1 < cap) (hc : w.cell? ⟨b, off, none⟩ = some (.int .u8 3)) (hl : n ≤ 100000000000) (hby : Byt r)
    (hi : ∀ w' : World, Below w.heap.size w w' → Calls Try.prog 48 #[.slice (some ⟨b, off + 1, none⟩) (n - 1) (cap - 1)] w' fun e w'' => e = .returned (truthV r) ∧ w'' = w') :
    Calls Try.prog 39 #[.slice (some ⟨b, off, none⟩) n cap] w fun e w' => e = .returned (valV (simpD (3 :: r))) ∧ Below w.heap.size w w' := by
  have Hi := hid hi
  have hb := World.block_lt_of_cell? _ _ hc
  simp only at hb
  have q : ((n : Int) == 0) = false := by simp; omega
  have q1 : ¬ cap = 1 := by omega
  have q2 : 1 ≤ n := by omega
  clear hi
  rcases r with _ | ⟨x, r⟩
  · have hd : truthV [] = .tuple #[.int .i64 0, .int .i64 0, .int .i64 20] := rfl
    rw [hd] at Hi
    clear hn
    have E : Hid (simpD (3 :: []) = none) := by refine hid ?_; simp [simpD]
    go_enter Try.func39, Try.ntmps39
    go_wp2_with (go_at_call 48; refine (Hid.out Hi _ (((Below.refl _ _).alloc (Nat.le_refl _) _).alloc (by simp) _)).mono ?_; rintro e w' ⟨rfl, rfl⟩; simp only [intV, textV])
    refine bodyPost_ret (v := valV none) (by simp [results, Try.results39, go_sem, valV, zeroV]) rfl ⟨by rw [E.out], ((Below.refl _ _).alloc (Nat.le_refl _) _).alloc (by simp) _⟩
  · by_cases hx : x ≤ 1
    · have hd : truthV (x :: r) = .tuple #[.int .i64 (x : Int), .int .i64 1, .int .i64 0] := by simp [truthV, hx]
      rw [hd] at Hi
      clear hn
      have E : Hid (simpD (3 :: x :: r) = some (mkB x, 2)) := by refine hid ?_; simp [simpD, hx]
      go_enter Try.func39, Try.ntmps39
      go_wp2_with (go_at_call 48; refine (Hid.out Hi _ (((Below.refl _ _).alloc (Nat.le_refl _) _).alloc (by simp) _)).mono ?_; rintro e w' ⟨rfl, rfl⟩; simp only [intV, textV])
      refine bodyPost_ret (v := valV (some (mkB x, 2))) (by simp [results, Try.results39, go_sem, valV, zeroV, mkI, mkT, mkB, Hd.v]; try omega) rfl ⟨by rw [E.out], ((Below.refl _ _).alloc (Nat.le_refl _) _).alloc (by simp) _⟩
    · have hd : truthV (x :: r) = .tuple #[.int .i64 0, .int .i64 0, .int .i64 20] := by simp [truthV, hx]
      rw [hd] at Hi
      clear hn
      have E : Hid (simpD (3 :: x :: r) = none) := by refine hid ?_; simp [simpD, hx]
      go_enter Try.func39, Try.ntmps39
      go_wp2_with (go_at_call 48; refine (Hid.out Hi _ (((Below.refl _ _).alloc (Nat.le_refl _) _).alloc (by simp) _)).mono ?_; rintro e w' ⟨rfl, rfl⟩; simp only [intV, textV])
      refine bodyPost_ret (v := valV none) (by simp [results, Try.results39, go_sem, valV, zeroV]) rfl ⟨by rw [E.out], ((Below.refl _ _).alloc (Nat.le_refl _) _).alloc (by simp) _⟩

set_option maxRecDepth 10000 in
set_option maxHeartbeats 400000 in
theorem simple_threeB (w : World) (b off : Nat) (hc : w.cell? ⟨b, off, none⟩ = some (.int .u8 3))
    (hi : ∀ w' : World, Below w.heap.size w w' → Calls Try.prog 48 #[.slice (some ⟨b, off, none⟩) 0 0] w' fun e w'' => e = .returned (truthV []) ∧ w'' = w') :
    Calls Try.prog 39 #[.slice (some ⟨b, off, none⟩) 1 1] w fun e w' => e = .returned (valV (simpD (3 :: []))) ∧ Below w.heap.size w w' := by
  have Hi := hid hi
  have hb := World.block_lt_of_cell? _ _ hc
  simp only at hb
  clear hi
  · have hd : truthV [] = .tuple #[.int .i64 0, .int .i64 0, .int .i64 20] := rfl
    rw [hd] at Hi
    have E : Hid (simpD (3 :: []) = none) := by refine hid ?_; simp [simpD]
    go_enter Try.func39, Try.ntmps39
    go_wp2_with (go_at_call 48; refine (Hid.out Hi _ (((Below.refl _ _).alloc (Nat.le_refl _) _).alloc (by simp) _)).mono ?_; rintro e w' ⟨rfl, rfl⟩; simp only [intV, textV])
    refine bodyPost_ret (v := valV none) (by simp [results, Try.results39, go_sem, valV, zeroV]) rfl ⟨by rw [E.out], ((Below.refl _ _).alloc (Nat.le_refl _) _).alloc (by simp) _⟩

set_option maxRecDepth 10000 in
set_option maxHeartbeats 400000 in
theorem simple_other (w : World) (b off n cap c : Nat) (r : List Nat) (hn : 0 < n) (hl : n ≤ 100000000000) (hc : w.cell? ⟨b, off, none⟩ = some (.int .u8 (c : Int))) (hcb : c < 256) (c1 : c ≠ 1) (c2 : c ≠ 2) (c3 : c ≠ 3) :
    Calls Try.prog 39 #[.slice (some ⟨b, off, none⟩) n cap] w fun e w' => e = .returned (valV (simpD (c :: r))) ∧ Below w.heap.size w w' := by
  have hb := World.block_lt_of_cell? _ _ hc
  simp only at hb
  have q : ((n : Int) == 0) = false := by simp; omega
  have k1 : ((c : Int) == 1) = false := by simp; omega
  have k2 : ((c : Int) == 2) = false := by simp; omega
  have k3 : ((c : Int) == 3) = false := by simp; omega
  have E : Hid (simpD (c :: r) = none) := by refine hid ?_; simp [simpD, c1, c2, c3]
  clear c1 c2 c3
  go_enter Try.func39, Try.ntmps39
  go_wp2
  refine bodyPost_ret (v := valV none) (by simp [results, Try.results39, go_sem, valV, zeroV]) rfl ⟨by rw [E.out], ((Below.refl _ _).alloc (Nat.le_refl _) _).alloc (by simp) _⟩

theorem simple_any (w : World) (v : Value) (bs : List Nat) (h : Rd w v bs) (hl : bs.length ≤ 100000000000) :
    Calls Try.prog 39 #[v] w fun e w' => e = .returned (valV (simpD bs)) ∧ Below w.heap.size w w' := by
  cases bs with
  | nil => exact simple_nil w v h
  | cons c r =>
    have h' := h
    obtain ⟨a, cap, rfl, h1, h2, h3⟩ := h
    obtain ⟨b, off, rfl, hc⟩ := h3 0 c rfl
    rw [Nat.add_zero] at hc
    have hby : Byt r := fun x hx => h2 x (by simp [hx])
    have ht := h'.tail
    simp only [List.length_cons] at h1 hl ht ⊢
    by_cases hcap : cap = 1
    · subst hcap
      have : r = [] := List.eq_nil_of_length_eq_zero (by omega)
      subst this
      have e : sliced (some ⟨b, off, none⟩) 1 (0 + 1) 1 1 = .slice (some ⟨b, off, none⟩) 0 0 := rfl
      simp only [List.length_nil] at ht
      rw [e] at ht
      by_cases k1 : c = 1
      · subst k1; exact simple_oneB w b off hc (fun w' hb => int_any w' _ [] (ht.below (Nat.le_refl _) hb) (by simp))
      · by_cases k2 : c = 2
        · subst k2; exact simple_twoB w b off hc (fun w' hb => text_any w' _ [] (ht.below (Nat.le_refl _) hb) (by simp))
        · by_cases k3 : c = 3
          · subst k3; exact simple_threeB w b off hc (fun w' hb => truth_any w' _ [] (ht.below (Nat.le_refl _) hb) (by simp))
          · exact simple_other w b off _ _ c [] (by omega) hl hc (h2 c (by simp)) k1 k2 k3
    · have e : sliced (some ⟨b, off, none⟩) 1 (r.length + 1) cap 1 = .slice (some ⟨b, off + 1, none⟩) (r.length + 1 - 1) (cap - 1) := by
        unfold sliced
        rw [if_neg hcap]
        simp [Addr.add]
      rw [e] at ht
      by_cases k1 : c = 1
      · subst k1; exact simple_oneA w b off _ cap r rfl h1 (by omega) hc hl hby (fun w' hb => int_any w' _ r (ht.below (Nat.le_refl _) hb) (by omega))
      · by_cases k2 : c = 2
        · subst k2; exact simple_twoA w b off _ cap r rfl h1 (by omega) hc hl hby (fun w' hb => text_any w' _ r (ht.below (Nat.le_refl _) hb) (by omega))
        · by_cases k3 : c = 3
          · subst k3; exact simple_threeA w b off _ cap r rfl h1 (by omega) hc hl hby (fun w' hb => truth_any w' _ r (ht.below (Nat.le_refl _) hb) (by omega))
          · exact simple_other w b off _ _ c r (by omega) hl hc (h2 c (by simp)) k1 k2 k3
end Go.Proofs.Ytjfkcafocindjaa
