/- Reading numbers, texts and values out of bytes: the document's side. -/
import Derived.Test.YtenfgahedbeekaaJAQ
namespace Go.Proofs.Ytenfgahedbeekaa
open Go.RowKit Go.Deep
set_option linter.unusedVariables false
set_option linter.unusedSimpArgs false

set_option maxRecDepth 100000 in
theorem or_shl9 {m d : Nat} (hm : m < 2 ^ 63) (hd : d ≤ 1) : bits .or .u64 (m : Int) ((d : Int) * 9223372036854775808) = ((m + d * 2 ^ 63 : Nat) : Int) := by
  have h := or_join (m := m) (c := d) (i := 9) hm (by omega) (by omega)
  rw [show ((d * 2 ^ (7 * 9) : Nat) : Int) = (d : Int) * 9223372036854775808 from by simp] at h
  rw [h]

set_option maxRecDepth 100000 in
set_option maxRecDepth 100000 in
set_option maxHeartbeats 1000000 in
set_option maxRecDepth 100000 in
theorem refUint_any (w : World) (v : Value) (bs : List Nat) (h : Rd w v bs) (hl : bs.length ≤ 1000000000000) :
    Calls Try.prog 60 #[v] w fun e w' => e = .returned (uintV (dec bs)) ∧ w' = w := by
  obtain ⟨a, cap, rfl, h1, h2, h3⟩ := h
  go_enter Try.func60, Try.ntmps60
  go_wp2
  go_loopw [5, 6] (fun nn ii wr => ∃ (m i : Nat), nn = .int .u64 (m : Int) ∧ ii = .int .i64 (i : Int) ∧ i ≤ 10 ∧ (i ≤ 9 → m < 2 ^ (7 * i)) ∧ m < 18446744073709551616 ∧ i ≤ bs.length ∧ dec bs = (if i = 10 then none else decAt m i (bs.drop i)) ∧ wr = w) (fun _ ii _ => 11 - (intOf ii).toNat)
  case atStart => exact ⟨0, 0, rfl, rfl, by omega, by simp, by omega, by omega, rfl, rfl⟩
  case round =>
    obtain ⟨m, i, rfl, rfl, hi, hm, hmm, hil, he, rfl⟩ := hrel
    rcases Nat.lt_or_ge i bs.length with hlt | hge
    · obtain ⟨c, hc⟩ : ∃ c, bs[i]? = some c := ⟨bs[i], by simp [hlt]⟩
      obtain ⟨b, off, rfl, hcell⟩ := h3 i c hc
      have hcb := h2.at hc
      have hd : bs.drop i = c :: bs.drop (i + 1) := by rw [List.drop_eq_getElem_cons hlt]; congr 1; simpa [hlt] using hc
      rw [hd] at he
      simp only [decAt] at he
      clear hd hc h1 h2 h3
      rcases Nat.lt_or_ge i 10 with h10 | h10
      · rw [if_neg (by omega)] at he
        by_cases hz : 0 < i ∧ c = 0
        · rw [if_pos (.inl hz)] at he
          have He := hid he
          obtain ⟨hi0, rfl⟩ := hz
          clear he hm
          rcases Nat.lt_or_ge i 9 with h9 | h9
          · go_wp2
            go_ret3
            exact ⟨by rw [He.out]; rfl, rfl⟩
          · obtain rfl : i = 9 := by omega
            go_wp2
            go_ret3
            exact ⟨by rw [He.out]; rfl, rfl⟩
        · rcases Nat.lt_or_ge i 9 with h9 | h9
          · rw [if_neg (by omega)] at he
            have hm' := hm (by omega)
            clear hm
            have q10 : ((i : Int) == 10) = false := by simp; omega
            have q9 : ((i : Int) == 9) = false := by simp; omega
            by_cases hC : c < 128
            · rw [if_pos hC] at he
              have hf := fits7 (i := i) hC (by omega) (fun e => by omega)
              have hcm : (c : Int) % 128 = c := by omega
              have E : Hid (Ending.returned (.tuple #[.int .u64 (bits .or .u64 (m : Int) (IntKind.u64.wrap ((c : Int) * 2 ^ (7 * i)))), .int .i64 ((i : Int) + 1), .int .i64 0]) = Ending.returned (uintV (dec bs))) := by
                rw [he, or_shl hm' hf (by omega)]; rfl
              clear he hf hm'
              rcases Nat.lt_or_ge i 1 with hi0 | hi0
              · clear hz
                go_wp2
                go_ret3
                exact ⟨E.out, rfl⟩
              · have hc0 : 0 < c := by omega
                have qc : ((c : Int) == 0) = false := by simp; omega
                clear hz
                go_wp2
                go_ret3
                exact ⟨E.out, rfl⟩
            · rw [if_neg hC] at he
              obtain ⟨d, rfl⟩ : ∃ d, c = 128 + d := ⟨c - 128, by omega⟩
              have hdl : d < 128 := by omega
              rw [show 128 + d - 128 = d from by omega] at he
              have hf := fits7 (i := i) hdl (by omega) (fun e => by omega)
              have hcm : (128 + (d : Int)) % 128 = d := by omega
              have hm2 : m + d * 2 ^ (7 * i) < 2 ^ (7 * (i + 1)) := by
                rw [pow7]
                have : d * 2 ^ (7 * i) ≤ 127 * 2 ^ (7 * i) := Nat.mul_le_mul_right _ (by omega)
                omega
              have hp : 2 ^ (7 * (i + 1)) ≤ 2 ^ 63 := Nat.pow_le_pow_right (by decide) (by omega)
              have hm3 : m + d * 2 ^ (7 * i) < 18446744073709551616 := by omega
              have E := hid (or_shl hm' hf (by omega))
              have He : Hid (dec bs = (if i + 1 = 10 then none else decAt (m + d * 2 ^ (7 * i)) (i + 1) (bs.drop (i + 1)))) := by rw [if_neg (by omega)]; exact he
              have Hm2 := hid hm2
              have Hm3 := hid hm3
              clear he hm2 hf hm' hz hm3 hp
              rcases Nat.lt_or_ge i 1 with hi0 | hi0
              · go_wp2
                go_roundw
                case rel => exact ⟨_, i + 1, congrArg (Value.int .u64) E.out, by go_num, by omega, fun _ => Hm2.out, Hm3.out, by omega, He.out, trivial⟩
                case measure => simp [intOf]; omega
              · have qc : ((128 + (d : Int)) == 0) = false := by simp; omega
                go_wp2
                go_roundw
                case rel => exact ⟨_, i + 1, congrArg (Value.int .u64) E.out, by go_num, by omega, fun _ => Hm2.out, Hm3.out, by omega, He.out, trivial⟩
                case measure => simp [intOf]; omega
          · obtain rfl : i = 9 := by omega
            have hm' : m < 2 ^ 63 := hm (by omega)
            have hc0 : 0 < c := by omega
            clear hm hz
            by_cases hC : c < 128
            · by_cases hC1 : 1 < c
              · rw [if_pos (by omega)] at he
                have He := hid he
                clear he
                have hcm : (c : Int) % 128 = c := by omega
                go_wp2
                go_ret3
                exact ⟨by rw [He.out]; rfl, rfl⟩
              · rw [if_neg (by omega), if_pos hC] at he
                obtain rfl : c = 1 := by omega
                have e9 := or_shl9 hm' (d := 1) (by omega)
                have E : Hid (Ending.returned (.tuple #[.int .u64 (bits .or .u64 (m : Int) 9223372036854775808), .int .i64 10, .int .i64 0]) = Ending.returned (uintV (dec bs))) := by
                  rw [show (9223372036854775808 : Int) = ((1 : Nat) : Int) * 9223372036854775808 from rfl, e9, he]; rfl
                clear he e9
                go_wp2
                go_ret3
                exact ⟨E.out, rfl⟩
            · obtain ⟨d, rfl⟩ : ∃ d, c = 128 + d := ⟨c - 128, by omega⟩
              rw [if_pos (by omega)] at he
              have He := hid he
              have hcm : (128 + (d : Int)) % 128 = d := by omega
              clear he
              by_cases hd1 : 1 < d
              · go_wp2
                go_ret3
                exact ⟨by rw [He.out]; rfl, rfl⟩
              · have E := hid (or_shl9 hm' (d := d) (by omega))
                have qc : ((128 + (d : Int)) == 0) = false := by simp; omega
                have hd2 : d ≤ 1 := by omega
                have hm3 := hid (show m + d * 2 ^ 63 < 18446744073709551616 from by omega)
                go_wp2
                go_roundw
                case rel => exact ⟨_, 10, congrArg (Value.int .u64) E.out, by go_num, by omega, fun x => by omega, hm3.out, by omega, He.out, trivial⟩
                case measure => simp [intOf]
      · obtain rfl : i = 10 := by omega
        rw [if_pos rfl] at he
        have He := hid he
        clear he
        go_wp2
        go_ret3
        exact ⟨by rw [He.out]; rfl, rfl⟩
    · have : i = bs.length := by omega
      have he' : dec bs = none := by
        rw [he, this, List.drop_length]; simp [decAt]
      have He := hid he'
      clear he he' h1 h2 h3
      subst this
      go_wp2
      go_ret3
      exact ⟨by rw [He.out]; rfl, rfl⟩
set_option maxRecDepth 100000 in
set_option maxHeartbeats 400000 in
set_option maxRecDepth 100000 in
theorem refInt_any (w : World) (v : Value) (bs : List Nat) (h : Rd w v bs) (hl : bs.length ≤ 1000000000000) :
    Calls Try.prog 106 #[v] w fun e w' => e = .returned (intV (dec bs)) ∧ w' = w := by
  have hu := refUint_any w v bs h hl
  cases hd : dec bs with
  | none =>
    rw [hd] at hu
    have Hu := hid hu
    clear hu hd h
    go_enter Try.func106, Try.ntmps106
    go_wp2_with (go_at_call 60; refine (Hid.out Hu).mono ?_; rintro e w' ⟨rfl, rfl⟩; simp only [uintV])
    go_ret3
    exact ⟨rfl, rfl⟩
  | some p =>
    obtain ⟨n, k⟩ := p
    rw [hd] at hu
    obtain ⟨_, hn, _⟩ := dec_back (by obtain ⟨_, _, _, _, hb, _⟩ := h; exact hb) hd
    have Hu := hid hu
    clear hu hd h
    by_cases h2 : n % 2 = 1
    · have h3 : ((n : Int) % 2 == 1) = true := by simp; omega
      have E : Hid (-((n : Int) / 2) - 1 = unzz n) := by
        refine hid ?_
        unfold unzz
        rw [if_pos h2]
        simp
      clear h2
      go_enter Try.func106, Try.ntmps106
      go_wp2_with (go_at_call 60; refine (Hid.out Hu).mono ?_; rintro e w' ⟨rfl, rfl⟩; simp only [uintV])
      go_ret3
      refine ⟨?_, rfl⟩
      simp only [intV]
      rw [← E.out]
      rfl
    · have h3 : ((n : Int) % 2 == 1) = false := by simp; omega
      have E : Hid ((n : Int) / 2 = unzz n) := by
        refine hid ?_
        unfold unzz
        rw [if_neg h2]
        simp
      clear h2
      go_enter Try.func106, Try.ntmps106
      go_wp2_with (go_at_call 60; refine (Hid.out Hu).mono ?_; rintro e w' ⟨rfl, rfl⟩; simp only [uintV])
      go_ret3
      refine ⟨?_, rfl⟩
      simp only [intV]
      rw [← E.out]
      rfl

set_option maxRecDepth 100000 in
set_option maxHeartbeats 400000 in
set_option maxRecDepth 100000 in
theorem reft_any (w : World) (v : Value) (bs : List Nat) (M : Nat) (hM : M ≤ 64) (h : Rd w v bs) (hl : bs.length ≤ 1000000000000) :
    Calls Try.prog 107 #[v, .int .u64 (M : Int)] w fun e w' => e = .returned (textV (textD M bs)) ∧ w' = w := by
  have hu := refUint_any w v bs h hl
  have hb : Byt bs := by obtain ⟨_, _, _, _, hb, _⟩ := h; exact hb
  obtain ⟨a, cap, rfl⟩ := h.len
  cases hd : dec bs with
  | none =>
    have E : Hid (textD M bs = .error 20) := by refine hid ?_; simp [textD, hd]
    rw [hd] at hu
    have Hu := hid hu
    clear hu hd h
    go_enter Try.func107, Try.ntmps107
    go_wp2_with (go_at_call 60; refine (Hid.out Hu).mono ?_; rintro e w' ⟨rfl, rfl⟩; simp only [uintV])
    go_ret3
    exact ⟨by rw [E.out]; rfl, rfl⟩
  | some p =>
    obtain ⟨n, k⟩ := p
    rw [hd] at hu
    obtain ⟨_, hn, hk, _, _⟩ := dec_back hb hd
    have Hu := hid hu
    by_cases hMn : M < n
    · have E : Hid (textD M bs = .error 21) := by refine hid ?_; simp [textD, hd, hMn]
      clear hu hd h
      go_enter Try.func107, Try.ntmps107
      go_wp2_with (go_at_call 60; refine (Hid.out Hu).mono ?_; rintro e w' ⟨rfl, rfl⟩; simp only [uintV])
      go_ret3
      exact ⟨by rw [E.out]; rfl, rfl⟩
    · by_cases hs : bs.length < k + n
      · have E : Hid (textD M bs = .error 20) := by refine hid ?_; simp [textD, hd, hMn, hs]
        clear hu hd h
        go_enter Try.func107, Try.ntmps107
        go_wp2_with (go_at_call 60; refine (Hid.out Hu).mono ?_; rintro e w' ⟨rfl, rfl⟩; simp only [uintV])
        go_ret3
        exact ⟨by rw [E.out]; rfl, rfl⟩
      · have E : Hid (textD M bs = .ok (((bs.drop k).take n), (k + n))) := by refine hid ?_; simp [textD, hd, hMn, hs]
        have hp := (h.part k (k + n) (by omega) (by omega)).conv
        have hcap : bs.length ≤ cap := by obtain ⟨_, _, e, hc, _⟩ := h; cases e; exact hc
        unfold sliced at hp
        rw [show k + n - k = n from by omega, Nat.mul_one, show List.drop k (List.take (k + n) bs) = (bs.drop k).take n from by rw [List.drop_take]; congr 1; omega] at hp
        clear hu hd h
        go_enter Try.func107, Try.ntmps107
        go_wp2_with (go_at_call 60; refine (Hid.out Hu).mono ?_; rintro e w' ⟨rfl, rfl⟩; simp only [uintV])
        all_goals (go_ret3; exact ⟨by rw [E.out]; rfl, rfl⟩)


set_option maxRecDepth 100000 in
set_option maxRecDepth 100000 in
set_option maxHeartbeats 400000 in
set_option maxRecDepth 100000 in
theorem rv_nil (w : World) (a : Option Addr) (cap : Nat) (fl : Bool) :
    Calls Try.prog 88 #[.slice a 0 cap, .bool fl] w fun e w' => e = .returned (valV none) ∧ Below w.heap.size w w' := by
  go_enter Try.func88, Try.ntmps88
  go_wp2
  refine bodyPost_ret (v := valV none) (by simp [results, Try.results88, go_sem, valV, zeroV]) rfl ⟨rfl, (Below.refl _ _).alloc (Nat.le_refl _) _⟩

set_option maxRecDepth 100000 in
set_option maxRecDepth 100000 in
set_option maxHeartbeats 400000 in
set_option maxRecDepth 100000 in
theorem rv_oneA (w : World) (b off n cap : Nat) (fl : Bool) (r : List Nat) (hn : n = r.length + 1) (h1 : n ≤ cap) (hcap : 1 < cap) (hc : w.cell? ⟨b, off, none⟩ = some (.int .u8 1)) (hl : n ≤ 100000000000) (hby : Byt r)
    (hi : ∀ w' : World, Below w.heap.size w w' → Calls Try.prog 106 #[.slice (some ⟨b, off + 1, none⟩) (n - 1) (cap - 1)] w' fun e w'' => e = .returned (intV (dec r)) ∧ w'' = w') :
    Calls Try.prog 88 #[.slice (some ⟨b, off, none⟩) n cap, .bool fl] w fun e w' => e = .returned (valV (simpD (1 :: r))) ∧ Below w.heap.size w w' := by
  have Hi := hid hi
  have hb := World.block_lt_of_cell? _ _ hc
  simp only at hb
  have q : ((n : Int) == 0) = false := by simp; omega
  have q1 : ¬ cap = 1 := by omega
  have q2 : 1 ≤ n := by omega
  clear hi
  cases hd : dec r with
  | none =>
    rw [hd] at Hi
    clear hn
    have E : Hid (simpD (1 :: r) = none) := by refine hid ?_; simp [simpD, hd]
    go_enter Try.func88, Try.ntmps88
    go_wp2_with (go_at_call 106; refine (Hid.out Hi _ (((Below.refl _ _).alloc (Nat.le_refl _) _).alloc (by simp) _)).mono ?_; rintro e w' ⟨rfl, rfl⟩; simp only [intV, textV])
    refine bodyPost_ret (v := valV none) (by simp [results, Try.results88, go_sem, valV, zeroV]) rfl ⟨by rw [E.out], ((Below.refl _ _).alloc (Nat.le_refl _) _).alloc (by simp) _⟩
  | some p =>
    obtain ⟨m, k⟩ := p
    have hk := (dec_back hby hd).2.2.2.2
    rw [hd] at Hi
    clear hn
    have E : Hid (simpD (1 :: r) = some (mkI (unzz m), 1 + k)) := by refine hid ?_; simp [simpD, hd]
    go_enter Try.func88, Try.ntmps88
    go_wp2_with (go_at_call 106; refine (Hid.out Hi _ (((Below.refl _ _).alloc (Nat.le_refl _) _).alloc (by simp) _)).mono ?_; rintro e w' ⟨rfl, rfl⟩; simp only [intV, textV])
    refine bodyPost_ret (v := valV (some (mkI (unzz m), 1 + k))) (by simp [results, Try.results88, go_sem, valV, zeroV, mkI, mkT, mkB, Hd.v]; try omega) rfl ⟨by rw [E.out], ((Below.refl _ _).alloc (Nat.le_refl _) _).alloc (by simp) _⟩

set_option maxRecDepth 100000 in
set_option maxRecDepth 100000 in
set_option maxHeartbeats 400000 in
set_option maxRecDepth 100000 in
theorem rv_oneB (w : World) (b off : Nat) (fl : Bool) (hc : w.cell? ⟨b, off, none⟩ = some (.int .u8 1))
    (hi : ∀ w' : World, Below w.heap.size w w' → Calls Try.prog 106 #[.slice (some ⟨b, off, none⟩) 0 0] w' fun e w'' => e = .returned (intV (dec [])) ∧ w'' = w') :
    Calls Try.prog 88 #[.slice (some ⟨b, off, none⟩) 1 1, .bool fl] w fun e w' => e = .returned (valV (simpD (1 :: []))) ∧ Below w.heap.size w w' := by
  have Hi := hid hi
  have hb := World.block_lt_of_cell? _ _ hc
  simp only at hb
  clear hi
  · have hd : dec [] = none := rfl
    rw [hd] at Hi
    have E : Hid (simpD (1 :: []) = none) := by refine hid ?_; simp [simpD, hd]
    go_enter Try.func88, Try.ntmps88
    go_wp2_with (go_at_call 106; refine (Hid.out Hi _ (((Below.refl _ _).alloc (Nat.le_refl _) _).alloc (by simp) _)).mono ?_; rintro e w' ⟨rfl, rfl⟩; simp only [intV, textV])
    refine bodyPost_ret (v := valV none) (by simp [results, Try.results88, go_sem, valV, zeroV]) rfl ⟨by rw [E.out], ((Below.refl _ _).alloc (Nat.le_refl _) _).alloc (by simp) _⟩

set_option maxRecDepth 100000 in
set_option maxRecDepth 100000 in
set_option maxHeartbeats 400000 in
set_option maxRecDepth 100000 in
theorem rv_twoA (w : World) (b off n cap : Nat) (fl : Bool) (r : List Nat) (hn : n = r.length + 1) (h1 : n ≤ cap) (hcap : 1 < cap) (hc : w.cell? ⟨b, off, none⟩ = some (.int .u8 2)) (hl : n ≤ 100000000000) (hby : Byt r)
    (hi : ∀ w' : World, Below w.heap.size w w' → Calls Try.prog 107 #[.slice (some ⟨b, off + 1, none⟩) (n - 1) (cap - 1), .int .u64 64] w' fun e w'' => e = .returned (textV (textD 64 r)) ∧ w'' = w') :
    Calls Try.prog 88 #[.slice (some ⟨b, off, none⟩) n cap, .bool fl] w fun e w' => e = .returned (valV (simpD (2 :: r))) ∧ Below w.heap.size w w' := by
  have Hi := hid hi
  have hb := World.block_lt_of_cell? _ _ hc
  simp only at hb
  have q : ((n : Int) == 0) = false := by simp; omega
  have q1 : ¬ cap = 1 := by omega
  have q2 : 1 ≤ n := by omega
  clear hi
  cases hd : textD 64 r with
  | error x =>
    have hx := textD_bad hd
    rw [hd] at Hi
    clear hn
    have E : Hid (simpD (2 :: r) = none) := by refine hid ?_; simp [simpD, hd]
    go_enter Try.func88, Try.ntmps88
    go_wp2_with (go_at_call 107; refine (Hid.out Hi _ (((Below.refl _ _).alloc (Nat.le_refl _) _).alloc (by simp) _)).mono ?_; rintro e w' ⟨rfl, rfl⟩; simp only [intV, textV])
    refine bodyPost_ret (v := valV none) (by simp [results, Try.results88, go_sem, valV, zeroV]) rfl ⟨by rw [E.out], ((Below.refl _ _).alloc (Nat.le_refl _) _).alloc (by simp) _⟩
  | ok pp =>
    obtain ⟨s, k⟩ := pp
    have hk : k ≤ 100000000000 := by have := (textD_le hby hd).1; omega
    rw [hd] at Hi
    clear hn
    have E : Hid (simpD (2 :: r) = some (mkT (ofB s), 1 + k)) := by refine hid ?_; simp [simpD, hd]
    go_enter Try.func88, Try.ntmps88
    go_wp2_with (go_at_call 107; refine (Hid.out Hi _ (((Below.refl _ _).alloc (Nat.le_refl _) _).alloc (by simp) _)).mono ?_; rintro e w' ⟨rfl, rfl⟩; simp only [intV, textV])
    refine bodyPost_ret (v := valV (some (mkT (ofB s), 1 + k))) (by simp [results, Try.results88, go_sem, valV, zeroV, mkI, mkT, mkB, Hd.v]; try omega) rfl ⟨by rw [E.out], ((Below.refl _ _).alloc (Nat.le_refl _) _).alloc (by simp) _⟩

set_option maxRecDepth 100000 in
set_option maxRecDepth 100000 in
set_option maxHeartbeats 400000 in
set_option maxRecDepth 100000 in
theorem rv_twoB (w : World) (b off : Nat) (fl : Bool) (hc : w.cell? ⟨b, off, none⟩ = some (.int .u8 2))
    (hi : ∀ w' : World, Below w.heap.size w w' → Calls Try.prog 107 #[.slice (some ⟨b, off, none⟩) 0 0, .int .u64 64] w' fun e w'' => e = .returned (textV (textD 64 [])) ∧ w'' = w') :
    Calls Try.prog 88 #[.slice (some ⟨b, off, none⟩) 1 1, .bool fl] w fun e w' => e = .returned (valV (simpD (2 :: []))) ∧ Below w.heap.size w w' := by
  have Hi := hid hi
  have hb := World.block_lt_of_cell? _ _ hc
  simp only at hb
  clear hi
  · have hd : textD 64 [] = .error 20 := rfl
    rw [hd] at Hi
    have E : Hid (simpD (2 :: []) = none) := by refine hid ?_; simp [simpD, hd]
    go_enter Try.func88, Try.ntmps88
    go_wp2_with (go_at_call 107; refine (Hid.out Hi _ (((Below.refl _ _).alloc (Nat.le_refl _) _).alloc (by simp) _)).mono ?_; rintro e w' ⟨rfl, rfl⟩; simp only [intV, textV])
    refine bodyPost_ret (v := valV none) (by simp [results, Try.results88, go_sem, valV, zeroV]) rfl ⟨by rw [E.out], ((Below.refl _ _).alloc (Nat.le_refl _) _).alloc (by simp) _⟩

set_option maxRecDepth 100000 in
set_option maxRecDepth 100000 in
set_option maxHeartbeats 400000 in
set_option maxRecDepth 100000 in
theorem rv_three0 (w : World) (b off cap : Nat) (fl : Bool) (hc : w.cell? ⟨b, off, none⟩ = some (.int .u8 3)) :
    Calls Try.prog 88 #[.slice (some ⟨b, off, none⟩) 1 cap, .bool fl] w fun e w' => e = .returned (valV (simpD [3])) ∧ Below w.heap.size w w' := by
  have hb := World.block_lt_of_cell? _ _ hc
  simp only at hb
  have E : Hid (simpD [3] = none) := by refine hid ?_; simp [simpD]
  go_enter Try.func88, Try.ntmps88
  go_wp2
  refine bodyPost_ret (v := valV none) (by simp [results, Try.results88, go_sem, valV, zeroV]) rfl ⟨by rw [E.out], ((Below.refl _ _).alloc (Nat.le_refl _) _).alloc (by simp) _⟩

set_option maxRecDepth 100000 in
set_option maxRecDepth 100000 in
set_option maxHeartbeats 400000 in
set_option maxRecDepth 100000 in
theorem rv_three (w : World) (b off n cap x : Nat) (fl : Bool) (r : List Nat) (hn : 2 ≤ n) (hl : n ≤ 100000000000) (hx : x < 256) (hc : w.cell? ⟨b, off, none⟩ = some (.int .u8 3)) (hc1 : w.cell? ⟨b, off + 1, none⟩ = some (.int .u8 (x : Int))) :
    Calls Try.prog 88 #[.slice (some ⟨b, off, none⟩) n cap, .bool fl] w fun e w' => e = .returned (valV (simpD (3 :: x :: r))) ∧ Below w.heap.size w w' := by
  have hb := World.block_lt_of_cell? _ _ hc
  simp only at hb
  have q : ((n : Int) == 0) = false := by simp; omega
  have q1 : 0 < n := by omega
  have q2 : 1 < n := by omega
  have q3 : decide ((n : Int) < 2) = false := by simp; omega
  by_cases h1 : x ≤ 1
  · have E : Hid (simpD (3 :: x :: r) = some (mkB x, 2)) := by refine hid ?_; simp [simpD, h1]
    have q4 : decide ((1 : Int) < (x : Int)) = false := by simp; omega
    go_enter Try.func88, Try.ntmps88
    go_wp2
    refine bodyPost_ret (v := valV (some (mkB x, 2))) (by simp [results, Try.results88, go_sem, valV, zeroV, mkB, Hd.v]) rfl ⟨by rw [E.out], ((Below.refl _ _).alloc (Nat.le_refl _) _).alloc (by simp) _⟩
  · have E : Hid (simpD (3 :: x :: r) = none) := by refine hid ?_; simp [simpD, h1]
    have q4 : decide ((1 : Int) < (x : Int)) = true := by simp; omega
    go_enter Try.func88, Try.ntmps88
    go_wp2
    refine bodyPost_ret (v := valV none) (by simp [results, Try.results88, go_sem, valV, zeroV]) rfl ⟨by rw [E.out], ((Below.refl _ _).alloc (Nat.le_refl _) _).alloc (by simp) _⟩

set_option maxRecDepth 100000 in
set_option maxRecDepth 100000 in
set_option maxHeartbeats 400000 in
set_option maxRecDepth 100000 in
theorem rv_other (w : World) (b off n cap c : Nat) (fl : Bool) (r : List Nat) (hn : 0 < n) (hl : n ≤ 100000000000) (hc : w.cell? ⟨b, off, none⟩ = some (.int .u8 (c : Int))) (hcb : c < 256) (c1 : c ≠ 1) (c2 : c ≠ 2) (c3 : c ≠ 3) (c4 : c ≠ 4) :
    Calls Try.prog 88 #[.slice (some ⟨b, off, none⟩) n cap, .bool fl] w fun e w' => e = .returned (valV (simpD (c :: r))) ∧ Below w.heap.size w w' := by
  have hb := World.block_lt_of_cell? _ _ hc
  simp only at hb
  have q : ((n : Int) == 0) = false := by simp; omega
  have k1 : ((c : Int) == 1) = false := by simp; omega
  have k2 : ((c : Int) == 2) = false := by simp; omega
  have k3 : ((c : Int) == 3) = false := by simp; omega
  have k4 : ((c : Int) == 4) = false := by simp; omega
  have E : Hid (simpD (c :: r) = none) := by refine hid ?_; simp [simpD, c1, c2, c3]
  clear c1 c2 c3 c4
  go_enter Try.func88, Try.ntmps88
  go_wp2
  refine bodyPost_ret (v := valV none) (by simp [results, Try.results88, go_sem, valV, zeroV]) rfl ⟨by rw [E.out], ((Below.refl _ _).alloc (Nat.le_refl _) _).alloc (by simp) _⟩

set_option maxRecDepth 100000 in
theorem rv_flat (w : World) (v : Value) (fl : Bool) (c : Nat) (r : List Nat) (h : Rd w v (c :: r)) (hl : r.length + 1 ≤ 100000000000) (hc4 : c ≠ 4) :
    Calls Try.prog 88 #[v, .bool fl] w fun e w' => e = .returned (valV (simpD (c :: r))) ∧ Below w.heap.size w w' := by
  have h' := h
  obtain ⟨a, cap, rfl, h1, h2, h3⟩ := h
  obtain ⟨b, off, rfl, hc⟩ := h3 0 c rfl
  rw [Nat.add_zero] at hc
  have hby : Byt r := fun x hx => h2 x (by simp [hx])
  have ht := h'.tail
  simp only [List.length_cons] at h1 hl ht ⊢
  by_cases k3 : c = 3
  · subst k3
    cases r with
    | nil => exact rv_three0 w b off cap fl hc
    | cons x r =>
      obtain ⟨b', off', e, hx⟩ := h3 1 x rfl
      cases e
      exact rv_three w b off _ cap x fl r (by simp) hl (h2 x (by simp)) hc hx
  · by_cases hcap : cap = 1
    · subst hcap
      have : r = [] := List.eq_nil_of_length_eq_zero (by omega)
      subst this
      have e : sliced (some ⟨b, off, none⟩) 1 (0 + 1) 1 1 = .slice (some ⟨b, off, none⟩) 0 0 := rfl
      simp only [List.length_nil] at ht
      rw [e] at ht
      by_cases k1 : c = 1
      · subst k1; exact rv_oneB w b off fl hc (fun w' hb => refInt_any w' _ [] (ht.below (Nat.le_refl _) hb) (by simp))
      · by_cases k2 : c = 2
        · subst k2; exact rv_twoB w b off fl hc (fun w' hb => reft_any w' _ [] 64 (by omega) (ht.below (Nat.le_refl _) hb) (by simp))
        · exact rv_other w b off _ _ c fl [] (by omega) hl hc (h2 c (by simp)) k1 k2 k3 hc4
    · have e : sliced (some ⟨b, off, none⟩) 1 (r.length + 1) cap 1 = .slice (some ⟨b, off + 1, none⟩) (r.length + 1 - 1) (cap - 1) := by
        unfold sliced
        rw [if_neg hcap]
        simp [Addr.add]
      rw [e] at ht
      by_cases k1 : c = 1
      · subst k1; exact rv_oneA w b off _ cap fl r rfl h1 (by omega) hc hl hby (fun w' hb => refInt_any w' _ r (ht.below (Nat.le_refl _) hb) (by omega))
      · by_cases k2 : c = 2
        · subst k2; exact rv_twoA w b off _ cap fl r rfl h1 (by omega) hc hl hby (fun w' hb => reft_any w' _ r 64 (by omega) (ht.below (Nat.le_refl _) hb) (by omega))
        · exact rv_other w b off _ _ c fl r (by omega) hl hc (h2 c (by simp)) k1 k2 k3 hc4
def W2 (w : World) : World := (w.alloc (.cells #[.int .i64 0, .int .i64 0, .string ⟨#[]⟩, .int .i64 0, .slice none 0 0] 31)).alloc (.cells #[.int .i64 4, .int .i64 0, .string ⟨#[]⟩, .int .i64 0, .slice none 0 0] 31)
set_option maxRecDepth 100000 in
theorem W2_below (w : World) : Below w.heap.size w (W2 w) := ((Below.refl _ _).alloc (Nat.le_refl _) _).alloc (by simp) _

structure Rec (w : World) (b off n cap : Nat) (r : List Nat) : Prop where
  rd : Rd w (.slice (some ⟨b, off, none⟩) n cap) (4 :: r)
  hl : n ≤ 1000000000
  hc : w.cell? ⟨b, off, none⟩ = some (.int .u8 4)
set_option maxRecDepth 100000 in
theorem Rec.n {w b off n cap r} (h : Rec w b off n cap r) : n = r.length + 1 ∧ n ≤ cap := by
  have := h.rd.cap
  simp at this
  omega
set_option maxRecDepth 100000 in
theorem Rec.byt {w b off n cap r} (h : Rec w b off n cap r) : Byt r := by obtain ⟨_, _, _, _, hb, _⟩ := h.rd; exact fun x hx => hb x (by simp [hx])
set_option maxRecDepth 100000 in
theorem Rec.c1 {w b off n cap r} (h : Rec w b off n cap r) {a' : Option Addr} {m c' : Nat} (ea : a' = (if cap = 1 then some ⟨b, off, none⟩ else some ⟨b, off + 1, none⟩)) (em : m = n - 1) (ec : c' = cap - 1) :
    Calls Try.prog 60 #[.slice a' m c'] (W2 w) fun e w' => e = .returned (uintV (dec r)) ∧ w' = W2 w := by
  have hn := h.n
  have := h.hl
  exact refUint_any _ _ r ((h.rd.below (Nat.le_refl _) (W2_below w)).sl 1 (by simp) (by rw [ea]; split <;> simp_all [Addr.add]) em ec) (by omega)
set_option maxRecDepth 100000 in
theorem Rec.at {w wr : World} {b off n cap r} (h : Rec w b off n cap r) (hb : Below w.heap.size w wr) {i : Nat} (hi : i ≤ r.length) {a' : Option Addr} {m c' : Nat} (ea : a' = (if cap = 1 + i then some ⟨b, off, none⟩ else some ⟨b, off + (1 + i), none⟩)) (em : m = n - (1 + i)) (ec : c' = cap - (1 + i)) : Rd wr (.slice a' m c') (r.drop i) := by
  have hs := (h.rd.below (Nat.le_refl _) hb).sl (1 + i) (by simp; omega) (a' := a') (m := m) (c' := c') (by rw [ea]; split <;> simp_all [Addr.add]) em ec
  rw [show List.drop (1 + i) (4 :: r) = r.drop i from by rw [Nat.add_comm]; rfl] at hs
  exact hs
set_option maxRecDepth 100000 in
theorem Rec.c2 {w b off n cap r} (h : Rec w b off n cap r) {i : Nat} (hi : i ≤ r.length) {a' : Option Addr} {m c' : Nat} (ea : a' = (if cap = 1 + i then some ⟨b, off, none⟩ else some ⟨b, off + (1 + i), none⟩)) (em : m = n - (1 + i)) (ec : c' = cap - (1 + i)) :
    Calls Try.prog 60 #[.slice a' m c'] (W2 w) fun e w' => e = .returned (uintV (dec (r.drop i))) ∧ w' = W2 w := by
  have hn := h.n
  have := h.hl
  exact refUint_any _ _ _ (h.at (W2_below w) hi ea em ec) (by simp; omega)

set_option maxRecDepth 100000 in
set_option maxRecDepth 100000 in
set_option maxHeartbeats 1000000 in
set_option maxRecDepth 100000 in
theorem rvr_none1 (w : World) (b off n cap : Nat) (r : List Nat) (fl : Bool) (h : Rec w b off n cap r) (hd : dec r = none) :
    Calls Try.prog 88 #[.slice (some ⟨b, off, none⟩) n cap, .bool fl] w fun e w' => e = .returned (valV none) ∧ Below w.heap.size w w' := by
  have hn := h.n
  have hl := h.hl
  have hc := h.hc
  have hb := World.block_lt_of_cell? _ _ hc
  simp only at hb
  have q0 : ((n : Int) == 0) = false := by simp; omega
  have q1 : 0 < n := by omega
  have q2 : 1 ≤ n := by omega
  have H1 : Hid (∀ (a' : Option Addr) (m c' : Nat), a' = (if cap = 1 then some ⟨b, off, none⟩ else some ⟨b, off + 1, none⟩) → m = n - 1 → c' = cap - 1 → Calls Try.prog 60 #[.slice a' m c'] (W2 w) fun e w' => e = .returned (uintV (dec r)) ∧ w' = W2 w) := hid fun a' m c' ea em ec => h.c1 ea em ec
  rw [hd] at H1
  unfold W2 at H1
  have hncap := hn.2
  clear h hn
  by_cases hc1 : cap = 1
  · subst hc1
    obtain rfl : n = 1 := by omega
    go_enter Try.func88, Try.ntmps88
    go_wp2_with (go_at_call 60; (refine (Hid.out H1 _ _ _ (by simp) (by omega) (by omega)).mono ?_; rintro e w2 ⟨rfl, rfl⟩; simp only [uintV]))
    refine bodyPost_ret (v := valV none) (by simp [results, Try.results88, go_sem, valV, zeroV]) rfl ⟨rfl, ((Below.refl _ _).alloc (Nat.le_refl _) _).alloc (by simp) _⟩
  · go_enter Try.func88, Try.ntmps88
    go_wp2_with (go_at_call 60; (refine (Hid.out H1 _ _ _ (by rw [if_neg hc1]) (by omega) (by omega)).mono ?_; rintro e w2 ⟨rfl, rfl⟩; simp only [uintV]))
    refine bodyPost_ret (v := valV none) (by simp [results, Try.results88, go_sem, valV, zeroV]) rfl ⟨rfl, ((Below.refl _ _).alloc (Nat.le_refl _) _).alloc (by simp) _⟩

set_option maxRecDepth 100000 in
set_option maxRecDepth 100000 in
set_option maxHeartbeats 1000000 in
set_option maxRecDepth 100000 in
theorem rvr_none2 (w : World) (b off n cap : Nat) (r : List Nat) (fl : Bool) (h : Rec w b off n cap r) (q size : Nat) (hd : dec r = some (q, size)) (hx : dec (r.drop size) = none ∨ fl = false ∨ 15 < q ∨ ∃ c k, dec (r.drop size) = some (c, k) ∧ 12 < c) :
    Calls Try.prog 88 #[.slice (some ⟨b, off, none⟩) n cap, .bool fl] w fun e w' => e = .returned (valV none) ∧ Below w.heap.size w w' := by
  have hn := h.n
  have hl := h.hl
  have hc := h.hc
  have hb := World.block_lt_of_cell? _ _ hc
  simp only at hb
  have q0 : ((n : Int) == 0) = false := by simp; omega
  have q1 : 0 < n := by omega
  have q2 : 1 ≤ n := by omega
  obtain ⟨_, hq64, hsz, hsz0, hsz1⟩ := dec_back h.byt hd
  have H1 : Hid (∀ (a' : Option Addr) (m c' : Nat), a' = (if cap = 1 then some ⟨b, off, none⟩ else some ⟨b, off + 1, none⟩) → m = n - 1 → c' = cap - 1 → Calls Try.prog 60 #[.slice a' m c'] (W2 w) fun e w' => e = .returned (uintV (dec r)) ∧ w' = W2 w) := hid fun a' m c' ea em ec => h.c1 ea em ec
  rw [hd] at H1
  have H2 : Hid (∀ (a' : Option Addr) (m c' : Nat), a' = (if cap = 1 + size then some ⟨b, off, none⟩ else some ⟨b, off + (1 + size), none⟩) → m = n - (1 + size) → c' = cap - (1 + size) → Calls Try.prog 60 #[.slice a' m c'] (W2 w) fun e w' => e = .returned (uintV (dec (r.drop size))) ∧ w' = W2 w) := hid fun a' m c' ea em ec => h.c2 hsz ea em ec
  have hc64 : ∀ c k, dec (r.drop size) = some (c, k) → c < 18446744073709551616 := fun c k e => (dec_back (h.byt.drop size) e).2.1
  unfold W2 at H1 H2
  have hncap := hn.2
  have hsn : 1 + size ≤ n := by omega
  have hc1 : ¬ cap = 1 := by omega
  have Hn := hid hn.1
  clear h hn
  cases hd2 : dec (r.drop size) with
  | none =>
    rw [hd2] at H2
    clear hx hc64
    by_cases hcs : cap = 1 + size
    · subst hcs
      go_enter Try.func88, Try.ntmps88
      go_wp2_with (first
        | (go_at_call 60; have hno := hm1; (refine (Hid.out H2 _ _ _ (by simp) (by omega) (by omega)).mono ?_; rintro e w2 ⟨rfl, rfl⟩; simp only [uintV]))
        | (go_at_call 60; (refine (Hid.out H1 _ _ _ (by rw [if_neg hc1]) (by omega) (by omega)).mono ?_; rintro e w2 ⟨rfl, rfl⟩; simp only [uintV]; have hm1 : True := trivial)))
      refine bodyPost_ret (v := valV none) (by simp [results, Try.results88, go_sem, valV, zeroV]) rfl ⟨rfl, ((Below.refl _ _).alloc (Nat.le_refl _) _).alloc (by simp) _⟩
    · go_enter Try.func88, Try.ntmps88
      go_wp2_with (first
        | (go_at_call 60; have hno := hm1; (refine (Hid.out H2 _ _ _ (by rw [if_neg hcs]) (by omega) (by omega)).mono ?_; rintro e w2 ⟨rfl, rfl⟩; simp only [uintV]))
        | (go_at_call 60; (refine (Hid.out H1 _ _ _ (by rw [if_neg hc1]) (by omega) (by omega)).mono ?_; rintro e w2 ⟨rfl, rfl⟩; simp only [uintV]; have hm1 : True := trivial)))
      refine bodyPost_ret (v := valV none) (by simp [results, Try.results88, go_sem, valV, zeroV]) rfl ⟨rfl, ((Below.refl _ _).alloc (Nat.le_refl _) _).alloc (by simp) _⟩
  | some p =>
    obtain ⟨c, k⟩ := p
    have hc64' := hc64 c k hd2
    have hcs : ¬ cap = 1 + size := by
      have := Hn.out
      intro e
      rw [List.drop_eq_nil_of_le (by omega)] at hd2
      cases hd2
    rw [hd2] at H2
    have hx' : fl = false ∨ 15 < q ∨ 12 < c := by
      rcases hx with e | e | e | ⟨c', k', e, e'⟩
      · rw [hd2] at e; cases e
      · exact .inl e
      · exact .inr (.inl e)
      · rw [hd2] at e; cases e; exact .inr (.inr e')
    clear hx hc64
    cases fl with
    | false =>
      clear hx'
      go_enter Try.func88, Try.ntmps88
      go_wp2_with (first
        | (go_at_call 60; have hno := hm1; (refine (Hid.out H2 _ _ _ (by rw [if_neg hcs]) (by omega) (by omega)).mono ?_; rintro e w2 ⟨rfl, rfl⟩; simp only [uintV]))
        | (go_at_call 60; (refine (Hid.out H1 _ _ _ (by rw [if_neg hc1]) (by omega) (by omega)).mono ?_; rintro e w2 ⟨rfl, rfl⟩; simp only [uintV]; have hm1 : True := trivial)))
      refine bodyPost_ret (v := valV none) (by simp [results, Try.results88, go_sem, valV, zeroV]) rfl ⟨rfl, ((Below.refl _ _).alloc (Nat.le_refl _) _).alloc (by simp) _⟩
    | true =>
      by_cases hq : 15 < q
      · clear hx'
        go_enter Try.func88, Try.ntmps88
        go_wp2_with (first
          | (go_at_call 60; have hno := hm1; (refine (Hid.out H2 _ _ _ (by rw [if_neg hcs]) (by omega) (by omega)).mono ?_; rintro e w2 ⟨rfl, rfl⟩; simp only [uintV]))
          | (go_at_call 60; (refine (Hid.out H1 _ _ _ (by rw [if_neg hc1]) (by omega) (by omega)).mono ?_; rintro e w2 ⟨rfl, rfl⟩; simp only [uintV]; have hm1 : True := trivial)))
        refine bodyPost_ret (v := valV none) (by simp [results, Try.results88, go_sem, valV, zeroV]) rfl ⟨rfl, ((Below.refl _ _).alloc (Nat.le_refl _) _).alloc (by simp) _⟩
      · have hc12 : 12 < c := by
          rcases hx' with e | e | e
          · cases e
          · exact absurd e hq
          · exact e
        clear hx'
        go_enter Try.func88, Try.ntmps88
        go_wp2_with (first
          | (go_at_call 60; have hno := hm1; (refine (Hid.out H2 _ _ _ (by rw [if_neg hcs]) (by omega) (by omega)).mono ?_; rintro e w2 ⟨rfl, rfl⟩; simp only [uintV]))
          | (go_at_call 60; (refine (Hid.out H1 _ _ _ (by rw [if_neg hc1]) (by omega) (by omega)).mono ?_; rintro e w2 ⟨rfl, rfl⟩; simp only [uintV]; have hm1 : True := trivial)))
        refine bodyPost_ret (v := valV none) (by simp [results, Try.results88, go_sem, valV, zeroV]) rfl ⟨rfl, ((Below.refl _ _).alloc (Nat.le_refl _) _).alloc (by simp) _⟩

set_option maxRecDepth 100000 in
theorem rv_false (w : World) (v : Value) (bs : List Nat) (h : Rd w v bs) (hl : bs.length ≤ 1000000000) :
    Calls Try.prog 88 #[v, .bool false] w fun e w' => e = .returned (valV (simpD bs)) ∧ Below w.heap.size w w' := by
  cases bs with
  | nil => obtain ⟨a, cap, rfl⟩ := h.len; exact rv_nil w a cap false
  | cons c r =>
    by_cases h4 : c = 4
    · subst h4
      have h' := h
      obtain ⟨a, cap, rfl, h1, h2, h3⟩ := h
      obtain ⟨b, off, rfl, hc⟩ := h3 0 4 rfl
      rw [Nat.add_zero] at hc
      rw [show simpD (4 :: r) = none from by simp [simpD]]
      cases hd : dec r with
      | none => exact rvr_none1 w b off _ cap r false ⟨h', hl, hc⟩ hd
      | some p => obtain ⟨q, size⟩ := p; exact rvr_none2 w b off _ cap r false ⟨h', hl, hc⟩ q size hd (.inr (.inl rfl))
    · exact rv_flat w v false c r h (by simp at hl; omega) h4
def Bx (q : Nat) (v : Value) : Array Value := #[.int .i64 4, .int .i64 0, .string ⟨#[]⟩, .int .i64 (q : Int), v]
set_option maxRecDepth 100000 in
theorem Bx_set (q : Nat) (v u : Value) : (Bx q v).setIfInBounds 4 u = Bx q u := rfl
def Zx : Array Value := #[.int .i64 0, .int .i64 0, .string ⟨#[]⟩, .int .i64 0, .slice none 0 0]

set_option maxRecDepth 100000 in
set_option maxRecDepth 100000 in
set_option maxHeartbeats 1000000 in
set_option maxRecDepth 100000 in
theorem rvr_yes (w : World) (b off n cap : Nat) (r : List Nat) (h : Rec w b off n cap r) (q size : Nat) (hd : dec r = some (q, size)) (hq : ¬ 15 < q) (c k : Nat) (hd2 : dec (r.drop size) = some (c, k)) (hc12 : ¬ 12 < c) :
    Calls Try.prog 88 #[.slice (some ⟨b, off, none⟩) n cap, .bool true] w fun e w' => Below w.heap.size w w' ∧ ValP w.heap.size (valD (4 :: r)) e w' := by
  have hn := h.n
  have hl := h.hl
  have hc := h.hc
  have hb := World.block_lt_of_cell? _ _ hc
  simp only at hb
  have q0 : ((n : Int) == 0) = false := by simp; omega
  have q1 : 0 < n := by omega
  have q2 : 1 ≤ n := by omega
  obtain ⟨_, hq64, hsz, hsz0, hsz1⟩ := dec_back h.byt hd
  obtain ⟨_, _, hk, hk0, hk1⟩ := dec_back (h.byt.drop size) hd2
  have H1 : Hid (∀ (a' : Option Addr) (m c' : Nat), a' = (if cap = 1 then some ⟨b, off, none⟩ else some ⟨b, off + 1, none⟩) → m = n - 1 → c' = cap - 1 → Calls Try.prog 60 #[.slice a' m c'] (W2 w) fun e w' => e = .returned (uintV (dec r)) ∧ w' = W2 w) := hid fun a' m c' ea em ec => h.c1 ea em ec
  rw [hd] at H1
  have H2 : Hid (∀ (a' : Option Addr) (m c' : Nat), a' = (if cap = 1 + size then some ⟨b, off, none⟩ else some ⟨b, off + (1 + size), none⟩) → m = n - (1 + size) → c' = cap - (1 + size) → Calls Try.prog 60 #[.slice a' m c'] (W2 w) fun e w' => e = .returned (uintV (dec (r.drop size))) ∧ w' = W2 w) := hid fun a' m c' ea em ec => h.c2 hsz ea em ec
  rw [hd2] at H2
  unfold W2 at H1 H2
  have hncap := hn.2
  have hsn : 1 + size ≤ n := by omega
  have hc1 : ¬ cap = 1 := by omega
  rw [List.length_drop] at hk
  have hcs : ¬ cap = 1 + size := by omega
  have V : Hid (valD (4 :: r) = match goD simpD (r.drop size) c k [] with | none => none | some (fs, k') => some (⟨4, 0, ⟨#[]⟩, (q : Int), fs⟩, 1 + size + k')) := by
    refine hid ?_
    simp only [valD, if_true, hd, if_neg hq, rowD, hd2, if_neg hc12]
    rfl
  have Hn := hid hn.1
  have HR := hid h
  have hby := hid h.byt
  clear h hn
  go_enter Try.func88, Try.ntmps88
  go_wp2_with (first
    | (go_at_call 60; have hno := hm1; (refine (Hid.out H2 _ _ _ (by rw [if_neg hcs]) (by omega) (by omega)).mono ?_; rintro e w2 ⟨rfl, rfl⟩; simp only [uintV]))
    | (go_at_call 60; (refine (Hid.out H1 _ _ _ (by rw [if_neg hc1]) (by omega) (by omega)).mono ?_; rintro e w2 ⟨rfl, rfl⟩; simp only [uintV]; have hm1 : True := trivial)))
  go_loopg [8, 13] c (fun g nn ii wr => ∃ (i at1 : Nat) (hs : List Hd) (vals : Value), i + g = c ∧ ii = .int .u64 (i : Int) ∧ nn = .int .i64 ((size + at1 : Nat) : Int) ∧ at1 ≤ r.length - size ∧ hs.length = i ∧ wr.heap[w.heap.size]? = some (.cells Zx 31 (0, 0)) ∧ wr.heap[w.heap.size + 1]? = some (.cells (Bx q vals) 31 (0, 0)) ∧ VRow wr (w.heap.size + 2) vals hs ∧ Below w.heap.size w wr ∧ w.heap.size + 2 ≤ wr.heap.size ∧ goD simpD (r.drop size) c k [] = goD simpD (r.drop size) g at1 hs)
  case atStart =>
    refine ⟨0, k, [], _, by omega, rfl, by go_num, hk, rfl, ?_, ?_, VRow.nil _ _, ?_, ?_, rfl⟩
    · rw [Below.heap_alloc _ _ _ (by simp)]; exact heap_alloc_new w _
    · have := heap_alloc_new (w.alloc (.cells Zx 31)) (.cells (Bx q (.slice none 0 0)) 31)
      rw [World.size_alloc] at this
      exact this
    · exact ((Below.refl _ _).alloc (Nat.le_refl _) _).alloc (by simp) _
    · simp
  case round =>
    obtain ⟨i, at1, hs, vals, hi, rfl, rfl, hat1, hhs, hZ, hB, hrow, hbel, hsize, hgo⟩ := hrel
    have Hi := hid hi
    have Hgo := hid hgo
    have Hhs := hid hhs
    have HZ := hid hZ
    have HB := hid hB
    have z0 := cellOf hZ 0
    have z1 := cellOf hZ 1
    have z2 := cellOf hZ 2
    have z3 := cellOf hZ 3
    have z4 := cellOf hZ 4
    have zf := freeOf hZ
    have b0 := cellOf hB 0
    have b1 := cellOf hB 1
    have b2 := cellOf hB 2
    have b3 := cellOf hB 3
    have b4 := cellOf hB 4
    simp only [Zx, Bx, List.getElem?_toArray, List.getElem?_cons_zero, List.getElem?_cons_succ] at z0 z1 z2 z3 z4 b0 b1 b2 b3 b4
    clear hgo hhs hZ hB
    cases gk with
    | zero =>
      have hic : i = c := by omega
      clear hi
      subst hic
      obtain ⟨a3, c3, rfl, _⟩ := hrow.form
      have hat2 : size + at1 ≤ 1000000000 := by have := Hn.out; omega
      go_wp2
      refine bodyPost_ret (v := .tuple #[Hd.v ⟨4, 0, ⟨#[]⟩, (q : Int), a3, hs.length, c3⟩, .int .i64 ((1 + size + at1 : Nat) : Int), .int .i64 0]) (by simp [results, Try.results88, go_sem, Hd.v, z0, z1, z2, z3, z4]; try omega) rfl ⟨cd_five_below hbel (Nat.le_refl _) ⟨4, 0, ⟨#[]⟩, (q : Int), a3, hs.length, c3⟩, ?_⟩
      rw [V.out, Hgo.out]
      refine ⟨_, rfl, ⟨rfl, rfl, rfl, rfl, rfl, ?_⟩, fun b' e' => by have := (hrow.own b' e').1; omega⟩
      exact VRow.rd (hrow.same fun g' e' => cd_five_heap _ _ ⟨4, 0, ⟨#[]⟩, (q : Int), a3, hs.length, c3⟩ (by have := (hrow.own g' e').1; omega))
    | succ g =>
      have hic : i < c := by omega
      have hic2 : c ≤ 12 := by omega
      clear hi
      have hnn := Hn.out
      have H3 : Hid (∀ (a' : Option Addr) (m c' : Nat), a' = (if cap = 1 + (size + at1) then some ⟨b, off, none⟩ else some ⟨b, off + (1 + (size + at1)), none⟩) → m = n - (1 + (size + at1)) → c' = cap - (1 + (size + at1)) → Calls Try.prog 88 #[.slice a' m c', .bool false] wr fun e w' => e = .returned (valV (simpD ((r.drop size).drop at1))) ∧ Below wr.heap.size wr w') := hid (by
        intro a' m c' ea em ec
        have hs := HR.out.at hbel (i := size + at1) (by omega) ea em ec
        rw [← List.drop_drop] at hs
        exact rv_false wr _ _ hs (by simp; omega))
      have hat2 : 1 + (size + at1) ≤ n := by omega
      have hat3 : size + at1 ≤ 1000000000 := by omega
      have hlen : hs.length ≤ 1000000 := by have := Hhs.out; omega
      have hown : ∀ j, vals.ownBlock = some j → w.heap.size + 2 ≤ j ∧ j < wr.heap.size := hrow.own
      have Hown := hid hown
      have Hnn := hid hnn
      clear hnn hown
      cases hsd : simpD ((r.drop size).drop at1) with
      | none =>
        have E : Hid (goD simpD (r.drop size) (g + 1) at1 hs = none) := by refine hid ?_; simp only [goD, hsd]
        rw [hsd] at H3
        by_cases hcs2 : cap = 1 + (size + at1)
        · subst hcs2
          go_wp2_with (go_at_call 88; (refine (Hid.out H3 _ _ _ (by simp) (by omega) (by omega)).mono ?_; rintro e w2 ⟨rfl, hb2⟩; have hZ2 : w2.heap[w.heap.size]? = some (.cells Zx 31 (0, 0)) := (hb2.block _ (by omega)).trans HZ.out; have y0 := cellOf hZ2 0; have y1 := cellOf hZ2 1; have y2 := cellOf hZ2 2; have y3 := cellOf hZ2 3; have y4 := cellOf hZ2 4; have yf := freeOf hZ2; have hB2 : w2.heap[w.heap.size + 1]? = some (.cells (Bx q vals) 31 (0, 0)) := (hb2.block _ (by omega)).trans HB.out; have x4 := cellOf hB2 4; have xf := freeOf hB2; simp only [Zx, Bx, List.getElem?_toArray, List.getElem?_cons_zero, List.getElem?_cons_succ] at y0 y1 y2 y3 y4 x4; have hR2 : w.heap.size < w2.heap.size := (by have := hb2.size; omega); have hR3 : w.heap.size + 1 < w2.heap.size := (by have := hb2.size; omega); have HZ2 := hid hZ2; have HB2 := hid hB2; clear hZ2 hB2 z0 z1 z2 z3 z4 zf b0 b1 b2 b3 b4; simp only [valV, zeroV]))
          refine bodyPost_ret (v := valV none) (by simp [results, Try.results88, go_sem, valV, zeroV, y0, y1, y2, y3, y4, hR2]) rfl ⟨(cd_five_below (hbel.trans (hb2.mono (by omega))) (Nat.le_refl _) zeroH).alloc (by rw [cd_five_size]; omega) _, by rw [V.out, Hgo.out, E.out]; rfl⟩
        · go_wp2_with (go_at_call 88; (refine (Hid.out H3 _ _ _ (by rw [if_neg hcs2]) (by omega) (by omega)).mono ?_; rintro e w2 ⟨rfl, hb2⟩; have hZ2 : w2.heap[w.heap.size]? = some (.cells Zx 31 (0, 0)) := (hb2.block _ (by omega)).trans HZ.out; have y0 := cellOf hZ2 0; have y1 := cellOf hZ2 1; have y2 := cellOf hZ2 2; have y3 := cellOf hZ2 3; have y4 := cellOf hZ2 4; have yf := freeOf hZ2; have hB2 : w2.heap[w.heap.size + 1]? = some (.cells (Bx q vals) 31 (0, 0)) := (hb2.block _ (by omega)).trans HB.out; have x4 := cellOf hB2 4; have xf := freeOf hB2; simp only [Zx, Bx, List.getElem?_toArray, List.getElem?_cons_zero, List.getElem?_cons_succ] at y0 y1 y2 y3 y4 x4; have hR2 : w.heap.size < w2.heap.size := (by have := hb2.size; omega); have hR3 : w.heap.size + 1 < w2.heap.size := (by have := hb2.size; omega); have HZ2 := hid hZ2; have HB2 := hid hB2; clear hZ2 hB2 z0 z1 z2 z3 z4 zf b0 b1 b2 b3 b4; simp only [valV, zeroV]))
          refine bodyPost_ret (v := valV none) (by simp [results, Try.results88, go_sem, valV, zeroV, y0, y1, y2, y3, y4, hR2]) rfl ⟨(cd_five_below (hbel.trans (hb2.mono (by omega))) (Nat.le_refl _) zeroH).alloc (by rw [cd_five_size]; omega) _, by rw [V.out, Hgo.out, E.out]; rfl⟩
      | some p =>
        obtain ⟨hh, k2⟩ := p
        have hk2 := simpD_le ((hby.out.drop size).drop at1) hsd
        simp only [List.length_drop] at hk2
        have hcs2 : ¬ cap = 1 + (size + at1) := by
          have := Hnn.out
          intro e
          rw [List.drop_eq_nil_of_le (by simp; omega)] at hsd
          cases hsd
        have E : Hid (goD simpD (r.drop size) (g + 1) at1 hs = goD simpD (r.drop size) g (at1 + k2) (hs ++ [hh])) := by refine hid ?_; simp only [goD, hsd]
        rw [hsd] at H3
        have hk3 : size + at1 + k2 ≤ 1000000000 := by have := Hnn.out; omega
        go_wp2_with (first
          | (go_at_call 88; (refine (Hid.out H3 _ _ _ (by rw [if_neg hcs2]) (by omega) (by omega)).mono ?_; rintro e w2 ⟨rfl, hb2⟩; have hZ2 : w2.heap[w.heap.size]? = some (.cells Zx 31 (0, 0)) := (hb2.block _ (by omega)).trans HZ.out; have y0 := cellOf hZ2 0; have y1 := cellOf hZ2 1; have y2 := cellOf hZ2 2; have y3 := cellOf hZ2 3; have y4 := cellOf hZ2 4; have yf := freeOf hZ2; have hB2 : w2.heap[w.heap.size + 1]? = some (.cells (Bx q vals) 31 (0, 0)) := (hb2.block _ (by omega)).trans HB.out; have x4 := cellOf hB2 4; have xf := freeOf hB2; simp only [Zx, Bx, List.getElem?_toArray, List.getElem?_cons_zero, List.getElem?_cons_succ] at y0 y1 y2 y3 y4 x4; have hR2 : w.heap.size < w2.heap.size := (by have := hb2.size; omega); have hR3 : w.heap.size + 1 < w2.heap.size := (by have := hb2.size; omega); have HZ2 := hid hZ2; have HB2 := hid hB2; clear hZ2 hB2 z0 z1 z2 z3 z4 zf b0 b1 b2 b3 b4; simp only [valV, Hd.v]))
          | (at_builtin; have hno := hb2; (refine cd_wpList_appV _ rfl _ _ rfl _ hh (by rfl) (by first | rfl | (rw [World.size_alloc]; rfl)) (w.heap.size + 2) hs ((VRow.below hrow (Nat.le_refl _) hb2).same (fun g' e' => by rw [Below.heap_alloc]; exact (hrow.below (Nat.le_refl _) hb2 |>.own g' e').2)) (by simp; omega) hlen ?_; intro v3 w3 hr3 hg3; obtain ⟨a3, c3, rfl, _⟩ := hr3.form; have hB3 : w3.heap[w.heap.size + 1]? = some (.cells (Bx q vals) 31 (0, 0)) := (by rw [hg3.old (by simp; omega) (fun e => by have := Hown.out _ e.symm; omega), Below.heap_alloc _ _ _ hR3]; exact HB2.out); have hZ3 : w3.heap[w.heap.size]? = some (.cells Zx 31 (0, 0)) := (by rw [hg3.old (by simp; omega) (fun e => by have := Hown.out _ e.symm; omega), Below.heap_alloc _ _ _ hR2]; exact HZ2.out); have v4 := cellOf hB3 4; have vf := freeOf hB3; simp only [Bx, List.getElem?_toArray, List.getElem?_cons_zero, List.getElem?_cons_succ] at v4; have HB3 := hid hB3; have HZ3 := hid hZ3; clear hB3 hZ3)))
        go_roundg g
        case measure => omega
        case rel =>
          have s2 := hb2.size
          have s3 := hg3.size
          simp at s3
          have hr4 : VRow w3 (w.heap.size + 2) (.slice a3 (hs.length + 1) c3) (hs ++ [hh]) := by simpa using hr3
          refine ⟨i + 1, at1 + k2, hs ++ [hh], .slice a3 (hs.length + 1) c3, by have := Hi.out; omega, by go_num, by go_num, by have := Hnn.out; omega, by simp; exact Hhs.out, ?_, ?_, hr4.same fun g' e' => Below.heap_setCell _ _ _ _ (by have := (hr4.own g' e').1; simp; omega), ?_, ?_, by rw [Hgo.out, E.out]⟩
          · rw [Below.heap_setCell _ _ _ _ (by simp)]; exact HZ3.out
          · rw [heap_setCell_at HB3.out 4, Bx_set]
          · exact (((hbel.trans (hb2.mono (by omega))).alloc (by omega) _).grown hg3.1 (by simp; omega) (fun k hk => by have := (Hown.out k hk).1; omega)).setCell (by simp) _
          · simp [World.setCell]; omega

set_option maxRecDepth 100000 in
theorem valP_none {B : Nat} {o : Option (Vl × Nat)} (ho : o = none) {e : Ending} {w' : World} (he : e = .returned (valV none)) : ValP B o e w' := by subst ho; exact he
set_option maxRecDepth 100000 in
theorem rv_true (w : World) (v : Value) (bs : List Nat) (h : Rd w v bs) (hl : bs.length ≤ 1000000000) :
    Calls Try.prog 88 #[v, .bool true] w fun e w' => Below w.heap.size w w' ∧ ValP w.heap.size (valD bs) e w' := by
  cases bs with
  | nil =>
    obtain ⟨a, cap, rfl⟩ := h.len
    exact (rv_nil w a cap true).mono fun e w' ⟨he, hb⟩ => ⟨hb, valP_none rfl he⟩
  | cons c r =>
    by_cases h4 : c = 4
    · subst h4
      have h' := h
      obtain ⟨a, cap, rfl, h1, h2, h3⟩ := h
      obtain ⟨b, off, rfl, hc⟩ := h3 0 4 rfl
      rw [Nat.add_zero] at hc
      cases hd : dec r with
      | none => exact (rvr_none1 w b off _ cap r true ⟨h', hl, hc⟩ hd).mono fun e w' ⟨he, hb⟩ => ⟨hb, valP_none (by simp [valD, hd]) he⟩
      | some p =>
        obtain ⟨q, size⟩ := p
        by_cases hq : 15 < q
        · exact (rvr_none2 w b off _ cap r true ⟨h', hl, hc⟩ q size hd (.inr (.inr (.inl hq)))).mono fun e w' ⟨he, hb⟩ => ⟨hb, valP_none (by simp [valD, hd, hq]) he⟩
        · cases hd2 : dec (r.drop size) with
          | none => exact (rvr_none2 w b off _ cap r true ⟨h', hl, hc⟩ q size hd (.inl hd2)).mono fun e w' ⟨he, hb⟩ => ⟨hb, valP_none (by simp [valD, hd, hq, rowD, hd2]) he⟩
          | some p =>
            obtain ⟨c, k⟩ := p
            by_cases hc12 : 12 < c
            · exact (rvr_none2 w b off _ cap r true ⟨h', hl, hc⟩ q size hd (.inr (.inr (.inr ⟨c, k, hd2, hc12⟩)))).mono fun e w' ⟨he, hb⟩ => ⟨hb, valP_none (by simp [valD, hd, hq, rowD, hd2, hc12]) he⟩
            · exact rvr_yes w b off _ cap r ⟨h', hl, hc⟩ q size hd hq c k hd2 hc12
    · refine (rv_flat w v true c r h (by simp at hl; omega) h4).mono fun e w' ⟨he, hb⟩ => ⟨hb, ?_⟩
      have hv : valD (c :: r) = match simpD (c :: r) with | none => none | some (h, k) => some (vl h, k) := by simp only [valD]; rw [if_neg h4]; cases simpD (c :: r) <;> rfl
      rw [hv]
      cases hs : simpD (c :: r) with
      | none => rw [hs] at he; exact he
      | some p =>
        obtain ⟨hh, k⟩ := p
        rw [hs] at he
        exact ⟨hh, he, Rep.flat w' hs, fun b e' => by rw [(simpD_flat hs).2.1] at e'; cases e'⟩

set_option maxRecDepth 100000 in
set_option maxRecDepth 100000 in
set_option maxHeartbeats 1000000 in
set_option maxRecDepth 100000 in
theorem refValue_any (w : World) (v : Value) (bs : List Nat) (h : Rd w v bs) (hl : bs.length ≤ 1000000000) :
    Calls Try.prog 61 #[v] w fun e w' => Below w.heap.size w w' ∧ ValP w.heap.size (valD bs) e w' := by
  have hv := rv_true (w.alloc (.cells Zx 31)) v bs (h.below (Nat.le_refl _) ((Below.refl _ _).alloc (Nat.le_refl _) _)) hl
  simp only [World.size_alloc, Zx] at hv
  obtain ⟨a, cap, rfl⟩ := h.len
  cases hd : valD bs with
  | none =>
    rw [hd] at hv
    have Hv := hid hv
    clear hv h hd
    go_enter Try.func61, Try.ntmps61
    go_wp2_with (go_at_call 88; (refine (Hid.out Hv).mono ?_; rintro e w2 ⟨hb2, hP⟩; obtain rfl := hP; have hr := res_cells hb2; have g0 := cellOf hr 0; have g1 := cellOf hr 1; have g2 := cellOf hr 2; have g3 := cellOf hr 3; have g4 := cellOf hr 4; have gf := freeOf hr; simp only [List.getElem?_toArray, List.getElem?_cons_zero, List.getElem?_cons_succ] at g0 g1 g2 g3 g4; clear hr; simp only [valV, zeroV]))
    refine bodyPost_ret (v := valV none) (by simp [results, Try.results61, go_sem, valV, zeroV, g0, g1, g2, g3, g4]) rfl ⟨cd_five_below (first_below hb2) (Nat.le_refl _) zeroH, rfl⟩
  | some p =>
    obtain ⟨x, k⟩ := p
    rw [hd] at hv
    have Hv := hid hv
    clear hv h hd
    go_enter Try.func61, Try.ntmps61
    go_wp2_with (go_at_call 88; (refine (Hid.out Hv).mono ?_; rintro e w2 ⟨hb2, hP⟩; obtain ⟨hh, rfl, hrep, hnew⟩ := hP; have Hrep := hid hrep; have Hnew := hid hnew; clear hrep hnew; have hr := res_cells hb2; have g0 := cellOf hr 0; have g1 := cellOf hr 1; have g2 := cellOf hr 2; have g3 := cellOf hr 3; have g4 := cellOf hr 4; have gf := freeOf hr; simp only [List.getElem?_toArray, List.getElem?_cons_zero, List.getElem?_cons_succ] at g0 g1 g2 g3 g4; clear hr; simp only [Hd.v]))
    refine bodyPost_ret (v := .tuple #[hh.v, .int .i64 (k : Int), .int .i64 0]) (by simp [results, Try.results61, go_sem, Hd.v, g0, g1, g2, g3, g4]) rfl ⟨cd_five_below (first_below hb2) (Nat.le_refl _) hh, ?_⟩
    exact ⟨hh, rfl, Hrep.out.keep fun hf b hb eb => cd_five_heap _ _ hh (by have := Hnew.out b eb; omega), fun b eb => by have := Hnew.out b eb; omega⟩
end Go.Proofs.Ytenfgahedbeekaa

