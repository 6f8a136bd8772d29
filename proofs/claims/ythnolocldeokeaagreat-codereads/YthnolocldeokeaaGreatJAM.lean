/- Rows of bytes that are read; texts; the statement's Bytes. -/
import Derived.Test.YthnolocldeokeaaGreatJAL
import Derived.WalkMore
namespace Go.Proofs.YthnolocldeokeaaGreat
open Go.RowKit Go.Deep
set_option linter.unusedVariables false
set_option linter.unusedSimpArgs false

def Byt (bs : List Nat) : Prop := ∀ x ∈ bs, x < 256
theorem Byt.drop {bs : List Nat} (h : Byt bs) (n : Nat) : Byt (bs.drop n) := fun x hx => h x (List.mem_of_mem_drop hx)
theorem Byt.take {bs : List Nat} (h : Byt bs) (n : Nat) : Byt (bs.take n) := fun x hx => h x (List.mem_of_mem_take hx)
theorem Byt.append {a b : List Nat} (h : Byt a) (k : Byt b) : Byt (a ++ b) := fun x hx => by
  rcases List.mem_append.1 hx with hx | hx
  · exact h x hx
  · exact k x hx
theorem Byt.at {bs : List Nat} (h : Byt bs) {j x : Nat} (e : bs[j]? = some x) : x < 256 := h x (List.mem_of_getElem? e)
theorem enc_byt : ∀ (n : Nat), Byt (enc n) := by
  intro n
  induction n using Nat.strongRecOn with
  | _ n ih =>
    by_cases h : n < 128
    · rw [enc_small h]; intro x hx; simp at hx; omega
    · rw [enc_big h]
      intro x hx
      rcases List.mem_cons.1 hx with rfl | hx
      · omega
      · exact ih (n / 128) (by omega) x hx
theorem sb_byt (s : ByteArray) : Byt (sb s) := by
  intro x hx
  simp only [sb, List.mem_map] at hx
  obtain ⟨u, _, rfl⟩ := hx
  exact u.toNat_lt
theorem encX_byt (s : ByteArray) : Byt (encX s) := (enc_byt _).append (sb_byt _)

def ofB (bs : List Nat) : ByteArray := ⟨(bs.map UInt8.ofNat).toArray⟩
theorem sb_ofB {bs : List Nat} (h : Byt bs) : sb (ofB bs) = bs := by
  simp only [sb, ofB, List.map_map]
  conv => rhs; rw [← List.map_id bs]
  refine List.map_congr_left fun x hx => ?_
  have := h x hx
  simp; omega
theorem ofB_sb (s : ByteArray) : ofB (sb s) = s := by
  cases s with
  | mk d =>
    simp only [sb, ofB, List.map_map]
    congr 1
    apply Array.ext'
    simp
    conv => rhs; rw [← List.map_id d.toList]
    exact List.map_congr_left fun x hx => by simp
theorem fold_ofB (bs : List Nat) : ∀ (acc : ByteArray), (bs.map (fun (x : Nat) => (x : Int))).foldl (fun r n => r.push (UInt8.ofNat n.toNat)) acc = ⟨acc.data ++ (bs.map UInt8.ofNat).toArray⟩ := by
  induction bs with
  | nil => intro acc; simp
  | cons x r ih =>
    intro acc
    simp only [List.map_cons, List.foldl_cons]
    rw [ih]
    congr 1
    apply Array.ext'
    simp [ByteArray.push]
theorem ofB_size (bs : List Nat) : (ofB bs).size = bs.length := by simp [ofB, ByteArray.size]
/- What a slice of bytes reads. -/
def Rd (w : World) (v : Value) (bs : List Nat) : Prop := ∃ a cap, v = .slice a bs.length cap ∧ bs.length ≤ cap ∧ Byt bs ∧
  ∀ (j x : Nat), bs[j]? = some x → ∃ b off, a = some ⟨b, off, none⟩ ∧ w.cell? ⟨b, off + j, none⟩ = some (.int .u8 (x : Int))

theorem Rd.nil (w : World) : Rd w (.slice none 0 0) [] := ⟨none, 0, rfl, Nat.le_refl _, fun x hx => (by cases hx), fun j x h => by simp at h⟩
theorem Rd.same {w w' : World} {v bs} (h : Rd w v bs) (e : ∀ k, v.ownBlock = some k → k < w.heap.size → w'.heap[k]? = w.heap[k]?) : Rd w' v bs := by
  obtain ⟨a, cap, rfl, h1, h2, h3⟩ := h
  refine ⟨a, cap, rfl, h1, h2, fun j x hx => ?_⟩
  obtain ⟨b, off, rfl, hc⟩ := h3 j x hx
  refine ⟨b, off, rfl, ?_⟩
  rw [World.cell?_of_block (w := w) (e b rfl (World.block_lt_of_cell? _ _ hc))]; exact hc
theorem Rd.below {w w' : World} {v bs B} (h : Rd w v bs) (hB : w.heap.size ≤ B) (k : Below B w w') : Rd w' v bs :=
  h.same fun k' _ hk => k.block k' (by omega)
theorem Row.rd {w : World} {B v xs} (h : Row w B v xs) (hb : Byt xs) : Rd w v xs := by
  rcases h.2 with ⟨rfl, hn⟩ | ⟨g, cap, cur, rfl, hb', hgg, hc, hm, hs, ht⟩
  · have : xs = [] := List.eq_nil_of_length_eq_zero hn
    subst this
    exact Rd.nil w
  · refine ⟨_, _, rfl, hc, hb, fun j x hx => ⟨g, 0, rfl, ?_⟩⟩
    have := World.ownsRow.cells h (g := g) rfl j (.int .u8 (x : Int)) (by simp [bv, hx])
    rw [Addr.add_lit] at this
    exact this
theorem Rd.from {w : World} {a : Option Addr} {n cap : Nat} {bs : List Nat} (h : Rd w (.slice a n cap) bs) (k : Nat) (hk : k ≤ bs.length) : Rd w (sliced a k n cap 1) (bs.drop k) := by
  obtain ⟨a, cap, e, h1, h2, h3⟩ := h
  cases e
  refine ⟨_, _, by unfold sliced; rw [List.length_drop], by rw [List.length_drop]; omega, h2.drop k, fun j x hx => ?_⟩
  rw [List.getElem?_drop] at hx
  obtain ⟨b, off, rfl, hc⟩ := h3 _ _ hx
  have hlt : k + j < bs.length := (List.getElem?_eq_some_iff.1 hx).1
  refine ⟨b, off + k, ?_, ?_⟩
  · rw [if_neg (by omega)]
    simp [Addr.add_lit]
  · rw [Nat.add_assoc]; exact hc
theorem Rd.part {w : World} {a : Option Addr} {n cap : Nat} {bs : List Nat} (h : Rd w (.slice a n cap) bs) (k l : Nat) (hk : k ≤ l) (hl : l ≤ bs.length) : Rd w (sliced a k l cap 1) ((bs.take l).drop k) := by
  obtain ⟨a, cap, e, h1, h2, h3⟩ := h
  cases e
  refine ⟨_, _, by unfold sliced; rw [List.length_drop, List.length_take, Nat.min_eq_left hl], by rw [List.length_drop, List.length_take]; omega, (h2.take l).drop k, fun j x hx => ?_⟩
  rw [List.getElem?_drop, List.getElem?_take] at hx
  split at hx
  · obtain ⟨b, off, rfl, hc⟩ := h3 _ _ hx
    have hlt : k + j < bs.length := (List.getElem?_eq_some_iff.1 hx).1
    refine ⟨b, off + k, ?_, ?_⟩
    · rw [if_neg (by omega)]
      simp [Addr.add_lit]
    · rw [Nat.add_assoc]; exact hc
  · cases hx
theorem Rd.conv {w v bs} (h : Rd w v bs) : (convert 34 9 v).run Tryz.prog w = .ok (.string (ofB bs)) w := by
  obtain ⟨a, cap, rfl, h1, h2, h3⟩ := h
  rw [run_convert_bytes_string w 34 9 5 _ _ _ Tryz.underlying34 Tryz.underlying5 Tryz.underlying9]
  cases a with
  | none =>
    have : bs = [] := by
      cases bs with
      | nil => rfl
      | cons x r => obtain ⟨b, off, e, _⟩ := h3 0 x rfl; cases e
    subst this
    rfl
  | some a =>
    have hl := run_loadCells_list (P := Tryz.prog) w a (bv bs) ?_
    · have := run_bytesToString w a bs.length cap (bs.map (fun (x : Nat) => (x : Int))) (by
        rw [bv_length] at hl
        rw [hl]; simp [bv]) (P := Tryz.prog)
      rw [this, fold_ofB]
      simp [ofB]
    · intro j u hu
      simp only [bv, List.getElem?_map, Option.map_eq_some_iff] at hu
      obtain ⟨x, hx, rfl⟩ := hu
      obtain ⟨b, off, e, hc⟩ := h3 j x hx
      cases e
      rw [Addr.add_lit]; exact hc

end Go.Proofs.YthnolocldeokeaaGreat

namespace Go.Proofs.YthnolocldeokeaaGreat
open Go.RowKit Go.Deep
set_option linter.unusedVariables false
set_option linter.unusedSimpArgs false

def decAt (n i : Nat) : List Nat → Option (Nat × Nat)
  | [] => none
  | c :: r => if 0 < i ∧ c = 0 ∨ i = 9 ∧ 1 < c then none else if c < 128 then some (n + c * 2 ^ (7 * i), i + 1) else decAt (n + (c - 128) * 2 ^ (7 * i)) (i + 1) r
def dec (bs : List Nat) : Option (Nat × Nat) := decAt 0 0 bs

theorem decAt_size (bs : List Nat) : ∀ (n i m k : Nat), decAt n i bs = some (m, k) → i < k ∧ k ≤ i + bs.length := by
  induction bs with
  | nil => intro n i m k h; cases h
  | cons c r ih =>
    intro n i m k h
    simp only [decAt] at h
    split at h
    · cases h
    · split at h
      · cases h; simp
      · have := ih _ _ _ _ h
        simp; omega
theorem decAt_enc : ∀ (n m i : Nat) (more : List Nat), (0 < i → n ≠ 0) → i ≤ 9 → n < 128 ^ (9 - i) * 2 → decAt m i (enc n ++ more) = some (m + n * 2 ^ (7 * i), i + (enc n).length) := by
  intro n
  induction n using Nat.strongRecOn with
  | _ n ih =>
    intro m i more h0 hi hn
    by_cases h : n < 128
    · rw [enc_small h]
      simp only [List.cons_append, List.nil_append, decAt]
      rw [if_neg (by
        rintro (⟨a, rfl⟩ | ⟨rfl, b⟩)
        · exact h0 a rfl
        · simp at hn; omega), if_pos h]
      simp
    · rw [enc_big h]
      simp only [List.cons_append, decAt]
      have hi9 : i ≠ 9 := by rintro rfl; simp at hn; omega
      rw [if_neg (by
        rintro (⟨a, b⟩ | ⟨rfl, b⟩)
        · omega
        · exact hi9 rfl), if_neg (by omega)]
      rw [ih (n / 128) (by omega) _ (i + 1) more (fun _ => by omega) (by omega) (by
        rw [show 9 - i = (9 - (i + 1)) + 1 from by omega, Nat.pow_succ] at hn
        omega)]
      have e : 2 ^ (7 * (i + 1)) = 128 * 2 ^ (7 * i) := by rw [Nat.mul_add, Nat.pow_add]; omega
      congr 2
      · rw [e, show n % 128 + 128 - 128 = n % 128 from by omega]
        have hd := Nat.div_add_mod n 128
        calc m + n % 128 * 2 ^ (7 * i) + n / 128 * (128 * 2 ^ (7 * i)) = m + (128 * (n / 128) + n % 128) * 2 ^ (7 * i) := by rw [Nat.add_mul, ← Nat.mul_assoc, Nat.mul_comm (n / 128) 128]; omega
          _ = m + n * 2 ^ (7 * i) := by rw [hd]
      · simp; omega
theorem dec_enc (n : Nat) (more : List Nat) (h : n < 18446744073709551616) : dec (enc n ++ more) = some (n, (enc n).length) := by
  have := decAt_enc n 0 0 more (by omega) (by omega) (by simpa using h)
  simpa [dec] using this
theorem decAt_back (bs : List Nat) (hb : Byt bs) : ∀ (n i m k : Nat), i ≤ 9 → n < 2 ^ (7 * i) → decAt n i bs = some (m, k) → ∃ q, m = n + q * 2 ^ (7 * i) ∧ q < 128 ^ (9 - i) * 2 ∧ bs.take (k - i) = enc q ∧ i < k ∧ k ≤ 10 ∧ (0 < i → 0 < q) := by
  induction bs with
  | nil => intro n i m k _ _ h; cases h
  | cons c r ih =>
    intro n i m k hi hn h
    simp only [decAt] at h
    have hc : c < 256 := hb c (by simp)
    split at h
    · cases h
    · rename_i h1
      split at h
      · rename_i h2
        cases h
        refine ⟨c, rfl, ?_, ?_, by omega, by omega, fun a => ?_⟩
        · rcases Nat.lt_or_ge i 9 with h9 | h9
          · have : 128 ^ 1 ≤ 128 ^ (9 - i) := Nat.pow_le_pow_right (by decide) (by omega)
            omega
          · have : i = 9 := by omega
            subst this
            simp at h1 ⊢; omega
        · rw [enc_small h2]; simp
        · have : c ≠ 0 := fun e => h1 (.inl ⟨a, e⟩)
          omega
      · rename_i h2
        have hi9 : i < 9 := by
          rcases Nat.lt_or_ge i 9 with h9 | h9
          · exact h9
          · exact absurd (.inr ⟨by omega, by omega⟩) h1
        have e : 2 ^ (7 * (i + 1)) = 128 * 2 ^ (7 * i) := by rw [Nat.mul_add, Nat.pow_add]; omega
        obtain ⟨q, e1, e2, e3, e4, e5, e6⟩ := ih (fun x hx => hb x (by simp [hx])) _ _ _ _ (by omega) (by
          rw [e]
          have : (c - 128) * 2 ^ (7 * i) ≤ 127 * 2 ^ (7 * i) := Nat.mul_le_mul_right _ (by omega)
          omega) h
        have e6' := e6 (by omega)
        refine ⟨(c - 128) + 128 * q, ?_, ?_, ?_, by omega, by omega, fun _ => by omega⟩
        · rw [e1, e, Nat.add_mul, ← Nat.mul_assoc, Nat.mul_comm 128 q]; omega
        · rw [show 9 - i = (9 - (i + 1)) + 1 from by omega, Nat.pow_succ]; omega
        · rw [show k - i = (k - (i + 1)) + 1 from by omega, List.take_succ_cons, e3, enc_big (n := c - 128 + 128 * q) (by omega)]
          congr 1
          · omega
          · congr 1; omega
theorem dec_back {bs : List Nat} (hb : Byt bs) {m k : Nat} (h : dec bs = some (m, k)) : bs.take k = enc m ∧ m < 18446744073709551616 ∧ k ≤ bs.length ∧ 0 < k ∧ k ≤ 10 := by
  obtain ⟨q, e1, e2, e3, e4, e5, _⟩ := decAt_back bs hb 0 0 m k (by omega) (by simp) h
  have hs := decAt_size bs 0 0 m k h
  simp at e1 e2 e3
  subst e1
  exact ⟨e3, by omega, by omega, by omega, e5⟩
end Go.Proofs.YthnolocldeokeaaGreat

namespace Go.Proofs.YthnolocldeokeaaGreat
open Go.RowKit Go.Deep
set_option linter.unusedVariables false
set_option linter.unusedSimpArgs false

def uintV : Option (Nat × Nat) → Value
  | none => .tuple #[.int .u64 0, .int .i64 0, .int .i64 20]
  | some (n, k) => .tuple #[.int .u64 (n : Int), .int .i64 (k : Int), .int .i64 0]

theorem pow7 (i : Nat) : 2 ^ (7 * (i + 1)) = 128 * 2 ^ (7 * i) := by rw [Nat.mul_add, Nat.pow_add]; omega
theorem pow9 {i : Nat} (h : i ≤ 8) : 128 * 2 ^ (7 * i) ≤ 9223372036854775808 := by
  have : 2 ^ (7 * i) ≤ 2 ^ 56 := Nat.pow_le_pow_right (by decide) (by omega)
  omega
theorem fits7 {c i : Nat} (hc : c < 128) (hi : i ≤ 9) (h9 : i = 9 → c ≤ 1) : c * 2 ^ (7 * i) < 18446744073709551616 := by
  rcases Nat.lt_or_ge i 9 with h | h
  · have h1 := pow9 (i := i) (by omega)
    have : c * 2 ^ (7 * i) ≤ 128 * 2 ^ (7 * i) := Nat.mul_le_mul_right _ (by omega)
    omega
  · have : i = 9 := by omega
    subst this
    have := h9 rfl
    omega
theorem or_join {m c i : Nat} (hm : m < 2 ^ (7 * i)) (hc : c * 2 ^ (7 * i) < 18446744073709551616) (h9 : i ≤ 9) : bits .or .u64 (m : Int) ((c * 2 ^ (7 * i) : Nat) : Int) = ((m + c * 2 ^ (7 * i) : Nat) : Int) := by
  have hp : 2 ^ (7 * i) ≤ 2 ^ 63 := Nat.pow_le_pow_right (by decide) (by omega)
  rw [bits_or_u64_nat m (c * 2 ^ (7 * i)) (by omega) hc]
  have := Nat.two_pow_add_eq_or_of_lt hm c
  rw [Nat.mul_comm c, Nat.or_comm, ← this, Nat.add_comm]
theorem or_shl {m c i : Nat} (hm : m < 2 ^ (7 * i)) (hc : c * 2 ^ (7 * i) < 18446744073709551616) (h9 : i ≤ 9) : bits .or .u64 (m : Int) (IntKind.u64.wrap ((c : Int) * 2 ^ (7 * i))) = ((m + c * 2 ^ (7 * i) : Nat) : Int) := by
  rw [← or_join hm hc h9, IntKind.wrap_u64]
  rw [show (c : Int) * 2 ^ (7 * i) = ((c * 2 ^ (7 * i) : Nat) : Int) from by simp]
  congr 1
  omega
theorem and127_all : ∀ a : Fin 128, bits .and .u8 (128 + (a.val : Int)) 127 = (a.val : Int) := by decide +kernel
theorem and127 (d : Nat) (h : d < 128) : bits .and .u8 (128 + (d : Int)) 127 = (d : Int) := and127_all ⟨d, h⟩

theorem Rd.len {w v bs} (h : Rd w v bs) : ∃ a cap, v = .slice a bs.length cap := by obtain ⟨a, cap, e, _⟩ := h; exact ⟨a, cap, e⟩

set_option maxRecDepth 10000 in
set_option maxHeartbeats 1000000 in
theorem uint_any (w : World) (v : Value) (bs : List Nat) (h : Rd w v bs) (hl : bs.length ≤ 1000000000000) :
    Calls Tryz.prog 104 #[v] w fun e w' => e = .returned (uintV (dec bs)) ∧ w' = w := by
  obtain ⟨a, cap, rfl, h1, h2, h3⟩ := h
  go_enter Tryz.func104, Tryz.ntmps104
  go_wp2; go_step3; go_wp2; go_step3; go_wp2
  go_loopw [5, 10] (fun nn ii wr => ∃ (m i : Nat), nn = .int .u64 (m : Int) ∧ ii = .int .i64 (i : Int) ∧ i ≤ 9 ∧ m < 2 ^ (7 * i) ∧ i ≤ bs.length ∧ dec bs = decAt m i (bs.drop i) ∧ wr = w) (fun _ ii _ => 10 - (intOf ii).toNat)
  case atStart => exact ⟨0, 0, rfl, rfl, by omega, by simp, by omega, rfl, rfl⟩
  case round =>
    obtain ⟨m, i, rfl, rfl, hi, hm, hil, he, rfl⟩ := hrel
    rcases Nat.lt_or_ge i bs.length with hlt | hge
    · obtain ⟨c, hc⟩ : ∃ c, bs[i]? = some c := ⟨bs[i], by simp [hlt]⟩
      obtain ⟨b, off, rfl, hcell⟩ := h3 i c hc
      have hcb := h2.at hc
      have hd : bs.drop i = c :: bs.drop (i + 1) := by rw [List.drop_eq_getElem_cons hlt]; congr 1; simpa [hlt] using hc
      rw [hd] at he
      simp only [decAt] at he
      clear hd hc h1 h2 h3
      by_cases hA : 0 < i ∧ c = 0 ∨ i = 9 ∧ 1 < c
      · rw [if_pos hA] at he
        have He := hid he
        clear he
        rcases hA with ⟨hi0, rfl⟩ | ⟨rfl, hc1⟩
        · go_wp2
          (try rw [Exit.noGoto_ret]); go_ret3
          exact ⟨by rw [He.out]; rfl, rfl⟩
        · have hc0 : (0 : Nat) < c := by omega
          go_wp2
          (try rw [Exit.noGoto_ret]); go_ret3
          exact ⟨by rw [He.out]; rfl, rfl⟩
      · rw [if_neg hA] at he
        have hA1 : ¬ (0 < i ∧ c = 0) := fun x => hA (.inl x)
        have hA2 : ¬ (i = 9 ∧ 1 < c) := fun x => hA (.inr x)
        clear hA
        by_cases hC : c < 128
        · rw [if_pos hC] at he
          have hf := fits7 hC hi (fun e => by omega)
          have E : Hid (Ending.returned (.tuple #[.int .u64 (bits .or .u64 (m : Int) (IntKind.u64.wrap ((c : Int) * 2 ^ (7 * i)))), .int .i64 ((i : Int) + 1), .int .i64 0]) = Ending.returned (uintV (dec bs))) := by
            rw [he, or_shl hm hf hi]; rfl
          clear he hf
          rcases Nat.lt_or_ge i 1 with hi0 | hi0
          · go_wp2
            (try rw [Exit.noGoto_ret]); go_ret3
            exact ⟨E.out, rfl⟩
          · have hc0 : 0 < c := by omega
            rcases Nat.lt_or_ge i 9 with h9 | h9
            · go_wp2
              (try rw [Exit.noGoto_ret]); go_ret3
              exact ⟨E.out, rfl⟩
            · obtain rfl : i = 9 := by omega
              obtain rfl : c = 1 := by omega
              have E9 : Hid (Ending.returned (.tuple #[.int .u64 (bits .or .u64 (m : Int) 9223372036854775808), .int .i64 10, .int .i64 0]) = Ending.returned (uintV (dec bs))) := E
              clear E
              go_wp2
              (try rw [Exit.noGoto_ret]); go_ret3
              exact ⟨E9.out, rfl⟩
        · rw [if_neg hC] at he
          have h9 : i < 9 := by omega
          obtain ⟨d, rfl⟩ : ∃ d, c = 128 + d := ⟨c - 128, by omega⟩
          have hdl : d < 128 := by omega
          rw [show 128 + d - 128 = d from by omega] at he
          have hf := fits7 hdl hi (fun e => by omega)
          have e3 := and127 d hdl
          have hm2 : m + d * 2 ^ (7 * i) < 2 ^ (7 * (i + 1)) := by
            rw [pow7]
            have : d * 2 ^ (7 * i) ≤ 127 * 2 ^ (7 * i) := Nat.mul_le_mul_right _ (by omega)
            omega
          have E := hid (or_shl hm hf hi)
          have He := hid he
          have Hm2 := hid hm2
          clear he hm2 hf hm hA1 hA2
          rcases Nat.lt_or_ge i 1 with hi0 | hi0
          · go_wp2
            go_roundw
            case rel => exact ⟨_, i + 1, congrArg (Value.int .u64) E.out, by go_num, by omega, Hm2.out, by omega, He.out, trivial⟩
            case measure => simp [intOf]; omega
          · go_wp2
            go_roundw
            case rel => exact ⟨_, i + 1, congrArg (Value.int .u64) E.out, by go_num, by omega, Hm2.out, by omega, He.out, trivial⟩
            case measure => simp [intOf]; omega
    · have : i = bs.length := by omega
      subst this
      rw [List.drop_length] at he
      have He := hid he
      clear he h1 h2 h3
      go_wp2
      (try rw [Exit.noGoto_ret]); go_ret3
      exact ⟨by rw [He.out]; rfl, rfl⟩
end Go.Proofs.YthnolocldeokeaaGreat

namespace Go.Proofs.YthnolocldeokeaaGreat
open Go.RowKit Go.Deep
set_option linter.unusedVariables false
set_option linter.unusedSimpArgs false
set_option maxRecDepth 100000

def unzz (n : Nat) : Int := if n % 2 = 1 then -((n / 2 : Nat) : Int) - 1 else ((n / 2 : Nat) : Int)
theorem unzz_zz (k : Int) : unzz (zz k) = k := by
  unfold unzz zz
  split <;> split <;> omega
theorem zz_unzz (n : Nat) : zz (unzz n) = n := by
  unfold unzz zz
  split <;> split <;> omega
def intV : Option (Nat × Nat) → Value
  | none => .tuple #[.int .i64 0, .int .i64 0, .int .i64 20]
  | some (n, k) => .tuple #[.int .i64 (unzz n), .int .i64 (k : Int), .int .i64 0]

theorem and_one (n : Nat) (h : n < 18446744073709551616) : bits .and .u64 (n : Int) 1 = ((n % 2 : Nat) : Int) := by
  have h' := bits_and_u64_nat n 1 h (by omega)
  rw [show n &&& 1 = n % 2 from Nat.and_one_is_mod n] at h'
  exact h'
theorem xor_pos (m : Nat) (h : m < 9223372036854775808) : bits .xor .i64 (if IntKind.i64.signed = true then -1 else 9223372036854775807) (m : Int) = -(m : Int) - 1 := by
  show IntKind.i64.wrap ((BitVec.ofInt 64 (-1) ^^^ BitVec.ofInt 64 (m : Int)).toNat : Int) = _
  have e2 : BitVec.ofInt 64 (-1) = BitVec.allOnes 64 := by decide
  rw [e2, BitVec.xor_comm, BitVec.xor_allOnes, BitVec.toNat_not, BitVec.ofInt_natCast, BitVec.toNat_ofNat, IntKind.wrap_i64]
  omega

set_option maxHeartbeats 400000 in
theorem int_any (w : World) (v : Value) (bs : List Nat) (h : Rd w v bs) (hl : bs.length ≤ 1000000000000) :
    Calls Tryz.prog 75 #[v] w fun e w' => e = .returned (intV (dec bs)) ∧ w' = w := by
  have hu := uint_any w v bs h hl
  cases hd : dec bs with
  | none =>
    rw [hd] at hu
    have Hu := hid hu
    clear hu hd h
    go_enter Tryz.func75, Tryz.ntmps75
    go_wp2_with (go_at_call 104; refine (Hid.out Hu).mono ?_; rintro e w' ⟨rfl, rfl⟩; simp only [uintV])
    go_ret3
    exact ⟨rfl, rfl⟩
  | some p =>
    obtain ⟨n, k⟩ := p
    rw [hd] at hu
    obtain ⟨_, hn, _⟩ := dec_back (by obtain ⟨_, _, _, _, hb, _⟩ := h; exact hb) hd
    have Hu := hid hu
    have ha := and_one n hn
    clear hu hd h
    by_cases h2 : n % 2 = 1
    · rw [h2] at ha
      have ha' : bits .and .u64 (n : Int) 1 = 1 := ha
      have E : Hid (bits .xor .i64 (if IntKind.i64.signed = true then -1 else 9223372036854775807) ((n : Int) / 2) = unzz n) := by
        refine hid ?_
        have := xor_pos (n / 2) (by omega)
        unfold unzz
        rw [if_pos h2]
        simpa using this
      clear ha h2
      go_enter Tryz.func75, Tryz.ntmps75
      go_wp2_with (go_at_call 104; refine (Hid.out Hu).mono ?_; rintro e w' ⟨rfl, rfl⟩; simp only [uintV])
      go_ret3
      refine ⟨?_, rfl⟩
      simp only [intV]
      rw [← E.out]
      rfl
    · rw [show n % 2 = 0 from by omega] at ha
      have ha' : bits .and .u64 (n : Int) 1 = 0 := ha
      have E : Hid ((n : Int) / 2 = unzz n) := by
        refine hid ?_
        unfold unzz
        rw [if_neg h2]
        simp
      clear ha h2
      go_enter Tryz.func75, Tryz.ntmps75
      go_wp2_with (go_at_call 104; refine (Hid.out Hu).mono ?_; rintro e w' ⟨rfl, rfl⟩; simp only [uintV])
      go_ret3
      refine ⟨?_, rfl⟩
      simp only [intV]
      rw [← E.out]
      rfl

abbrev TextR : Type := Except Nat (List Nat × Nat)
def textD (most : Nat) (bs : List Nat) : TextR := match dec bs with
  | none => .error 20
  | some (n, k) => if most < n then .error 21 else if bs.length < k + n then .error 20 else .ok (((bs.drop k).take n), (k + n))
def textV : TextR → Value
  | .error e => .tuple #[.string ByteArray.empty, .int .i64 0, .int .i64 (e : Int)]
  | .ok (s, k) => .tuple #[.string (ofB s), .int .i64 (k : Int), .int .i64 0]

set_option maxHeartbeats 400000 in
theorem text_any (w : World) (v : Value) (bs : List Nat) (h : Rd w v bs) (hl : bs.length ≤ 1000000000000) :
    Calls Tryz.prog 77 #[v] w fun e w' => e = .returned (textV (textD 64 bs)) ∧ w' = w := by
  have hu := uint_any w v bs h hl
  have hb : Byt bs := by obtain ⟨_, _, _, _, hb, _⟩ := h; exact hb
  cases hd : dec bs with
  | none =>
    have E : Hid (textD 64 bs = .error 20) := by refine hid ?_; simp [textD, hd]
    rw [hd] at hu
    have Hu := hid hu
    clear hu hd h
    go_enter Tryz.func77, Tryz.ntmps77
    go_wp2_with (go_at_call 104; refine (Hid.out Hu).mono ?_; rintro e w' ⟨rfl, rfl⟩; simp only [uintV])
    go_ret3
    exact ⟨by rw [E.out]; rfl, rfl⟩
  | some p =>
    obtain ⟨n, k⟩ := p
    rw [hd] at hu
    obtain ⟨_, hn, hk, _, _⟩ := dec_back hb hd
    have Hu := hid hu
    by_cases h64 : 64 < n
    · have E : Hid (textD 64 bs = .error 21) := by refine hid ?_; simp [textD, hd, h64]
      clear hu hd h
      go_enter Tryz.func77, Tryz.ntmps77
      go_wp2_with (go_at_call 104; refine (Hid.out Hu).mono ?_; rintro e w' ⟨rfl, rfl⟩; simp only [uintV])
      go_ret3
      exact ⟨by rw [E.out]; rfl, rfl⟩
    · by_cases hs : bs.length < k + n
      · have E : Hid (textD 64 bs = .error 20) := by refine hid ?_; simp [textD, hd, h64, hs]
        obtain ⟨a, cap, rfl⟩ := h.len
        clear hu hd h
        go_enter Tryz.func77, Tryz.ntmps77
        go_wp2_with (go_at_call 104; refine (Hid.out Hu).mono ?_; rintro e w' ⟨rfl, rfl⟩; simp only [uintV])
        go_ret3
        exact ⟨by rw [E.out]; rfl, rfl⟩
      · have E : Hid (textD 64 bs = .ok (((bs.drop k).take n), (k + n))) := by refine hid ?_; simp [textD, hd, h64, hs]
        obtain ⟨a, cap, rfl⟩ := h.len
        have hp := (h.part k (k + n) (by omega) (by omega)).conv
        have hcap : bs.length ≤ cap := by obtain ⟨_, _, e, hc, _⟩ := h; cases e; exact hc
        unfold sliced at hp
        rw [show k + n - k = n from by omega, Nat.mul_one, show List.drop k (List.take (k + n) bs) = (bs.drop k).take n from by rw [List.drop_take]; congr 1; omega] at hp
        clear hu hd h
        go_enter Tryz.func77, Tryz.ntmps77
        go_wp2_with (go_at_call 104; refine (Hid.out Hu).mono ?_; rintro e w' ⟨rfl, rfl⟩; simp only [uintV])
        all_goals (go_ret3; exact ⟨by rw [E.out]; rfl, rfl⟩)
end Go.Proofs.YthnolocldeokeaaGreat

namespace Go.Proofs.YthnolocldeokeaaGreat
open Go.RowKit Go.Deep
set_option linter.unusedVariables false
set_option linter.unusedSimpArgs false
set_option maxRecDepth 100000

theorem run_appR (w : World) (ty : TypeId) (B : Nat) (v u : Value) (xs ys : List Nat) (h : Row w B v xs) (hu : Rd w u ys) (hnil : u.ownBlock = none → u = .slice none 0 0) (hB : B ≤ w.heap.size) (hl : xs.length ≤ 1099511627776) (hl2 : ys.length ≤ 1099511627776) :
    ∃ v' w', (Builtin.append_ #[34, 34] ty #[v, u]).run Tryz.prog w = .ok v' w' ∧ Row w' B v' (xs ++ ys) ∧ Grw w v w' v' := by
  obtain ⟨i0, hi, hz0, hz1, hz2⟩ := info_parts info5
  obtain ⟨a, cap, rfl, hc, hb, h3⟩ := hu
  cases a with
  | none =>
    have e := hnil rfl
    injection e with _ e1 e2
    have : ys = [] := List.eq_nil_of_length_eq_zero e1
    subst this
    subst e2
    exact ⟨v, w, run_append_owned_none w B 34 ty 5 i0 1 Tryz.underlying34 hi v xs.length (bv xs) h, by simpa using h, Grw.refl _ _⟩
  | some ad =>
    obtain ⟨v', w', hrun, hown, hg, _, hat⟩ := run_append_own_at (P := Tryz.prog) w B 34 ty 5 i0 (.int .u8 0) 1 1 Tryz.underlying34 hi hz0 hz1 hz2 rfl (by decide) v xs.length (bv xs) h ad ys.length cap (bv ys) (by simp [bv_length]) (by
      intro j x hx
      simp only [bv, List.getElem?_map, Option.map_eq_some_iff] at hx
      obtain ⟨y, hy, rfl⟩ := hx
      obtain ⟨b, off, e, hcell⟩ := h3 j y hy
      cases e
      rw [Addr.add_lit]; exact hcell) (bv_one ys) (by unfold maxLen; omega) (by omega) hB
    refine ⟨v', w', hrun, ?_, hg, ?_⟩
    · unfold Row
      rw [bv_append, List.length_append]
      exact hown
    · rcases hat with hat | hat
      · exact .inl hat
      · exact .inr ⟨_, hat, Nat.le_refl _⟩

theorem wpList_appR {ops : Array Oper} {rest : List Oper} {o : Oper} {a : Act} {Q : Exit → Act → World → Prop} (w : World) (hgd : o.guard = none) (sl x : Operand)
    (ho : o.op = .call { callee := .builtin .append, args := #[sl, x], argTypes := #[34, 34] }) (v u : Value) (hs : a.eval sl = v) (hx : a.eval x = u)
    (B : Nat) (xs ys : List Nat) (h : Row w B v xs) (hu : Rd w u ys) (hnil : u.ownBlock = none → u = .slice none 0 0) (hB : B ≤ w.heap.size) (hl : xs.length ≤ 1099511627776) (hl2 : ys.length ≤ 1099511627776)
    (k : ∀ v' w', Row w' B v' (xs ++ ys) → Grw w v w' v' → wpList Tryz.prog ops Q rest (a.put o.dst v') w') :
    wpList Tryz.prog ops Q (o :: rest) a w := by
  refine wpList_plain hgd fun K hK => ?_
  obtain ⟨v', w', hr, h2, h3⟩ := run_appR w o.type B v u xs ys h hu hnil hB hl hl2
  unfold Oper.wp execOp
  simp only [ho, resolve, invoke, builtin, Sem.run_bind, Sem.run_pure, Result.andThen_ok, List.map_toArray, List.map_cons, List.map_nil, hs, hx, hr]
  exact hK _ _ (k v' w' h2 h3)

theorem Row.nilOf {w B v xs} (h : Row w B v xs) : v.ownBlock = none → v = .slice none 0 0 := by
  intro e
  rcases h.2 with ⟨rfl, _⟩ | ⟨g, cap, cur, rfl, _⟩
  · rfl
  · cases e

theorem textD_more (M : Nat) (s : ByteArray) (m : List Nat) (hs : s.size < 18446744073709551616) : textD M (encX s ++ m) = if M < s.size then .error 21 else .ok ((sb s), (encX s).length) := by
  unfold textD encX
  rw [List.append_assoc, dec_enc _ _ hs]
  simp only
  split
  · rfl
  · rw [if_neg (by simp [sb_length])]
    congr 2
    · rw [List.drop_left, List.take_left' (sb_length s)]
    · simp [sb_length]
end Go.Proofs.YthnolocldeokeaaGreat

namespace Go.Proofs.YthnolocldeokeaaGreat
open Go.RowKit Go.Deep Go.Shelf
set_option linter.unusedVariables false
set_option linter.unusedSimpArgs false
set_option maxRecDepth 100000
/- What is put behind a row of one's own. -/
def ApP (w : World) (B : Nat) (v : Value) (ys : List Nat) (e : Ending) (w' : World) : Prop := ∃ v', e = .returned v' ∧ Row w' B v' ys ∧ Grw w v w' v'
theorem Grw.ofBelow {w w' : World} (v : Value) (b : Below w.heap.size w w') : Grw w v w' v := ⟨⟨b.os, b.tape, b.output, b.size, fun j hj _ => b.block j hj⟩, .inl rfl⟩
theorem Grw.undrew {w w' : World} {v v' : Value} (h : Grw w.drew v w' v') : Grw w v w' v' := (Grw.ofBelow v (Below.refl _ w).drew).trans h
def inR (k : Int) : Prop := -9223372036854775808 ≤ k ∧ k ≤ 9223372036854775807
theorem putInt_lim (w : World) (k : Int) (hk : inR k) : Calls Tryz.prog 63 #[.int .i64 k] w fun e w' => ∃ v', e = .returned v' ∧ Row w' w.heap.size v' (enc (zz k)) ∧ Below w.heap.size w w' := putInt_any w k hk.1 hk.2
theorem enc_zz_le (k : Int) (hk : inR k) : (enc (zz k)).length ≤ 10 := enc_le _ (zz_lt k hk.1 hk.2)
set_option maxHeartbeats 1000000 in
theorem appInt_any (w : World) (B : Nat) (v : Value) (xs : List Nat) (k : Int) (h : Row w B v xs) (hB : B ≤ w.heap.size) (hl : xs.length ≤ 1000000000) (hk : inR k) :
    Calls Tryz.prog 27 #[v, .int .i64 k] w (ApP w B v (xs ++ enc (zz k))) := by
  have K := hid (putInt_lim w k hk)
  have H := hid h
  have HE := hid (enc_zz_le k hk)
  have HBy := hid (enc_byt (zz k))
  clear h hk
  go_enter Tryz.func27, Tryz.ntmps27
  go_wp2_with (first
    | (go_at_call 63; (refine (Hid.out K).mono ?_; rintro e w1 ⟨v1, rfl, hr, hb⟩; have HR := hid hr; have HB := hid hb; clear hr hb))
    | (at_builtin; refine wpList_appR _ rfl _ _ rfl _ _ (by rfl) (by rfl) B xs _ (H.out.below (Nat.le_refl _) HB.out) (HR.out.rd HBy.out) HR.out.nilOf (Nat.le_trans hB HB.out.size) (by omega) (by have := HE.out; omega) ?_; intro v2 w2 h1 h2; have H1 := hid h1; have H2 := hid h2; clear h1 h2))
  go_ret
  exact ⟨_, rfl, H1.out, (Grw.ofBelow v HB.out).trans H2.out⟩
set_option maxHeartbeats 1000000 in
theorem appText_any (w : World) (B : Nat) (v : Value) (xs : List Nat) (s : ByteArray) (h : Row w B v xs) (hB : B ≤ w.heap.size) (hl : xs.length ≤ 1000000000) (hs : s.size ≤ 1000000) :
    Calls Tryz.prog 29 #[v, .string s] w (ApP w B v (xs ++ encX s)) := by
  have K := hid (putText_any w s (by omega))
  have H := hid h
  have HE : Hid ((encX s).length ≤ 1000010) := hid (by unfold encX; rw [List.length_append, sb_length]; have := enc_le s.size (by omega); omega)
  have HBy := hid (encX_byt s)
  clear h hs
  go_enter Tryz.func29, Tryz.ntmps29
  go_wp2_with (first
    | (go_at_call 64; (refine (Hid.out K).mono ?_; rintro e w1 ⟨v1, rfl, hr, hb⟩; have HR := hid hr; have HB := hid hb; clear hr hb))
    | (at_builtin; refine wpList_appR _ rfl _ _ rfl _ _ (by rfl) (by rfl) B xs _ (H.out.below (Nat.le_refl _) HB.out) (HR.out.rd HBy.out) HR.out.nilOf (Nat.le_trans hB HB.out.size) (by omega) (by have := HE.out; omega) ?_; intro v2 w2 h1 h2; have H1 := hid h1; have H2 := hid h2; clear h1 h2))
  go_ret
  exact ⟨_, rfl, H1.out, (Grw.ofBelow v HB.out).trans H2.out⟩
set_option maxHeartbeats 1000000 in
theorem appNumber_any (w : World) (B : Nat) (v : Value) (xs : List Nat) (k : Int) (h : Row w B v xs) (hB : B ≤ w.heap.size) (hl : xs.length ≤ 1000000000) (hk : inR k) :
    Calls Tryz.prog 32 #[v, .int .i64 k] w (ApP w B v (xs ++ enc (zz k))) := by
  have K := hid (appInt_any w B v xs k h hB hl hk)
  clear h hk
  go_enter Tryz.func32, Tryz.ntmps32
  go_wp2_with (go_at_call 27; (refine (Hid.out K).mono ?_; rintro e w1 ⟨v1, rfl, hr, hb⟩; have HR := hid hr; have HB := hid hb; clear hr hb))
  go_ret
  exact ⟨_, rfl, HR.out, HB.out⟩
def encTy (t : TyP) : List Nat := enc (zz t.1) ++ enc (zz t.2)
set_option maxHeartbeats 1000000 in
theorem appType_any (w : World) (B : Nat) (v : Value) (xs : List Nat) (t : TyP) (h : Row w B v xs) (hB : B ≤ w.heap.size) (hl : xs.length ≤ 100000000) (hk : inR t.1 ∧ inR t.2) :
    Calls Tryz.prog 62 #[v, .agg #[.int .i64 t.1, .int .i64 t.2]] w (ApP w B v (xs ++ encTy t)) := by
  obtain ⟨t1, t2⟩ := t
  simp only at hk ⊢
  obtain ⟨W0, hW0⟩ : ∃ W0, W0 = w.alloc (.cells #[.int .i64 t1, .int .i64 t2] 46) := ⟨_, rfl⟩
  obtain ⟨X, hX⟩ : ∃ X, X = w.heap.size := ⟨_, rfl⟩
  have mX : W0.heap[X]? = some (.cells #[.int .i64 t1, .int .i64 t2] 46 (0, 0)) := by rw [hW0, hX]; exact heap_alloc_new w _
  have r0 : Row W0 B v xs := by rw [hW0]; exact h.alloc _
  have hB0 : B ≤ W0.heap.size := by rw [hW0, World.size_alloc]; omega
  have own : some X ≠ v.ownBlock := fun e => by have := (h.own X e.symm).2; omega
  have K1 := hid (appNumber_any W0.drew B v xs t1 r0.drew hB0 (by omega) hk.1)
  have K2 := hid (fun (V : World) (u : Value) (hr : Row V B u (xs ++ enc (zz t1))) (hb : B ≤ V.heap.size) => appNumber_any V B u (xs ++ enc (zz t1)) t2 hr hb (by rw [List.length_append]; have := enc_zz_le t1 hk.1; omega) hk.2)
  have ST : Hid (∀ (V : World) (u : Value), Grw W0 v V u → V.cell? ⟨X, 0, none⟩ = some (.int .i64 t1) ∧ V.cell? ⟨X, 1, none⟩ = some (.int .i64 t2)) := hid (fun V u hg => by
    have h2 := (hg.1.block X (lt_of_heap mX) own).trans mX
    exact ⟨cellOf h2 0, cellOf h2 1⟩)
  have UN : Hid (∀ (V : World) (u : Value), Grw W0 v V u → Grw w v V u) := hid (fun V u hg => by rw [hW0] at hg; exact hg.unalloc)
  obtain ⟨x0, x1⟩ := ST.out W0 v (Grw.refl _ _)
  have HE : Hid (xs ++ encTy (t1, t2) = xs ++ enc (zz t1) ++ enc (zz t2)) := hid (by simp [encTy])
  clear h r0 mX own hk
  go_enter Tryz.func62, Tryz.ntmps62
  go_upto_region 1 with fail
  rw [← hX, ← hW0]
  clear hX hW0
  go_region_held3 (fun V => V.cell? ⟨X, 0, none⟩ = some (.int .i64 t1) ∧ V.cell? ⟨X, 1, none⟩ = some (.int .i64 t2)) (first | exact s2 | exact s1 | go_keep) (first
    | (have hno := hs1; (go_at_call 32; (refine (K2.out w1 u1 HR1.out HB1.out).mono ?_; rintro e w2 ⟨u2, rfl, hr2, hg2⟩; have HR2 := hid hr2; have HG2 := hid (HG1.out.trans hg2); have s2 := ST.out w2 u2 HG2.out; clear hr2 hg2)))
    | (go_at_call 32; (refine (Hid.out K1).mono ?_; rintro e w1 ⟨u1, rfl, hr1, hg1⟩; have HR1 := hid hr1; have HG1 := hid hg1.undrew; have HB1 := hid (Nat.le_trans hB0 hg1.size); have s1 := ST.out w1 u1 HG1.out; have hs1 := True.intro; clear hr1 hg1)))
  go_wp2
  go_ret
  exact ⟨_, rfl, by rw [HE.out]; exact HR2.out, UN.out _ _ HG2.out⟩
end Go.Proofs.YthnolocldeokeaaGreat

namespace Go.Proofs.YthnolocldeokeaaGreat
set_option maxRecDepth 100000
open Go.ChangeShapes Go.WideShapes Go.ChangeAt Go.RowKit Go.Deep
set_option linter.unusedVariables false
set_option linter.unusedSimpArgs false
theorem cellsCode : Tryz.prog.cellsOf 31 = 8 := by kernel_rfl
theorem cellsFns : Tryz.prog.cellsOf 29 = 1 := by kernel_rfl
theorem cellsFn : Tryz.prog.cellsOf 57 = 2 := by kernel_rfl
theorem cellsOps : Tryz.prog.cellsOf 55 = 1 := by kernel_rfl
theorem cellsI64s' : Tryz.prog.cellsOf 27 = 1 := by kernel_rfl
theorem bytesFn : Tryz.prog.bytesOf 57 = 32 := by kernel_rfl
/- A row of functions that came in. -/
structure FwRd (w : World) (a : Option Addr) (n : Nat) (fs : List (FH × Fx)) : Prop where
  rd : FRd w a n fs
  n3 : n ≤ 140737488355328
  o3 : ∀ p ∈ fs, p.1.on ≤ 140737488355328
theorem FwRd.below {w w' : World} {a : Option Addr} {n : Nat} {fs : List (FH × Fx)} {B : Nat} (d : FwRd w a n fs) (hB : w.heap.size ≤ B) (k : Below B w w') : FwRd w' a n fs := ⟨d.rd.below hB k, d.n3, d.o3⟩
section
variable {H : Type} {enc : TypeId × Value → H} {W : World}
set_option maxRecDepth 100000 in
theorem fnS_of {cs : List Value} (hl : cs.length = 2) (h : TrdS enc W 57 cs) : ∃ p : FH × Fx, cs = p.1.cs ∧ FnRd W p.1 p.2 ∧ p.1.on ≤ 140737488355328 := by
  obtain ⟨fuel, x, hf, hsm⟩ := h
  obtain ⟨xs, n, _, rfl, _, hlen, hf⟩ := DataW.trod_struct Tryz.underlying57 hf
  match cs, hl with
  | [c0, c1], _ =>
    match xs, hlen with
    | [y0, y1], _ =>
      have h0 := hf 0 _ rfl
      have h1 := hf 1 _ rfl
      simp [f_cells3, cellsOps] at h0 h1
      have s1 : f_Sm 55 y1.1 := fun n hn => hsm n (by
        simp only [DataW.weights, Tryz.underlying57]
        simp [DataW.weightsEach]
        exact .inr hn)
      obtain ⟨regs, rfl⟩ := f_int_of ⟨_, _, h0⟩
      obtain ⟨a, m, cap, rfl⟩ := f_slice_of Tryz.underlying55 ⟨_, _, h1⟩
      obtain ⟨ops, h2, h3, h4⟩ := ord_of ⟨_, _, h1⟩
      obtain ⟨_, _, _, _, e4, e5⟩ := rowsS_of Tryz.underlying55 cells36 (by omega) ⟨_, _, h1, s1⟩
      rw [bytes36, reach_is] at e4
      exact ⟨(⟨regs, a, m, cap⟩, ⟨regs, ops⟩), rfl, ⟨rfl, h2, h3, h4⟩, by show m ≤ _; omega⟩
theorem fw_of {a : Option Addr} {n cap : Nat} (h : TrdS enc W 29 [.slice a n cap]) : ∃ fs : List (FH × Fx), FwRd W a n fs := by
  obtain ⟨rows, hl, hrd, hel, hn, hc⟩ := rowsS_of Tryz.underlying29 cellsFn (by omega) h
  rw [bytesFn, reach_is] at hn
  obtain ⟨fs, hm, hr⟩ := list_of (R := fun r (p : FH × Fx) => r = p.1.cs ∧ FnRd W p.1 p.2 ∧ p.1.on ≤ 140737488355328) rows (fun r hr => by
    obtain ⟨h1, h2⟩ := hel r hr
    exact fnS_of h1 h2)
  have he : ∀ p ∈ fs, FnRd W p.1 p.2 ∧ p.1.on ≤ 140737488355328 := fun p hp => by
    obtain ⟨j, hj⟩ := List.getElem?_of_mem hp
    obtain ⟨r, hrr⟩ := at_of hm hj
    obtain ⟨x, h1, _, h3⟩ := hr j r hrr
    rw [hj] at h1; cases h1; exact h3
  exact ⟨fs, ⟨⟨by omega, by omega, crd_map (fun p => p.1.cs) hrd hm (fun j r e => by obtain ⟨x, h1, h2, _⟩ := hr j r e; exact ⟨x, h1, h2⟩), fun p hp => (he p hp).1⟩, by omega, fun p hp => (he p hp).2⟩⟩
theorem i64_in {c : Value} (h : TrdT enc W 2 [c]) : ∃ n, c = .int .i64 n ∧ inR n := by
  obtain ⟨fuel, x, hf⟩ := h
  obtain ⟨n, e, _, w⟩ := DataW.trod_int Tryz.underlying2 hf
  simp at e
  have w' : -9223372036854775808 ≤ n ∧ n ≤ 9223372036854775807 := by simpa [Lit.wf, IntKind.min, IntKind.max, IntKind.signed, IntKind.bits] using w
  exact ⟨n, e, w'⟩
theorem jrd_in {a : Option Addr} {n cap : Nat} (h : TrdT enc W 27 [.slice a n cap]) : ∃ xs : List Int, n = xs.length ∧ n ≤ 9223372036854775807 ∧ JRd W a xs ∧ ∀ x ∈ xs, inR x := by
  obtain ⟨rows, hl, hrd, hel, hn, hc⟩ := rows_of Tryz.underlying27 cellsI64 (by omega) h
  obtain ⟨ss, hm, hr⟩ := list_of (R := fun r (s : Int) => r = inc s ∧ inR s) rows (fun r hr => by
    obtain ⟨h1, h2⟩ := hel r hr
    match r, h1 with
    | [c], _ =>
      obtain ⟨s, rfl, hs⟩ := i64_in h2
      exact ⟨s, rfl, hs⟩)
  refine ⟨ss, by omega, hn, crd_map inc hrd hm (fun j r e => by obtain ⟨x, h1, h2, _⟩ := hr j r e; exact ⟨x, h1, h2⟩), fun x hx => ?_⟩
  obtain ⟨j, hj⟩ := List.getElem?_of_mem hx
  obtain ⟨r, hrr⟩ := at_of hm hj
  obtain ⟨y, h1, _, h3⟩ := hr j r hrr
  rw [hj] at h1; cases h1; exact h3
/- All that is known of a code that came in. -/
structure CwRd (W : World) (C : CH) (c : Cx) (xs : List Int) (fs es : List (FH × Fx)) : Prop where
  cd : CdRd W C c fs es
  i1 : C.inn = xs.length
  ir : JRd W C.ia xs
  ix : ∀ x ∈ xs, inR x
  f3 : FwRd W C.fa C.fn fs
  e3 : FwRd W C.ea C.en es
theorem CwRd.below {w w' : World} {C : CH} {c : Cx} {xs : List Int} {fs es : List (FH × Fx)} (d : CwRd w C c xs fs es) (k : Below w.heap.size w w') : CwRd w' C c xs fs es := ⟨d.cd.below (Nat.le_refl _) k, d.i1, CRd.below d.ir (Nat.le_refl _) k, d.ix, d.f3.below (Nat.le_refl _) k, d.e3.below (Nat.le_refl _) k⟩
set_option maxRecDepth 100000 in
theorem code_of {cs : List Value} (hl : cs.length = 8) (h : TrdS enc W 31 cs) : ∃ (C : CH) (c : Cx) (xs : List Int) (fs es : List (FH × Fx)), cs.toArray = C.cs ∧ CwRd W C c xs fs es := by
  obtain ⟨fuel, x, hf, hsm⟩ := h
  obtain ⟨xs, n, _, rfl, _, hlen, hf⟩ := DataW.trod_struct Tryz.underlying31 hf
  match cs, hl with
  | [c0, c1, c2, c3, c4, c5, c6, c7], _ =>
    match xs, hlen with
    | [y0, y1, y2, y3, y4], _ =>
      have h0 := hf 0 _ rfl
      have h1 := hf 1 _ rfl
      have h2 := hf 2 _ rfl
      have h3 := hf 3 _ rfl
      have h4 := hf 4 _ rfl
      simp [cells26, cellsI64s', cells43, cellsFns] at h0 h1 h2 h3 h4
      have s3 : f_Sm 29 y3.1 := fun n hn => hsm n (by
        simp only [DataW.weights, Tryz.underlying31]
        simp [DataW.weightsEach]
        exact .inr (.inr (.inr (.inl hn))))
      have s4 : f_Sm 29 y4.1 := fun n hn => hsm n (by
        simp only [DataW.weights, Tryz.underlying31]
        simp [DataW.weightsEach]
        exact .inr (.inr (.inr (.inr hn))))
      obtain ⟨g, p, e0, k0, k0'⟩ := prog_nil rfl ⟨_, _, h0⟩
      cases e0
      obtain ⟨ia, inn, ic, rfl⟩ := slice_of Tryz.underlying27 ⟨_, _, h1⟩
      obtain ⟨ta, tn, tc, rfl⟩ := slice_of Tryz.underlying28 ⟨_, _, h2⟩
      obtain ⟨fa, fn, fc, rfl⟩ := slice_of Tryz.underlying29 ⟨_, _, h3⟩
      obtain ⟨ea, en, ec, rfl⟩ := slice_of Tryz.underlying29 ⟨_, _, h4⟩
      obtain ⟨ys, i1, i2, i3, i4⟩ := jrd_in ⟨_, _, h1⟩
      obtain ⟨ts, t1, _, t2, t3⟩ := srd_of ⟨_, _, h2⟩
      obtain ⟨fs, kf⟩ := fw_of ⟨_, _, h3, s3⟩
      obtain ⟨es, ke⟩ := fw_of ⟨_, _, h4, s4⟩
      exact ⟨⟨g, ia, inn, ic, ta, tn, tc, fa, fn, fc, ea, en, ec⟩, ⟨p, ys.length, ts, fs.map (·.2), es.map (·.2)⟩, ys, fs, es, rfl, ⟨⟨k0, i1, i2, t1, t2, t3, kf.rd, rfl, ke.rd, rfl⟩, i1, i3, i4, kf, ke⟩⟩
set_option maxRecDepth 100000 in
theorem code_arg {v : Value} {base : Nat} {d : DataW H} {p : List MemPlace} (hv : Value.okWide Tryz.prog W .any base 31 v) (h : DataW.Trod enc Tryz.prog W 0 (fun _ => true) true 31 v d p) (hs : f_Sm 31 d) : ∃ (C : CH) (c : Cx) (xs : List Int) (fs es : List (FH × Fx)), v = C.v ∧ CwRd W C c xs fs es := by
  obtain ⟨cs, rfl, hs'⟩ := okWide_struct Tryz.underlying31 hv
  obtain ⟨m, hm⟩ := h
  have hlen : cs.toList.length = 8 := by
    have hm' := hm
    obtain ⟨xs, n, _, _, hl, _, _⟩ := DataW.trod_struct Tryz.underlying31 hm'
    rw [cellsCode] at hl; exact hl
  obtain ⟨C, c, xs, fs, es, e, h2⟩ := code_of (cs := cs.toList) hlen ⟨_, _, hm, hs⟩
  refine ⟨C, c, xs, fs, es, ?_, h2⟩
  have : cs = C.cs := by rw [← e]
  rw [this]; rfl
end
end Go.Proofs.YthnolocldeokeaaGreat

namespace Go.Proofs.YthnolocldeokeaaGreat
open Go.RowKit Go.Deep Go.Shelf
set_option linter.unusedVariables false
set_option linter.unusedSimpArgs false
structure CEq (c1 c2 : Cx) : Prop where
  p : PEq c1.p c2.p
  t : c1.texts = c2.texts
  f : c1.funcs = c2.funcs
  e : c1.events = c2.events
set_option maxRecDepth 100000 in
set_option maxHeartbeats 8000000 in
theorem same_yes (w : World) (C D : CH) (c1 c2 : Cx) (fs es fs2 es2 : List (FH × Fx)) (xs : List Int) (d1 : CdRd w C c1 fs es) (d2 : CdRd w D c2 fs2 es2) (he : CEq c1 c2) (j1 : JRd w C.ia xs) (j2 : JRd w D.ia xs) (n1 : C.inn = xs.length) (n2 : D.inn = xs.length) :
    Calls Tryz.prog 11 #[C.v, D.v] w fun e w' => e = .returned (.bool true) ∧ Below w.heap.size w w' := by
  have ei : C.inn = D.inn := n1.trans n2.symm
  have et : C.tn = D.tn := by rw [d1.t1, d2.t1, he.t]
  have hff : fs.map (·.2) = fs2.map (·.2) := by rw [d1.fe, d2.fe, he.f]
  have hee : es.map (·.2) = es2.map (·.2) := by rw [d1.ee, d2.ee, he.e]
  have ef : C.fn = D.fn := by rw [d1.f.n1, d2.f.n1]; have := congrArg List.length hff; rw [List.length_map, List.length_map] at this; exact this
  have ee : C.en = D.en := by rw [d1.e.n1, d2.e.n1]; have := congrArg List.length hee; rw [List.length_map, List.length_map] at this; exact this
  obtain ⟨A1, hA1⟩ : ∃ A1, A1 = w.alloc (.cells C.cs 31) := ⟨_, rfl⟩
  obtain ⟨W0, hW0⟩ : ∃ W0, W0 = A1.alloc (.cells D.cs 31) := ⟨_, rfl⟩
  have b1 : Below w.heap.size w A1 := by rw [hA1]; exact (Below.refl _ _).alloc (Nat.le_refl _) _
  have z1 : A1.heap.size = w.heap.size + 1 := by rw [hA1]; simp
  have bw : Below w.heap.size w W0 := by rw [hW0]; exact b1.alloc (by omega) _
  have q0 : W0.heap[w.heap.size]? = some (.cells C.cs 31 (0, 0)) := by rw [hW0, Below.heap_alloc _ _ _ (by omega), hA1]; exact heap_alloc_new w _
  have q1 : W0.heap[w.heap.size + 1]? = some (.cells D.cs 31 (0, 0)) := by rw [hW0, ← z1]; exact heap_alloc_new A1 _
  have GT : Hid (∀ V : World, Below W0.heap.size W0 V → V.heap[w.heap.size]? = some (.cells C.cs 31 (0, 0)) ∧ V.heap[w.heap.size + 1]? = some (.cells D.cs 31 (0, 0)) ∧ Below w.heap.size w V) := hid (fun V hV => ⟨(hV.block _ (lt_of_heap q0)).trans q0, (hV.block _ (lt_of_heap q1)).trans q1, bw.trans (hV.mono bw.size)⟩)
  have KP := hid (sameProgram_yes W0 C.h D.h c1.p c2.p (d1.p.below (Nat.le_refl _) bw) (d2.p.below (Nat.le_refl _) bw) he.p)
  have KF := hid (fun (V : World) (hV : Below w.heap.size w V) => sameFns_yes V C.fa D.fa C.fn C.fc D.fc fs fs2 (d1.f.below (Nat.le_refl _) hV) (ef ▸ d2.f.below (Nat.le_refl _) hV) hff)
  have KE := hid (fun (V : World) (hV : Below w.heap.size w V) => sameFns_yes V C.ea D.ea C.en C.ec D.ec es es2 (d1.e.below (Nat.le_refl _) hV) (ee ▸ d2.e.below (Nat.le_refl _) hV) hee)
  have J1 := hid j1
  have J2 := hid j2
  have T1 := hid d1.tr
  have T2 : Hid (SRd w D.ta c1.texts) := hid (by rw [he.t]; exact d2.tr)
  have HT := hid d1.t1
  have HI := hid n1
  have li := d1.i2
  have lt := d1.t2
  have lf := d1.f.n2
  have le := d1.e.n2
  clear d1 d2 he j1 j2 n1 n2 hff hee q0 q1 b1 bw z1
  obtain ⟨⟨ra, rn, rc, ma, mn, mc, fa, fn, fc, ea, en, ec⟩, ia, inn, ic, ta, tn, tc, ga, gn, gc, ha, hn, hc⟩ := C
  obtain ⟨⟨ra2, rn2, rc2, ma2, mn2, mc2, fa2, fn2, fc2, ea2, en2, ec2⟩, ia2, inn2, ic2, ta2, tn2, tc2, ga2, gn2, gc2, ha2, hn2, hc2⟩ := D
  simp only [CH.v, CH.cs, PH.v] at hA1 hW0 GT KP KF KE J1 J2 T1 T2 HT HI li lt lf le ei et ef ee ⊢
  subst ei et ef ee
  have CL : Hid (∀ V : World, Below W0.heap.size W0 V → ((V.cell? ⟨w.heap.size, 0, none⟩ = some (.slice ra rn rc) ∧ V.cell? ⟨w.heap.size, 1, none⟩ = some (.slice ma mn mc) ∧ V.cell? ⟨w.heap.size, 2, none⟩ = some (.slice fa fn fc) ∧ V.cell? ⟨w.heap.size, 3, none⟩ = some (.slice ea en ec)) ∧ V.cell? ⟨w.heap.size, 4, none⟩ = some (.slice ia inn ic) ∧ V.cell? ⟨w.heap.size, 5, none⟩ = some (.slice ta tn tc) ∧ V.cell? ⟨w.heap.size, 6, none⟩ = some (.slice ga gn gc) ∧ V.cell? ⟨w.heap.size, 7, none⟩ = some (.slice ha hn hc)) ∧ ((V.cell? ⟨w.heap.size + 1, 0, none⟩ = some (.slice ra2 rn2 rc2) ∧ V.cell? ⟨w.heap.size + 1, 1, none⟩ = some (.slice ma2 mn2 mc2) ∧ V.cell? ⟨w.heap.size + 1, 2, none⟩ = some (.slice fa2 fn2 fc2) ∧ V.cell? ⟨w.heap.size + 1, 3, none⟩ = some (.slice ea2 en2 ec2)) ∧ V.cell? ⟨w.heap.size + 1, 4, none⟩ = some (.slice ia2 inn ic2) ∧ V.cell? ⟨w.heap.size + 1, 5, none⟩ = some (.slice ta2 tn tc2) ∧ V.cell? ⟨w.heap.size + 1, 6, none⟩ = some (.slice ga2 gn gc2) ∧ V.cell? ⟨w.heap.size + 1, 7, none⟩ = some (.slice ha2 hn hc2)) ∧ Below w.heap.size w V) := hid (fun V hV => by
    obtain ⟨g, g', gb⟩ := GT.out V hV
    exact ⟨⟨⟨cellOf g 0, cellOf g 1, cellOf g 2, cellOf g 3⟩, cellOf g 4, cellOf g 5, cellOf g 6, cellOf g 7⟩, ⟨⟨cellOf g' 0, cellOf g' 1, cellOf g' 2, cellOf g' 3⟩, cellOf g' 4, cellOf g' 5, cellOf g' 6, cellOf g' 7⟩, gb⟩)
  have inI : (inn : Int) ≤ 9223372036854775807 := by omega
  have tnI : (tn : Int) ≤ 9223372036854775807 := by omega
  have gnI : (gn : Int) ≤ 9223372036854775807 := by omega
  have hnI : (hn : Int) ≤ 9223372036854775807 := by omega
  have nb1 : ((inn : Int) != (inn : Int)) = false := by simp
  have nb2 : ((tn : Int) != (tn : Int)) = false := by simp
  have TR : Hid (∀ {x y : World}, Below W0.heap.size W0 x → Below x.heap.size x y → Below W0.heap.size W0 y) := hid (fun h1 h2 => h1.trans (h2.mono h1.size))
  obtain ⟨⟨⟨c0, c1', c2', c3⟩, c4, c5, c6, c7⟩, ⟨⟨d0, d1, d2, d3⟩, d4, d5, d6, d7⟩, _⟩ := CL.out W0 (Below.refl _ _)
  clear GT
  go_enter Tryz.func11, Tryz.ntmps11
  go_upto_region 1 with fail
  rw [← hA1, ← hW0]
  clear hA1 hW0
  go_upto_region 3 with (first
    | (go_at_call 47; (refine (Hid.out KP).mono ?_; rintro e w1 ⟨rfl, hb1⟩; clear c0 c1' c2' c3 c4 c5 c6 c7 d0 d1 d2 d3 d4 d5 d6 d7; obtain ⟨⟨⟨c0, c1', c2', c3⟩, c4, c5, c6, c7⟩, ⟨⟨d0, d1, d2, d3⟩, d4, d5, d6, d7⟩, g1⟩ := CL.out w1 hb1))
    | (have hno := hfirst; (go_at_call 48; (refine (KE.out w2 g2).mono ?_; rintro e w3 ⟨rfl, hb3⟩; have HB3 := hid (TR.out hb2' hb3); clear c0 c1' c2' c3 c4 c5 c6 c7 d0 d1 d2 d3 d4 d5 d6 d7; obtain ⟨⟨⟨c0, c1', c2', c3⟩, c4, c5, c6, c7⟩, ⟨⟨d0, d1, d2, d3⟩, d4, d5, d6, d7⟩, g3⟩ := CL.out w3 HB3.out)))
    | (go_at_call 48; (refine (KF.out w1 g1).mono ?_; rintro e w2 ⟨rfl, hb2⟩; have hb2' := TR.out hb1 hb2; clear c0 c1' c2' c3 c4 c5 c6 c7 d0 d1 d2 d3 d4 d5 d6 d7; obtain ⟨⟨⟨c0, c1', c2', c3⟩, c4, c5, c6, c7⟩, ⟨⟨d0, d1, d2, d3⟩, d4, d5, d6, d7⟩, g2⟩ := CL.out w2 hb2'; have hfirst : True := trivial)))
  clear hb1 hb2 hb3 hb2' hfirst g1 g2 g3 KP KF KE
  go_wp2
  go_loopg [5] inn (fun g x wr => ∃ j : Nat, j + g = inn ∧ x = .int .i64 (j : Int) ∧ Below W0.heap.size W0 wr)
  case atStart => exact ⟨0, by omega, rfl, HB3.out⟩
  case round =>
    obtain ⟨j, hj, rfl, hb⟩ := hrel
    clear c0 c1' c2' c3 c4 c5 c6 c7 d0 d1 d2 d3 d4 d5 d6 d7
    obtain ⟨⟨⟨c0, c1', c2', c3⟩, c4, c5, c6, c7⟩, ⟨⟨d0, d1, d2, d3⟩, d4, d5, d6, d7⟩, gb⟩ := CL.out wr hb
    cases gk with
    | zero =>
      have hjn : j = inn := by omega
      subst hjn
      have HB := hid hb
      clear hb gb
      go_wp2
      go_loopg [6] tn (fun g2 x wr2 => ∃ i : Nat, i + g2 = tn ∧ x = .int .i64 (i : Int) ∧ Below W0.heap.size W0 wr2)
      case atStart => exact ⟨0, by omega, rfl, HB.out⟩
      case round =>
        obtain ⟨i, hi, rfl, hb⟩ := hrel
        clear c0 c1' c2' c3 c4 c5 c6 c7 d0 d1 d2 d3 d4 d5 d6 d7
        obtain ⟨⟨⟨c0, c1', c2', c3⟩, c4, c5, c6, c7⟩, ⟨⟨d0, d1, d2, d3⟩, d4, d5, d6, d7⟩, gb⟩ := CL.out wr hb
        cases gk with
        | zero =>
          have hin : i = tn := by omega
          subst hin
          have GB := hid gb
          clear gb hb
          go_wp2
          go_ret
          exact ⟨rfl, GB.out⟩
        | succ g2 =>
          obtain ⟨s, hs⟩ : ∃ s, c1.texts[i]? = some s := ⟨c1.texts[i]'(by have := HT.out; omega), List.getElem?_eq_getElem _⟩
          obtain ⟨_, p1, u1, rfl, z1⟩ := (T1.out.below (Nat.le_refl _) gb) i s hs
          obtain ⟨_, p2, u2, rfl, z2⟩ := (T2.out.below (Nat.le_refl _) gb) i s hs
          have hiI : (i : Int) < (tn : Int) := by omega
          have hi0 : (0 : Int) ≤ (i : Int) := by omega
          have H3 := hid hb
          clear hb hs gb
          go_wp2
          go_quiet (fail)
          go_wp2
          go_roundg g2
          case measure => omega
          exact ⟨i + 1, by omega, by go_num, bel_dN H3.out _⟩
    | succ g =>
      obtain ⟨x, hx⟩ : ∃ x, xs[j]? = some x := ⟨xs[j]'(by have := HI.out; omega), List.getElem?_eq_getElem _⟩
      obtain ⟨p1, u1, rfl, _, z1⟩ := (CRd.below J1.out (Nat.le_refl _) gb) j (inc x) (by rw [List.getElem?_map, hx]; rfl)
      obtain ⟨p2, u2, rfl, _, z2⟩ := (CRd.below J2.out (Nat.le_refl _) gb) j (inc x) (by rw [List.getElem?_map, hx]; rfl)
      have y1 := z1 0 (by omega)
      have y2 := z2 0 (by omega)
      simp only [inc, List.getElem?_cons_zero, Nat.add_zero, Nat.mul_one] at y1 y2
      have hjI : (j : Int) < (inn : Int) := by omega
      have hj0 : (0 : Int) ≤ (j : Int) := by omega
      have H3 := hid hb
      clear hb hx gb z1 z2
      go_wp2
      go_quiet (fail)
      go_wp2
      go_roundg g
      case measure => omega
      exact ⟨j + 1, by omega, by go_num, bel_dN H3.out _⟩
end Go.Proofs.YthnolocldeokeaaGreat

