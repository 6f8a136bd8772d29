/- PutValue: plain values have bytes. -/
import Derived.Test.YtenfgahedbeekaaJAH
import Derived.Below
import Derived.Deep.AppendLies
import Derived.Deep.OwnRows
import Derived.Deep.RegionHeld3
import Derived.Laws.Bits64b
import Derived.Laws.BitsLemmas
import Derived.Lib.AppendStr
import Derived.Maps.AppendAt
import Derived.WalkKit
import Derived.WalkLawsBesides
import Derived.WalkSpells
import Derived.Deep.LoopGhost
namespace Go.Proofs.Ytenfgahedbeekaa
open Go.RowKit Go.Deep
set_option linter.unusedVariables false
set_option linter.unusedSimpArgs false

def bv (xs : List Nat) : List Value := xs.map fun (x : Nat) => Value.int .u8 (x : Int)
theorem bv_length (xs : List Nat) : (bv xs).length = xs.length := by simp [bv]
theorem bv_append (xs ys : List Nat) : bv (xs ++ ys) = bv xs ++ bv ys := by simp [bv]
def encF : Nat → Nat → List Nat
  | 0, n => [n]
  | f + 1, n => if n < 128 then [n] else (n % 128 + 128) :: encF f (n / 128)
def enc (n : Nat) : List Nat := encF n n
theorem encF_eq : ∀ (f g n : Nat), n ≤ f → n ≤ g → encF f n = encF g n
  | 0, 0, n, _, _ => rfl
  | 0, g + 1, n, h, _ => by simp only [encF]; rw [if_pos (by omega)]
  | f + 1, 0, n, _, h => by simp only [encF]; rw [if_pos (by omega)]
  | f + 1, g + 1, n, h1, h2 => by
    simp only [encF]
    split
    · rfl
    · rw [encF_eq f g (n / 128) (by omega) (by omega)]

theorem enc_small {n : Nat} (h : n < 128) : enc n = [n] := by
  unfold enc
  cases n with
  | zero => rfl
  | succ m => simp only [encF]; rw [if_pos h]
theorem enc_big {n : Nat} (h : ¬ n < 128) : enc n = (n % 128 + 128) :: enc (n / 128) := by
  unfold enc
  cases n with
  | zero => exact absurd (by decide) h
  | succ m =>
    simp only [encF]
    rw [if_neg h, encF_eq m ((m + 1) / 128) ((m + 1) / 128) (by omega) (Nat.le_refl _)]
theorem enc_length : ∀ (k n : Nat), n < 128 ^ (k + 1) → (enc n).length ≤ k + 1
  | 0, n, h => by rw [enc_small (by simpa using h)]; simp
  | k + 1, n, h => by
    by_cases hn : n < 128
    · rw [enc_small hn]; simp
    · rw [enc_big hn]
      have := enc_length k (n / 128) (by rw [Nat.pow_succ] at h; omega)
      simp; omega
theorem enc_le (n : Nat) (h : n < 18446744073709551616) : (enc n).length ≤ 10 :=
  enc_length 9 n (Nat.lt_of_lt_of_le h (by decide))

def Row (w : World) (B : Nat) (v : Value) (xs : List Nat) : Prop := w.ownsRow B 5 1 v xs.length (bv xs)

theorem Row.nil (w : World) (B : Nat) : Row w B (.slice none 0 0) [] := World.ownsRow_nil w B 5 1
theorem Row.own {w B v xs} (h : Row w B v xs) : ∀ k, v.ownBlock = some k → B ≤ k ∧ k < w.heap.size := World.ownsRow.lt h
theorem Row.drew {w B v xs} (h : Row w B v xs) : Row w.drew B v xs := h
theorem Row.same {w w' : World} {B v xs} (h : Row w B v xs) (e : ∀ g, v.ownBlock = some g → w'.heap[g]? = w.heap[g]?) : Row w' B v xs := by
  refine ⟨h.1, ?_⟩
  rcases h.2 with hn | ⟨g, cap, cur, rfl, hb, hgg, rest⟩
  · exact .inl hn
  · exact .inr ⟨g, cap, cur, rfl, hb, (e g rfl).trans hgg, rest⟩
theorem Row.below {w w' : World} {B C v xs} (h : Row w B v xs) (hC : w.heap.size ≤ C) (k : Below C w w') : Row w' B v xs :=
  h.same fun g e => k.block g (by have := (h.own g e).2; omega)
theorem Row.mono {w : World} {B C v xs} (h : Row w B v xs) (hC : C ≤ B) : Row w C v xs := by
  refine ⟨h.1, ?_⟩
  rcases h.2 with hn | ⟨g, cap, cur, rfl, hb, rest⟩
  · exact .inl hn
  · exact .inr ⟨g, cap, cur, rfl, by omega, rest⟩
theorem info5 : (Try.prog.info? 5).map (fun i => (i.zero, i.size, i.bytes)) = some (some (.int .u8 0), 1, 1) := by kernel_rfl

theorem Grw.below {w w' : World} {v v' : Value} {B : Nat} {xs : List Nat} (h : Grw w v w' v') (hr : Row w B v xs) (hB : B ≤ w.heap.size) : Below B w w' :=
  (Below.refl B w).grown h.1 hB (fun k hk => (hr.own k hk).1)
theorem Grw.nil {w w' : World} {v' : Value} (h : Grw w (.slice none 0 0) w' v') : Below w.heap.size w w' := h.below (Row.nil w _) (Nat.le_refl _)
theorem wpList_app1P {ops : Array Oper} {rest : List Oper} {o : Oper} {a : Act} {Q : Exit → Act → World → Prop} (w : World) (hgd : o.guard = none) (s x : Operand)
    (ho : o.op = .call { callee := .builtin .append, args := #[s, x], argTypes := #[56, 56] }) (v : Value) (y : Int) (hs : a.eval s = v) (hx : a.eval x = .slice (some ⟨w.heap.size, 0, none⟩) 1 1)
    (B : Nat) (xs : List Nat) (z : Nat) (hy : y = z) (h : Row w B v xs) (hB : B ≤ w.heap.size) (hl : xs.length ≤ 1099511627776)
    (k : ∀ v' w', Row w' B v' (xs ++ [z]) → Grw w v w' v' → wpList Try.prog ops Q rest (a.put o.dst v') w') :
    wpList Try.prog ops Q (o :: rest) a (w.alloc (.cells #[.int .u8 y] 5)) := by
  subst hy
  obtain ⟨i0, hi, hz0, hz1, hz2⟩ := info_parts info5
  refine wpList_append_own_at _ hgd s x 56 ho B 5 i0 (.int .u8 0) 1 1 Try.underlying56 hi hz0 hz1 hz2 rfl (by decide) v xs.length (bv xs) hs (World.ownsRow.alloc h _) ⟨w.heap.size, 0, none⟩ 1 1 [.int .u8 (z : Int)] hx rfl (cell_one_new _ _ _)
    (by simp [Value.oneCell']) (by unfold maxLen; omega) (by omega) (by simp; omega) ?_
  intro v' w' hown hg _ hat
  refine k v' w' ?_ ?_
  · unfold Row
    rw [bv_append, List.length_append]
    exact hown
  · refine ⟨alloc_grown hg, ?_⟩
    rcases hat with hat | hat
    · exact .inl hat
    · exact .inr ⟨_, hat, by simp⟩

theorem or128 : ∀ a : Fin 256, bits .or .u8 (a.val : Int) 128 = ((a.val % 128 + 128 : Nat) : Int) := by decide +kernel
theorem or_top (n : Nat) : bits .or .u8 ((n : Int) % 256) 128 = ((n % 128 + 128 : Nat) : Int) := by
  have h := or128 ⟨n % 256, by omega⟩
  simp only at h
  rw [show ((n % 256 : Nat) : Int) = (n : Int) % 256 from by omega] at h
  rw [h]
  omega

set_option maxHeartbeats 400000 in
theorem appendUint_any (w : World) (B : Nat) (v : Value) (xs : List Nat) (n : Nat) (h : Row w B v xs) (hB : B ≤ w.heap.size) (hl : xs.length ≤ 1000000000000) (hn : n < 18446744073709551616) :
    Calls Try.prog 82 #[v, .int .u64 (n : Int)] w fun e w' => ∃ v', e = .returned v' ∧ Row w' B v' (xs ++ enc n) ∧ Grw w v w' v' := by
  go_enter Try.func82, Try.ntmps82
  go_wp2
  go_loopw [0, 1] (fun vv nn wr => ∃ (ys : List Nat) (m : Nat), nn = .int .u64 (m : Int) ∧ m ≤ n ∧ Row wr B vv ys ∧ Grw w v wr vv ∧ ys ++ enc m = xs ++ enc n) (fun _ nn _ => (intOf nn).toNat)
  case atStart => exact ⟨xs, n, rfl, Nat.le_refl _, h, Grw.refl _ _, rfl⟩
  case round =>
    obtain ⟨ys, m, rfl, hm, hr, hb, he⟩ := hrel
    have hlen : ys.length ≤ 1099511627776 := by
      have := congrArg List.length he
      have h10 := enc_le n hn
      simp at this; omega
    have hBs : B ≤ wr.heap.size := Nat.le_trans hB hb.size
    have ht := or_top m
    have He := hid he
    clear he
    by_cases hlt : m < 128
    · go_wp2_with (at_builtin; refine wpList_app1P _ rfl _ _ rfl _ _ (by rfl) (by rfl) B ys m ?cy hr hBs hlen ?_)
      case cy => omega
      intro v' w' hr' hb'
      go_wp2
      go_ret
      refine ⟨_, rfl, ?_, hb.trans hb'⟩
      rw [← He.out, enc_small hlt]; exact hr'
    · go_wp2_with (at_builtin; refine wpList_app1P _ rfl _ _ rfl _ _ (by rfl) (by rfl) B ys (m % 128 + 128) ?cy hr hBs hlen ?_)
      case cy => omega
      intro v' w' hr' hb'
      go_wp2
      go_roundw
      case rel =>
        refine ⟨_, m / 128, by go_num, by omega, hr', hb.trans hb', ?_⟩
        rw [← He.out, enc_big hlt]; simp
      case measure => simp [intOf]; omega
def zz (k : Int) : Nat := if k < 0 then (-2 * k - 1).toNat else (2 * k).toNat
theorem zz_neg (m : Nat) : zz (-(m : Int) - 1) = 2 * m + 1 := by unfold zz; rw [if_pos (by omega)]; omega
theorem zz_pos (m : Nat) : zz (m : Int) = 2 * m := by unfold zz; rw [if_neg (by omega)]; omega
theorem zz_lt (k : Int) (h0 : -9223372036854775808 ≤ k) (h1 : k ≤ 9223372036854775807) : zz k < 18446744073709551616 := by
  unfold zz; split <;> omega

def sb (s : ByteArray) : List Nat := s.data.toList.map UInt8.toNat
theorem sb_length (s : ByteArray) : (sb s).length = s.size := by simp [sb]
theorem strCells_eq (s : ByteArray) : Lib.strCells s = bv (sb s) := by simp [Lib.strCells, bv, sb]

theorem or_one (m : Nat) (h : m < 9223372036854775808) : bits .or .u64 ((m : Int) * 2) 1 = (2 * m + 1 : Nat) := by
  have h' := bits_or_u64_nat (m * 2) 1 (by omega) (by omega)
  have e : m * 2 ||| 1 = 2 * m + 1 := by
    have := Nat.two_pow_add_eq_or_of_lt (i := 1) (b := 1) (by decide) m
    rw [Nat.mul_comm]
    simpa using this.symm
  rw [e] at h'
  simpa using h'

theorem xor_neg (m : Nat) (h : m < 9223372036854775808) : bits .xor .i64 (if IntKind.i64.signed = true then -1 else 9223372036854775807) (-(m : Int) - 1) = m := by
  show IntKind.i64.wrap ((BitVec.ofInt 64 (-1) ^^^ BitVec.ofInt 64 (-(m : Int) - 1)).toNat : Int) = _
  have e1 : (-(m : Int) - 1) = Int.negSucc m := by omega
  have e2 : BitVec.ofInt 64 (-1) = BitVec.allOnes 64 := by decide
  rw [e1, BitVec.ofInt_negSucc_eq_not_ofNat, e2, BitVec.xor_comm, BitVec.xor_allOnes, BitVec.not_not, BitVec.toNat_ofNat, IntKind.wrap_i64]
  omega

theorem appendUint_int (w : World) (B : Nat) (v : Value) (xs : List Nat) (x : Int) (n : Nat) (hx : x = n) (h : Row w B v xs) (hB : B ≤ w.heap.size) (hl : xs.length ≤ 1000000000000) (hn : n < 18446744073709551616) :
    Calls Try.prog 82 #[v, .int .u64 x] w fun e w' => ∃ v', e = .returned v' ∧ Row w' B v' (xs ++ enc n) ∧ Grw w v w' v' := by
  subst hx; exact appendUint_any w B v xs n h hB hl hn

set_option maxHeartbeats 400000 in
theorem appendInt_any (w : World) (B : Nat) (v : Value) (xs : List Nat) (k : Int) (h : Row w B v xs) (hB : B ≤ w.heap.size) (hl : xs.length ≤ 1000000000000) (h0 : -9223372036854775808 ≤ k) (h1 : k ≤ 9223372036854775807) :
    Calls Try.prog 113 #[v, .int .i64 k] w fun e w' => ∃ v', e = .returned v' ∧ Row w' B v' (xs ++ enc (zz k)) ∧ Grw w v w' v' := by
  have hz := zz_lt k h0 h1
  by_cases hk : k < 0
  · obtain ⟨m, rfl⟩ : ∃ m : Nat, k = -(m : Int) - 1 := ⟨(-k - 1).toNat, by omega⟩
    rw [zz_neg] at hz ⊢
    have ho := or_one m (by omega)
    go_enter Try.func113, Try.ntmps113
    go_wp2_with (go_at_call 82; refine (appendUint_int w B v xs _ (2 * m + 1) (by rw [xor_neg m (by omega), IntKind.wrap_u64, IntKind.wrap_u64, Int.emod_eq_of_lt (by omega) (by omega), Int.emod_eq_of_lt (by omega) (by omega), ho]) h hB hl hz).mono ?_; rintro e w1 ⟨v1, rfl, hr, hb⟩)
    go_ret
    exact ⟨_, rfl, hr, hb⟩
  · obtain ⟨m, rfl⟩ := Int.eq_ofNat_of_zero_le (show 0 ≤ k by omega)
    rw [zz_pos] at hz ⊢
    go_enter Try.func113, Try.ntmps113
    go_wp2_with (go_at_call 82; refine (appendUint_int w B v xs _ (2 * m) (by omega) h hB hl hz).mono ?_; rintro e w1 ⟨v1, rfl, hr, hb⟩)
    go_ret
    exact ⟨_, rfl, hr, hb⟩

theorem run_appS (w : World) (ty : TypeId) (B : Nat) (v : Value) (xs : List Nat) (s : ByteArray) (h : Row w B v xs) (hB : B ≤ w.heap.size) (hl : xs.length ≤ 1099511627776) (hl2 : s.size ≤ 1099511627776) :
    ∃ v' w', (Builtin.append_ #[56, 9] ty #[v, .string s]).run Try.prog w = .ok v' w' ∧ Row w' B v' (xs ++ sb s) ∧ Grw w v w' v' := by
  obtain ⟨i0, hi, hz0, hz1, hz2⟩ := info_parts info5
  obtain ⟨v', w', hrun, hown, hg, hiff⟩ := Lib.run_append_own_string (P := Try.prog) w B 56 9 ty 5 i0 Try.underlying56 Try.underlying9 hi hz0 hz1 hz2 v xs.length (bv xs) h s (by unfold maxLen; omega) (by omega) hB
  refine ⟨v', w', hrun, ?_, hg, ?_⟩
  · unfold Row
    rw [bv_append, List.length_append, sb_length, ← strCells_eq]
    exact hown
  · rcases h.2 with ⟨rfl, hn⟩ | ⟨g, cap, cur, rfl, hbg, hgg, hnc, hcm, hcs, htake⟩
    · by_cases hm : s.size = 0
      · rw [hiff.2 ⟨rfl, hm⟩]; exact .inl rfl
      · have hr := Lib.run_append_own_string (P := Try.prog) w w.heap.size 56 9 ty 5 i0 Try.underlying56 Try.underlying9 hi hz0 hz1 hz2 (.slice none 0 0) 0 [] (World.ownsRow_nil _ _ _ _) s (by unfold maxLen; omega) (by omega) (Nat.le_refl _)
        obtain ⟨v2, w2, hrun2, hown2, _, _⟩ := hr
        rw [hrun] at hrun2
        cases hrun2
        rcases hown2.2 with ⟨rfl, hn2⟩ | ⟨g, cap, cur, rfl, hbg, _⟩
        · omega
        · exact .inr ⟨g, rfl, hbg⟩
    · by_cases hroom : xs.length + s.size ≤ cap
      · have hcs' : cur.size = cap := by simpa using hcs
        have hr := Lib.run_append_room_string (P := Try.prog) w 56 9 ty 5 i0 Try.underlying56 Try.underlying9 hi hz1 g xs.length cap cur hgg s hroom (by omega)
        rw [hrun] at hr
        cases hr
        exact .inl rfl
      · have hr := Lib.run_append_grow_string (P := Try.prog) w 56 9 ty 5 i0 (.int .u8 0) Try.underlying56 Try.underlying9 hi hz0 ⟨g, 0, none⟩ xs.length cap (bv xs) (by rw [hz1]; simp [bv_length]) (World.ownsRow.cells h (g := g) rfl) s (by omega) (by omega) (by rw [hz2]; exact growslice_fits (by omega) (by omega))
        rw [hrun] at hr
        cases hr
        exact .inr ⟨_, rfl, Nat.le_refl _⟩

theorem wpList_appS {ops : Array Oper} {rest : List Oper} {o : Oper} {a : Act} {Q : Exit → Act → World → Prop} (w : World) (hgd : o.guard = none) (sl x : Operand)
    (ho : o.op = .call { callee := .builtin .append, args := #[sl, x], argTypes := #[56, 9] }) (v : Value) (s : ByteArray) (hs : a.eval sl = v) (hx : a.eval x = .string s)
    (B : Nat) (xs : List Nat) (h : Row w B v xs) (hB : B ≤ w.heap.size) (hl : xs.length ≤ 1099511627776) (hl2 : s.size ≤ 1099511627776)
    (k : ∀ v' w', Row w' B v' (xs ++ sb s) → Grw w v w' v' → wpList Try.prog ops Q rest (a.put o.dst v') w') :
    wpList Try.prog ops Q (o :: rest) a w := by
  refine wpList_plain hgd fun K hK => ?_
  obtain ⟨v', w', hr, h2, h3⟩ := run_appS w o.type B v xs s h hB hl hl2
  unfold Oper.wp execOp
  simp only [ho, resolve, invoke, builtin, Sem.run_bind, Sem.run_pure, Result.andThen_ok, List.map_toArray, List.map_cons, List.map_nil, hs, hx, hr]
  exact hK _ _ (k v' w' h2 h3)

def cd_encT (s : ByteArray) : List Nat := enc s.size ++ sb s

set_option maxHeartbeats 400000 in
theorem appendText_any (w : World) (B : Nat) (v : Value) (xs : List Nat) (s : ByteArray) (h : Row w B v xs) (hB : B ≤ w.heap.size) (hl : xs.length ≤ 1000000000000) (hs : s.size ≤ 1000000000000) :
    Calls Try.prog 114 #[v, .string s] w fun e w' => ∃ v', e = .returned v' ∧ Row w' B v' (xs ++ cd_encT s) ∧ Grw w v w' v' := by
  go_enter Try.func114, Try.ntmps114
  have h10 := enc_le s.size (by omega)
  have hl1 : (xs ++ enc s.size).length ≤ 1099511627776 := by simp; omega
  go_wp2_with (first
    | (go_at_call 82; refine (appendUint_int w B v xs _ s.size (by omega) h hB hl (by omega)).mono ?_; rintro e w1 ⟨v1, rfl, hr, hb⟩)
    | (at_builtin; refine wpList_appS _ rfl _ _ rfl _ _ (by rfl) (by rfl) B _ hr (Nat.le_trans hB hb.size) hl1 (by omega) ?_))
  intro v2 w2 hr2 hb2
  go_wp2
  go_ret
  exact ⟨_, rfl, by unfold cd_encT; exact hr2, hb.trans hb2⟩

def Byt (bs : List Nat) : Prop := ∀ x ∈ bs, x < 256
theorem Byt.drop {bs : List Nat} (h : Byt bs) (n : Nat) : Byt (bs.drop n) := fun x hx => h x (List.mem_of_mem_drop hx)
def Rd (w : World) (v : Value) (bs : List Nat) : Prop := ∃ a cap, v = .slice a bs.length cap ∧ bs.length ≤ cap ∧ Byt bs ∧
  ∀ (j x : Nat), bs[j]? = some x → ∃ b off, a = some ⟨b, off, none⟩ ∧ w.cell? ⟨b, off + j, none⟩ = some (.int .u8 (x : Int))

theorem Rd.nil (w : World) : Rd w (.slice none 0 0) [] := ⟨none, 0, rfl, Nat.le_refl _, fun x hx => (by cases hx), fun j x h => by simp at h⟩
theorem Rd.same {w w' : World} {v bs} (h : Rd w v bs) (e : ∀ k, v.ownBlock = some k → k < w.heap.size → w'.heap[k]? = w.heap[k]?) : Rd w' v bs := by
  obtain ⟨a, cap, rfl, h1, h2, h3⟩ := h
  refine ⟨a, cap, rfl, h1, h2, fun j x hx => ?_⟩
  obtain ⟨b, off, rfl, hc⟩ := h3 j x hx
  refine ⟨b, off, rfl, ?_⟩
  rw [World.cell?_of_block (w := w) (e b rfl (World.block_lt_of_cell? _ _ hc))]; exact hc
theorem Rd.below {w w' : World} {v bs B} (h : Rd w v bs) (hB : w.heap.size ≤ B) (k : Below B w w') : Rd w' v bs :=
  h.same fun k' _ hk => k.block k' (by omega)
set_option maxRecDepth 10000 in
set_option maxHeartbeats 1000000 in
theorem cd_isSimple_any (w : World) (h : Hd) (hin : h.In) :
    Calls Try.prog 112 #[h.v] w fun e w' => e = .returned (.bool (simpleB h)) ∧ w' = w.alloc (.cells h.v.cells 31) := by
  obtain ⟨kind, int, text, rc, a, n, cap⟩ := h
  have h1 := hin.t
  have h2 := hin.n
  simp only [Hd.v]
  simp only at h1 h2
  by_cases hr : rc = 0
  · subst hr
    by_cases hn : n = 0
    · subst hn
      by_cases k1 : kind = 1
      · subst k1
        go_enter Try.func112, Try.ntmps112
        go_wp2
        go_ret
        exact ⟨by simp [simpleB, stremp]; try omega, rfl⟩
      · have k1' : (kind == 1) = false := by simpa using k1
        by_cases k2 : kind = 2
        · subst k2
          by_cases i0 : int = 0
          · subst i0
            go_enter Try.func112, Try.ntmps112
            go_wp2
            go_ret
            exact ⟨by simp [simpleB, stremp]; try omega, rfl⟩
          · have i0' : (int == 0) = false := by simpa using i0
            go_enter Try.func112, Try.ntmps112
            go_wp2
            go_ret
            exact ⟨by simp [simpleB, i0], rfl⟩
        · have k2' : (kind == 2) = false := by simpa using k2
          by_cases k3 : kind = 3
          · subst k3
            have hs := stremp text
            by_cases ht : text = ByteArray.empty
            · subst ht
              by_cases i0 : int = 0
              · subst i0
                go_enter Try.func112, Try.ntmps112
                go_wp2
                go_ret
                exact ⟨by simp [simpleB], rfl⟩
              · have i0' : (int == 0) = false := by simpa using i0
                go_enter Try.func112, Try.ntmps112
                go_wp2
                go_ret
                exact ⟨by simp [simpleB, i0]; rfl, rfl⟩
            · simp only [ht, decide_false] at hs
              go_enter Try.func112, Try.ntmps112
              go_wp2
              go_ret
              exact ⟨by simp [simpleB, ht], rfl⟩
          · have k3' : (kind == 3) = false := by simpa using k3
            go_enter Try.func112, Try.ntmps112
            go_wp2
            go_ret
            exact ⟨by simp [simpleB, k1, k2, k3], rfl⟩
    · have hn' : 0 < n := by omega
      go_enter Try.func112, Try.ntmps112
      go_wp2
      go_ret
      exact ⟨by simp [simpleB, hn], rfl⟩
  · have hr' : (rc == 0) = false := by simpa using hr
    go_enter Try.func112, Try.ntmps112
    go_wp2
    go_ret
    exact ⟨by simp [simpleB, hr], rfl⟩
def encS (h : Hd) : List Nat := if h.kind = 1 then 1 :: enc (zz h.int) else if h.kind = 2 then 2 :: cd_encT h.text else [3, h.int.toNat]

theorem box_at {w w2 : World} {v v2 : Value} {xs : List Nat} {B : Nat} {c : Array Value} {t : TypeId} (hr : Row w B v xs) (h : Grw (w.alloc (.cells c t)) v w2 v2) : w2.heap[w.heap.size]? = some (.cells c t (0, 0)) := by
  rw [h.old (by simp) (fun e => by have := (hr.own _ e.symm).2; omega)]; exact heap_alloc_new w _

theorem Row.alloc {w : World} {B v xs} (h : Row w B v xs) (o : Obj) : Row (w.alloc o) B v xs := World.ownsRow.alloc h o

set_option maxRecDepth 10000 in
set_option maxHeartbeats 1000000 in
theorem appendSimple_any (w : World) (B : Nat) (v : Value) (xs : List Nat) (h : Hd) (hin : h.In) (hs : simpleB h = true) (hr : Row w B v xs) (hB : B ≤ w.heap.size) (hl : xs.length ≤ 100000000000) :
    Calls Try.prog 104 #[v, h.v] w fun e w' => ∃ v', e = .returned v' ∧ Row w' B v' (xs ++ encS h) ∧ Grw w v w' v' := by
  obtain ⟨kind, int, text, rc, a, n, cap⟩ := h
  have h2 := hin.i0
  have h3 := hin.i1
  simp only [Hd.v]
  simp only at h2 h3
  simp only [simpleB, Bool.and_eq_true, Bool.or_eq_true, decide_eq_true_eq] at hs
  have hr1 := hr.alloc (.cells #[.int .i64 kind, .int .i64 int, .string text, .int .i64 rc, .slice a n cap] 31)
  have hB1 : B ≤ (w.alloc (.cells #[.int .i64 kind, .int .i64 int, .string text, .int .i64 rc, .slice a n cap] 31)).heap.size := by simp; omega
  have hl1 : xs.length ≤ 1099511627776 := by omega
  obtain ⟨⟨rfl, rfl⟩, (⟨rfl, rfl⟩ | ⟨⟨rfl, rfl⟩, ht⟩) | ⟨⟨rfl, rfl⟩, hi⟩⟩ := hs
  · have Hr1 := hid hr1
    clear hr1
    go_enter Try.func104, Try.ntmps104
    go_wp2_with (first
      | (at_builtin; (refine wpList_app1P _ rfl _ _ rfl _ _ (by rfl) (by first | rfl | (rw [World.size_alloc]; rfl)) B xs 1 (by rfl) Hr1.out hB1 hl1 ?_; intro v1 w1 hr2 hb1; have hbx := box_at hr hb1; have hc1 := cellOf hbx 1; have hc0 := cellOf hbx 0; simp only [List.getElem?_toArray, List.getElem?_cons_zero, List.getElem?_cons_succ] at hc0 hc1; clear hbx))
      | (go_at_call 113; (refine (appendInt_any w1 B v1 _ int hr2 (Nat.le_trans hB1 hb1.size) (by simp; omega) h2 h3).mono ?_; rintro e w2 ⟨v2, rfl, hr3, hb2⟩)))
    go_ret
    exact ⟨_, rfl, by simpa [encS] using hr3, (hb1.trans hb2).unalloc⟩
  · have Hr1 := hid hr1
    clear hr1
    go_enter Try.func104, Try.ntmps104
    go_wp2_with (first
      | (at_builtin; (refine wpList_app1P _ rfl _ _ rfl _ _ (by rfl) (by first | rfl | (rw [World.size_alloc]; rfl)) B xs 2 (by rfl) Hr1.out hB1 hl1 ?_; intro v1 w1 hr2 hb1; have hbx := box_at hr hb1; have hc2 := cellOf hbx 2; have hc0 := cellOf hbx 0; simp only [List.getElem?_toArray, List.getElem?_cons_zero, List.getElem?_cons_succ] at hc0 hc2; clear hbx))
      | (go_at_call 114; (refine (appendText_any w1 B v1 _ text hr2 (Nat.le_trans hB1 hb1.size) (by simp; omega) (by omega)).mono ?_; rintro e w2 ⟨v2, rfl, hr3, hb2⟩)))
    go_ret
    exact ⟨_, rfl, by simpa [encS] using hr3, (hb1.trans hb2).unalloc⟩
  · obtain ⟨m, rfl⟩ : ∃ m : Nat, int = (m : Int) := ⟨int.toNat, by omega⟩
    have hm : m ≤ 1 := by omega
    have Hr1 := hid hr1
    clear hr1
    go_enter Try.func104, Try.ntmps104
    have hl2 : (xs ++ [3]).length ≤ 1099511627776 := by simp; omega
    go_wp2_with (first
      | (at_builtin; refine wpList_app1P _ rfl _ _ rfl _ _ (by rfl) (by first | rfl | (rw [World.size_alloc]; rfl)) B xs 3 (by rfl) Hr1.out hB1 hl1 ?_; intro v1 w1 hr2 hb1; have hbx := box_at hr hb1; have hc1 := cellOf hbx 1; have hc0 := cellOf hbx 0; simp only [List.getElem?_toArray, List.getElem?_cons_zero, List.getElem?_cons_succ] at hc0 hc1; clear hbx)
      | (at_builtin; (refine wpList_app1P _ rfl _ _ rfl _ _ (by rfl) (by rfl) B _ m (by omega) hr2 (Nat.le_trans hB1 hb1.size) hl2 ?_; intro v2 w2 hr3 hb2)))
    go_ret
    exact ⟨_, rfl, by simpa [encS] using hr3, (hb1.trans hb2).unalloc⟩
set_option maxRecDepth 10000 in
set_option maxHeartbeats 1000000 in
theorem isPlain_simple (w : World) (h : Hd) (hin : h.In) (hk : h.kind ≠ 4) :
    Calls Try.prog 103 #[h.v] w fun e w' => e = .returned (.bool (simpleB h)) ∧ w' = (w.alloc (.cells h.v.cells 31)).alloc (.cells h.v.cells 31) := by
  have hs := hid (cd_isSimple_any (w.alloc (.cells h.v.cells 31)) h hin)
  obtain ⟨kind, int, text, rc, a, n, cap⟩ := h
  have hk' : (kind != 4) = true := by simpa using hk
  generalize hb : simpleB ⟨kind, int, text, rc, a, n, cap⟩ = sB at hs ⊢
  simp only [Hd.v, Value.cells] at hs ⊢
  clear hb hin hk
  go_enter Try.func103, Try.ntmps103
  go_wp2_with (go_at_call 112; (refine (Hid.out hs).mono ?_; rintro e w' ⟨rfl, rfl⟩))
  go_ret
  exact ⟨rfl, rfl⟩

theorem Rd.drew {w v bs} (h : Rd w v bs) : Rd w.drew v bs := h

set_option maxRecDepth 10000 in
set_option maxHeartbeats 1000000 in
theorem isPlain_no (w : World) (int rc : Int) (text : ByteArray) (a : Option Addr) (n cap : Nat) (hn : n ≤ 9223372036854775807) (hx : ¬ (int = 0 ∧ text = ByteArray.empty ∧ 0 ≤ rc ∧ rc ≤ 15 ∧ n ≤ 12)) :
    Calls Try.prog 103 #[Hd.v ⟨4, int, text, rc, a, n, cap⟩] w fun e w' => e = .returned (.bool false) ∧ Below w.heap.size w w' := by
  simp only [Hd.v]
  by_cases i0 : int = 0
  · subst i0
    by_cases ht : text = ByteArray.empty
    · subst ht
      by_cases r0 : rc < 0
      · clear hx
        go_enter Try.func103, Try.ntmps103
        go_wp2
        go_ret
        exact ⟨rfl, (Below.refl _ _).alloc (Nat.le_refl _) _⟩
      · by_cases r1 : 15 < rc
        · clear hx
          go_enter Try.func103, Try.ntmps103
          go_wp2
          go_ret
          exact ⟨rfl, (Below.refl _ _).alloc (Nat.le_refl _) _⟩
        · have n1 : 12 < n := by
            rcases Nat.lt_or_ge 12 n with h | h
            · exact h
            · exact absurd ⟨rfl, rfl, by omega, by omega, h⟩ hx
          clear hx
          go_enter Try.func103, Try.ntmps103
          go_wp2
          go_ret
          exact ⟨rfl, (Below.refl _ _).alloc (Nat.le_refl _) _⟩
    · have hs := stremp text
      simp only [ht, decide_false] at hs
      clear hx ht
      go_enter Try.func103, Try.ntmps103
      go_wp2
      go_ret
      exact ⟨rfl, (Below.refl _ _).alloc (Nat.le_refl _) _⟩
  · have i0' : (int != 0) = true := by simpa using i0
    clear hx i0
    go_enter Try.func103, Try.ntmps103
    go_wp2
    go_ret
    exact ⟨rfl, (Below.refl _ _).alloc (Nat.le_refl _) _⟩

set_option maxRecDepth 10000 in
set_option maxHeartbeats 1000000 in
theorem isPlain_fields (w : World) (rc : Int) (a : Option Addr) (n cap : Nat) (fs : List Hd) (hn : n = fs.length) (r0 : 0 ≤ rc) (r1 : rc ≤ 15) (n1 : n ≤ 12) (hv : VRd w a fs) (hin : ∀ f ∈ fs, f.In) :
    Calls Try.prog 103 #[Hd.v ⟨4, 0, ByteArray.empty, rc, a, n, cap⟩] w fun e w' => e = .returned (.bool (fs.all simpleB)) ∧ Below w.heap.size w w' := by
  simp only [Hd.v]
  have Hn := hid hn
  have hS := hid (fun w f h => cd_isSimple_any w f h)
  clear hn
  go_enter Try.func103, Try.ntmps103
  go_wp2
  go_loopg [37] n (fun g ii wr => ∃ i : Nat, i + g = n ∧ ii = .int .i64 (i : Int) ∧ Below w.heap.size w wr ∧ fs.all simpleB = (fs.drop i).all simpleB)
  case atStart => exact ⟨0, by omega, rfl, (Below.refl _ _).alloc (Nat.le_refl _) _, rfl⟩
  case round =>
    obtain ⟨i, hi, rfl, hbel, hall⟩ := hrel
    have Hi := hid hi
    have Hall := hid hall
    clear hall
    cases gk with
    | zero =>
      have hin' : i = n := by omega
      clear hi
      subst hin'
      go_wp2
      go_ret
      refine ⟨?_, hbel⟩
      rw [Hall.out, Hn.out, List.drop_length]
      rfl
    | succ g =>
      have hlt : i < n := by omega
      clear hi
      obtain ⟨f, hfi⟩ : ∃ f, fs[i]? = some f := ⟨fs[i]'(by rw [← Hn.out]; exact hlt), by rw [List.getElem?_eq_getElem]⟩
      have hfin := hin f (List.mem_of_getElem? hfi)
      obtain ⟨b1, o1, rfl, e1⟩ := (hv.below (Nat.le_refl _) hbel) i f hfi
      have hd := all_drop hfi
      have hb1 := World.block_lt_of_cell? wr ⟨b1, o1 + i * 5 + 0, none⟩ ((e1 0 (by omega)).trans (show f.cs[0]? = some (.int .i64 f.kind) from rfl))
      simp only at hb1
      have hsf := hid (fun w => Hid.out hS w f hfin)
      have x0 := e1 0 (by omega)
      have x1 := e1 1 (by omega)
      have x2 := e1 2 (by omega)
      have x3 := e1 3 (by omega)
      have x4 := e1 4 (by omega)
      obtain ⟨fk, fi, ft, fr, fa, fn, fc⟩ := f
      simp only [Hd.cs, List.getElem?_cons_zero, List.getElem?_cons_succ, Nat.add_zero] at x0 x1 x2 x3 x4
      generalize hsb : simpleB ⟨fk, fi, ft, fr, fa, fn, fc⟩ = sb at *
      simp only [Hd.v, Value.cells] at hsf
      have Hd' := hid hd
      clear e1 hfi hS hfin hsb hd
      cases sb with
      | false =>
        go_wp2_with (go_at_call 112; (refine (Hid.out hsf _).mono ?_; rintro e w9 ⟨rfl, rfl⟩))
        go_ret
        refine ⟨?_, ?_⟩
        · rw [Hall.out, Hd'.out]; rfl
        · exact (hbel.alloc hbel.size _).alloc (by have := hbel.size; simp; omega) _
      | true =>
        go_wp2_with (go_at_call 112; (refine (Hid.out hsf _).mono ?_; rintro e w9 ⟨rfl, rfl⟩))
        go_roundg g
        case measure => omega
        case rel => exact ⟨i + 1, by have := Hi.out; omega, by go_num, (hbel.alloc hbel.size _).alloc (by have := hbel.size; simp; omega) _, by rw [Hall.out, Hd'.out]; rfl⟩

theorem isPlain_any (w : World) (h : Hd) (fs : List Hd) (hin : h.In) (hn : h.n = fs.length) (hv : VRd w h.a fs) (hfs : ∀ f ∈ fs, f.In) :
    Calls Try.prog 103 #[h.v] w fun e w' => e = .returned (.bool (plainB h fs)) ∧ Below w.heap.size w w' := by
  by_cases hk : h.kind = 4
  · rw [plainB_rec hk]
    obtain ⟨kind, int, text, rc, a, n, cap⟩ := h
    simp only at hk hn hv ⊢
    subst hk
    by_cases hx : int = 0 ∧ text = ByteArray.empty ∧ 0 ≤ rc ∧ rc ≤ 15 ∧ n ≤ 12
    · obtain ⟨rfl, rfl, h1, h2, h3⟩ := hx
      refine (isPlain_fields w rc a n cap fs hn h1 h2 h3 hv hfs).mono ?_
      rintro e w' ⟨rfl, hb⟩
      exact ⟨by simp [h1, h2, h3], hb⟩
    · refine (isPlain_no w int rc text a n cap hin.n hx).mono ?_
      rintro e w' ⟨rfl, hb⟩
      refine ⟨?_, hb⟩
      congr 2
      symm
      simp only [Bool.and_eq_false_iff, decide_eq_false_iff_not]
      by_cases i0 : int = 0
      · by_cases ht : text = ByteArray.empty
        · by_cases r0 : 0 ≤ rc
          · by_cases r1 : rc ≤ 15
            · exact .inl (.inr fun n1 => hx ⟨i0, ht, r0, r1, n1⟩)
            · exact .inl (.inl (.inr r1))
          · exact .inl (.inl (.inl (.inr r0)))
        · exact .inl (.inl (.inl (.inl (.inr ht))))
      · exact .inl (.inl (.inl (.inl (.inl i0))))
  · have : plainB h fs = simpleB h := by unfold plainB; rw [if_neg hk]
    rw [this]
    refine (isPlain_simple w h hin hk).mono ?_
    rintro e w' ⟨rfl, rfl⟩
    exact ⟨rfl, ((Below.refl _ _).alloc (Nat.le_refl _) _).alloc (by simp) _⟩
theorem encS_le {h : Hd} (hs : simpleB h = true) (hin : h.In) : (encS h).length ≤ 80 := by
  obtain ⟨_, _, (⟨hk, _⟩ | ⟨hk, _, ht⟩ | ⟨hk, _, _⟩)⟩ := simpleB_cases hs
  · unfold encS
    rw [if_pos hk]
    have := enc_le (zz h.int) (zz_lt _ hin.i0 hin.i1)
    simp; omega
  · unfold encS
    rw [if_neg (by omega), if_pos hk]
    have := enc_le h.text.size (by omega)
    simp [cd_encT, sb_length]; omega
  · unfold encS
    rw [if_neg (by omega), if_neg (by omega)]
    simp
def encR (fs : List Hd) : List Nat := fs.flatMap encS
theorem encR_le {fs : List Hd} (hs : fs.all simpleB = true) (hin : ∀ f ∈ fs, f.In) : (encR fs).length ≤ 80 * fs.length := by
  induction fs with
  | nil => simp [encR]
  | cons f r ih =>
    simp only [List.all_cons, Bool.and_eq_true] at hs
    have h1 := encS_le hs.1 (hin f (by simp))
    have h2 := ih hs.2 (fun g hg => hin g (by simp [hg]))
    simp only [encR, List.flatMap_cons, List.length_append, List.length_cons] at h2 ⊢
    omega
theorem encR_drop {fs : List Hd} {i : Nat} {f : Hd} (h : fs[i]? = some f) : encR (fs.drop i) = encS f ++ encR (fs.drop (i + 1)) := by
  have hlt : i < fs.length := (List.getElem?_eq_some_iff.1 h).1
  rw [List.drop_eq_getElem_cons hlt]
  have : fs[i] = f := by simpa [hlt] using h
  rw [this]; rfl

set_option maxRecDepth 10000 in
set_option maxHeartbeats 1000000 in
theorem appendRowS_any (w0 w : World) (B : Nat) (v : Value) (xs : List Nat) (a : Option Addr) (n cap : Nat) (fs : List Hd) (hn : n = fs.length) (hn2 : n ≤ 1000) (hv : VRd w0 a fs) (h0 : w0.heap.size ≤ B) (hb0 : Below B w0 w) (hs : fs.all simpleB = true) (hin : ∀ f ∈ fs, f.In)
    (hr : Row w B v xs) (hB : B ≤ w.heap.size) (hl : xs.length ≤ 1000000000) :
    Calls Try.prog 115 #[v, .slice a n cap] w fun e w' => ∃ v', e = .returned v' ∧ Row w' B v' (xs ++ enc n ++ encR fs) ∧ Grw w v w' v' := by
  have Hn := hid hn
  have hT : (xs ++ enc n ++ encR fs).length ≤ 10000000000 := by
    have := enc_le n (by omega)
    have := encR_le hs hin
    simp; omega
  have hTl := hid hT
  clear hT
  go_enter Try.func115, Try.ntmps115
  go_wp2_with (go_at_call 82; (refine (appendUint_int w B v xs _ n (by omega) hr hB (by omega) (by omega)).mono ?_; rintro e w1 ⟨v1, rfl, hr1, hg1⟩))
  go_loopg [0, 14] n (fun g vv ii wr => ∃ (i : Nat) (ys : List Nat), i + g = n ∧ ii = .int .i64 (i : Int) ∧ Row wr B vv ys ∧ Grw w v wr vv ∧ ys ++ encR (fs.drop i) = xs ++ enc n ++ encR fs)
  case atStart => exact ⟨0, xs ++ enc n, by omega, rfl, hr1, hg1, rfl⟩
  case round =>
    obtain ⟨i, ys, hi, rfl, hry, hgy, hT⟩ := hrel
    have Hi := hid hi
    have HT := hid hT
    clear hT
    cases gk with
    | zero =>
      have hin' : i = n := by omega
      clear hi
      subst hin'
      go_wp2
      go_ret
      refine ⟨_, rfl, ?_, hgy⟩
      rw [← HT.out, Hn.out, List.drop_length]
      simpa [encR] using hry
    | succ g =>
      have hlt : i < n := by omega
      clear hi
      obtain ⟨f, hfi⟩ : ∃ f, fs[i]? = some f := ⟨fs[i]'(by rw [← Hn.out]; exact hlt), by rw [List.getElem?_eq_getElem]⟩
      have hfin := hin f (List.mem_of_getElem? hfi)
      have hfs : simpleB f = true := List.all_eq_true.1 hs f (List.mem_of_getElem? hfi)
      have hbw := hid (hgy.below hr hB)
      obtain ⟨b1, o1, rfl, e1⟩ := (hv.below h0 (hb0.trans hbw.out)) i f hfi
      have hd := hid (encR_drop hfi)
      have hys : ys.length ≤ 10000000000 := by
        have h1 := congrArg List.length HT.out
        have h2 := hTl.out
        rw [List.length_append] at h1
        omega
      have hb1 := World.block_lt_of_cell? wr ⟨b1, o1 + i * 5 + 0, none⟩ ((e1 0 (by omega)).trans (show f.cs[0]? = some (.int .i64 f.kind) from rfl))
      simp only at hb1
      have hc := hid (appendSimple_any (wr.alloc (.cells f.v.cells 31)) B _ ys f hfin hfs (hry.alloc _) (by have := hbw.out.size; simp; omega) (by omega))
      have x0 := e1 0 (by omega)
      have x1 := e1 1 (by omega)
      have x2 := e1 2 (by omega)
      have x3 := e1 3 (by omega)
      have x4 := e1 4 (by omega)
      generalize hE : encS f = E at *
      obtain ⟨fk, fi, ft, fr, fa, fn, fc⟩ := f
      simp only [Hd.cs, List.getElem?_cons_zero, List.getElem?_cons_succ, Nat.add_zero] at x0 x1 x2 x3 x4
      simp only [Hd.v, Value.cells] at hc
      clear e1 hfi hfin hfs hE
      go_wp2_with (go_at_call 104; (refine (Hid.out hc).mono ?_; rintro e w9 ⟨v9, rfl, hr9, hg9⟩))
      go_roundg g
      case measure => omega
      case rel => exact ⟨i + 1, ys ++ E, by have := Hi.out; omega, by go_num, hr9, hgy.trans hg9.unalloc, by rw [← HT.out, hd.out]; simp⟩

theorem Grw.drewl {w w' : World} {v v' : Value} (h : Grw w.drew v w' v') : Grw w v w' v' := ⟨⟨h.1.os, h.1.tape, h.1.output, h.1.size, h.1.block⟩, h.2⟩
theorem own_stepP {w w' : World} {v v' : Value} {b : Nat} (h : Grw w v w' v') (hno : ∀ k, v.ownBlock = some k → k ≠ b) (hb : b < w.heap.size) : ∀ k, v'.ownBlock = some k → k ≠ b := by
  intro k hk
  rcases h.2 with h2 | ⟨g, h2, hg⟩
  · exact hno k (by rw [← h2]; exact hk)
  · rw [h2] at hk; cases hk; omega

def encV (h : Hd) (fs : List Hd) : List Nat := if h.kind = 4 then 4 :: (enc h.rc.toNat ++ (enc h.n ++ encR fs)) else encS h

set_option maxRecDepth 10000 in
set_option maxHeartbeats 1000000 in
theorem appendRec_any (w0 w : World) (B : Nat) (v : Value) (xs : List Nat) (q : Nat) (a : Option Addr) (n cap : Nat) (fs : List Hd) (hn : n = fs.length) (hn2 : n ≤ 12) (hq : q ≤ 15) (hv : VRd w0 a fs) (h0 : w0.heap.size ≤ B) (hb0 : Below B w0 w) (hs : fs.all simpleB = true) (hin : ∀ f ∈ fs, f.In)
    (hr : Row w B v xs) (hB : B ≤ w.heap.size) (hl : xs.length ≤ 100000000) :
    Calls Try.prog 104 #[v, Hd.v ⟨4, 0, ByteArray.empty, (q : Int), a, n, cap⟩] w fun e w' => ∃ v', e = .returned v' ∧ Row w' B v' (xs ++ (4 :: (enc q ++ (enc n ++ encR fs)))) ∧ Grw w v w' v' := by
  simp only [Hd.v]
  have hr1 := hr.alloc (.cells #[.int .i64 4, .int .i64 0, .string ByteArray.empty, .int .i64 (q : Int), .slice a n cap] 31)
  have hB1 : B ≤ (w.alloc (.cells #[.int .i64 4, .int .i64 0, .string ByteArray.empty, .int .i64 (q : Int), .slice a n cap] 31)).heap.size := by simp; omega
  have hl1 : xs.length ≤ 1099511627776 := by omega
  have Hr1 := hid hr1
  have Hn := hid hn
  clear hr1 hn
  go_enter Try.func104, Try.ntmps104
  go_wp2_with (at_builtin; (refine wpList_app1P _ rfl _ _ rfl _ _ (by rfl) (by first | rfl | (rw [World.size_alloc]; rfl)) B xs 4 (by rfl) Hr1.out hB1 hl1 ?_; intro v1 w1 hr2 hb1; have hbx := box_at hr hb1; have hc0 := cellOf hbx 0; have hc3 := cellOf hbx 3; have hc4 := cellOf hbx 4; simp only [List.getElem?_toArray, List.getElem?_cons_zero, List.getElem?_cons_succ] at hc0 hc3 hc4; have Hbx := hid hbx; clear hbx))
  have hl2 : (xs ++ [4]).length ≤ 1000000000 := by simp; omega
  have hB2 : B ≤ w1.heap.size := Nat.le_trans hB1 hb1.size
  have hbx : w.heap.size < w1.heap.size := by have := hb1.size; simp at this; omega
  have hbe : Below B w0 w1 := (hb0.trans ((Below.refl B w).alloc hB _)).trans (hb1.below Hr1.out hB1)
  have hno : ∀ k, v1.ownBlock = some k → k ≠ w.heap.size := by
    intro k hk
    rcases hb1.2 with h2 | ⟨g, h2, hg⟩
    · rw [h2] at hk
      have := (hr.own k hk).2
      omega
    · rw [h2] at hk
      cases hk
      simp at hg
      omega
  go_region_held3 (fun w2 => w2.cell? ⟨w.heap.size, 3, none⟩ = some (.int .i64 (q : Int)) ∧ w2.cell? ⟨w.heap.size, 4, none⟩ = some (.slice a n cap)) (first | exact ⟨u3, u4⟩ | exact ⟨t3, t4⟩ | go_keep) ((first
    | (go_at_call 82; (refine (appendUint_int _ B v1 (xs ++ [4]) _ q (by first | omega | (rw [IntKind.wrap_u64]; omega)) hr2.drew hB2 (by omega) (by omega)).mono ?_; rintro e w2 ⟨v2, rfl, hr3, hg2⟩; have hbx2 : w2.heap[w.heap.size]? = some (.cells #[.int .i64 4, .int .i64 0, .string ByteArray.empty, .int .i64 (q : Int), .slice a n cap] 31 (0, 0)) := (hg2.old (j := w.heap.size) hbx (fun e => hno _ e.symm rfl)).trans Hbx.out; have t3 := cellOf hbx2 3; have t4 := cellOf hbx2 4; simp only [List.getElem?_toArray, List.getElem?_cons_zero, List.getElem?_cons_succ] at t3 t4))
    | (go_at_call 115; (refine (appendRowS_any w0 w2 B v2 _ a n cap fs Hn.out (by omega) hv h0 (hbe.drew.trans (hg2.below hr2.drew hB2)) hs hin hr3 (Nat.le_trans hB2 hg2.size) (by have := enc_le q (by omega); simp; omega)).mono ?_; rintro e w3 ⟨v3, rfl, hr4, hg3⟩; have hbx3 : w3.heap[w.heap.size]? = some (.cells #[.int .i64 4, .int .i64 0, .string ByteArray.empty, .int .i64 (q : Int), .slice a n cap] 31 (0, 0)) := (hg3.old (j := w.heap.size) (Nat.lt_of_lt_of_le hbx hg2.size) (fun e => own_stepP hg2 hno hbx _ e.symm rfl)).trans hbx2; have u3 := cellOf hbx3 3; have u4 := cellOf hbx3 4; simp only [List.getElem?_toArray, List.getElem?_cons_zero, List.getElem?_cons_succ] at u3 u4))))
  go_wp2
  go_ret
  exact ⟨_, rfl, by simpa using hr4, ((hb1.trans (Grw.trans (Grw.drewl hg2) hg3))).unalloc⟩

theorem res_cells' {w w2 : World} {c : Array Value} (h : Below (w.heap.size + 1) (w.alloc (.cells c 31)) w2) : w2.heap[w.heap.size]? = some (.cells c 31 (0, 0)) := by
  rw [h.block _ (by omega)]; exact heap_alloc_new w _
theorem appendValue_any (w0 w : World) (B : Nat) (v : Value) (xs : List Nat) (h : Hd) (fs : List Hd) (hin : h.In) (hn : h.n = fs.length) (hv : VRd w0 h.a fs) (h0 : w0.heap.size ≤ B) (hb0 : Below B w0 w) (hfs : ∀ f ∈ fs, f.In) (hp : plainB h fs = true)
    (hr : Row w B v xs) (hB : B ≤ w.heap.size) (hl : xs.length ≤ 100000000) :
    Calls Try.prog 104 #[v, h.v] w fun e w' => ∃ v', e = .returned v' ∧ Row w' B v' (xs ++ encV h fs) ∧ Grw w v w' v' := by
  by_cases hk : h.kind = 4
  · rw [plainB_rec hk] at hp
    simp only [Bool.and_eq_true, decide_eq_true_eq] at hp
    obtain ⟨⟨⟨⟨⟨h1, h2⟩, h3⟩, h4⟩, h5⟩, h6⟩ := hp
    unfold encV
    rw [if_pos hk]
    obtain ⟨kind, int, text, rc, a, n, cap⟩ := h
    simp only at hk hn hv h1 h2 h3 h4 h5 ⊢
    subst hk h1 h2
    obtain ⟨q, rfl⟩ := Int.eq_ofNat_of_zero_le h3
    exact appendRec_any w0 w B v xs q a n cap fs hn h5 (by omega) hv h0 hb0 h6 hfs hr hB hl
  · unfold plainB at hp
    rw [if_neg hk] at hp
    unfold encV
    rw [if_neg hk]
    exact appendSimple_any w B v xs h hin hp hr hB (by omega)

set_option maxRecDepth 10000 in
set_option maxHeartbeats 1000000 in
theorem putValue_any (w : World) (h : Hd) (fs : List Hd) (hin : h.In) (hn : h.n = fs.length) (hv : VRd w h.a fs) (hfs : ∀ f ∈ fs, f.In) :
    Calls Try.prog 83 #[h.v] w fun e w' => Below w.heap.size w w' ∧ ∃ v', e = .returned (.tuple #[v', .int .i64 (if plainB h fs then 0 else 20)]) ∧ Row w' w.heap.size v' (if plainB h fs then encV h fs else []) := by
  have hbx : Below w.heap.size w (w.alloc (.cells h.v.cells 31)) := (Below.refl _ _).alloc (Nat.le_refl _) _
  have H1 := isPlain_any (w.alloc (.cells h.v.cells 31)) h fs hin hn (hv.below (Nat.le_refl _) hbx) hfs
  cases hp : plainB h fs with
  | false =>
    rw [hp] at H1
    obtain ⟨kind, int, text, rc, a, n, cap⟩ := h
    simp only [Hd.v, Value.cells] at H1 hbx ⊢
    have K1 := hid H1
    clear H1 hin hn hv hfs hp
    go_enter Try.func83, Try.ntmps83
    go_wp2_with (go_at_call 103; (refine (Hid.out K1).mono ?_; rintro e w1 ⟨rfl, hb1⟩))
    go_ret2
    exact ⟨hbx.trans (hb1.mono (by simp)), _, rfl, Row.nil _ _⟩
  | true =>
    rw [hp] at H1
    have H2 : Hid (∀ w1 : World, Below (w.heap.size + 1) (w.alloc (.cells h.v.cells 31)) w1 → Calls Try.prog 104 #[.slice none 0 0, h.v] w1 fun e w' => ∃ v', e = .returned v' ∧ Row w' w.heap.size v' ([] ++ encV h fs) ∧ Grw w1 (.slice none 0 0) w' v') := hid (fun w1 hb1 => appendValue_any w w1 w.heap.size (.slice none 0 0) [] h fs hin hn hv (Nat.le_refl _) (hbx.trans (hb1.mono (by omega))) hfs hp (Row.nil _ _) (by have := hb1.size; simp at this; omega) (by simp))
    generalize encV h fs = EV at *
    obtain ⟨kind, int, text, rc, a, n, cap⟩ := h
    simp only [Hd.v, Value.cells] at H1 H2 hbx ⊢
    have K1 := hid H1
    clear H1 hin hn hv hfs hp
    go_enter Try.func83, Try.ntmps83
    go_wp2_with (first
      | (go_at_call 103; (refine (Hid.out K1).mono ?_; rintro e w1 ⟨rfl, hb1⟩; (try simp only [World.size_alloc] at hb1); have hr := res_cells' hb1; have g0 := cellOf hr 0; have g1 := cellOf hr 1; have g2 := cellOf hr 2; have g3 := cellOf hr 3; have g4 := cellOf hr 4; simp only [List.getElem?_toArray, List.getElem?_cons_zero, List.getElem?_cons_succ] at g0 g1 g2 g3 g4; clear hr))
      | (go_at_call 104; (refine (Hid.out H2 _ hb1).mono ?_; rintro e w2 ⟨v2, rfl, hr2, hg2⟩)))
    go_ret2
    exact ⟨(hbx.trans (hb1.mono (by omega))).trans (hg2.nil.mono (by have := hb1.size; simp at this; omega)), _, rfl, by simpa using hr2⟩

end Go.Proofs.Ytenfgahedbeekaa

namespace Go.Proofs.Ytenfgahedbeekaa
open Go.RowKit Go.Deep
set_option linter.unusedVariables false
set_option linter.unusedSimpArgs false

theorem Byt.append {a b : List Nat} (h : Byt a) (k : Byt b) : Byt (a ++ b) := fun x hx => by
  rcases List.mem_append.1 hx with h1 | h1
  · exact h x h1
  · exact k x h1
theorem bv_one (xs : List Nat) : ∀ u ∈ bv xs, u.oneCell' = true := by
  intro u hu; simp [bv] at hu; obtain ⟨s, _, rfl⟩ := hu; rfl

set_option maxHeartbeats 400000 in
theorem putUint_any (w : World) (n : Nat) (hn : n < 18446744073709551616) :
    Calls Try.prog 55 #[.int .u64 (n : Int)] w fun e w' => ∃ v', e = .returned v' ∧ Row w' w.heap.size v' (enc n) ∧ Below w.heap.size w w' := by
  have h := hid (appendUint_any w w.heap.size _ [] n (Row.nil _ _) (Nat.le_refl _) (by simp) hn)
  go_enter Try.func55, Try.ntmps55
  go_wp2_with (go_at_call 82; refine (Hid.out h).mono ?_; rintro e w' ⟨v', rfl, hr, hb⟩)
  go_ret
  exact ⟨_, rfl, by simpa using hr, hb.nil⟩

theorem enc_byt : ∀ (n : Nat), Byt (enc n) := by
  intro n
  induction n using Nat.strongRecOn with
  | _ n ih =>
    by_cases h : n < 128
    · rw [enc_small h]; intro x hx; simp at hx; omega
    · rw [enc_big h]
      intro x hx
      rcases List.mem_cons.1 hx with rfl | hx
      · omega
      · exact ih (n / 128) (by omega) x hx
theorem sb_byt (s : ByteArray) : Byt (sb s) := by
  intro x hx
  simp only [sb, List.mem_map] at hx
  obtain ⟨u, _, rfl⟩ := hx
  exact u.toNat_lt
theorem encT_byt (s : ByteArray) : Byt (cd_encT s) := (enc_byt _).append (sb_byt _)

def ofB (bs : List Nat) : ByteArray := ⟨(bs.map UInt8.ofNat).toArray⟩
theorem sb_ofB {bs : List Nat} (h : Byt bs) : sb (ofB bs) = bs := by
  simp only [sb, ofB, List.map_map]
  conv => rhs; rw [← List.map_id bs]
  refine List.map_congr_left fun x hx => ?_
  have := h x hx
  simp; omega
theorem ofB_inj {a b : List Nat} (ha : Byt a) (hb : Byt b) (h : ofB a = ofB b) : a = b := by
  rw [← sb_ofB ha, h, sb_ofB hb]
theorem fold_ofB (bs : List Nat) : ∀ (acc : ByteArray), (bs.map (fun (x : Nat) => (x : Int))).foldl (fun r n => r.push (UInt8.ofNat n.toNat)) acc = ⟨acc.data ++ (bs.map UInt8.ofNat).toArray⟩ := by
  induction bs with
  | nil => intro acc; simp
  | cons x r ih =>
    intro acc
    simp only [List.map_cons, List.foldl_cons]
    rw [ih]
    congr 1
    apply Array.ext'
    simp [ByteArray.push]
theorem Row.rd {w : World} {B v xs} (h : Row w B v xs) (hb : Byt xs) : Rd w v xs := by
  rcases h.2 with ⟨rfl, hn⟩ | ⟨g, cap, cur, rfl, hb', hgg, hc, hm, hs, ht⟩
  · have : xs = [] := List.eq_nil_of_length_eq_zero hn
    subst this
    exact Rd.nil w
  · refine ⟨_, _, rfl, hc, hb, fun j x hx => ⟨g, 0, rfl, ?_⟩⟩
    have := World.ownsRow.cells h (g := g) rfl j (.int .u8 (x : Int)) (by simp [bv, hx])
    rw [Addr.add_lit] at this
    exact this
theorem Rd.conv {w v bs} (h : Rd w v bs) : (convert 56 9 v).run Try.prog w = .ok (.string (ofB bs)) w := by
  obtain ⟨a, cap, rfl, h1, h2, h3⟩ := h
  rw [run_convert_bytes_string w 56 9 5 _ _ _ Try.underlying56 Try.underlying5 Try.underlying9]
  cases a with
  | none =>
    have : bs = [] := by
      cases bs with
      | nil => rfl
      | cons x r => obtain ⟨b, off, e, _⟩ := h3 0 x rfl; cases e
    subst this
    rfl
  | some a =>
    have hl := run_loadCells_list (P := Try.prog) w a (bv bs) ?_
    · have := run_bytesToString w a bs.length cap (bs.map (fun (x : Nat) => (x : Int))) (by
        rw [bv_length] at hl
        rw [hl]; simp [bv]) (P := Try.prog)
      rw [this, fold_ofB]
      simp [ofB]
    · intro j u hu
      simp only [bv, List.getElem?_map, Option.map_eq_some_iff] at hu
      obtain ⟨x, hx, rfl⟩ := hu
      obtain ⟨b, off, e, hc⟩ := h3 j x hx
      cases e
      rw [Addr.add_lit]; exact hc

theorem streq (a b : ByteArray) : (a.toList == b.toList) = decide (a = b) := by
  rw [ByteArray.toList_eq, ByteArray.toList_eq]
  by_cases h : a = b
  · simp [h]
  · have : ¬ a.data = b.data := fun e => h (by cases a; cases b; simp at e; simp [e])
    simp [h, this]

set_option maxHeartbeats 400000 in
theorem bytes_any (w : World) (v1 v2 : Value) (xs ys : List Nat) (h1 : Rd w v1 xs) (h2 : Rd w v2 ys) :
    Calls Try.prog 33 #[v1, v2] w fun e w' => e = .returned (.bool (decide (xs = ys))) ∧ w' = w := by
  have e1 := h1.conv
  have e2 := h2.conv
  obtain ⟨a1, c1, rfl, _, b1, _⟩ := h1
  obtain ⟨a2, c2, rfl, _, b2, _⟩ := h2
  have e3 : decide (ofB xs = ofB ys) = decide (xs = ys) := by
    by_cases h : xs = ys
    · simp [h]
    · have : ¬ ofB xs = ofB ys := fun e => h (ofB_inj b1 b2 e)
      simp [h, this]
  rw [← e3]
  clear e3
  go_enter Try.func33, Try.ntmps33
  go_wp2
  go_ret
  exact ⟨by simp [streq], rfl⟩
theorem run_appR (w : World) (ty : TypeId) (B : Nat) (v u : Value) (xs ys : List Nat) (h : Row w B v xs) (hu : Rd w u ys) (hnil : u.ownBlock = none → u = .slice none 0 0) (hB : B ≤ w.heap.size) (hl : xs.length ≤ 1099511627776) (hl2 : ys.length ≤ 1099511627776) :
    ∃ v' w', (Builtin.append_ #[56, 56] ty #[v, u]).run Try.prog w = .ok v' w' ∧ Row w' B v' (xs ++ ys) ∧ Grw w v w' v' := by
  obtain ⟨i0, hi, hz0, hz1, hz2⟩ := info_parts info5
  obtain ⟨a, cap, rfl, hc, hb, h3⟩ := hu
  cases a with
  | none =>
    have e := hnil rfl
    injection e with _ e1 e2
    have : ys = [] := List.eq_nil_of_length_eq_zero e1
    subst this
    subst e2
    exact ⟨v, w, run_append_owned_none w B 56 ty 5 i0 1 Try.underlying56 hi v xs.length (bv xs) h, by simpa using h, Grw.refl _ _⟩
  | some ad =>
    obtain ⟨v', w', hrun, hown, hg, _, hat⟩ := run_append_own_at (P := Try.prog) w B 56 ty 5 i0 (.int .u8 0) 1 1 Try.underlying56 hi hz0 hz1 hz2 rfl (by decide) v xs.length (bv xs) h ad ys.length cap (bv ys) (by simp [bv_length]) (by
      intro j x hx
      simp only [bv, List.getElem?_map, Option.map_eq_some_iff] at hx
      obtain ⟨y, hy, rfl⟩ := hx
      obtain ⟨b, off, e, hcell⟩ := h3 j y hy
      cases e
      rw [Addr.add_lit]; exact hcell) (bv_one ys) (by unfold maxLen; omega) (by omega) hB
    refine ⟨v', w', hrun, ?_, hg, ?_⟩
    · unfold Row
      rw [bv_append, List.length_append]
      exact hown
    · rcases hat with hat | hat
      · exact .inl hat
      · exact .inr ⟨_, hat, Nat.le_refl _⟩

theorem wpList_appR {ops : Array Oper} {rest : List Oper} {o : Oper} {a : Act} {Q : Exit → Act → World → Prop} (w : World) (hgd : o.guard = none) (sl x : Operand)
    (ho : o.op = .call { callee := .builtin .append, args := #[sl, x], argTypes := #[56, 56] }) (v u : Value) (hs : a.eval sl = v) (hx : a.eval x = u)
    (B : Nat) (xs ys : List Nat) (h : Row w B v xs) (hu : Rd w u ys) (hnil : u.ownBlock = none → u = .slice none 0 0) (hB : B ≤ w.heap.size) (hl : xs.length ≤ 1099511627776) (hl2 : ys.length ≤ 1099511627776)
    (k : ∀ v' w', Row w' B v' (xs ++ ys) → Grw w v w' v' → wpList Try.prog ops Q rest (a.put o.dst v') w') :
    wpList Try.prog ops Q (o :: rest) a w := by
  refine wpList_plain hgd fun K hK => ?_
  obtain ⟨v', w', hr, h2, h3⟩ := run_appR w o.type B v u xs ys h hu hnil hB hl hl2
  unfold Oper.wp execOp
  simp only [ho, resolve, invoke, builtin, Sem.run_bind, Sem.run_pure, Result.andThen_ok, List.map_toArray, List.map_cons, List.map_nil, hs, hx, hr]
  exact hK _ _ (k v' w' h2 h3)

theorem Row.nilOf {w B v xs} (h : Row w B v xs) : v.ownBlock = none → v = .slice none 0 0 := by
  intro e
  rcases h.2 with ⟨rfl, _⟩ | ⟨g, cap, cur, rfl, _⟩
  · rfl
  · cases e

theorem Rd.empty (w : World) (a : Option Addr) (cap : Nat) : Rd w (.slice a 0 cap) [] := ⟨a, cap, rfl, Nat.zero_le _, fun x hx => (by cases hx), fun j x h => by simp at h⟩
structure Vl where
  kind : Int
  int : Int
  text : ByteArray
  rc : Int
  fs : List Hd
theorem encS_byt {h : Hd} (hs : simpleB h = true) : Byt (encS h) := by
  obtain ⟨_, _, (⟨hk, _⟩ | ⟨hk, _, ht⟩ | ⟨hk, _, hi⟩)⟩ := simpleB_cases hs
  · unfold encS; rw [if_pos hk]
    intro x hx
    rcases List.mem_cons.1 hx with rfl | hx
    · omega
    · exact enc_byt _ x hx
  · unfold encS; rw [if_neg (by omega), if_pos hk]
    intro x hx
    rcases List.mem_cons.1 hx with rfl | hx
    · omega
    · exact encT_byt _ x hx
  · unfold encS; rw [if_neg (by omega), if_neg (by omega)]
    intro x hx
    simp at hx
    omega
def hdOf (x : Vl) : Hd := ⟨x.kind, x.int, x.text, x.rc, none, x.fs.length, 0⟩
def hp (x : Vl) : Hd × List Hd := (hdOf x, x.fs)
theorem step_appR {ops : Array Oper} {o : Oper} {a : Act} {w : World} {K : Act → World → Prop} {Q : Exit → Act → World → Prop} {E : Prop} (hgd : o.guard = none) (s x : Operand)
    (ho : o.op = .call { callee := .builtin .append, args := #[s, x], argTypes := #[56, 56] }) (v u : Value) (hs : a.eval s = v) (hx : a.eval x = u)
    (B : Nat) (xs ys : List Nat) (h : Row w B v xs) (hu : Rd w u ys) (hnil : u.ownBlock = none → u = .slice none 0 0) (hB : B ≤ w.heap.size) (hl : xs.length ≤ 1099511627776) (hl2 : ys.length ≤ 1099511627776)
    (k : ∀ v' w', Row w' B v' (xs ++ ys) → Grw w v w' v' → K (a.put o.dst v') w') :
    if Region.wanted o (yielded ops a.tmps) = true then Oper.wp Try.prog o a w K Q else E := by
  have hw : Region.wanted o (yielded ops a.tmps) = true := by simp [Region.wanted, hgd]
  rw [if_pos hw]
  obtain ⟨v', w', hr, h2, h3⟩ := run_appR w o.type B v u xs ys h hu hnil hB hl hl2
  unfold Oper.wp execOp
  simp only [ho, resolve, invoke, builtin, Sem.run_bind, Sem.run_pure, Result.andThen_ok, List.map_toArray, List.map_cons, List.map_nil, hs, hx, hr]
  exact k v' w' h2 h3

end Go.Proofs.Ytenfgahedbeekaa

namespace Go.Proofs.Ytenfgahedbeekaa
open Go.RowKit Go.Deep
set_option linter.unusedVariables false
set_option linter.unusedSimpArgs false

theorem encR_byt {fs : List Hd} (hs : fs.all simpleB = true) : Byt (encR fs) := by
  intro x hx
  simp only [encR, List.mem_flatMap] at hx
  obtain ⟨f, hf, hx⟩ := hx
  exact encS_byt (List.all_eq_true.1 hs f hf) x hx
theorem encV_byt {h : Hd} {fs : List Hd} (hp : plainB h fs = true) : Byt (encV h fs) := by
  by_cases hk : h.kind = 4
  · rw [plainB_rec hk] at hp
    simp only [Bool.and_eq_true, decide_eq_true_eq] at hp
    unfold encV
    rw [if_pos hk]
    intro x hx
    rcases List.mem_cons.1 hx with rfl | hx
    · decide
    · exact ((enc_byt _).append ((enc_byt _).append (encR_byt hp.2))) x hx
  · unfold encV
    rw [if_neg hk]
    unfold plainB at hp
    rw [if_neg hk] at hp
    exact encS_byt hp
theorem encV_le {h : Hd} {fs : List Hd} (hp : plainB h fs = true) (hin : h.In) (hn : h.n = fs.length) (hfs : ∀ f ∈ fs, f.In) : (encV h fs).length ≤ 1000 := by
  by_cases hk : h.kind = 4
  · rw [plainB_rec hk] at hp
    simp only [Bool.and_eq_true, decide_eq_true_eq] at hp
    unfold encV
    rw [if_pos hk]
    have h1 := enc_le h.rc.toNat (by omega)
    have h2 := enc_le h.n (by omega)
    have h3 := encR_le hp.2 hfs
    simp only [List.length_cons, List.length_append]
    omega
  · unfold encV
    rw [if_neg hk]
    unfold plainB at hp
    rw [if_neg hk] at hp
    have := encS_le hp hin
    omega
set_option maxRecDepth 10000 in
set_option maxHeartbeats 1000000 in
theorem heapAppend_any (w : World) (B : Nat) (v : Value) (xs : List Nat) (h : Hd) (fs : List Hd) (hin : h.In) (hn : h.n = fs.length) (hv : VRd w h.a fs) (hfs : ∀ f ∈ fs, f.In) (hp : plainB h fs = true) (hr : Row w B v xs) (hB : B ≤ w.heap.size) (hl : xs.length ≤ 1000000000) :
    Calls Try.prog 56 #[v, h.v] w fun e w' => ∃ v', e = .returned v' ∧ Row w' B v' (xs ++ encV h fs) ∧ Grw w v w' v' := by
  have K := hid (putValue_any (w.alloc (.cells h.v.cells 31)) h fs hin hn (hv.below (Nat.le_refl _) ((Below.refl _ _).alloc (Nat.le_refl _) _)) hfs)
  have hr0 := hr.alloc (.cells h.v.cells 31)
  have hby := encV_byt hp
  have hle := encV_le hp hin hn hfs
  rw [hp] at K
  simp only [↓reduceIte] at K
  obtain ⟨bs, hbs⟩ : ∃ bs, bs = encV h fs := ⟨_, rfl⟩
  rw [← hbs] at K hby hle ⊢
  obtain ⟨kind, int, text, rc, a, n, cap⟩ := h
  simp only [Hd.v, Value.cells] at K hr0 ⊢
  have Hby := hid hby
  clear hin hn hv hfs hp hbs hby
  go_enter Try.func56, Try.ntmps56
  have hl1 : xs.length ≤ 1099511627776 := by omega
  have hl2 : bs.length ≤ 1099511627776 := by omega
  have Hr := hid hr0
  clear hr hr0
  go_wp2_with (first
    | (go_at_call 83; (refine (Hid.out K).mono ?_; rintro e w1 ⟨hb1, u, rfl, hu⟩; have Hu := hid hu; have HB1 := hid hb1; have hs1 := hb1.size; rw [World.size_alloc] at hs1; clear hu hb1))
    | (at_builtin; refine wpList_appR _ rfl _ _ rfl _ _ (by rfl) (by rfl) B xs bs (Hr.out.below (Nat.le_refl _) HB1.out) (Hu.out.rd Hby.out) Hu.out.nilOf (by omega) hl1 hl2 ?_; intro v2 w2 hr2 hg2))
  go_ret
  exact ⟨_, rfl, hr2, Grw.unalloc (Grw.trans ⟨⟨HB1.out.os, HB1.out.tape, HB1.out.output, HB1.out.size, fun i hi _ => HB1.out.block i hi⟩, .inl rfl⟩ hg2)⟩
/- The bytes of a tree of values, an entry, a row, a state. -/
def plV (k : Nat) (v : VT (k + 2)) : Bool := plainB v.1 (v.2.map (hdT (k + 1)))
def encW (k : Nat) (v : VT (k + 2)) : List Nat := encV v.1 (v.2.map (hdT (k + 1)))
def encN (k : Nat) (q : VT (k + 2) × VT (k + 2)) : List Nat := encW k q.1 ++ encW k q.2
def encRw (k : Nat) (r : Rw (k + 2)) : List Nat := enc r.length ++ r.flatMap (encN k)
def encSt (k : Nat) (rows : List (Rw (k + 2))) : List Nat := rows.flatMap (encRw k)
theorem Rds.fin {k : Nat} {w : World} {v : VT (k + 2)} (hv : Rds (k + 2) w v) : ∀ f ∈ v.2.map (hdT (k + 1)), f.In := fun f hf => by
  simp only [List.mem_map] at hf
  obtain ⟨u, hu, rfl⟩ := hf
  exact (hv.2.2.2.2 u hu).1
theorem encW_le {k : Nat} {w : World} {v : VT (k + 2)} (hv : Rds (k + 2) w v) (hp : plV k v = true) : (encW k v).length ≤ 1000 :=
  encV_le hp hv.1 (by rw [List.length_map]; exact hv.2.1) hv.fin
theorem encW_byt {k : Nat} {v : VT (k + 2)} (hp : plV k v = true) : Byt (encW k v) := encV_byt hp
theorem heapAppendT_any (k : Nat) (w : World) (B : Nat) (v : Value) (xs : List Nat) (t : VT (k + 2)) (hv : Rds (k + 2) w t) (hp : plV k t = true) (hr : Row w B v xs) (hB : B ≤ w.heap.size) (hl : xs.length ≤ 1000000000) :
    Calls Try.prog 56 #[v, (hdT (k + 2) t).v] w fun e w' => ∃ v', e = .returned v' ∧ Row w' B v' (xs ++ encW k t) ∧ Grw w v w' v' :=
  heapAppend_any w B v xs t.1 (t.2.map (hdT (k + 1))) hv.1 (by rw [List.length_map]; exact hv.2.1) hv.2.2.2.1 hv.fin hp hr hB hl
end Go.Proofs.Ytenfgahedbeekaa

