/- Values among the arguments and in rows of the call's own. -/
import Derived.Test.YthnolocldeokeaaGreatRows
import Derived.WalkKit
import Derived.WalkSpells
import Derived.WalkLawsBesides
import Derived.Deep.OwnRows
import Derived.Maps.AppendAt
import Derived.Deep.AppendLies
import Derived.Lib.AppendStr
import Derived.Deep.LoopGhost
import Derived.Below
import Derived.Deep.RegionHeld3
import Derived.Laws.Bits64b
import Derived.Laws.BitsLemmas
import Derived.WalkMore
import Derived.RangeFuncNested
import Derived.RangeFuncBound
import Derived.RangeFuncCalls
import Derived.RangeFuncLeaves
import Derived.Shelf.Abstract
import Derived.Shelf.RegionOpen
import Derived.OwnWalkIn
import Derived.TacticsInMore
import Derived.LoopNIn
import Derived.LoopIn
namespace Go.Proofs.YthnolocldeokeaaGreat
set_option maxRecDepth 100000
open Go.RowKit Go.Deep
set_option linter.unusedVariables false
set_option linter.unusedSimpArgs false

theorem hid {p : Prop} (h : p) : Hid p := h
theorem cellOf {w : World} {b : Nat} {c : Array Value} {e : TypeId} {f : Nat × Nat} (h : w.heap[b]? = some (.cells c e f)) (i : Nat) : w.cell? ⟨b, i, none⟩ = c[i]? := by
  simp [World.cell?, h]
theorem freeOf {w : World} {b : Nat} {c : Array Value} {e : TypeId} (h : w.heap[b]? = some (.cells c e (0, 0))) (i : Nat) : w.frozen? ⟨b, i, none⟩ = false := by
  simp [World.frozen?, h]

/- Between w and w' nothing old has turned but v's own row; and the row is v's still, or new. -/
def Grw (w : World) (v : Value) (w' : World) (v' : Value) : Prop := w.grownBy w' v.ownBlock ∧ (v'.ownBlock = v.ownBlock ∨ ∃ g, v'.ownBlock = some g ∧ w.heap.size ≤ g)
theorem Grw.refl (w : World) (v : Value) : Grw w v w v := ⟨⟨rfl, rfl, rfl, Nat.le_refl _, fun _ _ _ => rfl⟩, .inl rfl⟩
theorem Grw.trans {w w1 w2 : World} {v v1 v2 : Value} (h : Grw w v w1 v1) (k : Grw w1 v1 w2 v2) : Grw w v w2 v2 := by
  obtain ⟨h1, h2⟩ := h
  obtain ⟨k1, k2⟩ := k
  refine ⟨⟨k1.os.trans h1.os, k1.tape.trans h1.tape, k1.output.trans h1.output, Nat.le_trans h1.size k1.size, fun j hj hne => ?_⟩, ?_⟩
  · refine (k1.block j (Nat.lt_of_lt_of_le hj h1.size) ?_).trans (h1.block j hj hne)
    rcases h2 with h2 | ⟨g, h2, hg⟩
    · rw [h2]; exact hne
    · rw [h2]; intro e; cases e; omega
  · rcases k2 with k2 | ⟨g, k2, hg⟩
    · rcases h2 with h2 | h2
      · exact .inl (k2.trans h2)
      · obtain ⟨g, h2, hg⟩ := h2; exact .inr ⟨g, k2.trans h2, hg⟩
    · exact .inr ⟨g, k2, Nat.le_trans h1.size hg⟩
theorem Grw.size {w w' : World} {v v' : Value} (h : Grw w v w' v') : w.heap.size ≤ w'.heap.size := h.1.size

/- A value's five cells: its fields as a slice. -/
/- A row of values that is the call's own. -/
/- Values that a slice reads: each its five cells. -/
/- Three levels of fields. -/
/- A value that isn't great: nothing stands within its fields' fields. -/
end Go.Proofs.YthnolocldeokeaaGreat

namespace Go.Proofs.YthnolocldeokeaaGreat
set_option maxRecDepth 100000
open Go.RowKit Go.Deep
set_option linter.unusedVariables false
set_option linter.unusedSimpArgs false

def bv (xs : List Nat) : List Value := xs.map fun (x : Nat) => Value.int .u8 (x : Int)
def encF : Nat → Nat → List Nat
  | 0, n => [n]
  | f + 1, n => if n < 128 then [n] else (n % 128 + 128) :: encF f (n / 128)
def enc (n : Nat) : List Nat := encF n n
def Row (w : World) (B : Nat) (v : Value) (xs : List Nat) : Prop := w.ownsRow B 5 1 v xs.length (bv xs)

theorem Row.nil (w : World) (B : Nat) : Row w B (.slice none 0 0) [] := World.ownsRow_nil w B 5 1
theorem Row.own {w B v xs} (h : Row w B v xs) : ∀ k, v.ownBlock = some k → B ≤ k ∧ k < w.heap.size := World.ownsRow.lt h
theorem Row.drew {w B v xs} (h : Row w B v xs) : Row w.drew B v xs := h
theorem Row.same {w w' : World} {B v xs} (h : Row w B v xs) (e : ∀ g, v.ownBlock = some g → w'.heap[g]? = w.heap[g]?) : Row w' B v xs := by
  refine ⟨h.1, ?_⟩
  rcases h.2 with hn | ⟨g, cap, cur, rfl, hb, hgg, rest⟩
  · exact .inl hn
  · exact .inr ⟨g, cap, cur, rfl, hb, (e g rfl).trans hgg, rest⟩
theorem Row.below {w w' : World} {B C v xs} (h : Row w B v xs) (hC : w.heap.size ≤ C) (k : Below C w w') : Row w' B v xs :=
  h.same fun g e => k.block g (by have := (h.own g e).2; omega)
theorem Row.mono {w : World} {B C v xs} (h : Row w B v xs) (hC : C ≤ B) : Row w C v xs := by
  refine ⟨h.1, ?_⟩
  rcases h.2 with hn | ⟨g, cap, cur, rfl, hb, rest⟩
  · exact .inl hn
  · exact .inr ⟨g, cap, cur, rfl, by omega, rest⟩
theorem Grw.below {w w' : World} {v v' : Value} {B : Nat} {xs : List Nat} (h : Grw w v w' v') (hr : Row w B v xs) (hB : B ≤ w.heap.size) : Below B w w' :=
  (Below.refl B w).grown h.1 hB (fun k hk => (hr.own k hk).1)
theorem Grw.nil {w w' : World} {v' : Value} (h : Grw w (.slice none 0 0) w' v') : Below w.heap.size w w' := h.below (Row.nil w _) (Nat.le_refl _)
def sb (s : ByteArray) : List Nat := s.data.toList.map UInt8.toNat
theorem Row.alloc {w : World} {B v xs} (h : Row w B v xs) (o : Obj) : Row (w.alloc o) B v xs := World.ownsRow.alloc h o

end Go.Proofs.YthnolocldeokeaaGreat

namespace Go.Proofs.YthnolocldeokeaaGreat
open Go.RowKit Go.Deep
set_option linter.unusedVariables false
set_option linter.unusedSimpArgs false

/- Bytes as numbers, as values. -/
theorem bv_length (xs : List Nat) : (bv xs).length = xs.length := by simp [bv]
theorem bv_append (xs ys : List Nat) : bv (xs ++ ys) = bv xs ++ bv ys := by simp [bv]
theorem bv_one (xs : List Nat) : ∀ u ∈ bv xs, u.oneCell' = true := by
  intro u hu; simp [bv] at hu; obtain ⟨s, _, rfl⟩ := hu; rfl

/- The bytes of a number. -/
theorem encF_eq : ∀ (f g n : Nat), n ≤ f → n ≤ g → encF f n = encF g n
  | 0, 0, n, _, _ => rfl
  | 0, g + 1, n, h, _ => by simp only [encF]; rw [if_pos (by omega)]
  | f + 1, 0, n, _, h => by simp only [encF]; rw [if_pos (by omega)]
  | f + 1, g + 1, n, h1, h2 => by
    simp only [encF]
    split
    · rfl
    · rw [encF_eq f g (n / 128) (by omega) (by omega)]

theorem enc_small {n : Nat} (h : n < 128) : enc n = [n] := by
  unfold enc
  cases n with
  | zero => rfl
  | succ m => simp only [encF]; rw [if_pos h]
theorem enc_big {n : Nat} (h : ¬ n < 128) : enc n = (n % 128 + 128) :: enc (n / 128) := by
  unfold enc
  cases n with
  | zero => exact absurd (by decide) h
  | succ m =>
    simp only [encF]
    rw [if_neg h, encF_eq m ((m + 1) / 128) ((m + 1) / 128) (by omega) (Nat.le_refl _)]
theorem enc_length : ∀ (k n : Nat), n < 128 ^ (k + 1) → (enc n).length ≤ k + 1
  | 0, n, h => by rw [enc_small (by simpa using h)]; simp
  | k + 1, n, h => by
    by_cases hn : n < 128
    · rw [enc_small hn]; simp
    · rw [enc_big hn]
      have := enc_length k (n / 128) (by rw [Nat.pow_succ] at h; omega)
      simp; omega
theorem enc_le (n : Nat) (h : n < 18446744073709551616) : (enc n).length ≤ 10 :=
  enc_length 9 n (Nat.lt_of_lt_of_le h (by decide))

/- A row of bytes that is the call's own: its block lies from B on. -/
theorem Row.form {w B v xs} (h : Row w B v xs) : ∃ a cap, v = .slice a xs.length cap ∧ xs.length ≤ cap := by
  rcases h.2 with ⟨rfl, hn⟩ | ⟨g, cap, cur, rfl, hb, hgg, hc, rest⟩
  · exact ⟨none, 0, by rw [hn], by omega⟩
  · exact ⟨_, _, rfl, hc⟩

theorem info5 : (Tryz.prog.info? 5).map (fun i => (i.zero, i.size, i.bytes)) = some (some (.int .u8 0), 1, 1) := by kernel_rfl

theorem alloc_grown {w : World} {o : Obj} {w' : World} {row : Option Nat} (h : (w.alloc o).grownBy w' row) : w.grownBy w' row :=
  (World.grownBy_alloc w o row).trans h

/- Between w and w' nothing old has turned but v's own row; and the row is v's still, or new. -/
theorem Grw.unalloc {w w' : World} {v v' : Value} {o : Obj} (h : Grw (w.alloc o) v w' v') : Grw w v w' v' :=
  ⟨(World.grownBy_alloc w o _).trans h.1, by
    rcases h.2 with h | ⟨g, h, hg⟩
    · exact .inl h
    · exact .inr ⟨g, h, by simp at hg; omega⟩⟩
theorem wpList_app1 {ops : Array Oper} {rest : List Oper} {o : Oper} {a : Act} {Q : Exit → Act → World → Prop} (w : World) (hgd : o.guard = none) (s x : Operand)
    (ho : o.op = .call { callee := .builtin .append, args := #[s, x], argTypes := #[34, 34] }) (v : Value) (y : Int) (hs : a.eval s = v) (hx : a.eval x = .slice (some ⟨w.heap.size, 0, none⟩) 1 1)
    (B : Nat) (xs : List Nat) (z : Nat) (hy : y = z) (h : Row w B v xs) (hB : B ≤ w.heap.size) (hl : xs.length ≤ 1099511627776)
    (k : ∀ v' w', Row w' B v' (xs ++ [z]) → Grw w v w' v' → wpList Tryz.prog ops Q rest (a.put o.dst v') w') :
    wpList Tryz.prog ops Q (o :: rest) a (w.alloc (.cells #[.int .u8 y] 5)) := by
  subst hy
  obtain ⟨i0, hi, hz0, hz1, hz2⟩ := info_parts info5
  refine wpList_append_own_at _ hgd s x 34 ho B 5 i0 (.int .u8 0) 1 1 Tryz.underlying34 hi hz0 hz1 hz2 rfl (by decide) v xs.length (bv xs) hs (World.ownsRow.alloc h _) ⟨w.heap.size, 0, none⟩ 1 1 [.int .u8 (z : Int)] hx rfl (cell_one_new _ _ _)
    (by simp [Value.oneCell']) (by unfold maxLen; omega) (by omega) (by simp; omega) ?_
  intro v' w' hown hg _ hat
  refine k v' w' ?_ ?_
  · unfold Row
    rw [bv_append, List.length_append]
    exact hown
  · refine ⟨alloc_grown hg, ?_⟩
    rcases hat with hat | hat
    · exact .inl hat
    · exact .inr ⟨_, hat, by simp⟩

theorem or128 : ∀ a : Fin 256, bits .or .u8 (a.val : Int) 128 = ((a.val % 128 + 128 : Nat) : Int) := by decide +kernel
theorem or_top (n : Nat) : bits .or .u8 ((n : Int) % 256) 128 = ((n % 128 + 128 : Nat) : Int) := by
  have h := or128 ⟨n % 256, by omega⟩
  simp only at h
  rw [show ((n % 256 : Nat) : Int) = (n : Int) % 256 from by omega] at h
  rw [h]
  omega

set_option maxHeartbeats 400000 in
theorem appendUint_any (w : World) (B : Nat) (v : Value) (xs : List Nat) (n : Nat) (h : Row w B v xs) (hB : B ≤ w.heap.size) (hl : xs.length ≤ 1000000000000) (hn : n < 18446744073709551616) :
    Calls Tryz.prog 98 #[v, .int .u64 (n : Int)] w fun e w' => ∃ v', e = .returned v' ∧ Row w' B v' (xs ++ enc n) ∧ Grw w v w' v' := by
  go_enter Tryz.func98, Tryz.ntmps98
  go_wp2
  go_loopw [0, 1] (fun vv nn wr => ∃ (ys : List Nat) (m : Nat), nn = .int .u64 (m : Int) ∧ m ≤ n ∧ Row wr B vv ys ∧ Grw w v wr vv ∧ ys ++ enc m = xs ++ enc n) (fun _ nn _ => (intOf nn).toNat)
  case atStart => exact ⟨xs, n, rfl, Nat.le_refl _, h, Grw.refl _ _, rfl⟩
  case round =>
    obtain ⟨ys, m, rfl, hm, hr, hb, he⟩ := hrel
    have hlen : ys.length ≤ 1099511627776 := by
      have := congrArg List.length he
      have h10 := enc_le n hn
      simp at this; omega
    have hBs : B ≤ wr.heap.size := Nat.le_trans hB hb.size
    have ht := or_top m
    have He := hid he
    clear he
    by_cases hlt : m < 128
    · go_wp2_with (at_builtin; refine wpList_app1 _ rfl _ _ rfl _ _ (by rfl) (by rfl) B ys m ?cy hr hBs hlen ?_)
      case cy => omega
      intro v' w' hr' hb'
      go_wp2
      go_ret
      refine ⟨_, rfl, ?_, hb.trans hb'⟩
      rw [← He.out, enc_small hlt]; exact hr'
    · go_wp2_with (at_builtin; refine wpList_app1 _ rfl _ _ rfl _ _ (by rfl) (by rfl) B ys (m % 128 + 128) ?cy hr hBs hlen ?_)
      case cy => omega
      intro v' w' hr' hb'
      go_wp2
      go_roundw
      case rel =>
        refine ⟨_, m / 128, by go_num, by omega, hr', hb.trans hb', ?_⟩
        rw [← He.out, enc_big hlt]; simp
      case measure => simp [intOf]; omega
end Go.Proofs.YthnolocldeokeaaGreat

namespace Go.Proofs.YthnolocldeokeaaGreat
open Go.RowKit Go.Deep
set_option linter.unusedVariables false
set_option linter.unusedSimpArgs false

def zz (k : Int) : Nat := if k < 0 then (-2 * k - 1).toNat else (2 * k).toNat
theorem zz_neg (m : Nat) : zz (-(m : Int) - 1) = 2 * m + 1 := by unfold zz; rw [if_pos (by omega)]; omega
theorem zz_pos (m : Nat) : zz (m : Int) = 2 * m := by unfold zz; rw [if_neg (by omega)]; omega
theorem zz_lt (k : Int) (h0 : -9223372036854775808 ≤ k) (h1 : k ≤ 9223372036854775807) : zz k < 18446744073709551616 := by
  unfold zz; split <;> omega

theorem sb_length (s : ByteArray) : (sb s).length = s.size := by simp [sb]
theorem strCells_eq (s : ByteArray) : Lib.strCells s = bv (sb s) := by simp [Lib.strCells, bv, sb]

theorem or_one (m : Nat) (h : m < 9223372036854775808) : bits .or .u64 ((m : Int) * 2) 1 = (2 * m + 1 : Nat) := by
  have h' := bits_or_u64_nat (m * 2) 1 (by omega) (by omega)
  have e : m * 2 ||| 1 = 2 * m + 1 := by
    have := Nat.two_pow_add_eq_or_of_lt (i := 1) (b := 1) (by decide) m
    rw [Nat.mul_comm]
    simpa using this.symm
  rw [e] at h'
  simpa using h'

set_option maxHeartbeats 400000 in
theorem putUint_any (w : World) (n : Nat) (hn : n < 18446744073709551616) :
    Calls Tryz.prog 60 #[.int .u64 (n : Int)] w fun e w' => ∃ v', e = .returned v' ∧ Row w' w.heap.size v' (enc n) ∧ Below w.heap.size w w' := by
  have h := hid (appendUint_any w w.heap.size _ [] n (Row.nil _ _) (Nat.le_refl _) (by simp) hn)
  go_enter Tryz.func60, Tryz.ntmps60
  go_wp2_with (go_at_call 98; refine (Hid.out h).mono ?_; rintro e w' ⟨v', rfl, hr, hb⟩)
  go_ret
  exact ⟨_, rfl, by simpa using hr, hb.nil⟩

theorem xor_neg (m : Nat) (h : m < 9223372036854775808) : bits .xor .i64 (if IntKind.i64.signed = true then -1 else 9223372036854775807) (-(m : Int) - 1) = m := by
  show IntKind.i64.wrap ((BitVec.ofInt 64 (-1) ^^^ BitVec.ofInt 64 (-(m : Int) - 1)).toNat : Int) = _
  have e1 : (-(m : Int) - 1) = Int.negSucc m := by omega
  have e2 : BitVec.ofInt 64 (-1) = BitVec.allOnes 64 := by decide
  rw [e1, BitVec.ofInt_negSucc_eq_not_ofNat, e2, BitVec.xor_comm, BitVec.xor_allOnes, BitVec.not_not, BitVec.toNat_ofNat, IntKind.wrap_i64]
  omega

theorem appendUint_int (w : World) (B : Nat) (v : Value) (xs : List Nat) (x : Int) (n : Nat) (hx : x = n) (h : Row w B v xs) (hB : B ≤ w.heap.size) (hl : xs.length ≤ 1000000000000) (hn : n < 18446744073709551616) :
    Calls Tryz.prog 98 #[v, .int .u64 x] w fun e w' => ∃ v', e = .returned v' ∧ Row w' B v' (xs ++ enc n) ∧ Grw w v w' v' := by
  subst hx; exact appendUint_any w B v xs n h hB hl hn

set_option maxHeartbeats 400000 in
theorem appendInt_any (w : World) (B : Nat) (v : Value) (xs : List Nat) (k : Int) (h : Row w B v xs) (hB : B ≤ w.heap.size) (hl : xs.length ≤ 1000000000000) (h0 : -9223372036854775808 ≤ k) (h1 : k ≤ 9223372036854775807) :
    Calls Tryz.prog 99 #[v, .int .i64 k] w fun e w' => ∃ v', e = .returned v' ∧ Row w' B v' (xs ++ enc (zz k)) ∧ Grw w v w' v' := by
  have hz := zz_lt k h0 h1
  by_cases hk : k < 0
  · obtain ⟨m, rfl⟩ : ∃ m : Nat, k = -(m : Int) - 1 := ⟨(-k - 1).toNat, by omega⟩
    rw [zz_neg] at hz ⊢
    have ho := or_one m (by omega)
    go_enter Tryz.func99, Tryz.ntmps99
    go_wp2_with (go_at_call 98; refine (appendUint_int w B v xs _ (2 * m + 1) (by rw [xor_neg m (by omega), IntKind.wrap_u64, IntKind.wrap_u64, Int.emod_eq_of_lt (by omega) (by omega), Int.emod_eq_of_lt (by omega) (by omega), ho]) h hB hl hz).mono ?_; rintro e w1 ⟨v1, rfl, hr, hb⟩)
    go_ret
    exact ⟨_, rfl, hr, hb⟩
  · obtain ⟨m, rfl⟩ := Int.eq_ofNat_of_zero_le (show 0 ≤ k by omega)
    rw [zz_pos] at hz ⊢
    go_enter Tryz.func99, Tryz.ntmps99
    go_wp2_with (go_at_call 98; refine (appendUint_int w B v xs _ (2 * m) (by omega) h hB hl hz).mono ?_; rintro e w1 ⟨v1, rfl, hr, hb⟩)
    go_ret
    exact ⟨_, rfl, hr, hb⟩

set_option maxHeartbeats 400000 in
theorem putInt_any (w : World) (k : Int) (h0 : -9223372036854775808 ≤ k) (h1 : k ≤ 9223372036854775807) :
    Calls Tryz.prog 63 #[.int .i64 k] w fun e w' => ∃ v', e = .returned v' ∧ Row w' w.heap.size v' (enc (zz k)) ∧ Below w.heap.size w w' := by
  have h := hid (appendInt_any w w.heap.size _ [] k (Row.nil _ _) (Nat.le_refl _) (by simp) h0 h1)
  go_enter Tryz.func63, Tryz.ntmps63
  go_wp2_with (go_at_call 99; refine (Hid.out h).mono ?_; rintro e w' ⟨v', rfl, hr, hb⟩)
  go_ret
  exact ⟨_, rfl, by simpa using hr, hb.nil⟩

theorem run_appS (w : World) (ty : TypeId) (B : Nat) (v : Value) (xs : List Nat) (s : ByteArray) (h : Row w B v xs) (hB : B ≤ w.heap.size) (hl : xs.length ≤ 1099511627776) (hl2 : s.size ≤ 1099511627776) :
    ∃ v' w', (Builtin.append_ #[34, 9] ty #[v, .string s]).run Tryz.prog w = .ok v' w' ∧ Row w' B v' (xs ++ sb s) ∧ Grw w v w' v' := by
  obtain ⟨i0, hi, hz0, hz1, hz2⟩ := info_parts info5
  obtain ⟨v', w', hrun, hown, hg, hiff⟩ := Lib.run_append_own_string (P := Tryz.prog) w B 34 9 ty 5 i0 Tryz.underlying34 Tryz.underlying9 hi hz0 hz1 hz2 v xs.length (bv xs) h s (by unfold maxLen; omega) (by omega) hB
  refine ⟨v', w', hrun, ?_, hg, ?_⟩
  · unfold Row
    rw [bv_append, List.length_append, sb_length, ← strCells_eq]
    exact hown
  · rcases h.2 with ⟨rfl, hn⟩ | ⟨g, cap, cur, rfl, hbg, hgg, hnc, hcm, hcs, htake⟩
    · by_cases hm : s.size = 0
      · rw [hiff.2 ⟨rfl, hm⟩]; exact .inl rfl
      · have hr := Lib.run_append_own_string (P := Tryz.prog) w w.heap.size 34 9 ty 5 i0 Tryz.underlying34 Tryz.underlying9 hi hz0 hz1 hz2 (.slice none 0 0) 0 [] (World.ownsRow_nil _ _ _ _) s (by unfold maxLen; omega) (by omega) (Nat.le_refl _)
        obtain ⟨v2, w2, hrun2, hown2, _, _⟩ := hr
        rw [hrun] at hrun2
        cases hrun2
        rcases hown2.2 with ⟨rfl, hn2⟩ | ⟨g, cap, cur, rfl, hbg, _⟩
        · omega
        · exact .inr ⟨g, rfl, hbg⟩
    · by_cases hroom : xs.length + s.size ≤ cap
      · have hcs' : cur.size = cap := by simpa using hcs
        have hr := Lib.run_append_room_string (P := Tryz.prog) w 34 9 ty 5 i0 Tryz.underlying34 Tryz.underlying9 hi hz1 g xs.length cap cur hgg s hroom (by omega)
        rw [hrun] at hr
        cases hr
        exact .inl rfl
      · have hr := Lib.run_append_grow_string (P := Tryz.prog) w 34 9 ty 5 i0 (.int .u8 0) Tryz.underlying34 Tryz.underlying9 hi hz0 ⟨g, 0, none⟩ xs.length cap (bv xs) (by rw [hz1]; simp [bv_length]) (World.ownsRow.cells h (g := g) rfl) s (by omega) (by omega) (by rw [hz2]; exact growslice_fits (by omega) (by omega))
        rw [hrun] at hr
        cases hr
        exact .inr ⟨_, rfl, Nat.le_refl _⟩

theorem wpList_appS {ops : Array Oper} {rest : List Oper} {o : Oper} {a : Act} {Q : Exit → Act → World → Prop} (w : World) (hgd : o.guard = none) (sl x : Operand)
    (ho : o.op = .call { callee := .builtin .append, args := #[sl, x], argTypes := #[34, 9] }) (v : Value) (s : ByteArray) (hs : a.eval sl = v) (hx : a.eval x = .string s)
    (B : Nat) (xs : List Nat) (h : Row w B v xs) (hB : B ≤ w.heap.size) (hl : xs.length ≤ 1099511627776) (hl2 : s.size ≤ 1099511627776)
    (k : ∀ v' w', Row w' B v' (xs ++ sb s) → Grw w v w' v' → wpList Tryz.prog ops Q rest (a.put o.dst v') w') :
    wpList Tryz.prog ops Q (o :: rest) a w := by
  refine wpList_plain hgd fun K hK => ?_
  obtain ⟨v', w', hr, h2, h3⟩ := run_appS w o.type B v xs s h hB hl hl2
  unfold Oper.wp execOp
  simp only [ho, resolve, invoke, builtin, Sem.run_bind, Sem.run_pure, Result.andThen_ok, List.map_toArray, List.map_cons, List.map_nil, hs, hx, hr]
  exact hK _ _ (k v' w' h2 h3)

def encX (s : ByteArray) : List Nat := enc s.size ++ sb s

set_option maxHeartbeats 400000 in
theorem appendText_any (w : World) (B : Nat) (v : Value) (xs : List Nat) (s : ByteArray) (h : Row w B v xs) (hB : B ≤ w.heap.size) (hl : xs.length ≤ 1000000000000) (hs : s.size ≤ 1000000000000) :
    Calls Tryz.prog 100 #[v, .string s] w fun e w' => ∃ v', e = .returned v' ∧ Row w' B v' (xs ++ encX s) ∧ Grw w v w' v' := by
  go_enter Tryz.func100, Tryz.ntmps100
  have h10 := enc_le s.size (by omega)
  have hl1 : (xs ++ enc s.size).length ≤ 1099511627776 := by simp; omega
  go_wp2_with (first
    | (go_at_call 98; refine (appendUint_int w B v xs _ s.size (by omega) h hB hl (by omega)).mono ?_; rintro e w1 ⟨v1, rfl, hr, hb⟩)
    | (at_builtin; refine wpList_appS _ rfl _ _ rfl _ _ (by rfl) (by rfl) B _ hr (Nat.le_trans hB hb.size) hl1 (by omega) ?_))
  intro v2 w2 hr2 hb2
  go_wp2
  go_ret
  exact ⟨_, rfl, by unfold encX; exact hr2, hb.trans hb2⟩

set_option maxHeartbeats 400000 in
theorem putText_any (w : World) (s : ByteArray) (hs : s.size ≤ 1000000000000) :
    Calls Tryz.prog 64 #[.string s] w fun e w' => ∃ v', e = .returned v' ∧ Row w' w.heap.size v' (encX s) ∧ Below w.heap.size w w' := by
  have h := hid (appendText_any w w.heap.size _ [] s (Row.nil _ _) (Nat.le_refl _) (by simp) hs)
  go_enter Tryz.func64, Tryz.ntmps64
  go_wp2_with (go_at_call 100; refine (Hid.out h).mono ?_; rintro e w' ⟨v', rfl, hr, hb⟩)
  go_ret
  exact ⟨_, rfl, by simpa using hr, hb.nil⟩

end Go.Proofs.YthnolocldeokeaaGreat

namespace Go.Proofs.YthnolocldeokeaaGreat
open Go.RowKit Go.Deep
set_option linter.unusedVariables false
set_option linter.unusedSimpArgs false

def Byt (bs : List Nat) : Prop := ∀ x ∈ bs, x < 256
theorem Byt.drop {bs : List Nat} (h : Byt bs) (n : Nat) : Byt (bs.drop n) := fun x hx => h x (List.mem_of_mem_drop hx)
theorem Byt.take {bs : List Nat} (h : Byt bs) (n : Nat) : Byt (bs.take n) := fun x hx => h x (List.mem_of_mem_take hx)
theorem Byt.append {a b : List Nat} (h : Byt a) (k : Byt b) : Byt (a ++ b) := fun x hx => by
  rcases List.mem_append.1 hx with hx | hx
  · exact h x hx
  · exact k x hx
theorem Byt.at {bs : List Nat} (h : Byt bs) {j x : Nat} (e : bs[j]? = some x) : x < 256 := h x (List.mem_of_getElem? e)
theorem enc_byt : ∀ (n : Nat), Byt (enc n) := by
  intro n
  induction n using Nat.strongRecOn with
  | _ n ih =>
    by_cases h : n < 128
    · rw [enc_small h]; intro x hx; simp at hx; omega
    · rw [enc_big h]
      intro x hx
      rcases List.mem_cons.1 hx with rfl | hx
      · omega
      · exact ih (n / 128) (by omega) x hx
theorem sb_byt (s : ByteArray) : Byt (sb s) := by
  intro x hx
  simp only [sb, List.mem_map] at hx
  obtain ⟨u, _, rfl⟩ := hx
  exact u.toNat_lt
theorem encX_byt (s : ByteArray) : Byt (encX s) := (enc_byt _).append (sb_byt _)

def ofB (bs : List Nat) : ByteArray := ⟨(bs.map UInt8.ofNat).toArray⟩
theorem sb_ofB {bs : List Nat} (h : Byt bs) : sb (ofB bs) = bs := by
  simp only [sb, ofB, List.map_map]
  conv => rhs; rw [← List.map_id bs]
  refine List.map_congr_left fun x hx => ?_
  have := h x hx
  simp; omega
theorem ofB_sb (s : ByteArray) : ofB (sb s) = s := by
  cases s with
  | mk d =>
    simp only [sb, ofB, List.map_map]
    congr 1
    apply Array.ext'
    simp
    conv => rhs; rw [← List.map_id d.toList]
    exact List.map_congr_left fun x hx => by simp
theorem fold_ofB (bs : List Nat) : ∀ (acc : ByteArray), (bs.map (fun (x : Nat) => (x : Int))).foldl (fun r n => r.push (UInt8.ofNat n.toNat)) acc = ⟨acc.data ++ (bs.map UInt8.ofNat).toArray⟩ := by
  induction bs with
  | nil => intro acc; simp
  | cons x r ih =>
    intro acc
    simp only [List.map_cons, List.foldl_cons]
    rw [ih]
    congr 1
    apply Array.ext'
    simp [ByteArray.push]
theorem ofB_size (bs : List Nat) : (ofB bs).size = bs.length := by simp [ofB, ByteArray.size]
/- What a slice of bytes reads. -/
def Rd (w : World) (v : Value) (bs : List Nat) : Prop := ∃ a cap, v = .slice a bs.length cap ∧ bs.length ≤ cap ∧ Byt bs ∧
  ∀ (j x : Nat), bs[j]? = some x → ∃ b off, a = some ⟨b, off, none⟩ ∧ w.cell? ⟨b, off + j, none⟩ = some (.int .u8 (x : Int))

theorem Rd.nil (w : World) : Rd w (.slice none 0 0) [] := ⟨none, 0, rfl, Nat.le_refl _, fun x hx => (by cases hx), fun j x h => by simp at h⟩
theorem Rd.same {w w' : World} {v bs} (h : Rd w v bs) (e : ∀ k, v.ownBlock = some k → k < w.heap.size → w'.heap[k]? = w.heap[k]?) : Rd w' v bs := by
  obtain ⟨a, cap, rfl, h1, h2, h3⟩ := h
  refine ⟨a, cap, rfl, h1, h2, fun j x hx => ?_⟩
  obtain ⟨b, off, rfl, hc⟩ := h3 j x hx
  refine ⟨b, off, rfl, ?_⟩
  rw [World.cell?_of_block (w := w) (e b rfl (World.block_lt_of_cell? _ _ hc))]; exact hc
theorem Rd.below {w w' : World} {v bs B} (h : Rd w v bs) (hB : w.heap.size ≤ B) (k : Below B w w') : Rd w' v bs :=
  h.same fun k' _ hk => k.block k' (by omega)
theorem Row.rd {w : World} {B v xs} (h : Row w B v xs) (hb : Byt xs) : Rd w v xs := by
  rcases h.2 with ⟨rfl, hn⟩ | ⟨g, cap, cur, rfl, hb', hgg, hc, hm, hs, ht⟩
  · have : xs = [] := List.eq_nil_of_length_eq_zero hn
    subst this
    exact Rd.nil w
  · refine ⟨_, _, rfl, hc, hb, fun j x hx => ⟨g, 0, rfl, ?_⟩⟩
    have := World.ownsRow.cells h (g := g) rfl j (.int .u8 (x : Int)) (by simp [bv, hx])
    rw [Addr.add_lit] at this
    exact this
theorem Rd.from {w : World} {a : Option Addr} {n cap : Nat} {bs : List Nat} (h : Rd w (.slice a n cap) bs) (k : Nat) (hk : k ≤ bs.length) : Rd w (sliced a k n cap 1) (bs.drop k) := by
  obtain ⟨a, cap, e, h1, h2, h3⟩ := h
  cases e
  refine ⟨_, _, by unfold sliced; rw [List.length_drop], by rw [List.length_drop]; omega, h2.drop k, fun j x hx => ?_⟩
  rw [List.getElem?_drop] at hx
  obtain ⟨b, off, rfl, hc⟩ := h3 _ _ hx
  have hlt : k + j < bs.length := (List.getElem?_eq_some_iff.1 hx).1
  refine ⟨b, off + k, ?_, ?_⟩
  · rw [if_neg (by omega)]
    simp [Addr.add_lit]
  · rw [Nat.add_assoc]; exact hc
theorem Rd.part {w : World} {a : Option Addr} {n cap : Nat} {bs : List Nat} (h : Rd w (.slice a n cap) bs) (k l : Nat) (hk : k ≤ l) (hl : l ≤ bs.length) : Rd w (sliced a k l cap 1) ((bs.take l).drop k) := by
  obtain ⟨a, cap, e, h1, h2, h3⟩ := h
  cases e
  refine ⟨_, _, by unfold sliced; rw [List.length_drop, List.length_take, Nat.min_eq_left hl], by rw [List.length_drop, List.length_take]; omega, (h2.take l).drop k, fun j x hx => ?_⟩
  rw [List.getElem?_drop, List.getElem?_take] at hx
  split at hx
  · obtain ⟨b, off, rfl, hc⟩ := h3 _ _ hx
    have hlt : k + j < bs.length := (List.getElem?_eq_some_iff.1 hx).1
    refine ⟨b, off + k, ?_, ?_⟩
    · rw [if_neg (by omega)]
      simp [Addr.add_lit]
    · rw [Nat.add_assoc]; exact hc
  · cases hx
theorem Rd.conv {w v bs} (h : Rd w v bs) : (convert 34 9 v).run Tryz.prog w = .ok (.string (ofB bs)) w := by
  obtain ⟨a, cap, rfl, h1, h2, h3⟩ := h
  rw [run_convert_bytes_string w 34 9 5 _ _ _ Tryz.underlying34 Tryz.underlying5 Tryz.underlying9]
  cases a with
  | none =>
    have : bs = [] := by
      cases bs with
      | nil => rfl
      | cons x r => obtain ⟨b, off, e, _⟩ := h3 0 x rfl; cases e
    subst this
    rfl
  | some a =>
    have hl := run_loadCells_list (P := Tryz.prog) w a (bv bs) ?_
    · have := run_bytesToString w a bs.length cap (bs.map (fun (x : Nat) => (x : Int))) (by
        rw [bv_length] at hl
        rw [hl]; simp [bv]) (P := Tryz.prog)
      rw [this, fold_ofB]
      simp [ofB]
    · intro j u hu
      simp only [bv, List.getElem?_map, Option.map_eq_some_iff] at hu
      obtain ⟨x, hx, rfl⟩ := hu
      obtain ⟨b, off, e, hc⟩ := h3 j x hx
      cases e
      rw [Addr.add_lit]; exact hc

end Go.Proofs.YthnolocldeokeaaGreat

namespace Go.Proofs.YthnolocldeokeaaGreat
open Go.RowKit Go.Deep
set_option linter.unusedVariables false
set_option linter.unusedSimpArgs false

def decAt (n i : Nat) : List Nat → Option (Nat × Nat)
  | [] => none
  | c :: r => if 0 < i ∧ c = 0 ∨ i = 9 ∧ 1 < c then none else if c < 128 then some (n + c * 2 ^ (7 * i), i + 1) else decAt (n + (c - 128) * 2 ^ (7 * i)) (i + 1) r
def dec (bs : List Nat) : Option (Nat × Nat) := decAt 0 0 bs

theorem decAt_size (bs : List Nat) : ∀ (n i m k : Nat), decAt n i bs = some (m, k) → i < k ∧ k ≤ i + bs.length := by
  induction bs with
  | nil => intro n i m k h; cases h
  | cons c r ih =>
    intro n i m k h
    simp only [decAt] at h
    split at h
    · cases h
    · split at h
      · cases h; simp
      · have := ih _ _ _ _ h
        simp; omega
theorem decAt_enc : ∀ (n m i : Nat) (more : List Nat), (0 < i → n ≠ 0) → i ≤ 9 → n < 128 ^ (9 - i) * 2 → decAt m i (enc n ++ more) = some (m + n * 2 ^ (7 * i), i + (enc n).length) := by
  intro n
  induction n using Nat.strongRecOn with
  | _ n ih =>
    intro m i more h0 hi hn
    by_cases h : n < 128
    · rw [enc_small h]
      simp only [List.cons_append, List.nil_append, decAt]
      rw [if_neg (by
        rintro (⟨a, rfl⟩ | ⟨rfl, b⟩)
        · exact h0 a rfl
        · simp at hn; omega), if_pos h]
      simp
    · rw [enc_big h]
      simp only [List.cons_append, decAt]
      have hi9 : i ≠ 9 := by rintro rfl; simp at hn; omega
      rw [if_neg (by
        rintro (⟨a, b⟩ | ⟨rfl, b⟩)
        · omega
        · exact hi9 rfl), if_neg (by omega)]
      rw [ih (n / 128) (by omega) _ (i + 1) more (fun _ => by omega) (by omega) (by
        rw [show 9 - i = (9 - (i + 1)) + 1 from by omega, Nat.pow_succ] at hn
        omega)]
      have e : 2 ^ (7 * (i + 1)) = 128 * 2 ^ (7 * i) := by rw [Nat.mul_add, Nat.pow_add]; omega
      congr 2
      · rw [e, show n % 128 + 128 - 128 = n % 128 from by omega]
        have hd := Nat.div_add_mod n 128
        calc m + n % 128 * 2 ^ (7 * i) + n / 128 * (128 * 2 ^ (7 * i)) = m + (128 * (n / 128) + n % 128) * 2 ^ (7 * i) := by rw [Nat.add_mul, ← Nat.mul_assoc, Nat.mul_comm (n / 128) 128]; omega
          _ = m + n * 2 ^ (7 * i) := by rw [hd]
      · simp; omega
theorem dec_enc (n : Nat) (more : List Nat) (h : n < 18446744073709551616) : dec (enc n ++ more) = some (n, (enc n).length) := by
  have := decAt_enc n 0 0 more (by omega) (by omega) (by simpa using h)
  simpa [dec] using this
theorem decAt_back (bs : List Nat) (hb : Byt bs) : ∀ (n i m k : Nat), i ≤ 9 → n < 2 ^ (7 * i) → decAt n i bs = some (m, k) → ∃ q, m = n + q * 2 ^ (7 * i) ∧ q < 128 ^ (9 - i) * 2 ∧ bs.take (k - i) = enc q ∧ i < k ∧ k ≤ 10 ∧ (0 < i → 0 < q) := by
  induction bs with
  | nil => intro n i m k _ _ h; cases h
  | cons c r ih =>
    intro n i m k hi hn h
    simp only [decAt] at h
    have hc : c < 256 := hb c (by simp)
    split at h
    · cases h
    · rename_i h1
      split at h
      · rename_i h2
        cases h
        refine ⟨c, rfl, ?_, ?_, by omega, by omega, fun a => ?_⟩
        · rcases Nat.lt_or_ge i 9 with h9 | h9
          · have : 128 ^ 1 ≤ 128 ^ (9 - i) := Nat.pow_le_pow_right (by decide) (by omega)
            omega
          · have : i = 9 := by omega
            subst this
            simp at h1 ⊢; omega
        · rw [enc_small h2]; simp
        · have : c ≠ 0 := fun e => h1 (.inl ⟨a, e⟩)
          omega
      · rename_i h2
        have hi9 : i < 9 := by
          rcases Nat.lt_or_ge i 9 with h9 | h9
          · exact h9
          · exact absurd (.inr ⟨by omega, by omega⟩) h1
        have e : 2 ^ (7 * (i + 1)) = 128 * 2 ^ (7 * i) := by rw [Nat.mul_add, Nat.pow_add]; omega
        obtain ⟨q, e1, e2, e3, e4, e5, e6⟩ := ih (fun x hx => hb x (by simp [hx])) _ _ _ _ (by omega) (by
          rw [e]
          have : (c - 128) * 2 ^ (7 * i) ≤ 127 * 2 ^ (7 * i) := Nat.mul_le_mul_right _ (by omega)
          omega) h
        have e6' := e6 (by omega)
        refine ⟨(c - 128) + 128 * q, ?_, ?_, ?_, by omega, by omega, fun _ => by omega⟩
        · rw [e1, e, Nat.add_mul, ← Nat.mul_assoc, Nat.mul_comm 128 q]; omega
        · rw [show 9 - i = (9 - (i + 1)) + 1 from by omega, Nat.pow_succ]; omega
        · rw [show k - i = (k - (i + 1)) + 1 from by omega, List.take_succ_cons, e3, enc_big (n := c - 128 + 128 * q) (by omega)]
          congr 1
          · omega
          · congr 1; omega
theorem dec_back {bs : List Nat} (hb : Byt bs) {m k : Nat} (h : dec bs = some (m, k)) : bs.take k = enc m ∧ m < 18446744073709551616 ∧ k ≤ bs.length ∧ 0 < k ∧ k ≤ 10 := by
  obtain ⟨q, e1, e2, e3, e4, e5, _⟩ := decAt_back bs hb 0 0 m k (by omega) (by simp) h
  have hs := decAt_size bs 0 0 m k h
  simp at e1 e2 e3
  subst e1
  exact ⟨e3, by omega, by omega, by omega, e5⟩
end Go.Proofs.YthnolocldeokeaaGreat

namespace Go.Proofs.YthnolocldeokeaaGreat
open Go.RowKit Go.Deep
set_option linter.unusedVariables false
set_option linter.unusedSimpArgs false

def uintV : Option (Nat × Nat) → Value
  | none => .tuple #[.int .u64 0, .int .i64 0, .int .i64 20]
  | some (n, k) => .tuple #[.int .u64 (n : Int), .int .i64 (k : Int), .int .i64 0]

theorem pow7 (i : Nat) : 2 ^ (7 * (i + 1)) = 128 * 2 ^ (7 * i) := by rw [Nat.mul_add, Nat.pow_add]; omega
theorem pow9 {i : Nat} (h : i ≤ 8) : 128 * 2 ^ (7 * i) ≤ 9223372036854775808 := by
  have : 2 ^ (7 * i) ≤ 2 ^ 56 := Nat.pow_le_pow_right (by decide) (by omega)
  omega
theorem fits7 {c i : Nat} (hc : c < 128) (hi : i ≤ 9) (h9 : i = 9 → c ≤ 1) : c * 2 ^ (7 * i) < 18446744073709551616 := by
  rcases Nat.lt_or_ge i 9 with h | h
  · have h1 := pow9 (i := i) (by omega)
    have : c * 2 ^ (7 * i) ≤ 128 * 2 ^ (7 * i) := Nat.mul_le_mul_right _ (by omega)
    omega
  · have : i = 9 := by omega
    subst this
    have := h9 rfl
    omega
theorem or_join {m c i : Nat} (hm : m < 2 ^ (7 * i)) (hc : c * 2 ^ (7 * i) < 18446744073709551616) (h9 : i ≤ 9) : bits .or .u64 (m : Int) ((c * 2 ^ (7 * i) : Nat) : Int) = ((m + c * 2 ^ (7 * i) : Nat) : Int) := by
  have hp : 2 ^ (7 * i) ≤ 2 ^ 63 := Nat.pow_le_pow_right (by decide) (by omega)
  rw [bits_or_u64_nat m (c * 2 ^ (7 * i)) (by omega) hc]
  have := Nat.two_pow_add_eq_or_of_lt hm c
  rw [Nat.mul_comm c, Nat.or_comm, ← this, Nat.add_comm]
theorem or_shl {m c i : Nat} (hm : m < 2 ^ (7 * i)) (hc : c * 2 ^ (7 * i) < 18446744073709551616) (h9 : i ≤ 9) : bits .or .u64 (m : Int) (IntKind.u64.wrap ((c : Int) * 2 ^ (7 * i))) = ((m + c * 2 ^ (7 * i) : Nat) : Int) := by
  rw [← or_join hm hc h9, IntKind.wrap_u64]
  rw [show (c : Int) * 2 ^ (7 * i) = ((c * 2 ^ (7 * i) : Nat) : Int) from by simp]
  congr 1
  omega
theorem and127_all : ∀ a : Fin 128, bits .and .u8 (128 + (a.val : Int)) 127 = (a.val : Int) := by decide +kernel
theorem and127 (d : Nat) (h : d < 128) : bits .and .u8 (128 + (d : Int)) 127 = (d : Int) := and127_all ⟨d, h⟩

theorem Rd.len {w v bs} (h : Rd w v bs) : ∃ a cap, v = .slice a bs.length cap := by obtain ⟨a, cap, e, _⟩ := h; exact ⟨a, cap, e⟩

set_option maxRecDepth 10000 in
set_option maxHeartbeats 1000000 in
theorem uint_any (w : World) (v : Value) (bs : List Nat) (h : Rd w v bs) (hl : bs.length ≤ 1000000000000) :
    Calls Tryz.prog 104 #[v] w fun e w' => e = .returned (uintV (dec bs)) ∧ w' = w := by
  obtain ⟨a, cap, rfl, h1, h2, h3⟩ := h
  go_enter Tryz.func104, Tryz.ntmps104
  go_wp2; go_step3; go_wp2; go_step3; go_wp2
  go_loopw [5, 10] (fun nn ii wr => ∃ (m i : Nat), nn = .int .u64 (m : Int) ∧ ii = .int .i64 (i : Int) ∧ i ≤ 9 ∧ m < 2 ^ (7 * i) ∧ i ≤ bs.length ∧ dec bs = decAt m i (bs.drop i) ∧ wr = w) (fun _ ii _ => 10 - (intOf ii).toNat)
  case atStart => exact ⟨0, 0, rfl, rfl, by omega, by simp, by omega, rfl, rfl⟩
  case round =>
    obtain ⟨m, i, rfl, rfl, hi, hm, hil, he, rfl⟩ := hrel
    rcases Nat.lt_or_ge i bs.length with hlt | hge
    · obtain ⟨c, hc⟩ : ∃ c, bs[i]? = some c := ⟨bs[i], by simp [hlt]⟩
      obtain ⟨b, off, rfl, hcell⟩ := h3 i c hc
      have hcb := h2.at hc
      have hd : bs.drop i = c :: bs.drop (i + 1) := by rw [List.drop_eq_getElem_cons hlt]; congr 1; simpa [hlt] using hc
      rw [hd] at he
      simp only [decAt] at he
      clear hd hc h1 h2 h3
      by_cases hA : 0 < i ∧ c = 0 ∨ i = 9 ∧ 1 < c
      · rw [if_pos hA] at he
        have He := hid he
        clear he
        rcases hA with ⟨hi0, rfl⟩ | ⟨rfl, hc1⟩
        · go_wp2
          (try rw [Exit.noGoto_ret]); go_ret3
          exact ⟨by rw [He.out]; rfl, rfl⟩
        · have hc0 : (0 : Nat) < c := by omega
          go_wp2
          (try rw [Exit.noGoto_ret]); go_ret3
          exact ⟨by rw [He.out]; rfl, rfl⟩
      · rw [if_neg hA] at he
        have hA1 : ¬ (0 < i ∧ c = 0) := fun x => hA (.inl x)
        have hA2 : ¬ (i = 9 ∧ 1 < c) := fun x => hA (.inr x)
        clear hA
        by_cases hC : c < 128
        · rw [if_pos hC] at he
          have hf := fits7 hC hi (fun e => by omega)
          have E : Hid (Ending.returned (.tuple #[.int .u64 (bits .or .u64 (m : Int) (IntKind.u64.wrap ((c : Int) * 2 ^ (7 * i)))), .int .i64 ((i : Int) + 1), .int .i64 0]) = Ending.returned (uintV (dec bs))) := by
            rw [he, or_shl hm hf hi]; rfl
          clear he hf
          rcases Nat.lt_or_ge i 1 with hi0 | hi0
          · go_wp2
            (try rw [Exit.noGoto_ret]); go_ret3
            exact ⟨E.out, rfl⟩
          · have hc0 : 0 < c := by omega
            rcases Nat.lt_or_ge i 9 with h9 | h9
            · go_wp2
              (try rw [Exit.noGoto_ret]); go_ret3
              exact ⟨E.out, rfl⟩
            · obtain rfl : i = 9 := by omega
              obtain rfl : c = 1 := by omega
              have E9 : Hid (Ending.returned (.tuple #[.int .u64 (bits .or .u64 (m : Int) 9223372036854775808), .int .i64 10, .int .i64 0]) = Ending.returned (uintV (dec bs))) := E
              clear E
              go_wp2
              (try rw [Exit.noGoto_ret]); go_ret3
              exact ⟨E9.out, rfl⟩
        · rw [if_neg hC] at he
          have h9 : i < 9 := by omega
          obtain ⟨d, rfl⟩ : ∃ d, c = 128 + d := ⟨c - 128, by omega⟩
          have hdl : d < 128 := by omega
          rw [show 128 + d - 128 = d from by omega] at he
          have hf := fits7 hdl hi (fun e => by omega)
          have e3 := and127 d hdl
          have hm2 : m + d * 2 ^ (7 * i) < 2 ^ (7 * (i + 1)) := by
            rw [pow7]
            have : d * 2 ^ (7 * i) ≤ 127 * 2 ^ (7 * i) := Nat.mul_le_mul_right _ (by omega)
            omega
          have E := hid (or_shl hm hf hi)
          have He := hid he
          have Hm2 := hid hm2
          clear he hm2 hf hm hA1 hA2
          rcases Nat.lt_or_ge i 1 with hi0 | hi0
          · go_wp2
            go_roundw
            case rel => exact ⟨_, i + 1, congrArg (Value.int .u64) E.out, by go_num, by omega, Hm2.out, by omega, He.out, trivial⟩
            case measure => simp [intOf]; omega
          · go_wp2
            go_roundw
            case rel => exact ⟨_, i + 1, congrArg (Value.int .u64) E.out, by go_num, by omega, Hm2.out, by omega, He.out, trivial⟩
            case measure => simp [intOf]; omega
    · have : i = bs.length := by omega
      subst this
      rw [List.drop_length] at he
      have He := hid he
      clear he h1 h2 h3
      go_wp2
      (try rw [Exit.noGoto_ret]); go_ret3
      exact ⟨by rw [He.out]; rfl, rfl⟩
end Go.Proofs.YthnolocldeokeaaGreat

namespace Go.Proofs.YthnolocldeokeaaGreat
open Go.RowKit Go.Deep
set_option linter.unusedVariables false
set_option linter.unusedSimpArgs false
set_option maxRecDepth 100000

def unzz (n : Nat) : Int := if n % 2 = 1 then -((n / 2 : Nat) : Int) - 1 else ((n / 2 : Nat) : Int)
theorem unzz_zz (k : Int) : unzz (zz k) = k := by
  unfold unzz zz
  split <;> split <;> omega
theorem zz_unzz (n : Nat) : zz (unzz n) = n := by
  unfold unzz zz
  split <;> split <;> omega
def intV : Option (Nat × Nat) → Value
  | none => .tuple #[.int .i64 0, .int .i64 0, .int .i64 20]
  | some (n, k) => .tuple #[.int .i64 (unzz n), .int .i64 (k : Int), .int .i64 0]

theorem and_one (n : Nat) (h : n < 18446744073709551616) : bits .and .u64 (n : Int) 1 = ((n % 2 : Nat) : Int) := by
  have h' := bits_and_u64_nat n 1 h (by omega)
  rw [show n &&& 1 = n % 2 from Nat.and_one_is_mod n] at h'
  exact h'
theorem xor_pos (m : Nat) (h : m < 9223372036854775808) : bits .xor .i64 (if IntKind.i64.signed = true then -1 else 9223372036854775807) (m : Int) = -(m : Int) - 1 := by
  show IntKind.i64.wrap ((BitVec.ofInt 64 (-1) ^^^ BitVec.ofInt 64 (m : Int)).toNat : Int) = _
  have e2 : BitVec.ofInt 64 (-1) = BitVec.allOnes 64 := by decide
  rw [e2, BitVec.xor_comm, BitVec.xor_allOnes, BitVec.toNat_not, BitVec.ofInt_natCast, BitVec.toNat_ofNat, IntKind.wrap_i64]
  omega

set_option maxHeartbeats 400000 in
theorem int_any (w : World) (v : Value) (bs : List Nat) (h : Rd w v bs) (hl : bs.length ≤ 1000000000000) :
    Calls Tryz.prog 75 #[v] w fun e w' => e = .returned (intV (dec bs)) ∧ w' = w := by
  have hu := uint_any w v bs h hl
  cases hd : dec bs with
  | none =>
    rw [hd] at hu
    have Hu := hid hu
    clear hu hd h
    go_enter Tryz.func75, Tryz.ntmps75
    go_wp2_with (go_at_call 104; refine (Hid.out Hu).mono ?_; rintro e w' ⟨rfl, rfl⟩; simp only [uintV])
    go_ret3
    exact ⟨rfl, rfl⟩
  | some p =>
    obtain ⟨n, k⟩ := p
    rw [hd] at hu
    obtain ⟨_, hn, _⟩ := dec_back (by obtain ⟨_, _, _, _, hb, _⟩ := h; exact hb) hd
    have Hu := hid hu
    have ha := and_one n hn
    clear hu hd h
    by_cases h2 : n % 2 = 1
    · rw [h2] at ha
      have ha' : bits .and .u64 (n : Int) 1 = 1 := ha
      have E : Hid (bits .xor .i64 (if IntKind.i64.signed = true then -1 else 9223372036854775807) ((n : Int) / 2) = unzz n) := by
        refine hid ?_
        have := xor_pos (n / 2) (by omega)
        unfold unzz
        rw [if_pos h2]
        simpa using this
      clear ha h2
      go_enter Tryz.func75, Tryz.ntmps75
      go_wp2_with (go_at_call 104; refine (Hid.out Hu).mono ?_; rintro e w' ⟨rfl, rfl⟩; simp only [uintV])
      go_ret3
      refine ⟨?_, rfl⟩
      simp only [intV]
      rw [← E.out]
      rfl
    · rw [show n % 2 = 0 from by omega] at ha
      have ha' : bits .and .u64 (n : Int) 1 = 0 := ha
      have E : Hid ((n : Int) / 2 = unzz n) := by
        refine hid ?_
        unfold unzz
        rw [if_neg h2]
        simp
      clear ha h2
      go_enter Tryz.func75, Tryz.ntmps75
      go_wp2_with (go_at_call 104; refine (Hid.out Hu).mono ?_; rintro e w' ⟨rfl, rfl⟩; simp only [uintV])
      go_ret3
      refine ⟨?_, rfl⟩
      simp only [intV]
      rw [← E.out]
      rfl

abbrev TextR : Type := Except Nat (List Nat × Nat)
def textD (most : Nat) (bs : List Nat) : TextR := match dec bs with
  | none => .error 20
  | some (n, k) => if most < n then .error 21 else if bs.length < k + n then .error 20 else .ok (((bs.drop k).take n), (k + n))
def textV : TextR → Value
  | .error e => .tuple #[.string ByteArray.empty, .int .i64 0, .int .i64 (e : Int)]
  | .ok (s, k) => .tuple #[.string (ofB s), .int .i64 (k : Int), .int .i64 0]

set_option maxHeartbeats 400000 in
theorem text_any (w : World) (v : Value) (bs : List Nat) (h : Rd w v bs) (hl : bs.length ≤ 1000000000000) :
    Calls Tryz.prog 77 #[v] w fun e w' => e = .returned (textV (textD 64 bs)) ∧ w' = w := by
  have hu := uint_any w v bs h hl
  have hb : Byt bs := by obtain ⟨_, _, _, _, hb, _⟩ := h; exact hb
  cases hd : dec bs with
  | none =>
    have E : Hid (textD 64 bs = .error 20) := by refine hid ?_; simp [textD, hd]
    rw [hd] at hu
    have Hu := hid hu
    clear hu hd h
    go_enter Tryz.func77, Tryz.ntmps77
    go_wp2_with (go_at_call 104; refine (Hid.out Hu).mono ?_; rintro e w' ⟨rfl, rfl⟩; simp only [uintV])
    go_ret3
    exact ⟨by rw [E.out]; rfl, rfl⟩
  | some p =>
    obtain ⟨n, k⟩ := p
    rw [hd] at hu
    obtain ⟨_, hn, hk, _, _⟩ := dec_back hb hd
    have Hu := hid hu
    by_cases h64 : 64 < n
    · have E : Hid (textD 64 bs = .error 21) := by refine hid ?_; simp [textD, hd, h64]
      clear hu hd h
      go_enter Tryz.func77, Tryz.ntmps77
      go_wp2_with (go_at_call 104; refine (Hid.out Hu).mono ?_; rintro e w' ⟨rfl, rfl⟩; simp only [uintV])
      go_ret3
      exact ⟨by rw [E.out]; rfl, rfl⟩
    · by_cases hs : bs.length < k + n
      · have E : Hid (textD 64 bs = .error 20) := by refine hid ?_; simp [textD, hd, h64, hs]
        obtain ⟨a, cap, rfl⟩ := h.len
        clear hu hd h
        go_enter Tryz.func77, Tryz.ntmps77
        go_wp2_with (go_at_call 104; refine (Hid.out Hu).mono ?_; rintro e w' ⟨rfl, rfl⟩; simp only [uintV])
        go_ret3
        exact ⟨by rw [E.out]; rfl, rfl⟩
      · have E : Hid (textD 64 bs = .ok (((bs.drop k).take n), (k + n))) := by refine hid ?_; simp [textD, hd, h64, hs]
        obtain ⟨a, cap, rfl⟩ := h.len
        have hp := (h.part k (k + n) (by omega) (by omega)).conv
        have hcap : bs.length ≤ cap := by obtain ⟨_, _, e, hc, _⟩ := h; cases e; exact hc
        unfold sliced at hp
        rw [show k + n - k = n from by omega, Nat.mul_one, show List.drop k (List.take (k + n) bs) = (bs.drop k).take n from by rw [List.drop_take]; congr 1; omega] at hp
        clear hu hd h
        go_enter Tryz.func77, Tryz.ntmps77
        go_wp2_with (go_at_call 104; refine (Hid.out Hu).mono ?_; rintro e w' ⟨rfl, rfl⟩; simp only [uintV])
        all_goals (go_ret3; exact ⟨by rw [E.out]; rfl, rfl⟩)
end Go.Proofs.YthnolocldeokeaaGreat

namespace Go.Proofs.YthnolocldeokeaaGreat
open Go.RowKit Go.Deep
set_option linter.unusedVariables false
set_option linter.unusedSimpArgs false
set_option maxRecDepth 100000

theorem run_appR (w : World) (ty : TypeId) (B : Nat) (v u : Value) (xs ys : List Nat) (h : Row w B v xs) (hu : Rd w u ys) (hnil : u.ownBlock = none → u = .slice none 0 0) (hB : B ≤ w.heap.size) (hl : xs.length ≤ 1099511627776) (hl2 : ys.length ≤ 1099511627776) :
    ∃ v' w', (Builtin.append_ #[34, 34] ty #[v, u]).run Tryz.prog w = .ok v' w' ∧ Row w' B v' (xs ++ ys) ∧ Grw w v w' v' := by
  obtain ⟨i0, hi, hz0, hz1, hz2⟩ := info_parts info5
  obtain ⟨a, cap, rfl, hc, hb, h3⟩ := hu
  cases a with
  | none =>
    have e := hnil rfl
    injection e with _ e1 e2
    have : ys = [] := List.eq_nil_of_length_eq_zero e1
    subst this
    subst e2
    exact ⟨v, w, run_append_owned_none w B 34 ty 5 i0 1 Tryz.underlying34 hi v xs.length (bv xs) h, by simpa using h, Grw.refl _ _⟩
  | some ad =>
    obtain ⟨v', w', hrun, hown, hg, _, hat⟩ := run_append_own_at (P := Tryz.prog) w B 34 ty 5 i0 (.int .u8 0) 1 1 Tryz.underlying34 hi hz0 hz1 hz2 rfl (by decide) v xs.length (bv xs) h ad ys.length cap (bv ys) (by simp [bv_length]) (by
      intro j x hx
      simp only [bv, List.getElem?_map, Option.map_eq_some_iff] at hx
      obtain ⟨y, hy, rfl⟩ := hx
      obtain ⟨b, off, e, hcell⟩ := h3 j y hy
      cases e
      rw [Addr.add_lit]; exact hcell) (bv_one ys) (by unfold maxLen; omega) (by omega) hB
    refine ⟨v', w', hrun, ?_, hg, ?_⟩
    · unfold Row
      rw [bv_append, List.length_append]
      exact hown
    · rcases hat with hat | hat
      · exact .inl hat
      · exact .inr ⟨_, hat, Nat.le_refl _⟩

theorem wpList_appR {ops : Array Oper} {rest : List Oper} {o : Oper} {a : Act} {Q : Exit → Act → World → Prop} (w : World) (hgd : o.guard = none) (sl x : Operand)
    (ho : o.op = .call { callee := .builtin .append, args := #[sl, x], argTypes := #[34, 34] }) (v u : Value) (hs : a.eval sl = v) (hx : a.eval x = u)
    (B : Nat) (xs ys : List Nat) (h : Row w B v xs) (hu : Rd w u ys) (hnil : u.ownBlock = none → u = .slice none 0 0) (hB : B ≤ w.heap.size) (hl : xs.length ≤ 1099511627776) (hl2 : ys.length ≤ 1099511627776)
    (k : ∀ v' w', Row w' B v' (xs ++ ys) → Grw w v w' v' → wpList Tryz.prog ops Q rest (a.put o.dst v') w') :
    wpList Tryz.prog ops Q (o :: rest) a w := by
  refine wpList_plain hgd fun K hK => ?_
  obtain ⟨v', w', hr, h2, h3⟩ := run_appR w o.type B v u xs ys h hu hnil hB hl hl2
  unfold Oper.wp execOp
  simp only [ho, resolve, invoke, builtin, Sem.run_bind, Sem.run_pure, Result.andThen_ok, List.map_toArray, List.map_cons, List.map_nil, hs, hx, hr]
  exact hK _ _ (k v' w' h2 h3)

theorem Row.nilOf {w B v xs} (h : Row w B v xs) : v.ownBlock = none → v = .slice none 0 0 := by
  intro e
  rcases h.2 with ⟨rfl, _⟩ | ⟨g, cap, cur, rfl, _⟩
  · rfl
  · cases e

theorem textD_more (M : Nat) (s : ByteArray) (m : List Nat) (hs : s.size < 18446744073709551616) : textD M (encX s ++ m) = if M < s.size then .error 21 else .ok ((sb s), (encX s).length) := by
  unfold textD encX
  rw [List.append_assoc, dec_enc _ _ hs]
  simp only
  split
  · rfl
  · rw [if_neg (by simp [sb_length])]
    congr 2
    · rw [List.drop_left, List.take_left' (sb_length s)]
    · simp [sb_length]
end Go.Proofs.YthnolocldeokeaaGreat

namespace Go.Proofs.YthnolocldeokeaaGreat
set_option maxRecDepth 100000
open Go.RowKit Go.Deep Go.Shelf
set_option linter.unusedVariables false
set_option linter.unusedSimpArgs false
attribute [local go_sem] Oper.semAt_some

/- What the iterator does. -/
/- Between two rounds: the boxes, and all that lay there ahead of the call. -/
theorem keep_cells {W W' : World} {row : Option Nat} {B b : Nat} {c : Array Value} {t : TypeId} (hs : W.heap[b]? = some (.cells c t (0, 0))) (hg : W.grownBy W' row) (hr : ∀ r, row = some r → B ≤ r ∧ ∃ o : Obj, W.heap[r]? = some o ∧ o.isCells = false) : W'.heap[b]? = some (.cells c t (0, 0)) := by
  rw [hg.block b (Array.getElem?_eq_some_iff.1 hs).1 (fun e => by
    obtain ⟨_, o, ho, hc⟩ := hr b e.symm
    rw [hs] at ho; cases ho; cases hc)]
  exact hs
theorem keepsFrom_below {B : Nat} {W W' : World} (k : Below W.heap.size W W') : KeepsFrom B W W' := ⟨k.size, fun j o _ hj _ => (k.block j (Array.getElem?_eq_some_iff.1 hj).1).trans hj⟩
theorem heap_setCell_at {w : World} {b : Nat} {c : Array Value} {e : TypeId} {f : Nat × Nat} (h : w.heap[b]? = some (.cells c e f)) (i : Nat) (u : Value) :
    (w.setCell ⟨b, i, none⟩ u).heap[b]? = some (.cells (c.setIfInBounds i u) e f) := by
  simp [World.setCell, Array.getElem?_modify, h]
theorem set_cells {W : World} {b : Nat} {v0 : Value} {t : TypeId} (h : W.heap[b]? = some (.cells #[v0] t (0, 0))) (v : Value) : (W.setCell ⟨b, 0, none⟩ v).heap[b]? = some (.cells #[v] t (0, 0)) := by
  have := heap_setCell_at h 0 v
  simpa using this

end Go.Proofs.YthnolocldeokeaaGreat

namespace Go.Proofs.YthnolocldeokeaaGreat
set_option maxRecDepth 100000
open Go.RowKit Go.Deep
set_option linter.unusedVariables false
set_option linter.unusedSimpArgs false

/- A type's two cells; a program's four slices. -/
def ty (k r : Int) : Value := .agg #[.int .i64 k, .int .i64 r]

set_option maxHeartbeats 400000 in
theorem isKey_any (w : World) (k r : Int) : Calls Tryz.prog 111 #[ty k r] w fun e w' => e = .returned (.bool (decide (r = 0) && (decide (k = 1) || decide (k = 2)))) ∧ Below w.heap.size w w' := by
  unfold ty
  have hb : Below w.heap.size w (w.alloc (.cells #[.int .i64 k, .int .i64 r] 46)) := (Below.refl _ _).alloc (Nat.le_refl _) _
  by_cases h0 : r = 0
  · subst h0
    by_cases h1 : k = 1
    · subst h1
      go_enter Tryz.func111, Tryz.ntmps111
      go_wp2
      go_ret
      exact ⟨by simp, hb⟩
    · have h1' : (k == 1) = false := by simpa using h1
      by_cases h2 : k = 2
      · subst h2
        go_enter Tryz.func111, Tryz.ntmps111
        go_wp2
        go_ret
        exact ⟨by simp, hb⟩
      · have h2' : (k == 2) = false := by simpa using h2
        go_enter Tryz.func111, Tryz.ntmps111
        go_wp2
        go_ret
        exact ⟨by simp [h1, h2], hb⟩
  · have h0' : (r == 0) = false := by simpa using h0
    go_enter Tryz.func111, Tryz.ntmps111
    go_wp2
    go_ret
    exact ⟨by simp [h0], hb⟩

set_option maxHeartbeats 400000 in
theorem isSimple_any (w : World) (k r : Int) : Calls Tryz.prog 118 #[ty k r] w fun e w' => e = .returned (.bool (decide (r = 0) && (decide (k = 1) || decide (k = 2) || decide (k = 3)))) ∧ Below w.heap.size w w' := by
  have K := hid (fun w' => isKey_any w' k r)
  unfold ty at K ⊢
  have hb : Below w.heap.size w (w.alloc (.cells #[.int .i64 k, .int .i64 r] 46)) := (Below.refl _ _).alloc (Nat.le_refl _) _
  cases hk : (decide (r = 0) && (decide (k = 1) || decide (k = 2))) with
  | true =>
    rw [hk] at K
    have e : (decide (r = 0) && (decide (k = 1) || decide (k = 2) || decide (k = 3))) = true := by
      simp only [Bool.and_eq_true, Bool.or_eq_true, decide_eq_true_eq] at hk ⊢
      exact ⟨hk.1, .inl hk.2⟩
    rw [e]
    clear e hk
    go_enter Tryz.func118, Tryz.ntmps118
    go_wp2_with (go_at_call 111; (refine (Hid.out K _).mono ?_; rintro e w1 ⟨rfl, hb1⟩))
    go_ret
    exact ⟨rfl, hb.trans (hb1.mono (by simp))⟩
  | false =>
    rw [hk] at K
    have e : (decide (r = 0) && (decide (k = 1) || decide (k = 2) || decide (k = 3))) = (decide (k = 3) && decide (r = 0)) := by
      by_cases h0 : r = 0
      · simp [h0] at hk ⊢; simp [hk]
      · simp [h0]
    rw [e]
    clear e hk
    go_enter Tryz.func118, Tryz.ntmps118
    go_wp2_with (go_at_call 111; (refine (Hid.out K _).mono ?_; rintro e w1 ⟨rfl, hb1⟩; have g := (hb1.block w.heap.size (by simp)).trans (heap_alloc_new w _); have g0 := cellOf g 0; have g1 := cellOf g 1; simp only [List.getElem?_toArray, List.getElem?_cons_zero, List.getElem?_cons_succ] at g0 g1; clear g))
    all_goals
      go_ret
      exact ⟨by simp_all, hb.trans (hb1.mono (by simp))⟩
end Go.Proofs.YthnolocldeokeaaGreat

