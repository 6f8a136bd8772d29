/- Digits of a number, as the document's. -/
import Derived.Test.YtkhjacflmggelaaGreatDoorJAY
import Derived.Lib.ItoaLen
import Derived.Lib.ConvBytes
import Derived.Laws.BytesArg
import Derived.Laws.Bits64b
import Derived.Laws.BitsLemmas
namespace Go.Proofs.YtkhjacflmggelaaGreatDoor.Vx
open Go.RowKit Go.Deep Go.Shelf
set_option linter.unusedVariables false
set_option linter.unusedSimpArgs false
set_option maxRecDepth 100000
theorem dig_toNat (d : Nat) (h : d < 10) : (UInt8.ofNat (48 + d)).toNat = 48 + d := by
  rw [UInt8.toNat_ofNat']; omega
def itoB (n : Int) : ByteArray := ⟨(Lib.itoa n).toArray⟩
def bv (xs : List Nat) : List Value := xs.map fun (x : Nat) => Value.int .u8 (x : Int)
def Row (w : World) (B : Nat) (v : Value) (xs : List Nat) : Prop := w.ownsRow B 5 1 v xs.length (bv xs)

theorem Row.alloc {w : World} {B v xs} (h : Row w B v xs) (o : Obj) : Row (w.alloc o) B v xs := World.ownsRow.alloc h o


abbrev Bs := List UInt8
def ofB (l : Bs) : ByteArray := ⟨l.toArray⟩
theorem ofB_list (l : Bs) : (ofB l).data.toList = l := rfl
theorem ofB_size (l : Bs) : (ofB l).size = l.length := rfl
theorem list_ofB (s : ByteArray) : ofB s.data.toList = s := by cases s; simp [ofB]
theorem eq_ofB {s : ByteArray} {l : Bs} (h : s.data.toList = l) : s = ofB l := by rw [← h, list_ofB]
theorem cat_any (a b : ByteArray) (h : a.size + b.size ≤ 140737488355328) : ∃ q : ByteArray, (∀ w : World, (Op.stringOp .add a b).run Tryz.prog w = .ok (.string q) w) ∧ q.data.toList = a.data.toList ++ b.data.toList ∧ q.size = a.size + b.size :=
  ⟨a ++ b, fun w => run_string_add_sum w _ _ (by omega), by simp, ByteArray.size_append⟩
/- What a slice of bytes reads. -/
def BRd (w : World) (a : Option Addr) (bs : Bs) : Prop := ∀ (j : Nat) (c : UInt8), bs[j]? = some c → ∃ b off, a = some ⟨b, off, none⟩ ∧ w.cell? ⟨b, off + j, none⟩ = some (.int .u8 (c.toNat : Int))
theorem BRd.conv {w : World} {a : Option Addr} {bs : Bs} (h : BRd w a bs) (cap : Nat) : (convert 33 9 (.slice a bs.length cap)).run Tryz.prog w = .ok (.string (ofB bs)) w := by
  cases bs with
  | nil =>
    rw [run_convert_bytes_string w 33 9 5 _ _ _ Tryz.underlying33 Tryz.underlying5 Tryz.underlying9]
    cases a with
    | none => rfl
    | some a =>
      have hl := run_loadCells_list (P := Tryz.prog) w a [] (fun j v hj => by simp at hj)
      have := run_bytesToString w a 0 cap [] (by simpa using hl) (P := Tryz.prog)
      rw [show ofB [] = ByteArray.empty from rfl]
      simpa using this
  | cons c t =>
    obtain ⟨b, off, rfl, _⟩ := h 0 c rfl
    have := run_convert_bytes_arg (P := Tryz.prog) w 33 5 Tryz.underlying33 Tryz.underlying5 b off (c :: t).length cap ((c :: t).map fun x : UInt8 => (x.toNat : Int)) (by simp) (fun i hi => by
      obtain ⟨b', off', e, hc⟩ := h i (c :: t)[i] (List.getElem?_eq_getElem hi)
      cases e
      rw [hc, List.getD_eq_getElem?_getD, List.getElem?_map, List.getElem?_eq_getElem hi]; rfl) 9 Tryz.underlying9
    rw [this]
    refine congrArg (fun x => Result.ok (Value.string x) w) ?_
    simp only [strOfNums, ofB, List.map_map]
    rw [List.map_congr_left (g := id) (fun x _ => by simp), List.map_id]
def bvv (bs : Bs) : List Value := bs.map fun c : UInt8 => Value.int .u8 (c.toNat : Int)
def BRow (w : World) (B : Nat) (v : Value) (bs : Bs) : Prop := w.ownsRow B 5 1 v bs.length (bvv bs)
theorem BRow.form {w B v xs} (h : BRow w B v xs) : ∃ a cap, v = .slice a xs.length cap ∧ xs.length ≤ cap := by
  rcases h.2 with ⟨rfl, hn⟩ | ⟨g, cap, cur, rfl, hb, hgg, hc, rest⟩
  · exact ⟨none, 0, by rw [hn], by omega⟩
  · exact ⟨_, _, rfl, hc⟩
theorem BRow.rd {w : World} {B a n cap bs} (h : BRow w B (.slice a n cap) bs) : BRd w a bs := by
  intro j c hc
  rcases h.2 with ⟨e, hn⟩ | ⟨g, cap', cur, e, hb, hgg, hcc, hm, hs', ht⟩
  · have : bs = [] := List.eq_nil_of_length_eq_zero hn
    subst this; simp at hc
  · cases e
    refine ⟨g, 0, rfl, ?_⟩
    have := World.ownsRow.cells h (g := g) rfl j (.int .u8 (c.toNat : Int)) (by simp [bvv, hc])
    rw [Addr.add_lit] at this
    exact this
theorem BRow.conv {w : World} {B v bs} (h : BRow w B v bs) : (convert 33 9 v).run Tryz.prog w = .ok (.string (ofB bs)) w := by
  obtain ⟨a, cap, rfl, _⟩ := h.form
  exact h.rd.conv cap
theorem BRow.lit {w : World} {b B : Nat} {c : UInt8} (h : w.heap[b]? = some (.cells #[.int .u8 (c.toNat : Int)] 5 (0, 0))) (hB : B ≤ b) : BRow w B (.slice (some ⟨b, 0, none⟩) 1 1) [c] :=
  ⟨by simp [bvv], .inr ⟨b, 1, _, rfl, hB, h, by simp, by unfold maxLen; omega, by simp, by simp [bvv]⟩⟩
theorem dec_step (u : Nat) (acc : Bs) (h : ¬ u / 10 = 0) : Lib.decDigits (u / 10) ++ (UInt8.ofNat (48 + u % 10) :: acc) = Lib.decDigits u ++ acc := by
  have : ¬ u < 10 := by omega
  conv => rhs; rw [Lib.decDigits]
  rw [dif_neg this]
  simp
theorem dec_last (u : Nat) (acc : Bs) (h : u / 10 = 0) : UInt8.ofNat (48 + u % 10) :: acc = Lib.decDigits u ++ acc := by
  have : u < 10 := by omega
  conv => rhs; rw [Lib.decDigits]
  rw [dif_pos this, Nat.mod_eq_of_lt this]
  rfl
theorem abs_nat {n : Int} (h : ¬ n < 0) : n.natAbs = n.toNat := by
  have h6 := Int.toNat_of_nonneg (show 0 ≤ n by omega)
  have h7 := Int.natAbs_of_nonneg (show 0 ≤ n by omega)
  omega
theorem dig_toNat2 (u : Nat) : (UInt8.ofNat (48 + u % 10)).toNat = 48 + u % 10 := dig_toNat _ (by omega)
set_option maxHeartbeats 1000000 in
theorem refDigits (n : Int) (h0 : -9223372036854775808 ≤ n) (h1 : n ≤ 9223372036854775807) (w : World) : Calls Tryz.prog 15 #[.int .i64 n] w fun e w' => e = .returned (.string (itoB n)) ∧ Below w.heap.size w w' := by
  obtain ⟨U, hU⟩ : ∃ U : Nat, U = n.natAbs := ⟨_, rfl⟩
  have hUb : U ≤ 9223372036854775808 := by omega
  have HDL : Hid ((Lib.decDigits U).length ≤ 30) := hid (by
    have h5 := Lib.itoa_length_le n h0 h1
    unfold Lib.itoa at h5
    split at h5
    · rw [hU]; simp at h5; omega
    · rename_i hnn; rw [hU, abs_nat hnn]; omega)
  by_cases hneg : n < 0
  · have hu1 : IntKind.u64.wrap n = 18446744073709551616 - (U : Int) := by rw [IntKind.wrap_u64]; omega
    have hu2 : IntKind.u64.wrap (-(18446744073709551616 - (U : Int))) = (U : Int) := by rw [IntKind.wrap_u64]; omega
    have HU := hid hU
    have Hneg := hid hneg
    clear hU
    go_enter Tryz.func15, Tryz.ntmps15
    go_wp2
    go_loopg [3, 4] (U + 1) (fun g uu ss wr => ∃ (V : Nat) (acc : Bs), uu = .int .u64 (V : Int) ∧ ss = .string (ofB acc) ∧ V ≤ g ∧ V ≤ U ∧ Lib.decDigits V ++ acc = Lib.decDigits U ∧ Below w.heap.size w wr)
    case atStart => exact ⟨U, [], rfl, rfl, by omega, by omega, by simp, Below.refl _ _⟩
    case round =>
      obtain ⟨V, acc, rfl, rfl, hV, hVU, hD, hbr⟩ := hrel
      have hal : acc.length ≤ 30 := by have h5 := congrArg List.length hD; rw [List.length_append] at h5; have := HDL.out; omega
      obtain ⟨d, hd⟩ : ∃ d, d = UInt8.ofNat (48 + V % 10) := ⟨_, rfl⟩
      have hdn : (d.toNat : Int) = 48 + (V : Int) % 10 := by rw [hd, dig_toNat2]; omega
      have hlit := (BRow.lit (w := wr.alloc (.cells #[.int .u8 (d.toNat : Int)] 5)) (b := wr.heap.size) (B := wr.heap.size) (c := d) (heap_alloc_new wr _) (Nat.le_refl _)).conv
      rw [hdn] at hlit
      obtain ⟨q1, r1, e1, z1⟩ := cat_any (ofB [d]) (ofB acc) (by rw [ofB_size, ofB_size]; simp; omega)
      have hq1 : q1 = ofB (d :: acc) := eq_ofB (by rw [e1, ofB_list, ofB_list]; rfl)
      have Hq := hid hq1
      have HB : Hid (Below w.heap.size w (wr.alloc (.cells #[.int .u8 (48 + (V : Int) % 10)] 5))) := hid (hbr.alloc hbr.size _)
      have HV := hid hV
      have HVU := hid hVU
      have HD := hid hD
      have Hd := hid hd
      obtain ⟨x, hx⟩ : ∃ z, z = ofB [d] := ⟨_, rfl⟩
      obtain ⟨y, hy⟩ : ∃ z, z = ofB acc := ⟨_, rfl⟩
      rw [← hx] at hlit r1
      rw [← hy] at r1 ⊢
      clear hq1 hV hVU hD hd hdn hx hy e1 z1 hal hbr
      have hwq : IntKind.u64.wrap ((V : Int) / 10) = (V : Int) / 10 := by rw [IntKind.wrap_u64]; have := HVU.out; omega
      by_cases hz : V / 10 = 0
      · have hz' : (V : Int) / 10 = 0 := by omega
        have Hz := hid hz
        clear hz
        obtain ⟨q2, r2, e2, z2⟩ := cat_any ⟨#[45]⟩ q1 (by rw [Hq.out, ofB_size]; have h5 := congrArg List.length HD.out; rw [List.length_append] at h5; have := HDL.out; have e5 : (⟨#[45]⟩ : ByteArray).size = 1 := rfl; simp; omega)
        have H2 := hid e2
        clear e2 z2
        go_wp2
        go_ret
        refine ⟨?_, HB.out⟩
        have : q2 = itoB n := by
          unfold itoB
          rw [← list_ofB q2, H2.out, Hq.out, ofB_list, Hd.out, dec_last _ _ Hz.out, HD.out, HU.out]
          unfold Lib.itoa
          rw [if_pos (by have := Hneg.out; omega)]
          rfl
        rw [← this]
        rfl
      · have hz' : ¬ (V : Int) / 10 = 0 := by omega
        have hz2 : (((V : Int) / 10) == 0) = false := by simp; omega
        have Hz := hid hz
        clear hz
        go_wp2
        go_roundg (gk - 1)
        case measure => have := HV.out; have := Hz.out; omega
        case rel => exact ⟨V / 10, d :: acc, rfl, by rw [Hq.out], by have := HV.out; have := Hz.out; omega, by have := HVU.out; omega, by rw [Hd.out, dec_step _ _ Hz.out]; exact HD.out, HB.out⟩
  · have hu1 : IntKind.u64.wrap n = (U : Int) := by rw [IntKind.wrap_u64]; omega
    have HU := hid hU
    have Hneg := hid hneg
    clear hU
    go_enter Tryz.func15, Tryz.ntmps15
    go_wp2
    go_loopg [3, 4] (U + 1) (fun g uu ss wr => ∃ (V : Nat) (acc : Bs), uu = .int .u64 (V : Int) ∧ ss = .string (ofB acc) ∧ V ≤ g ∧ V ≤ U ∧ Lib.decDigits V ++ acc = Lib.decDigits U ∧ Below w.heap.size w wr)
    case atStart => exact ⟨U, [], rfl, rfl, by omega, by omega, by simp, Below.refl _ _⟩
    case round =>
      obtain ⟨V, acc, rfl, rfl, hV, hVU, hD, hbr⟩ := hrel
      have hal : acc.length ≤ 30 := by have h5 := congrArg List.length hD; rw [List.length_append] at h5; have := HDL.out; omega
      obtain ⟨d, hd⟩ : ∃ d, d = UInt8.ofNat (48 + V % 10) := ⟨_, rfl⟩
      have hdn : (d.toNat : Int) = 48 + (V : Int) % 10 := by rw [hd, dig_toNat2]; omega
      have hlit := (BRow.lit (w := wr.alloc (.cells #[.int .u8 (d.toNat : Int)] 5)) (b := wr.heap.size) (B := wr.heap.size) (c := d) (heap_alloc_new wr _) (Nat.le_refl _)).conv
      rw [hdn] at hlit
      obtain ⟨q1, r1, e1, z1⟩ := cat_any (ofB [d]) (ofB acc) (by rw [ofB_size, ofB_size]; simp; omega)
      have hq1 : q1 = ofB (d :: acc) := eq_ofB (by rw [e1, ofB_list, ofB_list]; rfl)
      have Hq := hid hq1
      have HB : Hid (Below w.heap.size w (wr.alloc (.cells #[.int .u8 (48 + (V : Int) % 10)] 5))) := hid (hbr.alloc hbr.size _)
      have HV := hid hV
      have HVU := hid hVU
      have HD := hid hD
      have Hd := hid hd
      obtain ⟨x, hx⟩ : ∃ z, z = ofB [d] := ⟨_, rfl⟩
      obtain ⟨y, hy⟩ : ∃ z, z = ofB acc := ⟨_, rfl⟩
      rw [← hx] at hlit r1
      rw [← hy] at r1 ⊢
      clear hq1 hV hVU hD hd hdn hx hy e1 z1 hal hbr
      have hwq : IntKind.u64.wrap ((V : Int) / 10) = (V : Int) / 10 := by rw [IntKind.wrap_u64]; have := HVU.out; omega
      by_cases hz : V / 10 = 0
      · have hz' : (V : Int) / 10 = 0 := by omega
        have Hz := hid hz
        clear hz
        go_wp2
        go_ret
        refine ⟨?_, HB.out⟩
        have : q1 = itoB n := by
          unfold itoB
          rw [← list_ofB q1, Hq.out, ofB_list, Hd.out, dec_last _ _ Hz.out, HD.out, HU.out]
          unfold Lib.itoa
          rw [if_neg (by have := Hneg.out; omega), abs_nat (by have := Hneg.out; omega)]
          rfl
        rw [← this]
        rfl
      · have hz' : ¬ (V : Int) / 10 = 0 := by omega
        have hz2 : (((V : Int) / 10) == 0) = false := by simp; omega
        have Hz := hid hz
        clear hz
        go_wp2
        go_roundg (gk - 1)
        case measure => have := HV.out; have := Hz.out; omega
        case rel => exact ⟨V / 10, d :: acc, rfl, by rw [Hq.out], by have := HV.out; have := Hz.out; omega, by have := HVU.out; omega, by rw [Hd.out, dec_step _ _ Hz.out]; exact HD.out, HB.out⟩
end Go.Proofs.YtkhjacflmggelaaGreatDoor.Vx

namespace Go.Proofs.YtkhjacflmggelaaGreatDoor
open Go Go.RowKit Go.Deep Go.Shelf
set_option linter.unusedVariables false
set_option maxRecDepth 100000
open Lx in
def cons1 (t : LTok) (r : Except (Nat × Nat) (List LTok)) : Except (Nat × Nat) (List LTok) := match r with
  | .error e => .error e
  | .ok ts => .ok (t :: ts)
theorem lex_pre (X : Bsq) : Lx.lexG 0 0 (111 :: 110 :: 32 :: 101 :: 40 :: 41 :: 32 :: 123 :: 32 :: 100 :: 111 :: 32 :: X) = cons1 ⟨2, [111, 110], 0⟩ (cons1 ⟨1, [101], 3⟩ (cons1 ⟨5, [40], 4⟩ (cons1 ⟨5, [41], 5⟩ (cons1 ⟨5, [123], 7⟩ (cons1 ⟨2, [100, 111], 9⟩ (Lx.lexG 0 12 X)))))) := by kernel_rfl
theorem lex_end (p : Nat) : Lx.lexG 0 p [59, 32, 125] = .ok [⟨5, [59], p⟩, ⟨5, [125], p + 2⟩, ⟨0, [], p + 3⟩] := by kernel_rfl
theorem lex_minus (X : Bsq) : Lx.lexG 0 12 (45 :: 32 :: X) = cons1 ⟨5, [45], 12⟩ (Lx.lexG 0 14 X) := by kernel_rfl
theorem lex_skip : ∀ (D rest : Bsq) (p : Nat), Lx.lexG D.length p (D ++ rest) = Lx.lexG 0 (p + D.length) rest
  | [], rest, p => rfl
  | c :: t, rest, p => by
    show Lx.lexG (t.length + 1) p (c :: (t ++ rest)) = _
    rw [Lx.lexG, lex_skip t rest (p + 1)]
    congr 1
    simp; omega
theorem run_dig : ∀ (D rest : Bsq), (∀ c ∈ D, Lx.isDg c = true) → Lx.runF Lx.isDg rest = 0 → Lx.runF Lx.isDg (D ++ rest) = D.length
  | [], rest, h, h0 => h0
  | c :: t, rest, h, h0 => by
    show (if Lx.isDg c then Lx.runF Lx.isDg (t ++ rest) + 1 else 0) = _
    rw [if_pos (h c (List.mem_cons_self ..)), run_dig t rest (fun x hx => h x (List.mem_cons_of_mem _ hx)) h0]
    rfl
theorem lex_dig (D rest : Bsq) (p : Nat) (hD : D ≠ []) (hd : ∀ c ∈ D, Lx.isDg c = true) (h0 : Lx.runF Lx.isDg rest = 0) : Lx.lexG 0 p (D ++ rest) = cons1 ⟨3, Lx.tokText 3 D, p⟩ (Lx.lexG 0 (p + D.length) rest) := by
  cases D with
  | nil => exact absurd rfl hD
  | cons c t =>
    have hc := hd c (List.mem_cons_self ..)
    have hcn : 48 ≤ c.toNat ∧ c.toNat ≤ 57 := by unfold Lx.isDg at hc; simpa using hc
    have hrun := run_dig (c :: t) rest hd h0
    have n1 : Lx.isBl c = false := by
      unfold Lx.isBl
      simp only [Bool.or_eq_false_iff, beq_eq_false_iff_ne]
      refine ⟨⟨⟨?_, ?_⟩, ?_⟩, ?_⟩ <;> (rintro rfl; revert hcn; decide)
    have n2 : ¬ c = 35 := by rintro rfl; revert hcn; decide
    have n3 : Lx.isLt c = false := by
      unfold Lx.isLt
      simp only [Bool.or_eq_false_iff, Bool.and_eq_false_iff, decide_eq_false_iff_not]
      omega
    have hf : Lx.firstF (c :: (t ++ rest)) = (3, (c :: t).length, 0) := by
      show (if Lx.isLt c then _ else if Lx.isDg c then _ else _) = _
      rw [n3, if_neg (by decide), if_pos hc]
      rw [show Lx.runF Lx.isDg (c :: (t ++ rest)) = (c :: t).length from hrun]
    show Lx.lexG 0 p (c :: (t ++ rest)) = _
    rw [Lx.lexG, n1, if_neg (by decide), if_neg n2, hf]
    have htk : (c :: (t ++ rest)).take (c :: t).length = c :: t := by
      show ((c :: t) ++ rest).take (c :: t).length = _
      rw [List.take_left]
    show (if (0 : Nat) ≠ 0 then (Except.error (p, 0) : Except (Nat × Nat) (List Lx.LTok)) else match Lx.lexG ((c :: t).length - 1) (p + 1) (t ++ rest) with | .error e => Except.error e | .ok ts => Except.ok (⟨3, Lx.tokText 3 ((c :: (t ++ rest)).take (c :: t).length), p⟩ :: ts)) = _
    rw [if_neg (by decide), htk, show (c :: t).length - 1 = t.length from rfl, lex_skip t rest (p + 1), show p + 1 + t.length = p + (c :: t).length by simp; omega]
    rfl
theorem c_simple (n : Nat) (e : Pr PEx) (R : List PTok) : simpleP n e ⟨⟨2, [100, 111], 9⟩ :: R, 1, false⟩ = bd (one e) (fun xs => ret ⟨13, [], [], [], xs.map pkE, [], [], 0⟩) ⟨R, 1, false⟩ := by kernel_rfl
theorem c_any (n : Nat) (e : Pr PEx) (st : Pr PSt) (R : List PTok) : anySt n e st ⟨⟨2, [100, 111], 9⟩ :: R, 1, false⟩ = bd (simpleP n e) (fun x => bd (want [59]) fun _ => ret x) ⟨⟨2, [100, 111], 9⟩ :: R, 1, false⟩ := by
  have h : ∀ (a b c d : Pr PSt) (s : PS), isS [105, 102] s = false → isS [119, 104, 105, 108, 101] s = false → isS [101, 97, 99, 104] s = false → isSmall s = false → (if isS [105, 102] s = true then a s else if isS [119, 104, 105, 108, 101] s = true ∨ isS [101, 97, 99, 104] s = true then b s else if isSmall s = true then c s else d s) = d s := fun a b c d s h1 h2 h3 h4 => by rw [h1, h2, h3, h4]; simp
  exact h _ _ _ _ _ rfl rfl rfl rfl
theorem c_block (st : Pr PSt) (n : Nat) (R : List PTok) : blockL st (n + 1) [] ⟨⟨2, [100, 111], 9⟩ :: R, 1, false⟩ = bd st (fun x => blockL st n [x]) ⟨⟨2, [100, 111], 9⟩ :: R, 1, false⟩ := by kernel_rfl
theorem c_blend (st : Pr PSt) (n : Nat) (x : PSt) (q r : Int) : blockL st (n + 1) [x] ⟨[⟨5, [125], q⟩, ⟨0, [], r⟩], 1, false⟩ = .ok ([x], ⟨[⟨5, [125], q⟩, ⟨0, [], r⟩], 1, false⟩) := by kernel_rfl
theorem c_betw {α : Type} (inner : Pr α) (R : List PTok) : between [123] [125] inner ⟨⟨5, [123], 7⟩ :: R, 0, false⟩ = bd inner (fun x => bd (want [125]) fun _ => bd leave fun _ => ret x) ⟨R, 1, false⟩ := by kernel_rfl
theorem c_hand (m : Nat) (R : List PTok) : handlerP m ⟨⟨1, [101], 3⟩ :: ⟨5, [40], 4⟩ :: ⟨5, [41], 5⟩ :: R, 0, false⟩ = bd (blockP m (stmt m)) (fun bl => ret ⟨[101], [], [], [], [], bl.map pkS, 0⟩) ⟨R, 0, false⟩ := by kernel_rfl
theorem c_decl (rest : Pr PDc) (R : List PTok) : declare [] rest ⟨⟨2, [111, 110], 0⟩ :: R, 0, false⟩ = bd rest (fun d => ret [d.setAt 0]) ⟨R, 0, false⟩ := by kernel_rfl
theorem c_src (m n : Nat) (R : List PTok) : sourceL m (n + 1) ⟨[], [], [], []⟩ ⟨⟨2, [111, 110], 0⟩ :: R, 0, false⟩ = bd (declare [] (handlerP m)) (fun l => sourceL m n ⟨[], [], [], l⟩) ⟨⟨2, [111, 110], 0⟩ :: R, 0, false⟩ := by kernel_rfl
theorem c_end (m n : Nat) (t : PTr) (r : Int) : sourceL m (n + 1) t ⟨[⟨0, [], r⟩], 0, false⟩ = .ok (t, ⟨[⟨0, [], r⟩], 0, false⟩) := by kernel_rfl
/- The tokens around a literal: what is read. X: its tokens; Z: what stands behind. -/
def tkA : List PTok := [⟨2, [111, 110], 0⟩, ⟨1, [101], 3⟩, ⟨5, [40], 4⟩, ⟨5, [41], 5⟩, ⟨5, [123], 7⟩, ⟨2, [100, 111], 9⟩]
section
variable (p q r : Int)
abbrev tkZ (p q r : Int) : List PTok := [⟨5, [59], p⟩, ⟨5, [125], q⟩, ⟨0, [], r⟩]
theorem z_post (n : Nat) (e : PEx) : postL (n + 1) e ⟨tkZ p q r, 1, false⟩ = .ok (e, ⟨tkZ p q r, 1, false⟩) := rfl
theorem z_left (lv : Int) (hl : lv = 5 ∨ lv = 4 ∨ lv = 2 ∨ lv = 1) (part : Pr PEx) (n : Nat) (e : PEx) : leftL lv part (n + 1) e ⟨tkZ p q r, 1, false⟩ = .ok (e, ⟨tkZ p q r, 1, false⟩) := by
  rcases hl with rfl | rfl | rfl | rfl <;> rfl
theorem z_leftward (lv : Int) (hl : lv = 5 ∨ lv = 4 ∨ lv = 2 ∨ lv = 1) (part : Pr PEx) (n : Nat) (e : PEx) (s : PS) (h : part s = .ok (e, ⟨tkZ p q r, 1, false⟩)) : leftward (n + 1) lv part s = .ok (e, ⟨tkZ p q r, 1, false⟩) := (bd_ok h).trans (z_left p q r lv hl part n e)
theorem z_expr (n : Nat) (e : PEx) (s : PS) (h19 : isS [110, 111, 116] s = false) (h : facP (n + 1) (lay (n + 1)) s = .ok (e, ⟨tkZ p q r, 1, false⟩)) : expr (n + 2) s = .ok (e, ⟨tkZ p q r, 1, false⟩) := by
  have h1 := z_leftward p q r 5 (by decide) (facP (n + 1) (lay (n + 1))) n e s h
  have h2 := z_leftward p q r 4 (by decide) (prodP (n + 1) (lay (n + 1))) n e s h1
  have h3 : testP (n + 1) (lay (n + 1)) s = .ok (e, ⟨tkZ p q r, 1, false⟩) := (bd_ok h2).trans rfl
  have h4 : negP (n + 1) (lay (n + 1)) s = .ok (e, ⟨tkZ p q r, 1, false⟩) := by
    show (if isS [110, 111, 116] s = true then _ else _) = _
    rw [h19]
    exact h3
  have h5 := z_leftward p q r 2 (by decide) (negP (n + 1) (lay (n + 1))) n e s h4
  exact z_leftward p q r 1 (by decide) (conjP (n + 1) (lay (n + 1))) n e s h5
theorem f_expr (n : Nat) (f : Flt) (s : PS) (h19 : isS [110, 111, 116] s = false) (h : facP (n + 1) (lay (n + 1)) s = .error f) : expr (n + 2) s = .error f := by
  have h1 : prodP (n + 1) (lay (n + 1)) s = .error f := bd_err h
  have h2 : sumP (n + 1) (lay (n + 1)) s = .error f := bd_err h1
  have h3 : testP (n + 1) (lay (n + 1)) s = .error f := bd_err h2
  have h4 : negP (n + 1) (lay (n + 1)) s = .error f := by
    show (if isS [110, 111, 116] s = true then _ else _) = _
    rw [h19]
    exact h3
  have h5 : conjP (n + 1) (lay (n + 1)) s = .error f := bd_err h4
  exact bd_err h5
theorem pos_fac (txt : Bsq) (n : Nat) (m : Int) (h : number false ⟨⟨3, txt, 12⟩ :: tkZ p q r, 1, false⟩ = .ok (m, ⟨tkZ p q r, 1, false⟩)) : facP (n + 1) (lay (n + 1)) ⟨⟨3, txt, 12⟩ :: tkZ p q r, 1, false⟩ = .ok (⟨1, 0, m, [], [], [], [], 12⟩, ⟨tkZ p q r, 1, false⟩) := by
  have h1 : anyPrim (n + 1) (lay (n + 1)).expr ⟨⟨3, txt, 12⟩ :: tkZ p q r, 1, false⟩ = .ok (⟨1, 0, m, [], [], [], [], 0⟩, ⟨tkZ p q r, 1, false⟩) := Eq.trans (b := bd (number false) (fun m => ret (⟨1, 0, m, [], [], [], [], 0⟩ : PEx)) ⟨⟨3, txt, 12⟩ :: tkZ p q r, 1, false⟩) (rfl) (bd_ok h)
  have h2 : prim (n + 1) (lay (n + 1)).expr ⟨⟨3, txt, 12⟩ :: tkZ p q r, 1, false⟩ = .ok (⟨1, 0, m, [], [], [], [], 12⟩, ⟨tkZ p q r, 1, false⟩) := Eq.trans (b := bd (anyPrim (n + 1) (lay (n + 1)).expr) (fun x => ret (x.setAt 12)) ⟨⟨3, txt, 12⟩ :: tkZ p q r, 1, false⟩) (rfl) (bd_ok h1)
  exact Eq.trans (b := bd (prim (n + 1) (lay (n + 1)).expr) (fun x => postL (n + 1) x) ⟨⟨3, txt, 12⟩ :: tkZ p q r, 1, false⟩) (rfl) ((bd_ok h2).trans (z_post p q r n _))
theorem pos_fac_no (txt : Bsq) (n : Nat) (f : Flt) (h : number false ⟨⟨3, txt, 12⟩ :: tkZ p q r, 1, false⟩ = .error f) : facP (n + 1) (lay (n + 1)) ⟨⟨3, txt, 12⟩ :: tkZ p q r, 1, false⟩ = .error f := by
  have h1 : anyPrim (n + 1) (lay (n + 1)).expr ⟨⟨3, txt, 12⟩ :: tkZ p q r, 1, false⟩ = .error f := Eq.trans (b := bd (number false) (fun m => ret (⟨1, 0, m, [], [], [], [], 0⟩ : PEx)) ⟨⟨3, txt, 12⟩ :: tkZ p q r, 1, false⟩) (rfl) (bd_err h)
  have h2 : prim (n + 1) (lay (n + 1)).expr ⟨⟨3, txt, 12⟩ :: tkZ p q r, 1, false⟩ = .error f := Eq.trans (b := bd (anyPrim (n + 1) (lay (n + 1)).expr) (fun x => ret (x.setAt 12)) ⟨⟨3, txt, 12⟩ :: tkZ p q r, 1, false⟩) (rfl) (bd_err h1)
  exact Eq.trans (b := bd (prim (n + 1) (lay (n + 1)).expr) (fun x => postL (n + 1) x) ⟨⟨3, txt, 12⟩ :: tkZ p q r, 1, false⟩) (rfl) (bd_err h2)
theorem neg_fac (txt : Bsq) (n : Nat) (m : Int) (h : number true ⟨⟨3, txt, 14⟩ :: tkZ p q r, 1, false⟩ = .ok (m, ⟨tkZ p q r, 1, false⟩)) : facP (n + 1) (lay (n + 1)) ⟨⟨5, [45], 12⟩ :: ⟨3, txt, 14⟩ :: tkZ p q r, 1, false⟩ = .ok (⟨1, 0, m, [], [], [], [], 12⟩, ⟨tkZ p q r, 1, false⟩) :=
  Eq.trans (b := bd (number true) (fun m => ret (⟨1, 0, m, [], [], [], [], 12⟩ : PEx)) ⟨⟨3, txt, 14⟩ :: tkZ p q r, 1, false⟩) (rfl) (bd_ok h)
def stN (m : Int) : PSt := ⟨13, [], [], [], [pkE ⟨1, 0, m, [], [], [], [], 12⟩], [], [], 9⟩
theorem src_ok (X : List PTok) (m : Int) (h : expr 4999 ⟨X ++ tkZ p q r, 1, false⟩ = .ok (⟨1, 0, m, [], [], [], [], 12⟩, ⟨tkZ p q r, 1, false⟩)) : source 5000 (tkA ++ (X ++ tkZ p q r)) = .ok ⟨[], [], [], [⟨[101], [], [], [], [], [pkS (stN m)], 0⟩]⟩ := by
  generalize hR : X ++ tkZ p q r = R at h ⊢
  have h1 : simpleP 4999 (expr 4999) ⟨⟨2, [100, 111], 9⟩ :: R, 1, false⟩ = .ok (⟨13, [], [], [], [pkE ⟨1, 0, m, [], [], [], [], 12⟩], [], [], 0⟩, ⟨tkZ p q r, 1, false⟩) :=
    Eq.trans (b := bd (one (expr 4999)) (fun xs => ret (⟨13, [], [], [], xs.map pkE, [], [], 0⟩ : PSt)) ⟨R, 1, false⟩) (c_simple _ _ _) ((bd_ok ((bd_ok h).trans rfl)).trans rfl)
  have h2 : anySt 4999 (expr 4999) (stmt 4999) ⟨⟨2, [100, 111], 9⟩ :: R, 1, false⟩ = .ok (⟨13, [], [], [], [pkE ⟨1, 0, m, [], [], [], [], 12⟩], [], [], 0⟩, ⟨[⟨5, [125], q⟩, ⟨0, [], r⟩], 1, false⟩) := (c_any _ _ _ _).trans ((bd_ok h1).trans rfl)
  have h3 : stmt 5000 ⟨⟨2, [100, 111], 9⟩ :: R, 1, false⟩ = .ok (stN m, ⟨[⟨5, [125], q⟩, ⟨0, [], r⟩], 1, false⟩) := (bd_ok h2).trans rfl
  have h4 : blockL (stmt 5000) 5000 [] ⟨⟨2, [100, 111], 9⟩ :: R, 1, false⟩ = .ok ([stN m], ⟨[⟨5, [125], q⟩, ⟨0, [], r⟩], 1, false⟩) := (c_block _ 4999 _).trans ((bd_ok h3).trans (c_blend _ 4998 _ _ _))
  have h5 : blockP 5000 (stmt 5000) ⟨⟨5, [123], 7⟩ :: ⟨2, [100, 111], 9⟩ :: R, 0, false⟩ = .ok ([stN m], ⟨[⟨0, [], r⟩], 0, false⟩) := (c_betw _ _).trans ((bd_ok h4).trans (by kernel_rfl))
  have h6 : handlerP 5000 ⟨⟨1, [101], 3⟩ :: ⟨5, [40], 4⟩ :: ⟨5, [41], 5⟩ :: ⟨5, [123], 7⟩ :: ⟨2, [100, 111], 9⟩ :: R, 0, false⟩ = .ok (⟨[101], [], [], [], [], [pkS (stN m)], 0⟩, ⟨[⟨0, [], r⟩], 0, false⟩) := (c_hand 5000 _).trans ((bd_ok h5).trans rfl)
  have h7 : declare [] (handlerP 5000) ⟨⟨2, [111, 110], 0⟩ :: ⟨1, [101], 3⟩ :: ⟨5, [40], 4⟩ :: ⟨5, [41], 5⟩ :: ⟨5, [123], 7⟩ :: ⟨2, [100, 111], 9⟩ :: R, 0, false⟩ = .ok ([⟨[101], [], [], [], [], [pkS (stN m)], 0⟩], ⟨[⟨0, [], r⟩], 0, false⟩) := (c_decl _ _).trans ((bd_ok h6).trans rfl)
  have h8 : sourceL 5000 5000 ⟨[], [], [], []⟩ ⟨⟨2, [111, 110], 0⟩ :: ⟨1, [101], 3⟩ :: ⟨5, [40], 4⟩ :: ⟨5, [41], 5⟩ :: ⟨5, [123], 7⟩ :: ⟨2, [100, 111], 9⟩ :: R, 0, false⟩ = .ok (⟨[], [], [], [⟨[101], [], [], [], [], [pkS (stN m)], 0⟩]⟩, ⟨[⟨0, [], r⟩], 0, false⟩) := (c_src 5000 4999 _).trans ((bd_ok h7).trans (c_end 5000 4998 _ _))
  show (match sourceL 5000 5000 ⟨[], [], [], []⟩ ⟨⟨2, [111, 110], 0⟩ :: ⟨1, [101], 3⟩ :: ⟨5, [40], 4⟩ :: ⟨5, [41], 5⟩ :: ⟨5, [123], 7⟩ :: ⟨2, [100, 111], 9⟩ :: R, 0, false⟩ with | .error e => Except.error e | .ok (t, _) => Except.ok t) = _
  rw [h8]
theorem src_no (R : List PTok) (f : Flt) (h : expr 4999 ⟨R, 1, false⟩ = .error f) : source 5000 (tkA ++ R) = .error f := by
  have h1 : simpleP 4999 (expr 4999) ⟨⟨2, [100, 111], 9⟩ :: R, 1, false⟩ = .error f :=
    Eq.trans (b := bd (one (expr 4999)) (fun xs => ret (⟨13, [], [], [], xs.map pkE, [], [], 0⟩ : PSt)) ⟨R, 1, false⟩) (c_simple _ _ _) (bd_err (bd_err h))
  have h2 : anySt 4999 (expr 4999) (stmt 4999) ⟨⟨2, [100, 111], 9⟩ :: R, 1, false⟩ = .error f := (c_any _ _ _ _).trans (bd_err h1)
  have h3 : stmt 5000 ⟨⟨2, [100, 111], 9⟩ :: R, 1, false⟩ = .error f := bd_err h2
  have h4 : blockL (stmt 5000) 5000 [] ⟨⟨2, [100, 111], 9⟩ :: R, 1, false⟩ = .error f := (c_block _ 4999 _).trans (bd_err h3)
  have h5 : blockP 5000 (stmt 5000) ⟨⟨5, [123], 7⟩ :: ⟨2, [100, 111], 9⟩ :: R, 0, false⟩ = .error f := (c_betw _ _).trans (bd_err h4)
  have h6 : handlerP 5000 ⟨⟨1, [101], 3⟩ :: ⟨5, [40], 4⟩ :: ⟨5, [41], 5⟩ :: ⟨5, [123], 7⟩ :: ⟨2, [100, 111], 9⟩ :: R, 0, false⟩ = .error f := (c_hand 5000 _).trans (bd_err h5)
  have h7 : declare [] (handlerP 5000) ⟨⟨2, [111, 110], 0⟩ :: ⟨1, [101], 3⟩ :: ⟨5, [40], 4⟩ :: ⟨5, [41], 5⟩ :: ⟨5, [123], 7⟩ :: ⟨2, [100, 111], 9⟩ :: R, 0, false⟩ = .error f := (c_decl _ _).trans (bd_err h6)
  have h8 : sourceL 5000 5000 ⟨[], [], [], []⟩ ⟨⟨2, [111, 110], 0⟩ :: ⟨1, [101], 3⟩ :: ⟨5, [40], 4⟩ :: ⟨5, [41], 5⟩ :: ⟨5, [123], 7⟩ :: ⟨2, [100, 111], 9⟩ :: R, 0, false⟩ = .error f := (c_src 5000 4999 _).trans (bd_err h7)
  show (match sourceL 5000 5000 ⟨[], [], [], []⟩ ⟨⟨2, [111, 110], 0⟩ :: ⟨1, [101], 3⟩ :: ⟨5, [40], 4⟩ :: ⟨5, [41], 5⟩ :: ⟨5, [123], 7⟩ :: ⟨2, [100, 111], 9⟩ :: R, 0, false⟩ with | .error e => Except.error e | .ok (t, _) => Except.ok t) = _
  rw [h8]
end
end Go.Proofs.YtkhjacflmggelaaGreatDoor

namespace Go.Proofs.YtkhjacflmggelaaGreatDoor
open Go Go.RowKit Go.Deep Go.Shelf
set_option linter.unusedVariables false
set_option linter.unusedSimpArgs false
set_option maxRecDepth 100000
theorem fdig_app (l m : Bsq) (acc : Nat) : fdig acc (l ++ m) = fdig (fdig acc l) m := List.foldl_append ..
theorem dig_drop : ∀ (l r : Bsq), fdig 0 (l.dropWhile (· == 48) ++ r) = fdig 0 (l ++ r)
  | [], r => rfl
  | c :: t, r => by
    by_cases h : c = 48
    · subst h
      show fdig 0 (t.dropWhile (· == 48) ++ r) = fdig (0 * 10 + (48 - 48)) (t ++ r)
      exact dig_drop t r
    · have e : (c :: t).dropWhile (· == 48) = c :: t := by
        unfold List.dropWhile
        rw [show (c == 48) = false from beq_eq_false_iff_ne.2 h]
      rw [e]
theorem dig_tok (D : Bsq) : digN (Lx.tokText 3 D) = digN D := by
  unfold Lx.tokText
  rw [if_pos rfl]
  show fdig 0 _ = fdig 0 D
  rw [dig_drop, List.take_append_drop]
theorem dig_zero (k : Nat) (D : Bsq) : digN (List.replicate k 48 ++ D) = digN D := by
  show fdig 0 _ = fdig 0 D
  induction k with
  | zero => rfl
  | succ k ih =>
    show fdig (0 * 10 + (48 - 48)) (List.replicate k 48 ++ D) = _
    exact ih
theorem dig_dec : ∀ (u : Nat), digN (Lib.decDigits u) = u ∧ (∀ c ∈ Lib.decDigits u, 48 ≤ c.toNat ∧ c.toNat ≤ 57) ∧ Lib.decDigits u ≠ [] := by
  intro u
  induction u using Nat.strongRecOn with
  | ind u ih =>
    have hd : (UInt8.ofNat (48 + u % 10)).toNat = 48 + u % 10 := by
      have : u % 10 < 10 := Nat.mod_lt _ (by decide)
      rw [UInt8.toNat_ofNat']
      omega
    by_cases h : u / 10 = 0
    · have e := Vx.dec_last u [] h
      rw [List.append_nil] at e
      rw [← e]
      refine ⟨?_, ?_, by simp⟩
      · show 0 * 10 + ((UInt8.ofNat (48 + u % 10)).toNat - 48) = u
        rw [hd]; omega
      · intro c hc
        have : c = UInt8.ofNat (48 + u % 10) := by simpa using hc
        rw [this, hd]; omega
    · have e := Vx.dec_step u [] h
      rw [List.append_nil] at e
      obtain ⟨i1, i2, i3⟩ := ih (u / 10) (by omega)
      rw [← e]
      refine ⟨?_, ?_, by simp⟩
      · show fdig 0 _ = u
        rw [fdig_app]
        show fdig 0 (Lib.decDigits (u / 10)) * 10 + ((UInt8.ofNat (48 + u % 10)).toNat - 48) = u
        rw [show fdig 0 (Lib.decDigits (u / 10)) = u / 10 from i1, hd]; omega
      · intro c hc
        rcases List.mem_append.1 hc with hc | hc
        · exact i2 c hc
        · have : c = UInt8.ofNat (48 + u % 10) := by simpa using hc
          rw [this, hd]; omega
theorem fdig_ge_pow : ∀ (l : Bsq) (acc : Nat), acc * 10 ^ l.length ≤ fdig acc l
  | [], acc => by simp [fdig]
  | c :: t, acc => by
    have h := fdig_ge_pow t (acc * 10 + (c.toNat - 48))
    show acc * 10 ^ (t.length + 1) ≤ fdig (acc * 10 + (c.toNat - 48)) t
    refine Nat.le_trans ?_ h
    rw [Nat.pow_succ, Nat.mul_comm (10 ^ t.length) 10, ← Nat.mul_assoc]
    exact Nat.mul_le_mul_right _ (by omega)
theorem dig_great (E : Bsq) (h1 : 20 ≤ E.length) (h : ∀ c ∈ E, 49 ≤ c.toNat) : digN E > 9223372036854775807 := by
  cases E with
  | nil => simp at h1
  | cons c t =>
    have hc := h c (List.mem_cons_self ..)
    have h2 := fdig_ge_pow t (0 * 10 + (c.toNat - 48))
    have h3 : 10 ^ 19 ≤ 10 ^ t.length := Nat.pow_le_pow_right (by decide) (by simp at h1; omega)
    have h4 : 1 * 10 ^ t.length ≤ (0 * 10 + (c.toNat - 48)) * 10 ^ t.length := Nat.mul_le_mul_right _ (by omega)
    show fdig (0 * 10 + (c.toNat - 48)) t > _
    have h5 : (10 : Nat) ^ 19 = 10000000000000000000 := by decide
    omega
def preD : Bsq := [111, 110, 32, 101, 40, 41, 32, 123, 32, 100, 111, 32]
def endD : Bsq := [59, 32, 125]
theorem isDg_of {c : UInt8} (h : 48 ≤ c.toNat ∧ c.toNat ≤ 57) : Lx.isDg c = true := by
  unfold Lx.isDg; simp [h.1, h.2]
theorem lex_pos (D : Bsq) (hD : D ≠ []) (hd : ∀ c ∈ D, 48 ≤ c.toNat ∧ c.toNat ≤ 57) (hl : D.length ≤ 200) : ∃ p q r : Int, parseT (preD ++ (D ++ endD)) = source 5000 (tkA ++ (⟨3, Lx.tokText 3 D, 12⟩ :: tkZ p q r)) := by
  refine ⟨((12 + D.length : Nat) : Int), ((12 + D.length + 2 : Nat) : Int), ((12 + D.length + 3 : Nat) : Int), ?_⟩
  have h : Lx.lexT (preD ++ (D ++ endD)) = .ok [⟨2, [111, 110], 0⟩, ⟨1, [101], 3⟩, ⟨5, [40], 4⟩, ⟨5, [41], 5⟩, ⟨5, [123], 7⟩, ⟨2, [100, 111], 9⟩, ⟨3, Lx.tokText 3 D, 12⟩, ⟨5, [59], 12 + D.length⟩, ⟨5, [125], 12 + D.length + 2⟩, ⟨0, [], 12 + D.length + 3⟩] := by
    unfold Lx.lexT
    rw [if_neg (by simp [preD, endD]; omega)]
    refine (lex_pre (D ++ endD)).trans ?_
    rw [lex_dig D endD 12 hD (fun c hc => isDg_of (hd c hc)) rfl, show Lx.lexG 0 (12 + D.length) endD = _ from lex_end (12 + D.length)]
    rfl
  unfold parseT
  rw [h]
  rfl
theorem lex_neg (D : Bsq) (hD : D ≠ []) (hd : ∀ c ∈ D, 48 ≤ c.toNat ∧ c.toNat ≤ 57) (hl : D.length ≤ 200) : ∃ p q r : Int, parseT (preD ++ ((45 :: 32 :: D) ++ endD)) = source 5000 (tkA ++ (⟨5, [45], 12⟩ :: ⟨3, Lx.tokText 3 D, 14⟩ :: tkZ p q r)) := by
  refine ⟨((14 + D.length : Nat) : Int), ((14 + D.length + 2 : Nat) : Int), ((14 + D.length + 3 : Nat) : Int), ?_⟩
  have h : Lx.lexT (preD ++ ((45 :: 32 :: D) ++ endD)) = .ok [⟨2, [111, 110], 0⟩, ⟨1, [101], 3⟩, ⟨5, [40], 4⟩, ⟨5, [41], 5⟩, ⟨5, [123], 7⟩, ⟨2, [100, 111], 9⟩, ⟨5, [45], 12⟩, ⟨3, Lx.tokText 3 D, 14⟩, ⟨5, [59], 14 + D.length⟩, ⟨5, [125], 14 + D.length + 2⟩, ⟨0, [], 14 + D.length + 3⟩] := by
    unfold Lx.lexT
    rw [if_neg (by simp [preD, endD]; omega)]
    refine (lex_pre ((45 :: 32 :: D) ++ endD)).trans ?_
    rw [show (45 :: 32 :: D) ++ endD = 45 :: 32 :: (D ++ endD) from rfl, lex_minus, lex_dig D endD 14 hD (fun c hc => isDg_of (hd c hc)) rfl, show Lx.lexG 0 (14 + D.length) endD = _ from lex_end (14 + D.length)]
    rfl
  unfold parseT
  rw [h]
  rfl
theorem num_ok (txt : Bsq) (at' p q r : Int) (neg : Bool) (h : ¬ (if neg = true then digN txt > 9223372036854775808 else digN txt > 9223372036854775807)) : number neg ⟨⟨3, txt, at'⟩ :: tkZ p q r, 1, false⟩ = .ok (if neg = true then -(digN txt : Int) else (digN txt : Int), ⟨tkZ p q r, 1, false⟩) := by
  unfold number
  rw [show (nxt ⟨⟨3, txt, at'⟩ :: tkZ p q r, 1, false⟩).text = txt from rfl]
  simp only []
  rw [if_neg h]
  rfl
theorem parse_pos (D : Bsq) (hD : D ≠ []) (hd : ∀ c ∈ D, 48 ≤ c.toNat ∧ c.toNat ≤ 57) (hl : D.length ≤ 200) (h : ¬ digN D > 9223372036854775807) : parseT (preD ++ (D ++ endD)) = .ok ⟨[], [], [], [⟨[101], [], [], [], [], [pkS (stN (digN D))], 0⟩]⟩ := by
  obtain ⟨p, q, r, e⟩ := lex_pos D hD hd hl
  rw [e]
  have hn := num_ok (Lx.tokText 3 D) 12 p q r false (by rw [dig_tok]; simpa using h)
  rw [dig_tok] at hn
  exact src_ok p q r [⟨3, Lx.tokText 3 D, 12⟩] (digN D) (z_expr p q r 4997 _ _ rfl (pos_fac p q r (Lx.tokText 3 D) 4997 (digN D) hn))
theorem parse_neg (D : Bsq) (hD : D ≠ []) (hd : ∀ c ∈ D, 48 ≤ c.toNat ∧ c.toNat ≤ 57) (hl : D.length ≤ 200) (h : ¬ digN D > 9223372036854775808) : parseT (preD ++ ((45 :: 32 :: D) ++ endD)) = .ok ⟨[], [], [], [⟨[101], [], [], [], [], [pkS (stN (-(digN D : Int)))], 0⟩]⟩ := by
  obtain ⟨p, q, r, e⟩ := lex_neg D hD hd hl
  rw [e]
  have hn := num_ok (Lx.tokText 3 D) 14 p q r true (by rw [dig_tok]; simpa using h)
  rw [dig_tok] at hn
  exact src_ok p q r [⟨5, [45], 12⟩, ⟨3, Lx.tokText 3 D, 14⟩] (-(digN D : Int)) (z_expr p q r 4997 _ _ rfl (neg_fac p q r (Lx.tokText 3 D) 4997 (-(digN D : Int)) hn))
theorem parse_great (D : Bsq) (hD : D ≠ []) (hd : ∀ c ∈ D, 48 ≤ c.toNat ∧ c.toNat ≤ 57) (hl : D.length ≤ 200) (h : digN D > 9223372036854775807) : parseT (preD ++ (D ++ endD)) = .error (12, 73) := by
  obtain ⟨p, q, r, e⟩ := lex_pos D hD hd hl
  rw [e]
  have hn : number false ⟨⟨3, Lx.tokText 3 D, 12⟩ :: tkZ p q r, 1, false⟩ = .error (12, 73) := by
    unfold number
    rw [show (nxt ⟨⟨3, Lx.tokText 3 D, 12⟩ :: tkZ p q r, 1, false⟩).text = Lx.tokText 3 D from rfl]
    simp only []
    rw [if_pos (by rw [dig_tok]; simpa using h)]
    rfl
  exact src_no (⟨3, Lx.tokText 3 D, 12⟩ :: tkZ p q r) (12, 73) (f_expr 4997 _ _ rfl (pos_fac_no p q r (Lx.tokText 3 D) 4997 (12, 73) hn))
end Go.Proofs.YtkhjacflmggelaaGreatDoor

namespace Go.Proofs.YtkhjacflmggelaaGreatDoor
open Go Go.RowKit Go.Deep Go.Shelf
set_option linter.unusedVariables false
set_option linter.unusedSimpArgs false
set_option maxRecDepth 100000
theorem bs_size (l : Bsq) : ((bs l).size : Int) = (l.length : Int) := by
  show ((l.toArray.size : Nat) : Int) = _
  rw [List.size_toArray]
end Go.Proofs.YtkhjacflmggelaaGreatDoor

