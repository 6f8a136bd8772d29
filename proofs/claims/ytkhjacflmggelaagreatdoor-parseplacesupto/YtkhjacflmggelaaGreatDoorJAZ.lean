/- Digits of a number, as the document's. -/
import Derived.Test.YtkhjacflmggelaaGreatDoorJAY
import Derived.Lib.ItoaLen
import Derived.Lib.ConvBytes
import Derived.Laws.BytesArg
import Derived.Laws.Bits64b
import Derived.Laws.BitsLemmas
namespace Go.Proofs.YtkhjacflmggelaaGreatDoor.Vx
open Go.RowKit Go.Deep Go.Shelf
set_option linter.unusedVariables false
set_option linter.unusedSimpArgs false
set_option maxRecDepth 100000
theorem dig_toNat (d : Nat) (h : d < 10) : (UInt8.ofNat (48 + d)).toNat = 48 + d := by
  rw [UInt8.toNat_ofNat']; omega
def itoB (n : Int) : ByteArray := ⟨(Lib.itoa n).toArray⟩
def bv (xs : List Nat) : List Value := xs.map fun (x : Nat) => Value.int .u8 (x : Int)
def Row (w : World) (B : Nat) (v : Value) (xs : List Nat) : Prop := w.ownsRow B 5 1 v xs.length (bv xs)

theorem Row.alloc {w : World} {B v xs} (h : Row w B v xs) (o : Obj) : Row (w.alloc o) B v xs := World.ownsRow.alloc h o


abbrev Bs := List UInt8
def ofB (l : Bs) : ByteArray := ⟨l.toArray⟩
theorem ofB_list (l : Bs) : (ofB l).data.toList = l := rfl
theorem ofB_size (l : Bs) : (ofB l).size = l.length := rfl
theorem list_ofB (s : ByteArray) : ofB s.data.toList = s := by cases s; simp [ofB]
theorem eq_ofB {s : ByteArray} {l : Bs} (h : s.data.toList = l) : s = ofB l := by rw [← h, list_ofB]
theorem cat_any (a b : ByteArray) (h : a.size + b.size ≤ 140737488355328) : ∃ q : ByteArray, (∀ w : World, (Op.stringOp .add a b).run Tryz.prog w = .ok (.string q) w) ∧ q.data.toList = a.data.toList ++ b.data.toList ∧ q.size = a.size + b.size :=
  ⟨a ++ b, fun w => run_string_add_sum w _ _ (by omega), by simp, ByteArray.size_append⟩
/- What a slice of bytes reads. -/
def BRd (w : World) (a : Option Addr) (bs : Bs) : Prop := ∀ (j : Nat) (c : UInt8), bs[j]? = some c → ∃ b off, a = some ⟨b, off, none⟩ ∧ w.cell? ⟨b, off + j, none⟩ = some (.int .u8 (c.toNat : Int))
theorem BRd.conv {w : World} {a : Option Addr} {bs : Bs} (h : BRd w a bs) (cap : Nat) : (convert 33 9 (.slice a bs.length cap)).run Tryz.prog w = .ok (.string (ofB bs)) w := by
  cases bs with
  | nil =>
    rw [run_convert_bytes_string w 33 9 5 _ _ _ Tryz.underlying33 Tryz.underlying5 Tryz.underlying9]
    cases a with
    | none => rfl
    | some a =>
      have hl := run_loadCells_list (P := Tryz.prog) w a [] (fun j v hj => by simp at hj)
      have := run_bytesToString w a 0 cap [] (by simpa using hl) (P := Tryz.prog)
      rw [show ofB [] = ByteArray.empty from rfl]
      simpa using this
  | cons c t =>
    obtain ⟨b, off, rfl, _⟩ := h 0 c rfl
    have := run_convert_bytes_arg (P := Tryz.prog) w 33 5 Tryz.underlying33 Tryz.underlying5 b off (c :: t).length cap ((c :: t).map fun x : UInt8 => (x.toNat : Int)) (by simp) (fun i hi => by
      obtain ⟨b', off', e, hc⟩ := h i (c :: t)[i] (List.getElem?_eq_getElem hi)
      cases e
      rw [hc, List.getD_eq_getElem?_getD, List.getElem?_map, List.getElem?_eq_getElem hi]; rfl) 9 Tryz.underlying9
    rw [this]
    refine congrArg (fun x => Result.ok (Value.string x) w) ?_
    simp only [strOfNums, ofB, List.map_map]
    rw [List.map_congr_left (g := id) (fun x _ => by simp), List.map_id]
def bvv (bs : Bs) : List Value := bs.map fun c : UInt8 => Value.int .u8 (c.toNat : Int)
def BRow (w : World) (B : Nat) (v : Value) (bs : Bs) : Prop := w.ownsRow B 5 1 v bs.length (bvv bs)
theorem BRow.form {w B v xs} (h : BRow w B v xs) : ∃ a cap, v = .slice a xs.length cap ∧ xs.length ≤ cap := by
  rcases h.2 with ⟨rfl, hn⟩ | ⟨g, cap, cur, rfl, hb, hgg, hc, rest⟩
  · exact ⟨none, 0, by rw [hn], by omega⟩
  · exact ⟨_, _, rfl, hc⟩
theorem BRow.rd {w : World} {B a n cap bs} (h : BRow w B (.slice a n cap) bs) : BRd w a bs := by
  intro j c hc
  rcases h.2 with ⟨e, hn⟩ | ⟨g, cap', cur, e, hb, hgg, hcc, hm, hs', ht⟩
  · have : bs = [] := List.eq_nil_of_length_eq_zero hn
    subst this; simp at hc
  · cases e
    refine ⟨g, 0, rfl, ?_⟩
    have := World.ownsRow.cells h (g := g) rfl j (.int .u8 (c.toNat : Int)) (by simp [bvv, hc])
    rw [Addr.add_lit] at this
    exact this
theorem BRow.conv {w : World} {B v bs} (h : BRow w B v bs) : (convert 33 9 v).run Tryz.prog w = .ok (.string (ofB bs)) w := by
  obtain ⟨a, cap, rfl, _⟩ := h.form
  exact h.rd.conv cap
theorem BRow.lit {w : World} {b B : Nat} {c : UInt8} (h : w.heap[b]? = some (.cells #[.int .u8 (c.toNat : Int)] 5 (0, 0))) (hB : B ≤ b) : BRow w B (.slice (some ⟨b, 0, none⟩) 1 1) [c] :=
  ⟨by simp [bvv], .inr ⟨b, 1, _, rfl, hB, h, by simp, by unfold maxLen; omega, by simp, by simp [bvv]⟩⟩
theorem dec_step (u : Nat) (acc : Bs) (h : ¬ u / 10 = 0) : Lib.decDigits (u / 10) ++ (UInt8.ofNat (48 + u % 10) :: acc) = Lib.decDigits u ++ acc := by
  have : ¬ u < 10 := by omega
  conv => rhs; rw [Lib.decDigits]
  rw [dif_neg this]
  simp
theorem dec_last (u : Nat) (acc : Bs) (h : u / 10 = 0) : UInt8.ofNat (48 + u % 10) :: acc = Lib.decDigits u ++ acc := by
  have : u < 10 := by omega
  conv => rhs; rw [Lib.decDigits]
  rw [dif_pos this, Nat.mod_eq_of_lt this]
  rfl
theorem abs_nat {n : Int} (h : ¬ n < 0) : n.natAbs = n.toNat := by
  have h6 := Int.toNat_of_nonneg (show 0 ≤ n by omega)
  have h7 := Int.natAbs_of_nonneg (show 0 ≤ n by omega)
  omega
theorem dig_toNat2 (u : Nat) : (UInt8.ofNat (48 + u % 10)).toNat = 48 + u % 10 := dig_toNat _ (by omega)
set_option maxHeartbeats 1000000 in
theorem refDigits (n : Int) (h0 : -9223372036854775808 ≤ n) (h1 : n ≤ 9223372036854775807) (w : World) : Calls Tryz.prog 15 #[.int .i64 n] w fun e w' => e = .returned (.string (itoB n)) ∧ Below w.heap.size w w' := by
  obtain ⟨U, hU⟩ : ∃ U : Nat, U = n.natAbs := ⟨_, rfl⟩
  have hUb : U ≤ 9223372036854775808 := by omega
  have HDL : Hid ((Lib.decDigits U).length ≤ 30) := hid (by
    have h5 := Lib.itoa_length_le n h0 h1
    unfold Lib.itoa at h5
    split at h5
    · rw [hU]; simp at h5; omega
    · rename_i hnn; rw [hU, abs_nat hnn]; omega)
  by_cases hneg : n < 0
  · have hu1 : IntKind.u64.wrap n = 18446744073709551616 - (U : Int) := by rw [IntKind.wrap_u64]; omega
    have hu2 : IntKind.u64.wrap (-(18446744073709551616 - (U : Int))) = (U : Int) := by rw [IntKind.wrap_u64]; omega
    have HU := hid hU
    have Hneg := hid hneg
    clear hU
    go_enter Tryz.func15, Tryz.ntmps15
    go_wp2
    go_loopg [3, 4] (U + 1) (fun g uu ss wr => ∃ (V : Nat) (acc : Bs), uu = .int .u64 (V : Int) ∧ ss = .string (ofB acc) ∧ V ≤ g ∧ V ≤ U ∧ Lib.decDigits V ++ acc = Lib.decDigits U ∧ Below w.heap.size w wr)
    case atStart => exact ⟨U, [], rfl, rfl, by omega, by omega, by simp, Below.refl _ _⟩
    case round =>
      obtain ⟨V, acc, rfl, rfl, hV, hVU, hD, hbr⟩ := hrel
      have hal : acc.length ≤ 30 := by have h5 := congrArg List.length hD; rw [List.length_append] at h5; have := HDL.out; omega
      obtain ⟨d, hd⟩ : ∃ d, d = UInt8.ofNat (48 + V % 10) := ⟨_, rfl⟩
      have hdn : (d.toNat : Int) = 48 + (V : Int) % 10 := by rw [hd, dig_toNat2]; omega
      have hlit := (BRow.lit (w := wr.alloc (.cells #[.int .u8 (d.toNat : Int)] 5)) (b := wr.heap.size) (B := wr.heap.size) (c := d) (heap_alloc_new wr _) (Nat.le_refl _)).conv
      rw [hdn] at hlit
      obtain ⟨q1, r1, e1, z1⟩ := cat_any (ofB [d]) (ofB acc) (by rw [ofB_size, ofB_size]; simp; omega)
      have hq1 : q1 = ofB (d :: acc) := eq_ofB (by rw [e1, ofB_list, ofB_list]; rfl)
      have Hq := hid hq1
      have HB : Hid (Below w.heap.size w (wr.alloc (.cells #[.int .u8 (48 + (V : Int) % 10)] 5))) := hid (hbr.alloc hbr.size _)
      have HV := hid hV
      have HVU := hid hVU
      have HD := hid hD
      have Hd := hid hd
      obtain ⟨x, hx⟩ : ∃ z, z = ofB [d] := ⟨_, rfl⟩
      obtain ⟨y, hy⟩ : ∃ z, z = ofB acc := ⟨_, rfl⟩
      rw [← hx] at hlit r1
      rw [← hy] at r1 ⊢
      clear hq1 hV hVU hD hd hdn hx hy e1 z1 hal hbr
      have hwq : IntKind.u64.wrap ((V : Int) / 10) = (V : Int) / 10 := by rw [IntKind.wrap_u64]; have := HVU.out; omega
      by_cases hz : V / 10 = 0
      · have hz' : (V : Int) / 10 = 0 := by omega
        have Hz := hid hz
        clear hz
        obtain ⟨q2, r2, e2, z2⟩ := cat_any ⟨#[45]⟩ q1 (by rw [Hq.out, ofB_size]; have h5 := congrArg List.length HD.out; rw [List.length_append] at h5; have := HDL.out; have e5 : (⟨#[45]⟩ : ByteArray).size = 1 := rfl; simp; omega)
        have H2 := hid e2
        clear e2 z2
        go_wp2
        go_ret
        refine ⟨?_, HB.out⟩
        have : q2 = itoB n := by
          unfold itoB
          rw [← list_ofB q2, H2.out, Hq.out, ofB_list, Hd.out, dec_last _ _ Hz.out, HD.out, HU.out]
          unfold Lib.itoa
          rw [if_pos (by have := Hneg.out; omega)]
          rfl
        rw [← this]
        rfl
      · have hz' : ¬ (V : Int) / 10 = 0 := by omega
        have hz2 : (((V : Int) / 10) == 0) = false := by simp; omega
        have Hz := hid hz
        clear hz
        go_wp2
        go_roundg (gk - 1)
        case measure => have := HV.out; have := Hz.out; omega
        case rel => exact ⟨V / 10, d :: acc, rfl, by rw [Hq.out], by have := HV.out; have := Hz.out; omega, by have := HVU.out; omega, by rw [Hd.out, dec_step _ _ Hz.out]; exact HD.out, HB.out⟩
  · have hu1 : IntKind.u64.wrap n = (U : Int) := by rw [IntKind.wrap_u64]; omega
    have HU := hid hU
    have Hneg := hid hneg
    clear hU
    go_enter Tryz.func15, Tryz.ntmps15
    go_wp2
    go_loopg [3, 4] (U + 1) (fun g uu ss wr => ∃ (V : Nat) (acc : Bs), uu = .int .u64 (V : Int) ∧ ss = .string (ofB acc) ∧ V ≤ g ∧ V ≤ U ∧ Lib.decDigits V ++ acc = Lib.decDigits U ∧ Below w.heap.size w wr)
    case atStart => exact ⟨U, [], rfl, rfl, by omega, by omega, by simp, Below.refl _ _⟩
    case round =>
      obtain ⟨V, acc, rfl, rfl, hV, hVU, hD, hbr⟩ := hrel
      have hal : acc.length ≤ 30 := by have h5 := congrArg List.length hD; rw [List.length_append] at h5; have := HDL.out; omega
      obtain ⟨d, hd⟩ : ∃ d, d = UInt8.ofNat (48 + V % 10) := ⟨_, rfl⟩
      have hdn : (d.toNat : Int) = 48 + (V : Int) % 10 := by rw [hd, dig_toNat2]; omega
      have hlit := (BRow.lit (w := wr.alloc (.cells #[.int .u8 (d.toNat : Int)] 5)) (b := wr.heap.size) (B := wr.heap.size) (c := d) (heap_alloc_new wr _) (Nat.le_refl _)).conv
      rw [hdn] at hlit
      obtain ⟨q1, r1, e1, z1⟩ := cat_any (ofB [d]) (ofB acc) (by rw [ofB_size, ofB_size]; simp; omega)
      have hq1 : q1 = ofB (d :: acc) := eq_ofB (by rw [e1, ofB_list, ofB_list]; rfl)
      have Hq := hid hq1
      have HB : Hid (Below w.heap.size w (wr.alloc (.cells #[.int .u8 (48 + (V : Int) % 10)] 5))) := hid (hbr.alloc hbr.size _)
      have HV := hid hV
      have HVU := hid hVU
      have HD := hid hD
      have Hd := hid hd
      obtain ⟨x, hx⟩ : ∃ z, z = ofB [d] := ⟨_, rfl⟩
      obtain ⟨y, hy⟩ : ∃ z, z = ofB acc := ⟨_, rfl⟩
      rw [← hx] at hlit r1
      rw [← hy] at r1 ⊢
      clear hq1 hV hVU hD hd hdn hx hy e1 z1 hal hbr
      have hwq : IntKind.u64.wrap ((V : Int) / 10) = (V : Int) / 10 := by rw [IntKind.wrap_u64]; have := HVU.out; omega
      by_cases hz : V / 10 = 0
      · have hz' : (V : Int) / 10 = 0 := by omega
        have Hz := hid hz
        clear hz
        go_wp2
        go_ret
        refine ⟨?_, HB.out⟩
        have : q1 = itoB n := by
          unfold itoB
          rw [← list_ofB q1, Hq.out, ofB_list, Hd.out, dec_last _ _ Hz.out, HD.out, HU.out]
          unfold Lib.itoa
          rw [if_neg (by have := Hneg.out; omega), abs_nat (by have := Hneg.out; omega)]
          rfl
        rw [← this]
        rfl
      · have hz' : ¬ (V : Int) / 10 = 0 := by omega
        have hz2 : (((V : Int) / 10) == 0) = false := by simp; omega
        have Hz := hid hz
        clear hz
        go_wp2
        go_roundg (gk - 1)
        case measure => have := HV.out; have := Hz.out; omega
        case rel => exact ⟨V / 10, d :: acc, rfl, by rw [Hq.out], by have := HV.out; have := Hz.out; omega, by have := HVU.out; omega, by rw [Hd.out, dec_step _ _ Hz.out]; exact HD.out, HB.out⟩
end Go.Proofs.YtkhjacflmggelaaGreatDoor.Vx

namespace Go.Proofs.YtkhjacflmggelaaGreatDoor
open Go Go.RowKit Go.Deep Go.Shelf
set_option linter.unusedVariables false
set_option maxRecDepth 100000
open Lx in
def cons1 (t : LTok) (r : Except (Nat × Nat) (List LTok)) : Except (Nat × Nat) (List LTok) := match r with
  | .error e => .error e
  | .ok ts => .ok (t :: ts)
/- The tokens around a literal: what is read. X: its tokens; Z: what stands behind. -/
section
variable (p q r : Int)
end
end Go.Proofs.YtkhjacflmggelaaGreatDoor

namespace Go.Proofs.YtkhjacflmggelaaGreatDoor
open Go Go.RowKit Go.Deep Go.Shelf
set_option linter.unusedVariables false
set_option linter.unusedSimpArgs false
set_option maxRecDepth 100000
def blP (g : Nat) : Bsq := match g % 4 with
  | 0 => [32]
  | 1 => [10]
  | 2 => [32, 35, 32, 110, 111, 116, 101, 10]
  | _ => [32, 32, 32]
def dgP (i : Nat) : Bsq := match i with
  | 0 => [48]
  | 1 => [49]
  | 2 => [50]
  | 3 => [51]
  | 4 => [52]
  | 5 => [53]
  | 6 => [54]
  | 7 => [55]
  | 8 => [56]
  | 9 => [57]
  | 10 => [49, 48]
  | 11 => [49, 49]
  | 12 => [49, 50]
  | 13 => [49, 51]
  | 14 => [49, 52]
  | _ => [49, 53]
def hdP (i : Nat) : Bsq := [111, 110, 32, 101] ++ (dgP i ++ [40, 41, 32, 123])
def tlP : Bsq := [98, 114, 101, 97, 107, 59, 32, 125]
def srcP : Nat → List Nat → Bsq
  | _, [] => []
  | i, g :: gs => blP g ++ (hdP i ++ (blP (g / 4) ++ (tlP ++ srcP (i + 1) gs)))
def tkP : Nat → Nat → List Nat → List Lx.LTok
  | _, p, [] => [⟨0, [], p⟩]
  | i, p, g :: gs =>
    let d := p + (blP g).length
    let h := d + (dgP i).length
    let s := d + (hdP i).length + (blP (g / 4)).length
    ⟨2, [111, 110], d⟩ :: ⟨1, 101 :: dgP i, d + 3⟩ :: ⟨5, [40], h + 4⟩ :: ⟨5, [41], h + 5⟩ :: ⟨5, [123], h + 7⟩ :: ⟨2, [98, 114, 101, 97, 107], s⟩ :: ⟨5, [59], s + 5⟩ :: ⟨5, [125], s + 7⟩ :: tkP (i + 1) (s + 8) gs
/- What begins with a blank, or is nothing. -/
def Bgn (X : Bsq) : Prop := X = [] ∨ (∃ Y, X = 32 :: Y) ∨ ∃ Y, X = 10 :: Y
theorem bgn_bl (g : Nat) (X : Bsq) : (∃ Y, blP g ++ X = 32 :: Y) ∨ ∃ Y, blP g ++ X = 10 :: Y := by
  unfold blP
  split
  · exact .inl ⟨_, rfl⟩
  · exact .inr ⟨_, rfl⟩
  · exact .inl ⟨_, rfl⟩
  · exact .inl ⟨_, rfl⟩
theorem bgn_src (i : Nat) : ∀ gs, Bgn (srcP i gs)
  | [] => .inl rfl
  | g :: gs => .inr (bgn_bl g _)
theorem lexb0 (p : Nat) (X : Bsq) : Lx.lexG 0 p ([32] ++ X) = Lx.lexG 0 (p + 1) X := by kernel_rfl
theorem lexb1 (p : Nat) (X : Bsq) : Lx.lexG 0 p ([10] ++ X) = Lx.lexG 0 (p + 1) X := by kernel_rfl
theorem lexb2 (p : Nat) (X : Bsq) : Lx.lexG 0 p ([32, 35, 32, 110, 111, 116, 101, 10] ++ X) = Lx.lexG 0 (p + 8) X := by kernel_rfl
theorem lexb3 (p : Nat) (X : Bsq) : Lx.lexG 0 p ([32, 32, 32] ++ X) = Lx.lexG 0 (p + 3) X := by kernel_rfl
theorem lex_bl (g p : Nat) (X : Bsq) : Lx.lexG 0 p (blP g ++ X) = Lx.lexG 0 (p + (blP g).length) X := by
  unfold blP
  split
  · exact lexb0 p X
  · exact lexb1 p X
  · exact lexb2 p X
  · exact lexb3 p X
theorem lexh0_32 (p : Nat) (Y : Bsq) : Lx.lexG 0 p (hdP 0 ++ (32 :: Y)) = cons1 ⟨2, [111, 110], p⟩ (cons1 ⟨1, 101 :: dgP 0, p + 3⟩ (cons1 ⟨5, [40], p + (dgP 0).length + 4⟩ (cons1 ⟨5, [41], p + (dgP 0).length + 5⟩ (cons1 ⟨5, [123], p + (dgP 0).length + 7⟩ (Lx.lexG 0 (p + (hdP 0).length) (32 :: Y)))))) := by kernel_rfl
theorem lexh0_10 (p : Nat) (Y : Bsq) : Lx.lexG 0 p (hdP 0 ++ (10 :: Y)) = cons1 ⟨2, [111, 110], p⟩ (cons1 ⟨1, 101 :: dgP 0, p + 3⟩ (cons1 ⟨5, [40], p + (dgP 0).length + 4⟩ (cons1 ⟨5, [41], p + (dgP 0).length + 5⟩ (cons1 ⟨5, [123], p + (dgP 0).length + 7⟩ (Lx.lexG 0 (p + (hdP 0).length) (10 :: Y)))))) := by kernel_rfl
theorem lexh1_32 (p : Nat) (Y : Bsq) : Lx.lexG 0 p (hdP 1 ++ (32 :: Y)) = cons1 ⟨2, [111, 110], p⟩ (cons1 ⟨1, 101 :: dgP 1, p + 3⟩ (cons1 ⟨5, [40], p + (dgP 1).length + 4⟩ (cons1 ⟨5, [41], p + (dgP 1).length + 5⟩ (cons1 ⟨5, [123], p + (dgP 1).length + 7⟩ (Lx.lexG 0 (p + (hdP 1).length) (32 :: Y)))))) := by kernel_rfl
theorem lexh1_10 (p : Nat) (Y : Bsq) : Lx.lexG 0 p (hdP 1 ++ (10 :: Y)) = cons1 ⟨2, [111, 110], p⟩ (cons1 ⟨1, 101 :: dgP 1, p + 3⟩ (cons1 ⟨5, [40], p + (dgP 1).length + 4⟩ (cons1 ⟨5, [41], p + (dgP 1).length + 5⟩ (cons1 ⟨5, [123], p + (dgP 1).length + 7⟩ (Lx.lexG 0 (p + (hdP 1).length) (10 :: Y)))))) := by kernel_rfl
theorem lexh2_32 (p : Nat) (Y : Bsq) : Lx.lexG 0 p (hdP 2 ++ (32 :: Y)) = cons1 ⟨2, [111, 110], p⟩ (cons1 ⟨1, 101 :: dgP 2, p + 3⟩ (cons1 ⟨5, [40], p + (dgP 2).length + 4⟩ (cons1 ⟨5, [41], p + (dgP 2).length + 5⟩ (cons1 ⟨5, [123], p + (dgP 2).length + 7⟩ (Lx.lexG 0 (p + (hdP 2).length) (32 :: Y)))))) := by kernel_rfl
theorem lexh2_10 (p : Nat) (Y : Bsq) : Lx.lexG 0 p (hdP 2 ++ (10 :: Y)) = cons1 ⟨2, [111, 110], p⟩ (cons1 ⟨1, 101 :: dgP 2, p + 3⟩ (cons1 ⟨5, [40], p + (dgP 2).length + 4⟩ (cons1 ⟨5, [41], p + (dgP 2).length + 5⟩ (cons1 ⟨5, [123], p + (dgP 2).length + 7⟩ (Lx.lexG 0 (p + (hdP 2).length) (10 :: Y)))))) := by kernel_rfl
theorem lexh3_32 (p : Nat) (Y : Bsq) : Lx.lexG 0 p (hdP 3 ++ (32 :: Y)) = cons1 ⟨2, [111, 110], p⟩ (cons1 ⟨1, 101 :: dgP 3, p + 3⟩ (cons1 ⟨5, [40], p + (dgP 3).length + 4⟩ (cons1 ⟨5, [41], p + (dgP 3).length + 5⟩ (cons1 ⟨5, [123], p + (dgP 3).length + 7⟩ (Lx.lexG 0 (p + (hdP 3).length) (32 :: Y)))))) := by kernel_rfl
theorem lexh3_10 (p : Nat) (Y : Bsq) : Lx.lexG 0 p (hdP 3 ++ (10 :: Y)) = cons1 ⟨2, [111, 110], p⟩ (cons1 ⟨1, 101 :: dgP 3, p + 3⟩ (cons1 ⟨5, [40], p + (dgP 3).length + 4⟩ (cons1 ⟨5, [41], p + (dgP 3).length + 5⟩ (cons1 ⟨5, [123], p + (dgP 3).length + 7⟩ (Lx.lexG 0 (p + (hdP 3).length) (10 :: Y)))))) := by kernel_rfl
theorem lexh4_32 (p : Nat) (Y : Bsq) : Lx.lexG 0 p (hdP 4 ++ (32 :: Y)) = cons1 ⟨2, [111, 110], p⟩ (cons1 ⟨1, 101 :: dgP 4, p + 3⟩ (cons1 ⟨5, [40], p + (dgP 4).length + 4⟩ (cons1 ⟨5, [41], p + (dgP 4).length + 5⟩ (cons1 ⟨5, [123], p + (dgP 4).length + 7⟩ (Lx.lexG 0 (p + (hdP 4).length) (32 :: Y)))))) := by kernel_rfl
theorem lexh4_10 (p : Nat) (Y : Bsq) : Lx.lexG 0 p (hdP 4 ++ (10 :: Y)) = cons1 ⟨2, [111, 110], p⟩ (cons1 ⟨1, 101 :: dgP 4, p + 3⟩ (cons1 ⟨5, [40], p + (dgP 4).length + 4⟩ (cons1 ⟨5, [41], p + (dgP 4).length + 5⟩ (cons1 ⟨5, [123], p + (dgP 4).length + 7⟩ (Lx.lexG 0 (p + (hdP 4).length) (10 :: Y)))))) := by kernel_rfl
theorem lexh5_32 (p : Nat) (Y : Bsq) : Lx.lexG 0 p (hdP 5 ++ (32 :: Y)) = cons1 ⟨2, [111, 110], p⟩ (cons1 ⟨1, 101 :: dgP 5, p + 3⟩ (cons1 ⟨5, [40], p + (dgP 5).length + 4⟩ (cons1 ⟨5, [41], p + (dgP 5).length + 5⟩ (cons1 ⟨5, [123], p + (dgP 5).length + 7⟩ (Lx.lexG 0 (p + (hdP 5).length) (32 :: Y)))))) := by kernel_rfl
theorem lexh5_10 (p : Nat) (Y : Bsq) : Lx.lexG 0 p (hdP 5 ++ (10 :: Y)) = cons1 ⟨2, [111, 110], p⟩ (cons1 ⟨1, 101 :: dgP 5, p + 3⟩ (cons1 ⟨5, [40], p + (dgP 5).length + 4⟩ (cons1 ⟨5, [41], p + (dgP 5).length + 5⟩ (cons1 ⟨5, [123], p + (dgP 5).length + 7⟩ (Lx.lexG 0 (p + (hdP 5).length) (10 :: Y)))))) := by kernel_rfl
theorem lexh6_32 (p : Nat) (Y : Bsq) : Lx.lexG 0 p (hdP 6 ++ (32 :: Y)) = cons1 ⟨2, [111, 110], p⟩ (cons1 ⟨1, 101 :: dgP 6, p + 3⟩ (cons1 ⟨5, [40], p + (dgP 6).length + 4⟩ (cons1 ⟨5, [41], p + (dgP 6).length + 5⟩ (cons1 ⟨5, [123], p + (dgP 6).length + 7⟩ (Lx.lexG 0 (p + (hdP 6).length) (32 :: Y)))))) := by kernel_rfl
theorem lexh6_10 (p : Nat) (Y : Bsq) : Lx.lexG 0 p (hdP 6 ++ (10 :: Y)) = cons1 ⟨2, [111, 110], p⟩ (cons1 ⟨1, 101 :: dgP 6, p + 3⟩ (cons1 ⟨5, [40], p + (dgP 6).length + 4⟩ (cons1 ⟨5, [41], p + (dgP 6).length + 5⟩ (cons1 ⟨5, [123], p + (dgP 6).length + 7⟩ (Lx.lexG 0 (p + (hdP 6).length) (10 :: Y)))))) := by kernel_rfl
theorem lexh7_32 (p : Nat) (Y : Bsq) : Lx.lexG 0 p (hdP 7 ++ (32 :: Y)) = cons1 ⟨2, [111, 110], p⟩ (cons1 ⟨1, 101 :: dgP 7, p + 3⟩ (cons1 ⟨5, [40], p + (dgP 7).length + 4⟩ (cons1 ⟨5, [41], p + (dgP 7).length + 5⟩ (cons1 ⟨5, [123], p + (dgP 7).length + 7⟩ (Lx.lexG 0 (p + (hdP 7).length) (32 :: Y)))))) := by kernel_rfl
theorem lexh7_10 (p : Nat) (Y : Bsq) : Lx.lexG 0 p (hdP 7 ++ (10 :: Y)) = cons1 ⟨2, [111, 110], p⟩ (cons1 ⟨1, 101 :: dgP 7, p + 3⟩ (cons1 ⟨5, [40], p + (dgP 7).length + 4⟩ (cons1 ⟨5, [41], p + (dgP 7).length + 5⟩ (cons1 ⟨5, [123], p + (dgP 7).length + 7⟩ (Lx.lexG 0 (p + (hdP 7).length) (10 :: Y)))))) := by kernel_rfl
theorem lexh8_32 (p : Nat) (Y : Bsq) : Lx.lexG 0 p (hdP 8 ++ (32 :: Y)) = cons1 ⟨2, [111, 110], p⟩ (cons1 ⟨1, 101 :: dgP 8, p + 3⟩ (cons1 ⟨5, [40], p + (dgP 8).length + 4⟩ (cons1 ⟨5, [41], p + (dgP 8).length + 5⟩ (cons1 ⟨5, [123], p + (dgP 8).length + 7⟩ (Lx.lexG 0 (p + (hdP 8).length) (32 :: Y)))))) := by kernel_rfl
theorem lexh8_10 (p : Nat) (Y : Bsq) : Lx.lexG 0 p (hdP 8 ++ (10 :: Y)) = cons1 ⟨2, [111, 110], p⟩ (cons1 ⟨1, 101 :: dgP 8, p + 3⟩ (cons1 ⟨5, [40], p + (dgP 8).length + 4⟩ (cons1 ⟨5, [41], p + (dgP 8).length + 5⟩ (cons1 ⟨5, [123], p + (dgP 8).length + 7⟩ (Lx.lexG 0 (p + (hdP 8).length) (10 :: Y)))))) := by kernel_rfl
theorem lexh9_32 (p : Nat) (Y : Bsq) : Lx.lexG 0 p (hdP 9 ++ (32 :: Y)) = cons1 ⟨2, [111, 110], p⟩ (cons1 ⟨1, 101 :: dgP 9, p + 3⟩ (cons1 ⟨5, [40], p + (dgP 9).length + 4⟩ (cons1 ⟨5, [41], p + (dgP 9).length + 5⟩ (cons1 ⟨5, [123], p + (dgP 9).length + 7⟩ (Lx.lexG 0 (p + (hdP 9).length) (32 :: Y)))))) := by kernel_rfl
theorem lexh9_10 (p : Nat) (Y : Bsq) : Lx.lexG 0 p (hdP 9 ++ (10 :: Y)) = cons1 ⟨2, [111, 110], p⟩ (cons1 ⟨1, 101 :: dgP 9, p + 3⟩ (cons1 ⟨5, [40], p + (dgP 9).length + 4⟩ (cons1 ⟨5, [41], p + (dgP 9).length + 5⟩ (cons1 ⟨5, [123], p + (dgP 9).length + 7⟩ (Lx.lexG 0 (p + (hdP 9).length) (10 :: Y)))))) := by kernel_rfl
theorem lexh10_32 (p : Nat) (Y : Bsq) : Lx.lexG 0 p (hdP 10 ++ (32 :: Y)) = cons1 ⟨2, [111, 110], p⟩ (cons1 ⟨1, 101 :: dgP 10, p + 3⟩ (cons1 ⟨5, [40], p + (dgP 10).length + 4⟩ (cons1 ⟨5, [41], p + (dgP 10).length + 5⟩ (cons1 ⟨5, [123], p + (dgP 10).length + 7⟩ (Lx.lexG 0 (p + (hdP 10).length) (32 :: Y)))))) := by kernel_rfl
theorem lexh10_10 (p : Nat) (Y : Bsq) : Lx.lexG 0 p (hdP 10 ++ (10 :: Y)) = cons1 ⟨2, [111, 110], p⟩ (cons1 ⟨1, 101 :: dgP 10, p + 3⟩ (cons1 ⟨5, [40], p + (dgP 10).length + 4⟩ (cons1 ⟨5, [41], p + (dgP 10).length + 5⟩ (cons1 ⟨5, [123], p + (dgP 10).length + 7⟩ (Lx.lexG 0 (p + (hdP 10).length) (10 :: Y)))))) := by kernel_rfl
theorem lexh11_32 (p : Nat) (Y : Bsq) : Lx.lexG 0 p (hdP 11 ++ (32 :: Y)) = cons1 ⟨2, [111, 110], p⟩ (cons1 ⟨1, 101 :: dgP 11, p + 3⟩ (cons1 ⟨5, [40], p + (dgP 11).length + 4⟩ (cons1 ⟨5, [41], p + (dgP 11).length + 5⟩ (cons1 ⟨5, [123], p + (dgP 11).length + 7⟩ (Lx.lexG 0 (p + (hdP 11).length) (32 :: Y)))))) := by kernel_rfl
theorem lexh11_10 (p : Nat) (Y : Bsq) : Lx.lexG 0 p (hdP 11 ++ (10 :: Y)) = cons1 ⟨2, [111, 110], p⟩ (cons1 ⟨1, 101 :: dgP 11, p + 3⟩ (cons1 ⟨5, [40], p + (dgP 11).length + 4⟩ (cons1 ⟨5, [41], p + (dgP 11).length + 5⟩ (cons1 ⟨5, [123], p + (dgP 11).length + 7⟩ (Lx.lexG 0 (p + (hdP 11).length) (10 :: Y)))))) := by kernel_rfl
theorem lexh12_32 (p : Nat) (Y : Bsq) : Lx.lexG 0 p (hdP 12 ++ (32 :: Y)) = cons1 ⟨2, [111, 110], p⟩ (cons1 ⟨1, 101 :: dgP 12, p + 3⟩ (cons1 ⟨5, [40], p + (dgP 12).length + 4⟩ (cons1 ⟨5, [41], p + (dgP 12).length + 5⟩ (cons1 ⟨5, [123], p + (dgP 12).length + 7⟩ (Lx.lexG 0 (p + (hdP 12).length) (32 :: Y)))))) := by kernel_rfl
theorem lexh12_10 (p : Nat) (Y : Bsq) : Lx.lexG 0 p (hdP 12 ++ (10 :: Y)) = cons1 ⟨2, [111, 110], p⟩ (cons1 ⟨1, 101 :: dgP 12, p + 3⟩ (cons1 ⟨5, [40], p + (dgP 12).length + 4⟩ (cons1 ⟨5, [41], p + (dgP 12).length + 5⟩ (cons1 ⟨5, [123], p + (dgP 12).length + 7⟩ (Lx.lexG 0 (p + (hdP 12).length) (10 :: Y)))))) := by kernel_rfl
theorem lexh13_32 (p : Nat) (Y : Bsq) : Lx.lexG 0 p (hdP 13 ++ (32 :: Y)) = cons1 ⟨2, [111, 110], p⟩ (cons1 ⟨1, 101 :: dgP 13, p + 3⟩ (cons1 ⟨5, [40], p + (dgP 13).length + 4⟩ (cons1 ⟨5, [41], p + (dgP 13).length + 5⟩ (cons1 ⟨5, [123], p + (dgP 13).length + 7⟩ (Lx.lexG 0 (p + (hdP 13).length) (32 :: Y)))))) := by kernel_rfl
theorem lexh13_10 (p : Nat) (Y : Bsq) : Lx.lexG 0 p (hdP 13 ++ (10 :: Y)) = cons1 ⟨2, [111, 110], p⟩ (cons1 ⟨1, 101 :: dgP 13, p + 3⟩ (cons1 ⟨5, [40], p + (dgP 13).length + 4⟩ (cons1 ⟨5, [41], p + (dgP 13).length + 5⟩ (cons1 ⟨5, [123], p + (dgP 13).length + 7⟩ (Lx.lexG 0 (p + (hdP 13).length) (10 :: Y)))))) := by kernel_rfl
theorem lexh14_32 (p : Nat) (Y : Bsq) : Lx.lexG 0 p (hdP 14 ++ (32 :: Y)) = cons1 ⟨2, [111, 110], p⟩ (cons1 ⟨1, 101 :: dgP 14, p + 3⟩ (cons1 ⟨5, [40], p + (dgP 14).length + 4⟩ (cons1 ⟨5, [41], p + (dgP 14).length + 5⟩ (cons1 ⟨5, [123], p + (dgP 14).length + 7⟩ (Lx.lexG 0 (p + (hdP 14).length) (32 :: Y)))))) := by kernel_rfl
theorem lexh14_10 (p : Nat) (Y : Bsq) : Lx.lexG 0 p (hdP 14 ++ (10 :: Y)) = cons1 ⟨2, [111, 110], p⟩ (cons1 ⟨1, 101 :: dgP 14, p + 3⟩ (cons1 ⟨5, [40], p + (dgP 14).length + 4⟩ (cons1 ⟨5, [41], p + (dgP 14).length + 5⟩ (cons1 ⟨5, [123], p + (dgP 14).length + 7⟩ (Lx.lexG 0 (p + (hdP 14).length) (10 :: Y)))))) := by kernel_rfl
theorem lexh15_32 (p : Nat) (Y : Bsq) : Lx.lexG 0 p (hdP 15 ++ (32 :: Y)) = cons1 ⟨2, [111, 110], p⟩ (cons1 ⟨1, 101 :: dgP 15, p + 3⟩ (cons1 ⟨5, [40], p + (dgP 15).length + 4⟩ (cons1 ⟨5, [41], p + (dgP 15).length + 5⟩ (cons1 ⟨5, [123], p + (dgP 15).length + 7⟩ (Lx.lexG 0 (p + (hdP 15).length) (32 :: Y)))))) := by kernel_rfl
theorem lexh15_10 (p : Nat) (Y : Bsq) : Lx.lexG 0 p (hdP 15 ++ (10 :: Y)) = cons1 ⟨2, [111, 110], p⟩ (cons1 ⟨1, 101 :: dgP 15, p + 3⟩ (cons1 ⟨5, [40], p + (dgP 15).length + 4⟩ (cons1 ⟨5, [41], p + (dgP 15).length + 5⟩ (cons1 ⟨5, [123], p + (dgP 15).length + 7⟩ (Lx.lexG 0 (p + (hdP 15).length) (10 :: Y)))))) := by kernel_rfl
theorem lex_hd (i : Nat) (hi : i < 16) (p : Nat) (X : Bsq) (h : (∃ Y, X = 32 :: Y) ∨ ∃ Y, X = 10 :: Y) : Lx.lexG 0 p (hdP i ++ X) = cons1 ⟨2, [111, 110], p⟩ (cons1 ⟨1, 101 :: dgP i, p + 3⟩ (cons1 ⟨5, [40], p + (dgP i).length + 4⟩ (cons1 ⟨5, [41], p + (dgP i).length + 5⟩ (cons1 ⟨5, [123], p + (dgP i).length + 7⟩ (Lx.lexG 0 (p + (hdP i).length) (X)))))) := by
  rcases h with ⟨Y, rfl⟩ | ⟨Y, rfl⟩
  · match i, hi with
    | 0, _ => exact lexh0_32 p Y
    | 1, _ => exact lexh1_32 p Y
    | 2, _ => exact lexh2_32 p Y
    | 3, _ => exact lexh3_32 p Y
    | 4, _ => exact lexh4_32 p Y
    | 5, _ => exact lexh5_32 p Y
    | 6, _ => exact lexh6_32 p Y
    | 7, _ => exact lexh7_32 p Y
    | 8, _ => exact lexh8_32 p Y
    | 9, _ => exact lexh9_32 p Y
    | 10, _ => exact lexh10_32 p Y
    | 11, _ => exact lexh11_32 p Y
    | 12, _ => exact lexh12_32 p Y
    | 13, _ => exact lexh13_32 p Y
    | 14, _ => exact lexh14_32 p Y
    | 15, _ => exact lexh15_32 p Y
    | i + 16, hi => exact absurd hi (by omega)
  · match i, hi with
    | 0, _ => exact lexh0_10 p Y
    | 1, _ => exact lexh1_10 p Y
    | 2, _ => exact lexh2_10 p Y
    | 3, _ => exact lexh3_10 p Y
    | 4, _ => exact lexh4_10 p Y
    | 5, _ => exact lexh5_10 p Y
    | 6, _ => exact lexh6_10 p Y
    | 7, _ => exact lexh7_10 p Y
    | 8, _ => exact lexh8_10 p Y
    | 9, _ => exact lexh9_10 p Y
    | 10, _ => exact lexh10_10 p Y
    | 11, _ => exact lexh11_10 p Y
    | 12, _ => exact lexh12_10 p Y
    | 13, _ => exact lexh13_10 p Y
    | 14, _ => exact lexh14_10 p Y
    | 15, _ => exact lexh15_10 p Y
    | i + 16, hi => exact absurd hi (by omega)
theorem lext0 (p : Nat) (Y : Bsq) : Lx.lexG 0 p (tlP ++ ([])) = cons1 ⟨2, [98, 114, 101, 97, 107], p⟩ (cons1 ⟨5, [59], p + 5⟩ (cons1 ⟨5, [125], p + 7⟩ (Lx.lexG 0 (p + 8) ([])))) := by kernel_rfl
theorem lext32 (p : Nat) (Y : Bsq) : Lx.lexG 0 p (tlP ++ (32 :: Y)) = cons1 ⟨2, [98, 114, 101, 97, 107], p⟩ (cons1 ⟨5, [59], p + 5⟩ (cons1 ⟨5, [125], p + 7⟩ (Lx.lexG 0 (p + 8) (32 :: Y)))) := by kernel_rfl
theorem lext10 (p : Nat) (Y : Bsq) : Lx.lexG 0 p (tlP ++ (10 :: Y)) = cons1 ⟨2, [98, 114, 101, 97, 107], p⟩ (cons1 ⟨5, [59], p + 5⟩ (cons1 ⟨5, [125], p + 7⟩ (Lx.lexG 0 (p + 8) (10 :: Y)))) := by kernel_rfl
theorem lex_tl (p : Nat) (X : Bsq) (h : Bgn X) : Lx.lexG 0 p (tlP ++ X) = cons1 ⟨2, [98, 114, 101, 97, 107], p⟩ (cons1 ⟨5, [59], p + 5⟩ (cons1 ⟨5, [125], p + 7⟩ (Lx.lexG 0 (p + 8) (X)))) := by
  rcases h with rfl | ⟨Y, rfl⟩ | ⟨Y, rfl⟩
  · exact lext0 p []
  · exact lext32 p Y
  · exact lext10 p Y
theorem lex_src : ∀ (gs : List Nat) (i p : Nat), i + gs.length ≤ 16 → Lx.lexG 0 p (srcP i gs) = .ok (tkP i p gs)
  | [], i, p, h => rfl
  | g :: gs, i, p, h => by
    have ih := lex_src gs (i + 1) (p + (blP g).length + (hdP i).length + (blP (g / 4)).length + 8) (by simp at h; omega)
    show Lx.lexG 0 p (blP g ++ (hdP i ++ (blP (g / 4) ++ (tlP ++ srcP (i + 1) gs)))) = _
    rw [lex_bl, lex_hd i (by simp at h; omega) _ _ (bgn_bl (g / 4) _), lex_bl, lex_tl _ _ (bgn_src (i + 1) gs), ih]
    rfl
theorem bl_len (g : Nat) : (blP g).length ≤ 8 := by unfold blP; split <;> decide
theorem dg_len (i : Nat) : (dgP i).length ≤ 2 := by unfold dgP; split <;> decide
theorem src_len : ∀ (gs : List Nat) (i : Nat), (srcP i gs).length ≤ 40 * gs.length
  | [], i => Nat.zero_le _
  | g :: gs, i => by
    have ih := src_len gs (i + 1)
    have h1 := bl_len g
    have h2 := bl_len (g / 4)
    have h3 := dg_len i
    show (blP g ++ (hdP i ++ (blP (g / 4) ++ (tlP ++ srcP (i + 1) gs)))).length ≤ _
    simp only [List.length_append, hdP, tlP, List.length_cons, List.length_nil]
    omega
/- A handler of a break behind those that there are. -/
def dcP (i : Nat) (p s : Int) : PDc := ⟨101 :: dgP i, [], [], [], [], [pkS ⟨8, [], [], [], [], [], [], s⟩], p⟩
theorem dcl0 (p p1 p2 p3 p4 s s1 s2 : Int) (l : List PDc) (R : List PTok) : (bd take fun w => bd (handlerP 5000) fun d => ret (l ++ [d.setAt w.pos])) ⟨⟨2, [111, 110], p⟩ :: ⟨1, 101 :: dgP 0, p1⟩ :: ⟨5, [40], p2⟩ :: ⟨5, [41], p3⟩ :: ⟨5, [123], p4⟩ :: ⟨2, [98, 114, 101, 97, 107], s⟩ :: ⟨5, [59], s1⟩ :: ⟨5, [125], s2⟩ :: R, 0, false⟩ = .ok (l ++ [dcP 0 p s], ⟨R, 0, false⟩) := by kernel_rfl
theorem dcl1 (p p1 p2 p3 p4 s s1 s2 : Int) (l : List PDc) (R : List PTok) : (bd take fun w => bd (handlerP 5000) fun d => ret (l ++ [d.setAt w.pos])) ⟨⟨2, [111, 110], p⟩ :: ⟨1, 101 :: dgP 1, p1⟩ :: ⟨5, [40], p2⟩ :: ⟨5, [41], p3⟩ :: ⟨5, [123], p4⟩ :: ⟨2, [98, 114, 101, 97, 107], s⟩ :: ⟨5, [59], s1⟩ :: ⟨5, [125], s2⟩ :: R, 0, false⟩ = .ok (l ++ [dcP 1 p s], ⟨R, 0, false⟩) := by kernel_rfl
theorem dcl2 (p p1 p2 p3 p4 s s1 s2 : Int) (l : List PDc) (R : List PTok) : (bd take fun w => bd (handlerP 5000) fun d => ret (l ++ [d.setAt w.pos])) ⟨⟨2, [111, 110], p⟩ :: ⟨1, 101 :: dgP 2, p1⟩ :: ⟨5, [40], p2⟩ :: ⟨5, [41], p3⟩ :: ⟨5, [123], p4⟩ :: ⟨2, [98, 114, 101, 97, 107], s⟩ :: ⟨5, [59], s1⟩ :: ⟨5, [125], s2⟩ :: R, 0, false⟩ = .ok (l ++ [dcP 2 p s], ⟨R, 0, false⟩) := by kernel_rfl
theorem dcl3 (p p1 p2 p3 p4 s s1 s2 : Int) (l : List PDc) (R : List PTok) : (bd take fun w => bd (handlerP 5000) fun d => ret (l ++ [d.setAt w.pos])) ⟨⟨2, [111, 110], p⟩ :: ⟨1, 101 :: dgP 3, p1⟩ :: ⟨5, [40], p2⟩ :: ⟨5, [41], p3⟩ :: ⟨5, [123], p4⟩ :: ⟨2, [98, 114, 101, 97, 107], s⟩ :: ⟨5, [59], s1⟩ :: ⟨5, [125], s2⟩ :: R, 0, false⟩ = .ok (l ++ [dcP 3 p s], ⟨R, 0, false⟩) := by kernel_rfl
theorem dcl4 (p p1 p2 p3 p4 s s1 s2 : Int) (l : List PDc) (R : List PTok) : (bd take fun w => bd (handlerP 5000) fun d => ret (l ++ [d.setAt w.pos])) ⟨⟨2, [111, 110], p⟩ :: ⟨1, 101 :: dgP 4, p1⟩ :: ⟨5, [40], p2⟩ :: ⟨5, [41], p3⟩ :: ⟨5, [123], p4⟩ :: ⟨2, [98, 114, 101, 97, 107], s⟩ :: ⟨5, [59], s1⟩ :: ⟨5, [125], s2⟩ :: R, 0, false⟩ = .ok (l ++ [dcP 4 p s], ⟨R, 0, false⟩) := by kernel_rfl
theorem dcl5 (p p1 p2 p3 p4 s s1 s2 : Int) (l : List PDc) (R : List PTok) : (bd take fun w => bd (handlerP 5000) fun d => ret (l ++ [d.setAt w.pos])) ⟨⟨2, [111, 110], p⟩ :: ⟨1, 101 :: dgP 5, p1⟩ :: ⟨5, [40], p2⟩ :: ⟨5, [41], p3⟩ :: ⟨5, [123], p4⟩ :: ⟨2, [98, 114, 101, 97, 107], s⟩ :: ⟨5, [59], s1⟩ :: ⟨5, [125], s2⟩ :: R, 0, false⟩ = .ok (l ++ [dcP 5 p s], ⟨R, 0, false⟩) := by kernel_rfl
theorem dcl6 (p p1 p2 p3 p4 s s1 s2 : Int) (l : List PDc) (R : List PTok) : (bd take fun w => bd (handlerP 5000) fun d => ret (l ++ [d.setAt w.pos])) ⟨⟨2, [111, 110], p⟩ :: ⟨1, 101 :: dgP 6, p1⟩ :: ⟨5, [40], p2⟩ :: ⟨5, [41], p3⟩ :: ⟨5, [123], p4⟩ :: ⟨2, [98, 114, 101, 97, 107], s⟩ :: ⟨5, [59], s1⟩ :: ⟨5, [125], s2⟩ :: R, 0, false⟩ = .ok (l ++ [dcP 6 p s], ⟨R, 0, false⟩) := by kernel_rfl
theorem dcl7 (p p1 p2 p3 p4 s s1 s2 : Int) (l : List PDc) (R : List PTok) : (bd take fun w => bd (handlerP 5000) fun d => ret (l ++ [d.setAt w.pos])) ⟨⟨2, [111, 110], p⟩ :: ⟨1, 101 :: dgP 7, p1⟩ :: ⟨5, [40], p2⟩ :: ⟨5, [41], p3⟩ :: ⟨5, [123], p4⟩ :: ⟨2, [98, 114, 101, 97, 107], s⟩ :: ⟨5, [59], s1⟩ :: ⟨5, [125], s2⟩ :: R, 0, false⟩ = .ok (l ++ [dcP 7 p s], ⟨R, 0, false⟩) := by kernel_rfl
theorem dcl8 (p p1 p2 p3 p4 s s1 s2 : Int) (l : List PDc) (R : List PTok) : (bd take fun w => bd (handlerP 5000) fun d => ret (l ++ [d.setAt w.pos])) ⟨⟨2, [111, 110], p⟩ :: ⟨1, 101 :: dgP 8, p1⟩ :: ⟨5, [40], p2⟩ :: ⟨5, [41], p3⟩ :: ⟨5, [123], p4⟩ :: ⟨2, [98, 114, 101, 97, 107], s⟩ :: ⟨5, [59], s1⟩ :: ⟨5, [125], s2⟩ :: R, 0, false⟩ = .ok (l ++ [dcP 8 p s], ⟨R, 0, false⟩) := by kernel_rfl
theorem dcl9 (p p1 p2 p3 p4 s s1 s2 : Int) (l : List PDc) (R : List PTok) : (bd take fun w => bd (handlerP 5000) fun d => ret (l ++ [d.setAt w.pos])) ⟨⟨2, [111, 110], p⟩ :: ⟨1, 101 :: dgP 9, p1⟩ :: ⟨5, [40], p2⟩ :: ⟨5, [41], p3⟩ :: ⟨5, [123], p4⟩ :: ⟨2, [98, 114, 101, 97, 107], s⟩ :: ⟨5, [59], s1⟩ :: ⟨5, [125], s2⟩ :: R, 0, false⟩ = .ok (l ++ [dcP 9 p s], ⟨R, 0, false⟩) := by kernel_rfl
theorem dcl10 (p p1 p2 p3 p4 s s1 s2 : Int) (l : List PDc) (R : List PTok) : (bd take fun w => bd (handlerP 5000) fun d => ret (l ++ [d.setAt w.pos])) ⟨⟨2, [111, 110], p⟩ :: ⟨1, 101 :: dgP 10, p1⟩ :: ⟨5, [40], p2⟩ :: ⟨5, [41], p3⟩ :: ⟨5, [123], p4⟩ :: ⟨2, [98, 114, 101, 97, 107], s⟩ :: ⟨5, [59], s1⟩ :: ⟨5, [125], s2⟩ :: R, 0, false⟩ = .ok (l ++ [dcP 10 p s], ⟨R, 0, false⟩) := by kernel_rfl
theorem dcl11 (p p1 p2 p3 p4 s s1 s2 : Int) (l : List PDc) (R : List PTok) : (bd take fun w => bd (handlerP 5000) fun d => ret (l ++ [d.setAt w.pos])) ⟨⟨2, [111, 110], p⟩ :: ⟨1, 101 :: dgP 11, p1⟩ :: ⟨5, [40], p2⟩ :: ⟨5, [41], p3⟩ :: ⟨5, [123], p4⟩ :: ⟨2, [98, 114, 101, 97, 107], s⟩ :: ⟨5, [59], s1⟩ :: ⟨5, [125], s2⟩ :: R, 0, false⟩ = .ok (l ++ [dcP 11 p s], ⟨R, 0, false⟩) := by kernel_rfl
theorem dcl12 (p p1 p2 p3 p4 s s1 s2 : Int) (l : List PDc) (R : List PTok) : (bd take fun w => bd (handlerP 5000) fun d => ret (l ++ [d.setAt w.pos])) ⟨⟨2, [111, 110], p⟩ :: ⟨1, 101 :: dgP 12, p1⟩ :: ⟨5, [40], p2⟩ :: ⟨5, [41], p3⟩ :: ⟨5, [123], p4⟩ :: ⟨2, [98, 114, 101, 97, 107], s⟩ :: ⟨5, [59], s1⟩ :: ⟨5, [125], s2⟩ :: R, 0, false⟩ = .ok (l ++ [dcP 12 p s], ⟨R, 0, false⟩) := by kernel_rfl
theorem dcl13 (p p1 p2 p3 p4 s s1 s2 : Int) (l : List PDc) (R : List PTok) : (bd take fun w => bd (handlerP 5000) fun d => ret (l ++ [d.setAt w.pos])) ⟨⟨2, [111, 110], p⟩ :: ⟨1, 101 :: dgP 13, p1⟩ :: ⟨5, [40], p2⟩ :: ⟨5, [41], p3⟩ :: ⟨5, [123], p4⟩ :: ⟨2, [98, 114, 101, 97, 107], s⟩ :: ⟨5, [59], s1⟩ :: ⟨5, [125], s2⟩ :: R, 0, false⟩ = .ok (l ++ [dcP 13 p s], ⟨R, 0, false⟩) := by kernel_rfl
theorem dcl14 (p p1 p2 p3 p4 s s1 s2 : Int) (l : List PDc) (R : List PTok) : (bd take fun w => bd (handlerP 5000) fun d => ret (l ++ [d.setAt w.pos])) ⟨⟨2, [111, 110], p⟩ :: ⟨1, 101 :: dgP 14, p1⟩ :: ⟨5, [40], p2⟩ :: ⟨5, [41], p3⟩ :: ⟨5, [123], p4⟩ :: ⟨2, [98, 114, 101, 97, 107], s⟩ :: ⟨5, [59], s1⟩ :: ⟨5, [125], s2⟩ :: R, 0, false⟩ = .ok (l ++ [dcP 14 p s], ⟨R, 0, false⟩) := by kernel_rfl
theorem dcl15 (p p1 p2 p3 p4 s s1 s2 : Int) (l : List PDc) (R : List PTok) : (bd take fun w => bd (handlerP 5000) fun d => ret (l ++ [d.setAt w.pos])) ⟨⟨2, [111, 110], p⟩ :: ⟨1, 101 :: dgP 15, p1⟩ :: ⟨5, [40], p2⟩ :: ⟨5, [41], p3⟩ :: ⟨5, [123], p4⟩ :: ⟨2, [98, 114, 101, 97, 107], s⟩ :: ⟨5, [59], s1⟩ :: ⟨5, [125], s2⟩ :: R, 0, false⟩ = .ok (l ++ [dcP 15 p s], ⟨R, 0, false⟩) := by kernel_rfl
theorem dcl_any (i : Nat) (hi : i < 16) (p p1 p2 p3 p4 s s1 s2 : Int) (l : List PDc) (hl : l.length ≠ 16) (R : List PTok) : declare l (handlerP 5000) ⟨⟨2, [111, 110], p⟩ :: ⟨1, 101 :: dgP i, p1⟩ :: ⟨5, [40], p2⟩ :: ⟨5, [41], p3⟩ :: ⟨5, [123], p4⟩ :: ⟨2, [98, 114, 101, 97, 107], s⟩ :: ⟨5, [59], s1⟩ :: ⟨5, [125], s2⟩ :: R, 0, false⟩ = .ok (l ++ [dcP i p s], ⟨R, 0, false⟩) := by
  show (bd take fun w => bd (handlerP 5000) fun d => ret (l ++ [d.setAt w.pos])) ⟨⟨2, [111, 110], p⟩ :: ⟨1, 101 :: dgP i, p1⟩ :: ⟨5, [40], p2⟩ :: ⟨5, [41], p3⟩ :: ⟨5, [123], p4⟩ :: ⟨2, [98, 114, 101, 97, 107], s⟩ :: ⟨5, [59], s1⟩ :: ⟨5, [125], s2⟩ :: R, 0, decide (l.length = 16)⟩ = _
  rw [decide_eq_false hl]
  match i, hi with
  | 0, _ => exact dcl0 p p1 p2 p3 p4 s s1 s2 l R
  | 1, _ => exact dcl1 p p1 p2 p3 p4 s s1 s2 l R
  | 2, _ => exact dcl2 p p1 p2 p3 p4 s s1 s2 l R
  | 3, _ => exact dcl3 p p1 p2 p3 p4 s s1 s2 l R
  | 4, _ => exact dcl4 p p1 p2 p3 p4 s s1 s2 l R
  | 5, _ => exact dcl5 p p1 p2 p3 p4 s s1 s2 l R
  | 6, _ => exact dcl6 p p1 p2 p3 p4 s s1 s2 l R
  | 7, _ => exact dcl7 p p1 p2 p3 p4 s s1 s2 l R
  | 8, _ => exact dcl8 p p1 p2 p3 p4 s s1 s2 l R
  | 9, _ => exact dcl9 p p1 p2 p3 p4 s s1 s2 l R
  | 10, _ => exact dcl10 p p1 p2 p3 p4 s s1 s2 l R
  | 11, _ => exact dcl11 p p1 p2 p3 p4 s s1 s2 l R
  | 12, _ => exact dcl12 p p1 p2 p3 p4 s s1 s2 l R
  | 13, _ => exact dcl13 p p1 p2 p3 p4 s s1 s2 l R
  | 14, _ => exact dcl14 p p1 p2 p3 p4 s s1 s2 l R
  | 15, _ => exact dcl15 p p1 p2 p3 p4 s s1 s2 l R
  | i + 16, hi => exact absurd hi (by omega)
theorem srcL_on (n : Nat) (l : List PDc) (q : Int) (R : List PTok) : sourceL 5000 (n + 1) ⟨[], [], [], l⟩ ⟨⟨2, [111, 110], q⟩ :: R, 0, false⟩ = bd (declare l (handlerP 5000)) (fun l => sourceL 5000 n ⟨[], [], [], l⟩) ⟨⟨2, [111, 110], q⟩ :: R, 0, false⟩ := by kernel_rfl
theorem srcL_end (n : Nat) (t : PTr) (r : Int) : sourceL 5000 (n + 1) t ⟨[⟨0, [], r⟩], 0, false⟩ = .ok (t, ⟨[⟨0, [], r⟩], 0, false⟩) := by kernel_rfl
def evP : Nat → Nat → List Nat → List PDc
  | _, _, [] => []
  | i, p, g :: gs =>
    dcP i ((p + (blP g).length : Nat) : Int) ((p + (blP g).length + (hdP i).length + (blP (g / 4)).length : Nat) : Int) :: evP (i + 1) (p + (blP g).length + (hdP i).length + (blP (g / 4)).length + 8) gs
theorem srcL_src : ∀ (gs : List Nat) (i p n : Nat) (l : List PDc), i + gs.length ≤ 16 → l.length = i → gs.length < n → ∃ s', sourceL 5000 n ⟨[], [], [], l⟩ ⟨(tkP i p gs).map toP, 0, false⟩ = .ok (⟨[], [], [], l ++ evP i p gs⟩, s')
  | [], i, p, n, l, h, hl, hn => by
    obtain ⟨m, rfl⟩ : ∃ m, n = m + 1 := ⟨n - 1, by simp at hn; omega⟩
    refine ⟨⟨[⟨0, [], (p : Int)⟩], 0, false⟩, ?_⟩
    rw [show evP i p [] = [] from rfl, List.append_nil]
    exact srcL_end m _ _
  | g :: gs, i, p, n, l, h, hl, hn => by
    obtain ⟨m, rfl⟩ : ∃ m, n = m + 1 := ⟨n - 1, by omega⟩
    simp only [List.length_cons] at h hn
    obtain ⟨s', ih⟩ := srcL_src gs (i + 1) (p + (blP g).length + (hdP i).length + (blP (g / 4)).length + 8) m (l ++ [dcP i ((p + (blP g).length : Nat) : Int) ((p + (blP g).length + (hdP i).length + (blP (g / 4)).length : Nat) : Int)]) (by omega) (by rw [List.length_append]; simp; omega) (by omega)
    refine ⟨s', (srcL_on m l _ _).trans ((bd_ok (dcl_any i (by omega) _ _ _ _ _ _ _ _ l (by omega) _)).trans ?_)⟩
    rw [List.append_assoc] at ih
    exact ih
theorem parse_places (gs : List Nat) (h : gs.length ≤ 16) : parseT (srcP 0 gs) = .ok ⟨[], [], [], evP 0 0 gs⟩ := by
  have h1 : Lx.lexT (srcP 0 gs) = .ok (tkP 0 0 gs) := by
    unfold Lx.lexT
    rw [if_neg (by have := src_len gs 0; omega)]
    exact lex_src gs 0 0 (by omega)
  unfold parseT
  rw [h1]
  obtain ⟨s', h2⟩ := srcL_src gs 0 0 5000 [] (by omega) rfl (by omega)
  show (match sourceL 5000 5000 ⟨[], [], [], []⟩ ⟨(tkP 0 0 gs).map toP, 0, false⟩ with | .error e => Except.error e | .ok (t, _) => Except.ok t) = _
  rw [h2]
  rfl
end Go.Proofs.YtkhjacflmggelaaGreatDoor

namespace Go.Proofs.YtkhjacflmggelaaGreatDoor
open Go Go.RowKit Go.Deep Go.Shelf
set_option linter.unusedVariables false
set_option linter.unusedSimpArgs false
set_option maxRecDepth 100000
def stP (i g : Nat) : Nat := (blP g).length + (hdP i).length + (blP (g / 4)).length + 8
def pfP (gs : List Nat) : Nat → Bsq
  | 0 => []
  | i + 1 => pfP gs i ++ (blP (gs.getD i 0) ++ (hdP i ++ (blP (gs.getD i 0 / 4) ++ tlP)))
def posP : Nat → Nat → List Nat → Nat → Nat
  | _, p, _, 0 => p
  | _, p, [], _ + 1 => p
  | i, p, g :: gs, j + 1 => posP (i + 1) (p + stP i g) gs j
theorem pos_succ : ∀ (gs : List Nat) (i p j : Nat), j < gs.length → posP i p gs (j + 1) = posP i p gs j + stP (i + j) (gs.getD j 0)
  | [], i, p, j, h => absurd h (by simp)
  | g :: gs, i, p, 0, h => by
    show posP (i + 1) (p + stP i g) gs 0 = p + stP i g
    cases gs <;> rfl
  | g :: gs, i, p, j + 1, h => by
    have ih := pos_succ gs (i + 1) (p + stP i g) j (by simp at h; omega)
    show posP (i + 1) (p + stP i g) gs (j + 1) = posP (i + 1) (p + stP i g) gs j + stP (i + (j + 1)) (gs.getD j 0)
    rw [ih, show i + 1 + j = i + (j + 1) by omega]
theorem pf_len (gs : List Nat) : ∀ j, j ≤ gs.length → (pfP gs j).length = posP 0 0 gs j
  | 0, h => by cases gs <;> rfl
  | j + 1, h => by
    rw [pos_succ gs 0 0 j (by omega), ← pf_len gs j (by omega)]
    show (pfP gs j ++ (blP (gs.getD j 0) ++ (hdP j ++ (blP (gs.getD j 0 / 4) ++ tlP)))).length = _
    rw [Nat.zero_add]
    simp only [List.length_append, stP, tlP, List.length_cons, List.length_nil]
    omega
theorem pf_src (gs : List Nat) : ∀ (i : Nat), i ≤ gs.length → pfP gs i ++ srcP i (gs.drop i) = srcP 0 gs
  | 0, h => by rw [List.drop_zero]; rfl
  | i + 1, h => by
    have ih := pf_src gs i (by omega)
    rw [← ih]
    have hd : gs.drop i = gs.getD i 0 :: gs.drop (i + 1) := by
      rw [List.drop_eq_getElem_cons (by omega)]
      congr 1
      rw [List.getD_eq_getElem?_getD, List.getElem?_eq_getElem (by omega)]
      rfl
    rw [hd]
    show (pfP gs i ++ (blP (gs.getD i 0) ++ (hdP i ++ (blP (gs.getD i 0 / 4) ++ tlP)))) ++ srcP (i + 1) (gs.drop (i + 1)) = pfP gs i ++ (blP (gs.getD i 0) ++ (hdP i ++ (blP (gs.getD i 0 / 4) ++ (tlP ++ srcP (i + 1) (gs.drop (i + 1))))))
    simp only [List.append_assoc]
theorem pf_all (gs : List Nat) : pfP gs gs.length = srcP 0 gs := by
  have h := pf_src gs gs.length (Nat.le_refl _)
  rw [List.drop_length] at h
  rw [← h]
  exact (List.append_nil _).symm
def dpP (gs : List Nat) (j : Nat) : Nat := posP 0 0 gs j + (blP (gs.getD j 0)).length
def spP (gs : List Nat) (j : Nat) : Nat := dpP gs j + (hdP j).length + (blP (gs.getD j 0 / 4)).length
theorem ev_get : ∀ (gs : List Nat) (i p j : Nat), j < gs.length → (evP i p gs)[j]? = some (dcP (i + j) ((posP i p gs j + (blP (gs.getD j 0)).length : Nat) : Int) ((posP i p gs j + (blP (gs.getD j 0)).length + (hdP (i + j)).length + (blP (gs.getD j 0 / 4)).length : Nat) : Int))
  | [], i, p, j, h => absurd h (by simp)
  | g :: gs, i, p, 0, h => by
    show (dcP i _ _ :: evP (i + 1) _ gs)[0]? = _
    simp [posP]
  | g :: gs, i, p, j + 1, h => by
    have ih := ev_get gs (i + 1) (p + stP i g) j (by simp at h; omega)
    show (evP (i + 1) (p + (blP g).length + (hdP i).length + (blP (g / 4)).length + 8) gs)[j]? = _
    rw [show p + (blP g).length + (hdP i).length + (blP (g / 4)).length + 8 = p + stP i g by unfold stP; omega, ih, show i + 1 + j = i + (j + 1) by omega]
    rfl
theorem ev_len : ∀ (gs : List Nat) (i p : Nat), (evP i p gs).length = gs.length
  | [], i, p => rfl
  | g :: gs, i, p => by
    show (evP (i + 1) _ gs).length + 1 = _
    rw [ev_len gs]
    rfl
theorem ev_at (gs : List Nat) (j : Nat) (h : j < gs.length) : (evP 0 0 gs)[j]? = some (dcP j (dpP gs j : Nat) (spP gs j : Nat)) := by
  have q := ev_get gs 0 0 j h
  rw [Nat.zero_add] at q
  exact q
theorem pf_le (gs : List Nat) (j : Nat) (h : j ≤ gs.length) (hl : gs.length ≤ 16) : (pfP gs j).length ≤ 640 := by
  have h1 : ∀ j, (pfP gs j).length ≤ 40 * j := by
    intro j
    induction j with
    | zero => exact Nat.zero_le _
    | succ j ih =>
      have b1 := bl_len (gs.getD j 0)
      have b2 := bl_len (gs.getD j 0 / 4)
      have b3 := dg_len j
      show (pfP gs j ++ (blP (gs.getD j 0) ++ (hdP j ++ (blP (gs.getD j 0 / 4) ++ tlP)))).length ≤ _
      simp only [List.length_append, hdP, tlP, List.length_cons, List.length_nil]
      omega
  have := h1 j
  omega
theorem dp_is (gs : List Nat) (j : Nat) (h : j < gs.length) : dpP gs j = (pfP gs j ++ blP (gs.getD j 0)).length := by
  unfold dpP
  rw [← pf_len gs j (by omega), List.length_append]
theorem sp_is (gs : List Nat) (j : Nat) (h : j < gs.length) : spP gs j = (pfP gs j ++ (blP (gs.getD j 0) ++ (hdP j ++ blP (gs.getD j 0 / 4)))).length := by
  unfold spP
  rw [dp_is gs j h]
  simp only [List.length_append]
  omega
end Go.Proofs.YtkhjacflmggelaaGreatDoor

namespace Go.Proofs.YtkhjacflmggelaaGreatDoor
open Go Go.RowKit Go.Deep Go.Shelf
set_option linter.unusedVariables false
set_option linter.unusedSimpArgs false
set_option maxRecDepth 100000
theorem bs_size (l : Bsq) : ((bs l).size : Int) = (l.length : Int) := by
  show ((l.toArray.size : Nat) : Int) = _
  rw [List.size_toArray]
end Go.Proofs.YtkhjacflmggelaaGreatDoor

namespace Go.Proofs.YtkhjacflmggelaaGreatDoor
open Go Go.RowKit Go.Deep Go.Shelf
set_option linter.unusedVariables false
set_option linter.unusedSimpArgs false
set_option maxRecDepth 100000
theorem digits_any (n : Int) (h0 : -9223372036854775808 ≤ n) (h1 : n ≤ 9223372036854775807) (w : World) : Calls Tryz.prog 15 #[.int .i64 n] w fun e w' => e = .returned (.string (bs (Lib.itoa n))) ∧ Below w.heap.size w w' := Vx.refDigits n h0 h1 w
/- The literal of a number. -/
/- What the call tells of a literal's source. -/
end Go.Proofs.YtkhjacflmggelaaGreatDoor

namespace Go.Proofs.YtkhjacflmggelaaGreatDoor
open Go Go.RowKit Go.Deep Go.Shelf
set_option linter.unusedVariables false
set_option linter.unusedSimpArgs false
set_option maxRecDepth 100000
def LI (w : World) (A : Nat → Prop) (r : List Value) (x : Int) : Prop := r = [.int .i64 x]
theorem LI_mv : Mv LI := fun w w' A B r x h s i => h
theorem LI_row : Rw 1 LI := fun w A r x h => by
  subst h
  exact ⟨rfl, fun u hu => by simp at hu; subst hu; rfl⟩
theorem infoI : (Tryz.prog.info? 3).map (fun i => (i.zero, i.size, i.bytes)) = some (some (.int .i64 0), 1, 8) := by kernel_rfl
theorem lst_own {α : Type} {E : TypeId} {k : Nat} {R : World → (Nat → Prop) → List Value → α → Prop} {w : World} {A : Nat → Prop} {v : Value} {l : List α} (h : Lst E k R w A v l) : ∀ g, v.ownBlock = some g → A g := by
  obtain ⟨rows, ⟨_, q⟩, _⟩ := h
  exact q
theorem wpList_appI {ops : Array Oper} {rest : List Oper} {o : Oper} {act : Act} {Q : Exit → Act → World → Prop} (X W : World) (e : Int) (cs : Array Value) (hcs : cs = #[.int .i64 e]) (hX : X = W.alloc (.cells cs 3)) (hgd : o.guard = none) (s x : Operand)
    (ho : o.op = .call { callee := .builtin .append, args := #[s, x], argTypes := #[34, 34] }) (hty : o.type = 34) (v u : Value) (hs : act.eval s = v) (hx : act.eval x = u) (hu : u = .slice (some ⟨W.heap.size, 0, none⟩) 1 1) (A : Nat → Prop) (l : List Int) (h : Lst 3 1 LI W A v l) (hA : ∀ g, A g → g < W.heap.size) (hl : l.length ≤ 100000)
    (kk : ∀ v' w', Lst 3 1 LI w' (fun g => (A g ∨ g = W.heap.size) ∨ (W.heap.size + 1 ≤ g ∧ g < w'.heap.size)) v' (l ++ [e]) → X.grownBy w' v.ownBlock → (v'.ownBlock = v.ownBlock ∨ v'.ownBlock = some (W.heap.size + 1)) → wpList Tryz.prog ops Q rest (act.put o.dst v') w') :
    wpList Tryz.prog ops Q (o :: rest) act X := by
  refine wpList_plain hgd fun K hK => ?_
  subst hu
  subst hX
  subst hcs
  have hsz : (W.alloc (.cells #[.int .i64 e] 3)).heap.size = W.heap.size + 1 := World.size_alloc _ _
  have hL : Lst 3 1 LI (W.alloc (.cells #[.int .i64 e] 3)) A v l := h.mv LI_mv (Same.alloc (Same.refl _ _) hA) (fun g h => h)
  have hU : ∃ rows2, Rws 3 1 (W.alloc (.cells #[.int .i64 e] 3)) (fun g => g = W.heap.size) (.slice (some ⟨W.heap.size, 0, none⟩) 1 1) rows2 ∧ All2 (LI (W.alloc (.cells #[.int .i64 e] 3)) (fun g => g = W.heap.size)) rows2 [e] :=
    ⟨[[.int .i64 e]], ⟨(KR.one W [.int .i64 e] rfl (fun u hu => by simp at hu; subst hu; rfl)).lower (Nat.zero_le _), fun g q => by cases q; rfl⟩, All2.one rfl⟩
  obtain ⟨v', w', hrun, h2, h3, h4⟩ := run_appN LI_mv LI_row Tryz.underlying34 infoI rfl (by decide) (by decide) _ o.type A (fun g => g = W.heap.size) (fun g => A g ∨ g = W.heap.size) v _ l [e] hL hU (fun g hg => by rw [hsz]; have := hA g hg; omega) (fun g hg => by rw [hsz]; omega) (fun g hg q => by have := hA g (lst_own hL g q); omega) (fun g q => .inl q) (fun g q => .inr q) (by omega) (by simp)
  rw [hsz] at h2 h4
  rw [hty] at hrun
  unfold Oper.wp execOp
  simp only [ho, resolve, invoke, builtin, Sem.run_bind, Sem.run_pure, Result.andThen_ok, List.map_toArray, List.map_cons, List.map_nil, hs, hx, hty, hrun]
  exact hK _ _ (kk v' w' h2 h3 h4)
theorem dg_itoa (i : Nat) (hi : i < 16) : Lib.itoa (i : Int) = dgP i := by
  unfold Lib.itoa
  rw [if_neg (by omega), Int.toNat_natCast]
  match i, hi with
  | 0, _ => rw [Lib.decDigits_one (by decide)]; rfl
  | 1, _ => rw [Lib.decDigits_one (by decide)]; rfl
  | 2, _ => rw [Lib.decDigits_one (by decide)]; rfl
  | 3, _ => rw [Lib.decDigits_one (by decide)]; rfl
  | 4, _ => rw [Lib.decDigits_one (by decide)]; rfl
  | 5, _ => rw [Lib.decDigits_one (by decide)]; rfl
  | 6, _ => rw [Lib.decDigits_one (by decide)]; rfl
  | 7, _ => rw [Lib.decDigits_one (by decide)]; rfl
  | 8, _ => rw [Lib.decDigits_one (by decide)]; rfl
  | 9, _ => rw [Lib.decDigits_one (by decide)]; rfl
  | 10, _ => rw [Lib.decDigits_two (by decide) (by decide)]; rfl
  | 11, _ => rw [Lib.decDigits_two (by decide) (by decide)]; rfl
  | 12, _ => rw [Lib.decDigits_two (by decide) (by decide)]; rfl
  | 13, _ => rw [Lib.decDigits_two (by decide) (by decide)]; rfl
  | 14, _ => rw [Lib.decDigits_two (by decide) (by decide)]; rfl
  | 15, _ => rw [Lib.decDigits_two (by decide) (by decide)]; rfl
  | i + 16, hi => exact absurd hi (by omega)
end Go.Proofs.YtkhjacflmggelaaGreatDoor

