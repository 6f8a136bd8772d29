/- LexNames: the walk. -/
import Derived.Test.YtebhmalegdpibaaDoorS
import Derived.Laws.BytesArg
namespace Go.Proofs.YtebhmalegdpibaaDoor
open Go.RowKit Go.Deep
set_option linter.unusedVariables false
set_option linter.unusedSimpArgs false

theorem BRd.conv {w : World} {a : Option Addr} {bs : Bs} (h : BRd w a bs) (cap : Nat) : (convert 37 9 (.slice a bs.length cap)).run Tryd.prog w = .ok (.string (ofB bs)) w := by
  cases bs with
  | nil =>
    rw [run_convert_bytes_string w 37 9 5 _ _ _ Tryd.underlying37 Tryd.underlying5 Tryd.underlying9]
    cases a with
    | none => rfl
    | some a =>
      have hl := run_loadCells_list (P := Tryd.prog) w a [] (fun j v hj => by simp at hj)
      have := run_bytesToString w a 0 cap [] (by simpa using hl) (P := Tryd.prog)
      rw [show ofB [] = ByteArray.empty from rfl]
      simpa using this
  | cons c t =>
    obtain ⟨b, off, rfl, _⟩ := h 0 c rfl
    have := run_convert_bytes_arg (P := Tryd.prog) w 37 5 Tryd.underlying37 Tryd.underlying5 b off (c :: t).length cap ((c :: t).map fun x : UInt8 => (x.toNat : Int)) (by simp) (fun i hi => by
      obtain ⟨b', off', e, hc⟩ := h i (c :: t)[i] (List.getElem?_eq_getElem hi)
      cases e
      rw [hc, List.getD_eq_getElem?_getD, List.getElem?_map, List.getElem?_eq_getElem hi]; rfl) 9 Tryd.underlying9
    rw [this]
    congr 2
    simp [strOfNums, ofB]
    rw [List.map_congr_left (g := id) (fun x _ => by simp), List.map_id]
def vOk (bs : Bs) (j : Nat) : Bool := isLt (bs.getD j 0) || (decide (0 < j) && isDg (bs.getD j 0))
def vF (bs : Bs) : Nat → Bool
  | 0 => true
  | i + 1 => vF bs i && vOk bs i
theorem vF_iff (bs : Bs) : ∀ n, vF bs n = true ↔ ∀ j, j < n → vOk bs j = true
  | 0 => by simp [vF]
  | n + 1 => by
    simp only [vF, Bool.and_eq_true, vF_iff bs n]
    constructor
    · rintro ⟨h1, h2⟩ j hj
      rcases Nat.lt_or_ge j n with h | h
      · exact h1 j h
      · obtain rfl : j = n := by omega
        exact h2
    · intro h
      exact ⟨fun j hj => h j (by omega), h n (by omega)⟩
theorem vF_all (c : UInt8) (t : Bs) : vF (c :: t) (c :: t).length = (isLt c && t.all isPt) := by
  rw [Bool.eq_iff_iff, vF_iff, Bool.and_eq_true, List.all_eq_true]
  constructor
  · intro h
    refine ⟨by simpa [vOk] using h 0 (by simp), fun x hx => ?_⟩
    obtain ⟨j, hj, e⟩ := List.getElem_of_mem hx
    have := h (j + 1) (by simp; omega)
    simp only [vOk, List.getD_cons_succ] at this
    rw [List.getD_eq_getElem?_getD, List.getElem?_eq_getElem hj, e] at this
    simpa [isPt] using this
  · rintro ⟨h1, h2⟩ j hj
    cases j with
    | zero => simp [vOk, h1]
    | succ j =>
      have hj' : j < t.length := by simpa using hj
      have := h2 t[j] (List.getElem_mem hj')
      simp only [vOk, List.getD_cons_succ]
      rw [List.getD_eq_getElem?_getD, List.getElem?_eq_getElem hj']
      simpa [isPt] using this
def okB (bs : Bs) : Bool := decide (1 ≤ bs.length) && decide (bs.length ≤ 20)
theorem val_bool {a b : Bool} (h : a = true ↔ b = true) : Value.bool a = .bool b := congrArg _ (Bool.eq_iff_iff.2 h)
theorem okv {bs : Bs} {i : Nat} {c : UInt8} (h : (okB bs && vF bs i) = true) (e : bs[i]? = some c) : (okB bs && vF bs (i + 1)) = true ↔ ((97 ≤ c.toNat ∧ c.toNat ≤ 122) ∨ (65 ≤ c.toNat ∧ c.toNat ≤ 90) ∨ c.toNat = 95 ∨ (0 < i ∧ 48 ≤ c.toNat ∧ c.toNat ≤ 57)) := by
  rw [vF, ← Bool.and_assoc, h, Bool.true_and, vOk, List.getD_eq_getElem?_getD, e]
  simp [isLt, isDg]
  omega
theorem okv0 {bs : Bs} {i : Nat} (h : (okB bs && vF bs i) = false) : (okB bs && vF bs (i + 1)) = false := by
  rw [vF, ← Bool.and_assoc, h, Bool.false_and]
theorem nm_eq (bs : Bs) : nmB bs = (okB bs && vF bs bs.length && !isWd bs) := by
  cases bs with
  | nil => rfl
  | cons c t => rw [vF_all]; rfl

theorem wl {i : Nat} {x : ByteArray} (h : wordsS[i]? = some x) : wordsL[i]? = some x.data.toList := by
  unfold wordsS at h
  rw [List.getElem?_map] at h
  cases hl : wordsL[i]? with
  | none => rw [hl] at h; cases h
  | some l => rw [hl] at h; simp at h; subst h; rfl
theorem word_name {i : Nat} {x : ByteArray} (h : wordsS[i]? = some x) : nameB x.data.toList = false := by
  have hw : isWd x.data.toList = true := by
    unfold isWd
    rw [List.contains_iff_mem]
    exact List.mem_of_getElem? (wl h)
  rw [nameB_eq, nm_eq, hw]; simp
theorem word_size {i : Nat} {x : ByteArray} (h : wordsS[i]? = some x) : x.size ≤ 100 := by
  have : ∀ l ∈ wordsL, l.length ≤ 100 := by decide
  rw [Lib.size_eq]
  exact this _ (List.mem_of_getElem? (wl h))
theorem take_more {i : Nat} {x : ByteArray} (h : wordsS[i]? = some x) (bs : Bs) : (wordsL.take (i + 1)).contains bs = ((wordsL.take i).contains bs || (x.toList == (ofB bs).toList)) := by
  rw [ByteArray.toList_eq, ByteArray.toList_eq, ofB_list, List.take_add_one, wl h, Bool.eq_iff_iff]
  simp only [Option.toList_some, List.contains_iff_mem, List.mem_append, List.mem_singleton, Bool.or_eq_true, beq_iff_eq]
  constructor
  · rintro (h | h)
    · exact .inl h
    · exact .inr h.symm
  · rintro (h | h)
    · exact .inl h
    · exact .inr h.symm
theorem rise_all : ((List.range 28).all fun i => Op.bytesLess (wordsL.getD i []) (wordsL.getD (i + 1) [])) = true := by decide +kernel
theorem word_rise {i : Nat} {y x : ByteArray} (hy : wordsS[i]? = some y) (hx : wordsS[i + 1]? = some x) (w : World) : (Op.stringOp .geq y x).run Tryd.prog w = .ok (.bool false) w := by
  have hi : i + 1 < 29 := (List.getElem?_eq_some_iff.1 hx).1
  have h := List.all_eq_true.1 rise_all i (List.mem_range.2 (by omega))
  rw [List.getD_eq_getElem?_getD, List.getD_eq_getElem?_getD, wl hy, wl hx] at h
  simp only [Option.getD_some] at h
  have e : Op.stringOp .geq y x = pure (.bool !(Op.bytesLess y.toList x.toList)) := rfl
  rw [e, ByteArray.toList_eq, ByteArray.toList_eq, h]
  rfl

end Go.Proofs.YtebhmalegdpibaaDoor
