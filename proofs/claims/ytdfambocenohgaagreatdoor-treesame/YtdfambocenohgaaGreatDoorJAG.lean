/- A sign's size. -/
import Derived.Test.YtdfambocenohgaaGreatDoorJAF
import Derived.Deep.RegionHeld3
import Derived.Lib.Replace
namespace Go.Proofs.YtdfambocenohgaaGreatDoor
set_option maxRecDepth 100000
open Go.RowKit Go.Deep
set_option linter.unusedVariables false
set_option linter.unusedSimpArgs false

def sg2L : List Bs := [[61, 61], [33, 61], [60, 61], [62, 61], [43, 37], [45, 37], [42, 37], [45, 62]]
theorem pre2 (x y : UInt8) (l : Bs) : List.isPrefixOf [x, y] l = true ↔ ∃ t, l = x :: y :: t := by
  match l with
  | [] => simp [List.isPrefixOf]
  | [a] => simp [List.isPrefixOf]
  | a :: b :: t => simp [List.isPrefixOf]; constructor <;> rintro ⟨rfl, rfl⟩ <;> simp
theorem sg2_iff (a b : UInt8) : sg2 a b = true ↔ [a, b] ∈ sg2L := by
  simp only [sg2, sg2L, Bool.or_eq_true, Bool.and_eq_true, beq_iff_eq, List.mem_cons, List.cons.injEq, List.mem_nil_iff, or_false, and_true]
  constructor
  · rintro ((⟨rfl, ((rfl | rfl) | rfl) | rfl⟩ | ⟨rfl, (rfl | rfl) | rfl⟩) | ⟨rfl, rfl⟩) <;> simp
  · rintro (⟨rfl, rfl⟩ | ⟨rfl, rfl⟩ | ⟨rfl, rfl⟩ | ⟨rfl, rfl⟩ | ⟨rfl, rfl⟩ | ⟨rfl, rfl⟩ | ⟨rfl, rfl⟩ | ⟨rfl, rfl⟩) <;> simp
theorem two_of (p : Bs) (h : p ∈ sg2L) : ∃ x y, p = [x, y] := by
  simp only [sg2L, List.mem_cons, List.mem_nil_iff, or_false] at h
  rcases h with rfl | rfl | rfl | rfl | rfl | rfl | rfl | rfl <;> exact ⟨_, _, rfl⟩
theorem sign_hit (p l : Bs) (h : p ∈ sg2L) (hp : p.isPrefixOf l = true) : signF l = 2 := by
  obtain ⟨x, y, rfl⟩ := two_of p h
  obtain ⟨t, rfl⟩ := (pre2 x y l).1 hp
  simp [signF, (sg2_iff x y).2 h]
theorem sign_miss (a : UInt8) (t : Bs) (h : ∀ p ∈ sg2L, p.isPrefixOf (a :: t) = false) : signF (a :: t) = if sg1 a then 1 else 0 := by
  cases t with
  | nil => rfl
  | cons b t =>
    have : ¬ sg2 a b = true := fun e => by
      have := h _ ((sg2_iff a b).1 e)
      simp [List.isPrefixOf] at this
    simp [signF, this]
theorem idx_contains (c : UInt8) : ∀ l : Bs, (0 ≤ Lib.indexByte l c) ↔ l.contains c = true
  | [] => by simp [Lib.indexByte]
  | b :: l => by
    have ih := idx_contains c l
    have hge := Lib.indexByte_ge l c
    simp only [Lib.indexByte]
    by_cases h : b = c
    · subst h; simp
    · have h' : ¬ c = b := fun e => h e.symm
      have h1 : (b == c) = false := by simpa using h
      have h2 : (c == b) = false := by simpa using h'
      simp only [h1, h2, Bool.false_eq_true, if_false, List.contains_cons, beq_iff_eq, Bool.false_or]
      rw [← ih]
      split <;> omega

theorem get_of_list (s : ByteArray) (i : Nat) (h : i < s.size) (c : UInt8) (e : s.data.toList[i]? = some c) : s[i]'h = c := by
  have : s[i]'h = s.data[i]'h := rfl
  rw [this]
  have h2 : i < s.data.toList.length := by rw [← Lib.size_eq]; exact h
  rw [List.getElem?_eq_getElem h2] at e
  simpa using e
theorem cellOf {w : World} {b : Nat} {c : Array Value} {e : TypeId} {f : Nat × Nat} (h : w.heap[b]? = some (.cells c e f)) (i : Nat) : w.cell? ⟨b, i, none⟩ = c[i]? := by
  simp [World.cell?, h]
set_option maxRecDepth 100000 in
theorem signSize_any (s : ByteArray) (a : UInt8) (t : Bs) (hl : s.data.toList = a :: t) (w : World) : Calls Tryz.prog 168 #[.string s] w fun e w' => e = .returned (.int .i64 (signF (a :: t) : Nat)) ∧ Below w.heap.size w w' := by
  have hsz : 1 ≤ s.size := by rw [Lib.size_eq, hl]; simp
  have hz : (0 : Int) < (s.size : Int) := by omega
  have HP := hid (fun p W => Tryz.strings_HasPrefix s p W)
  have HI := hid (fun c W => Tryz.strings_IndexByte ⟨#[123, 125, 40, 41, 91, 93, 44, 59, 58, 46, 61, 60, 62, 43, 45, 42, 47, 37, 38]⟩ c W)
  have hbw : Below w.heap.size w (w.alloc (.cells #[.string ⟨#[61, 61]⟩, .string ⟨#[33, 61]⟩, .string ⟨#[60, 61]⟩, .string ⟨#[62, 61]⟩, .string ⟨#[43, 37]⟩, .string ⟨#[45, 37]⟩, .string ⟨#[42, 37]⟩, .string ⟨#[45, 62]⟩] 9)) := (Below.refl _ w).alloc (Nat.le_refl _) _
  have hcell : ∀ (i : Nat) (p : Bs), sg2L[i]? = some p → (w.alloc (.cells #[.string ⟨#[61, 61]⟩, .string ⟨#[33, 61]⟩, .string ⟨#[60, 61]⟩, .string ⟨#[62, 61]⟩, .string ⟨#[43, 37]⟩, .string ⟨#[45, 37]⟩, .string ⟨#[42, 37]⟩, .string ⟨#[45, 62]⟩] 9)).cell? ⟨w.heap.size, i, none⟩ = some (.string ⟨p.toArray⟩) := by
    intro i p hp
    rw [cellOf (heap_alloc_new w _) i]
    match i, hp with
    | 0, hp => cases hp; rfl
    | 1, hp => cases hp; rfl
    | 2, hp => cases hp; rfl
    | 3, hp => cases hp; rfl
    | 4, hp => cases hp; rfl
    | 5, hp => cases hp; rfl
    | 6, hp => cases hp; rfl
    | 7, hp => cases hp; rfl
    | n + 8, hp => simp [sg2L] at hp
  have HB := hid hbw
  have HC := hid hcell
  have HL := hid hl
  clear hbw hcell hl
  go_enter Tryz.func168, Tryz.ntmps168
  go_wp2
  generalize (w.alloc (.cells #[.string ⟨#[61, 61]⟩, .string ⟨#[33, 61]⟩, .string ⟨#[60, 61]⟩, .string ⟨#[62, 61]⟩, .string ⟨#[43, 37]⟩, .string ⟨#[45, 37]⟩, .string ⟨#[42, 37]⟩, .string ⟨#[45, 62]⟩] 9)) = W at *
  go_loopg [7] 8 (fun g ii wr => ∃ i : Nat, i + g = 8 ∧ ii = .int .i64 (i : Int) ∧ wr = W ∧ ∀ (j : Nat) (p : Bs), j < i → sg2L[j]? = some p → p.isPrefixOf (a :: t) = false)
  case atStart => exact ⟨0, by omega, rfl, rfl, fun j p hj => by omega⟩
  case round =>
    obtain ⟨i, hi, rfl, rfl, hno⟩ := hrel
    have HN := hid hno
    clear hno
    cases gk with
    | zero =>
      have hi8 : i = 8 := by omega
      subst hi8
      clear hi
      have hs0 : s[0]'hsz = a := get_of_list s 0 hsz a (by rw [HL.out]; rfl)
      have hm : ∀ p ∈ sg2L, p.isPrefixOf (a :: t) = false := fun p hp => by
        obtain ⟨j, hj⟩ := List.getElem?_of_mem hp
        exact HN.out j p (by have := (List.getElem?_eq_some_iff.1 hj).1; exact this) hj
      have hsg := sign_miss a t hm
      have hic := idx_contains a sg1s
      have HS := hid hsg
      have HIC := hid hic
      clear hsg hic hm
      go_wp2_with (go_at_call 177; refine (HI.out _ _).mono ?_; rintro e w2 ⟨rfl, rfl⟩)
      · rename_i hcx
        go_ret
        refine ⟨?_, HB.out⟩
        rw [HS.out, show sg1 a = true from HIC.out.1 hcx]; rfl
      · rename_i hcx
        go_ret
        refine ⟨?_, HB.out⟩
        rw [HS.out, if_neg (fun e : sg1 a = true => absurd hcx (Int.not_lt.2 (HIC.out.2 e)))]; rfl
    | succ g =>
      have hlt : i < 8 := by omega
      have hlt' : (i : Int) < 8 := by omega
      obtain ⟨p, hp⟩ : ∃ p, sg2L[i]? = some p := ⟨sg2L[i]'hlt, List.getElem?_eq_getElem hlt⟩
      have hc := HC.out i p hp
      have hx := HP.out ⟨p.toArray⟩ wr
      have hpm := hid (List.mem_of_getElem? hp)
      have Hp := hid hp
      have Hi := hid hi
      have e : Lib.hasPrefix s.data.toList (ByteArray.mk p.toArray).data.toList = p.isPrefixOf (a :: t) := by rw [HL.out]; simp [Lib.hasPrefix]
      rw [e] at hx
      clear e hp hi
      cases hpx : p.isPrefixOf (a :: t) <;> rw [hpx] at hx
      · have Hpx := hid hpx
        clear hpx
        go_wp2_with (go_at_call 176; refine hx.mono ?_; rintro e w2 ⟨rfl, rfl⟩)
        go_roundg g
        case measure => omega
        case rel => exact ⟨i + 1, by have := Hi.out; omega, by go_num, rfl, fun j q hj hq => by
          rcases Nat.lt_or_ge j i with h1 | h1
          · exact HN.out j q h1 hq
          · obtain rfl : j = i := by omega
            rw [Hp.out] at hq; cases hq; exact Hpx.out⟩
      · have Hpx := hid hpx
        have hp2 : p.length = 2 := by obtain ⟨x, y, rfl⟩ := two_of p hpm.out; rfl
        clear hpx
        go_wp2_with (go_at_call 176; refine hx.mono ?_; rintro e w2 ⟨rfl, rfl⟩)
        go_ret
        refine ⟨?_, HB.out⟩
        rw [sign_hit p (a :: t) hpm.out Hpx.out]
        simp [hp2]
end Go.Proofs.YtdfambocenohgaaGreatDoor

namespace Go.Proofs.YtdfambocenohgaaGreatDoor
set_option maxRecDepth 100000
open Go.RowKit Go.Deep
set_option linter.unusedVariables false
set_option linter.unusedSimpArgs false

theorem ltI_nat (c : UInt8) : ltI (c.toNat : Int) = isLt c := by
  unfold ltI isLt
  rw [Bool.eq_iff_iff]; simp; omega
theorem dgI_nat (c : UInt8) : dgI (c.toNat : Int) = isDg c := by
  unfold dgI isDg
  rw [Bool.eq_iff_iff]; simp; omega
theorem ptI_nat (c : UInt8) : ptI (c.toNat : Int) = isPt c := by unfold ptI isPt; rw [ltI_nat, dgI_nat]
/- r is the rune that begins with c. -/
def RunC (c : UInt8) (r : Int) : Prop := (c.toNat < 128 → r = c.toNat) ∧ (128 ≤ c.toNat → 128 ≤ r)
theorem ltI_run {c : UInt8} {r : Int} (h : RunC c r) : ltI r = isLt c := by
  by_cases hc : c.toNat < 128
  · rw [h.1 hc, ltI_nat]
  · have := h.2 (by omega)
    unfold ltI isLt
    rw [Bool.eq_iff_iff]; simp; omega
theorem dgI_run {c : UInt8} {r : Int} (h : RunC c r) : dgI r = isDg c := by
  by_cases hc : c.toNat < 128
  · rw [h.1 hc, dgI_nat]
  · have := h.2 (by omega)
    unfold dgI isDg
    rw [Bool.eq_iff_iff]; simp; omega
theorem eq_run {c : UInt8} {r : Int} (h : RunC c r) (k : UInt8) (hk : k.toNat < 128) : r = (k.toNat : Int) ↔ c = k := by
  by_cases hc : c.toNat < 128
  · rw [h.1 hc, ← UInt8.toNat_inj]; omega
  · have := h.2 (by omega)
    rw [← UInt8.toNat_inj]; omega
theorem hi_lt (a : Int) (h : 128 ≤ a) : ltI a = false := by unfold ltI; simp; omega
theorem hi_dg (a : Int) (h : 128 ≤ a) : dgI a = false := by unfold dgI; simp; omega
theorem enters35 : ∀ args w, (callFunc 163 args).run Tryz.prog w = .ok (.enter 163 args) w := enters_of Tryz.func163 (by kernel_rfl) rfl
theorem enters37 : ∀ args w, (callFunc 166 args).run Tryz.prog w = .ok (.enter 166 args) w := enters_of Tryz.func166 (by kernel_rfl) rfl
theorem run_part (s : ByteArray) (hs : s.size ≤ 9223372036854775807) (w : World) : Calls Tryz.prog 160 #[.string s, .func (.func 163) #[] #[]] w fun e w' => e = .returned (.int .i64 (runF isPt s.data.toList : Nat)) ∧ Below w.heap.size w w' := by
  have h := run_any s 163 #[] ptI hs (fun a b ha hb => by unfold ptI; rw [hi_lt a ha, hi_lt b hb, hi_dg a ha, hi_dg b hb]) enters35 (fun r w => isPart_any r w) w
  rw [show (fun c : UInt8 => ptI c.toNat) = isPt from funext ptI_nat] at h
  exact h
theorem run_digit (s : ByteArray) (hs : s.size ≤ 9223372036854775807) (w : World) : Calls Tryz.prog 160 #[.string s, .func (.func 166) #[] #[]] w fun e w' => e = .returned (.int .i64 (runF isDg s.data.toList : Nat)) ∧ Below w.heap.size w w' := by
  have h := run_any s 166 #[] dgI hs (fun a b ha hb => by rw [hi_dg a ha, hi_dg b hb]) enters37 (fun r w => isDigit_any r w) w
  rw [show (fun c : UInt8 => dgI c.toNat) = isDg from funext dgI_nat] at h
  exact h
theorem words_mem (x : ByteArray) : Lib.containsS (wordsS.take 29) x = isWd x.data.toList := by
  unfold isWd
  rw [Bool.eq_iff_iff, Lib.containsS_iff, show wordsS.take 29 = wordsS from rfl, List.contains_iff_mem]
  unfold wordsS
  rw [List.mem_map]
  constructor
  · rintro ⟨l, hl, rfl⟩; simpa using hl
  · intro h; exact ⟨_, h, by cases x; simp⟩
theorem words_cells (w : World) (b : Nat) (hb : w.heap[b]? = some (.cells wordsV 9 (0, 0))) : ∀ j, j < wordsS.length → w.cell? ⟨b, 0 + j, none⟩ = some (.string (wordsS.getD j ByteArray.empty)) := by
  intro j hj
  rw [Nat.zero_add, cellOf hb j]
  simp only [wordsV, List.getElem?_toArray, List.getElem?_map, List.getD_eq_getElem?_getD, List.getElem?_eq_getElem hj]
  rfl
theorem contains_words (w : World) (b : Nat) (hb : w.heap[b]? = some (.cells wordsV 9 (0, 0))) (x : ByteArray) : Calls Tryz.prog 164 #[.slice (some ⟨b, 0, none⟩) 29 29, .string x] w fun e w' => e = .returned (.bool (isWd x.data.toList)) ∧ w' = w := by
  have h := Tryz.slices_Contains_string b 0 29 29 wordsS x w (by decide) (by decide) (words_cells w b hb)
  rw [words_mem] at h
  exact h
def frV (x : Nat × Nat × Nat) : Value := .tuple #[.int .i64 x.1, .int .i64 x.2.1, .int .i64 x.2.2]

set_option maxRecDepth 100000 in
theorem first_letter (s : ByteArray) (c : UInt8) (t : Bs) (r : Int) (hs : s.size ≤ 4096) (hl : s.data.toList = c :: t) (hr : RunC c r) (hc : isLt c = true) (w : World) :
    Calls Tryz.prog 150 #[.string s, .int .i32 r] w fun e w' => e = .returned (frV (firstF (c :: t))) ∧ Below w.heap.size w w' := by
  have c1 := isLetter_any r w
  rw [ltI_run hr, hc] at c1
  have c2 := run_part s (by omega) w
  rw [hl] at c2
  have hle : runF isPt (c :: t) ≤ s.size := by rw [Lib.size_eq, hl]; exact runF_le _ _
  have hf : firstF (c :: t) = (if isWd ((c :: t).take (runF isPt (c :: t))) then 2 else 1, runF isPt (c :: t), 0) := by simp only [firstF, hc, if_true]
  obtain ⟨n, hn⟩ : ∃ n, runF isPt (c :: t) = n := ⟨_, rfl⟩
  rw [hn] at c2 hle hf
  have HW := hid contains_words
  have hle' : (n : Int) ≤ (s.size : Int) := by omega
  have HF := hid hf
  have HL := hid hl
  clear hf hl hn
  go_enter Tryz.func150, Tryz.ntmps150
  go_wp2_with (first | (go_at_call 162; refine c1.mono ?_; rintro e w ⟨rfl, rfl⟩) | (go_at_call 160; refine c2.mono ?_; rintro e w2 ⟨rfl, hb⟩))
  go_region_held3 (fun _ => True) (first | trivial | go_keep) ((first
    | (go_at_call 165; (refine (words_any _).mono ?_; rintro e w3 ⟨rfl, rfl⟩))
    | (go_at_call 164; (refine (HW.out _ _ (by exact heap_alloc_new w2 _) _).mono ?_; rintro e w4 ⟨rfl, rfl⟩))))
  cases hwd : isWd (List.take n s.data.toList)
  all_goals
    go_wp2
    refine bodyPost_ret (v := frV (firstF (c :: t))) (by rw [HF.out, ← HL.out]; simp [results, Tryz.results150, go_sem, frV, hwd]) rfl ⟨rfl, (hb.alloc (by exact hb.size) _).drew⟩
end Go.Proofs.YtdfambocenohgaaGreatDoor

namespace Go.Proofs.YtdfambocenohgaaGreatDoor
set_option maxRecDepth 100000
open Go.RowKit Go.Deep
set_option linter.unusedVariables false
set_option linter.unusedSimpArgs false

set_option maxRecDepth 100000 in
theorem first_digit (s : ByteArray) (c : UInt8) (t : Bs) (r : Int) (hs : s.size ≤ 4096) (hl : s.data.toList = c :: t) (hr : RunC c r) (hc : isLt c = false) (hd : isDg c = true) (w : World) :
    Calls Tryz.prog 150 #[.string s, .int .i32 r] w fun e w' => e = .returned (frV (firstF (c :: t))) ∧ Below w.heap.size w w' := by
  have c1 := isLetter_any r w
  rw [ltI_run hr, hc] at c1
  have c3 := isDigit_any r w
  rw [dgI_run hr, hd] at c3
  have c2 := run_digit s (by omega) w
  rw [hl] at c2
  have hf : firstF (c :: t) = (3, runF isDg (c :: t), 0) := by simp only [firstF, hc, hd, if_true, Bool.false_eq_true, if_false]
  obtain ⟨n, hn⟩ : ∃ n, runF isDg (c :: t) = n := ⟨_, rfl⟩
  rw [hn] at c2 hf
  have HF := hid hf
  clear hf hl hn
  go_enter Tryz.func150, Tryz.ntmps150
  go_wp2_with (first | (go_at_call 162; refine c1.mono ?_; rintro e w ⟨rfl, rfl⟩) | (go_at_call 166; refine c3.mono ?_; rintro e w ⟨rfl, rfl⟩) | (go_at_call 160; refine c2.mono ?_; rintro e w2 ⟨rfl, hb⟩))
  refine bodyPost_ret (v := frV (firstF (c :: t))) (by rw [HF.out]; simp [results, Tryz.results150, go_sem, frV]) rfl ⟨rfl, hb⟩
set_option maxRecDepth 100000 in
theorem first_text (s : ByteArray) (c : UInt8) (t : Bs) (r : Int) (hs : s.size ≤ 4096) (hl : s.data.toList = c :: t) (hr : RunC c r) (hc : isLt c = false) (hd : isDg c = false) (hq : c = 34) (w : World) :
    Calls Tryz.prog 150 #[.string s, .int .i32 r] w fun e w' => e = .returned (frV (firstF (c :: t))) ∧ Below w.heap.size w w' := by
  have c1 := isLetter_any r w
  rw [ltI_run hr, hc] at c1
  have c3 := isDigit_any r w
  rw [dgI_run hr, hd] at c3
  have hr34 : r = 34 := by have := (eq_run hr 34 (by decide)).2 hq; simpa using this
  have c2 := textSize_any s (by omega) (by rw [Lib.size_eq, hl]; simp) w
  rw [hl, List.drop_succ_cons, List.drop_zero] at c2
  unfold tsz at c2
  have hf : firstF (c :: t) = (match textF false t with | some n => (4, n + 1, 0) | none => (0, 0, 52)) := by unfold firstF; simp only; rw [if_neg (by simp [hc]), if_neg (by simp [hd]), if_pos hq]; cases textF false t <;> rfl
  subst hr34
  cases htx : textF false t with
  | none =>
    rw [htx] at c2 hf
    simp only at c2 hf
    have HF := hid hf
    clear hf hl htx
    go_enter Tryz.func150, Tryz.ntmps150
    go_wp2_with (first | (go_at_call 162; refine c1.mono ?_; rintro e w ⟨rfl, rfl⟩) | (go_at_call 166; refine c3.mono ?_; rintro e w ⟨rfl, rfl⟩) | (go_at_call 167; refine c2.mono ?_; rintro e w2 ⟨rfl, hb⟩))
    refine bodyPost_ret (v := frV (firstF (c :: t))) (by rw [HF.out]; simp [results, Tryz.results150, go_sem, frV]) rfl ⟨rfl, hb⟩
  | some n =>
    rw [htx] at c2 hf
    simp only at c2 hf
    have HF := hid hf
    clear hf hl htx
    go_enter Tryz.func150, Tryz.ntmps150
    go_wp2_with (first | (go_at_call 162; refine c1.mono ?_; rintro e w ⟨rfl, rfl⟩) | (go_at_call 166; refine c3.mono ?_; rintro e w ⟨rfl, rfl⟩) | (go_at_call 167; refine c2.mono ?_; rintro e w2 ⟨rfl, hb⟩))
    refine bodyPost_ret (v := frV (firstF (c :: t))) (by rw [HF.out]; simp [results, Tryz.results150, go_sem, frV]) rfl ⟨rfl, hb⟩
set_option maxRecDepth 100000 in
theorem first_sign (s : ByteArray) (c : UInt8) (t : Bs) (r : Int) (hs : s.size ≤ 4096) (hl : s.data.toList = c :: t) (hr : RunC c r) (hc : isLt c = false) (hd : isDg c = false) (hq : ¬ c = 34) (w : World) :
    Calls Tryz.prog 150 #[.string s, .int .i32 r] w fun e w' => e = .returned (frV (firstF (c :: t))) ∧ Below w.heap.size w w' := by
  have c1 := isLetter_any r w
  rw [ltI_run hr, hc] at c1
  have c3 := isDigit_any r w
  rw [dgI_run hr, hd] at c3
  have hr34 : ¬ r = 34 := fun e => hq ((eq_run hr 34 (by decide)).1 (by simpa using e))
  have c2 := signSize_any s c t hl w
  have hf : firstF (c :: t) = (if signF (c :: t) = 0 then (0, 0, 51) else (5, signF (c :: t), 0)) := by simp only [firstF, hc, hd, hq, if_true, Bool.false_eq_true, if_false]
  obtain ⟨n, hn⟩ : ∃ n, signF (c :: t) = n := ⟨_, rfl⟩
  rw [hn] at c2 hf
  by_cases hz : n = 0
  · rw [if_pos hz] at hf
    subst hz
    have HF := hid hf
    clear hf hl hn
    go_enter Tryz.func150, Tryz.ntmps150
    go_wp2_with (first | (go_at_call 162; refine c1.mono ?_; rintro e w ⟨rfl, rfl⟩) | (go_at_call 166; refine c3.mono ?_; rintro e w ⟨rfl, rfl⟩) | (go_at_call 168; refine c2.mono ?_; rintro e w2 ⟨rfl, hb⟩))
    refine bodyPost_ret (v := frV (firstF (c :: t))) (by rw [HF.out]; simp [results, Tryz.results150, go_sem, frV]) rfl ⟨rfl, hb⟩
  · rw [if_neg hz] at hf
    have hz' : ¬ (n : Int) = 0 := by omega
    have HF := hid hf
    clear hf hl hn hz
    go_enter Tryz.func150, Tryz.ntmps150
    go_wp2_with (first | (go_at_call 162; refine c1.mono ?_; rintro e w ⟨rfl, rfl⟩) | (go_at_call 166; refine c3.mono ?_; rintro e w ⟨rfl, rfl⟩) | (go_at_call 168; refine c2.mono ?_; rintro e w2 ⟨rfl, hb⟩))
    refine bodyPost_ret (v := frV (firstF (c :: t))) (by rw [HF.out]; simp [results, Tryz.results150, go_sem, frV]) rfl ⟨rfl, hb⟩
theorem first_any (s : ByteArray) (c : UInt8) (t : Bs) (r : Int) (hs : s.size ≤ 4096) (hl : s.data.toList = c :: t) (hr : RunC c r) (w : World) :
    Calls Tryz.prog 150 #[.string s, .int .i32 r] w fun e w' => e = .returned (frV (firstF (c :: t))) ∧ Below w.heap.size w w' := by
  cases hc : isLt c
  · cases hd : isDg c
    · by_cases hq : c = 34
      · exact first_text s c t r hs hl hr hc hd hq w
      · exact first_sign s c t r hs hl hr hc hd hq w
    · exact first_digit s c t r hs hl hr hc hd w
  · exact first_letter s c t r hs hl hr hc w
end Go.Proofs.YtdfambocenohgaaGreatDoor

namespace Go.Proofs.YtdfambocenohgaaGreatDoor
set_option maxRecDepth 100000
set_option linter.unusedVariables false
set_option linter.unusedSimpArgs false

def repF (sub new : Bs) (l : Bs) : Bs := Lib.replaceK sub new (Lib.count l sub) l
theorem repF_nil (sub new : Bs) (hs : sub ≠ []) : repF sub new [] = [] := by
  have : Lib.index [] sub = -1 := by
    cases sub with
    | nil => exact absurd rfl hs
    | cons a b => rfl
  unfold repF
  rw [Lib.count_miss this]; rfl
theorem repF_hit (sub new : Bs) (hs : sub ≠ []) (l : Bs) (hp : sub.isPrefixOf l = true) : repF sub new l = new ++ repF sub new (l.drop sub.length) := by
  have hi : Lib.index l sub = (0 : Nat) := by
    cases l with
    | nil => cases sub with
      | nil => exact absurd rfl hs
      | cons a b => simp [List.isPrefixOf] at hp
    | cons c t => simp [Lib.index, hp]
  unfold repF
  rw [Lib.count_hit hs hi, Nat.add_comm, Lib.replaceK_hit _ _ _ _ 0 hi]
  simp
theorem repF_miss (sub new : Bs) (hs : sub ≠ []) (c : UInt8) (t : Bs) (hp : sub.isPrefixOf (c :: t) = false) : repF sub new (c :: t) = c :: repF sub new t := by
  have hx : Lib.index (c :: t) sub = if Lib.index t sub = -1 then -1 else Lib.index t sub + 1 := by simp [Lib.index, hp]
  unfold repF
  by_cases hi : Lib.index t sub = -1
  · rw [Lib.count_miss hi, Lib.count_miss (by rw [hx, if_pos hi])]; rfl
  · have hge := Lib.index_ge t sub
    obtain ⟨i, e⟩ : ∃ i : Nat, Lib.index t sub = i := ⟨(Lib.index t sub).toNat, by omega⟩
    have e2 : Lib.index (c :: t) sub = ((i + 1 : Nat) : Int) := by rw [hx, if_neg hi, e]; rfl
    rw [Lib.count_hit hs e, Lib.count_hit hs e2, show i + 1 + sub.length = (i + sub.length) + 1 from by omega, List.drop_succ_cons, Nat.add_comm 1, Lib.replaceK_hit _ _ _ _ i e, Lib.replaceK_hit _ _ _ _ (i + 1) e2]
    rw [show i + 1 + sub.length = (i + sub.length) + 1 from by omega, List.drop_succ_cons]
    simp
def dbl (b : UInt8) : Bs := if b = 34 then [34, 34] else [b]
theorem repF_dbl : ∀ l : Bs, repF [34] [34, 34] l = l.flatMap dbl
  | [] => repF_nil _ _ (by simp)
  | b :: l => by
    by_cases h : b = 34
    · subst h
      rw [repF_hit _ _ (by simp) _ (by simp [List.isPrefixOf])]
      simp [dbl, repF_dbl l]
    · have : ¬ 34 = b := fun e => h e.symm
      rw [repF_miss _ _ (by simp) _ _ (by simp [List.isPrefixOf, this]), repF_dbl l]
      simp [dbl, h]
theorem repF_unq : ∀ (n : Nat) (l : Bs), l.length ≤ n → repF [34, 34] [34] l = unq l
  | _, [], _ => repF_nil _ _ (by simp)
  | _, [c], _ => by
    rw [repF_miss _ _ (by simp) _ _ (by simp [List.isPrefixOf]), repF_nil _ _ (by simp)]; rfl
  | 0, c :: d :: t, h => by simp at h
  | n + 1, c :: d :: t, h => by
    simp only [List.length_cons] at h
    unfold unq
    by_cases hc : c = 34 ∧ d = 34
    · rw [if_pos hc]
      obtain ⟨rfl, rfl⟩ := hc
      rw [repF_hit _ _ (by simp) _ (by simp [List.isPrefixOf])]
      simp [repF_unq n t (by omega)]
    · rw [if_neg hc]
      have hp : List.isPrefixOf [34, 34] (c :: d :: t) = false := by
        simp only [List.isPrefixOf, Bool.and_eq_false_iff, beq_eq_false_iff_ne]
        by_cases h1 : c = 34
        · exact .inr (.inl fun e => hc ⟨h1, e.symm⟩)
        · exact .inl fun e => h1 e.symm
      rw [repF_miss _ _ (by simp) _ _ hp, repF_unq n (d :: t) (by simp; omega)]
theorem replace_eq (l sub new : Bs) (h : sub ≠ new) : Lib.replaceAll l sub new = repF sub new l := by
  unfold Lib.replaceAll Lib.replace Lib.replaceNum repF
  rw [if_neg (by simpa using h), if_pos (.inl (by omega))]
theorem replace_dbl (l : Bs) : Lib.replaceAll l [34] [34, 34] = l.flatMap dbl := by rw [replace_eq _ _ _ (by decide), repF_dbl]
theorem replace_unq (l : Bs) : Lib.replaceAll l [34, 34] [34] = unq l := by rw [replace_eq _ _ _ (by decide), repF_unq _ l (Nat.le_refl _)]
theorem dbl_len (l : Bs) : (l.flatMap dbl).length ≤ 2 * l.length := by
  induction l with
  | nil => simp
  | cons b l ih =>
    simp only [List.flatMap_cons, List.length_append, List.length_cons]
    have : (dbl b).length ≤ 2 := by unfold dbl; split <;> simp
    omega
end Go.Proofs.YtdfambocenohgaaGreatDoor

namespace Go.Proofs.YtdfambocenohgaaGreatDoor
set_option maxRecDepth 100000
open Go.RowKit Go.Deep
set_option linter.unusedVariables false
set_option linter.unusedSimpArgs false

def ofB (l : Bs) : ByteArray := ⟨l.toArray⟩
theorem ofB_list (l : Bs) : (ofB l).data.toList = l := rfl
theorem list_ofB (s : ByteArray) : ofB s.data.toList = s := by cases s; simp [ofB]
theorem eq_ofB {s : ByteArray} {l : Bs} (h : s.data.toList = l) : s = ofB l := by rw [← h, list_ofB]
def tokV (t : LTok) : Value := .agg #[.int .i64 t.kind, .string (ofB t.text), .int .i64 t.pos]
def MX (w : World) : Prop := ∃ m : Int, w.cell? ⟨3, 0, none⟩ = some (.int .i64 m)
theorem MX.lt {w : World} (h : MX w) : 3 < w.heap.size := by
  obtain ⟨m, h⟩ := h
  exact World.block_lt_of_cell? w _ h
theorem MX.below {w w' : World} {B : Nat} (h : MX w) (hB : 3 < B) (k : Below B w w') : MX w' := by
  obtain ⟨m, h⟩ := h
  exact ⟨m, by rw [World.cell?_of_block (w := w) (k.block 3 hB)]; exact h⟩
theorem clone_any (s : ByteArray) (w : World) (hlim : s.size ≤ 281474976710656) : Calls Tryz.prog 94 #[.string s] w fun e w' => e = .returned (.string s) ∧ Below w.heap.size w w' := by
  go_enter Tryz.func94, Tryz.ntmps94
  go_wp2_with (go_at_call 119; refine (Tryz.stringslite_Clone s _ hlim).mono ?_; rintro e w2 ⟨rfl, hb⟩)
  go_ret
  exact ⟨rfl, hb⟩
theorem freeOf {w : World} {b : Nat} {c : Array Value} {e : TypeId} (h : w.heap[b]? = some (.cells c e (0, 0))) (i : Nat) : w.frozen? ⟨b, i, none⟩ = false := by
  simp [World.frozen?, h]
theorem heap_set_at {w : World} {b : Nat} {c : Array Value} {e : TypeId} {f : Nat × Nat} (h : w.heap[b]? = some (.cells c e f)) (i : Nat) (u : Value) :
    (w.setCell ⟨b, i, none⟩ u).heap[b]? = some (.cells (c.setIfInBounds i u) e f) := by
  simp [World.setCell, Array.getElem?_modify, h]
def three (w : World) (b o : Nat) (x y z : Value) : World := ((w.setCell ⟨b, o, none⟩ x).setCell ⟨b, o + 1, none⟩ y).setCell ⟨b, o + 2, none⟩ z
theorem three_heap {w : World} {b : Nat} {p q r : Value} {e : TypeId} (h : w.heap[b]? = some (.cells #[p, q, r] e (0, 0))) (x y z : Value) : (three w b 0 x y z).heap[b]? = some (.cells #[x, y, z] e (0, 0)) := by
  unfold three
  exact heap_set_at (heap_set_at (heap_set_at h 0 x) 1 y) 2 z
theorem three_below {B : Nat} {w0 w : World} (hb : Below B w0 w) {b o : Nat} (hB : B ≤ b) (x y z : Value) : Below B w0 (three w b o x y z) := by
  unfold three
  exact ((hb.setCell hB _).setCell hB _).setCell hB _
theorem tokV_plain (k : Nat) (p : Bs) (at' : Nat) (h3 : ¬ k = 3) (h4 : ¬ k = 4) : tokText k p = p := by simp [tokText, h3, h4]

set_option maxRecDepth 100000 in
theorem token_plain (k : Nat) (s : ByteArray) (at' : Nat) (hk : k ≤ 5) (hs : s.size ≤ 4096) (h3 : ¬ k = 3) (h4 : ¬ k = 4) (w : World) :
    Calls Tryz.prog 151 #[.int .i64 (k : Int), .string s, .int .i64 (at' : Int)] w fun e w' => e = .returned (tokV ⟨k, tokText k s.data.toList, at'⟩) ∧ Below w.heap.size w w' := by
  have h3' : ¬ (k : Int) = 3 := by omega
  have h4' : ¬ (k : Int) = 4 := by omega
  have HT := hid (tokV_plain k s.data.toList at' h3 h4)
  clear h3 h4
  go_enter Tryz.func151, Tryz.ntmps151
  go_wp2_with (go_at_call 94; refine (clone_any s _ (by omega)).mono ?_; rintro e w2 ⟨rfl, hb⟩; have f := (hb.block w.heap.size (by simp)).trans (heap_alloc_new w _); have g0 := cellOf f 0; have g1 := cellOf f 1; have g2 := cellOf f 2; have F0 := freeOf f 0; have F1 := freeOf f 1; have F2 := freeOf f 2; have HF := hid f; clear f)
  have h3 := three_heap HF.out (.int .i64 k) (.string s) (.int .i64 at')
  have hbb : Below w.heap.size w (three w2 w.heap.size 0 (.int .i64 k) (.string s) (.int .i64 at')) := three_below (((Below.refl _ w).alloc (Nat.le_refl _) _).trans (hb.mono (by simp))) (Nat.le_refl _) _ _ _
  have z0 := cellOf h3 0
  have z1 := cellOf h3 1
  have z2 := cellOf h3 2
  clear h3
  simp only [three, Nat.zero_add] at z0 z1 z2 hbb
  refine bodyPost_ret (v := tokV ⟨k, tokText k s.data.toList, at'⟩) (by rw [HT.out]; simp [results, Tryz.results151, go_sem, z0, z1, z2, tokV, list_ofB]) rfl ⟨rfl, hbb⟩

theorem trim_any (x : ByteArray) (w : World) : Calls Tryz.prog 169 #[.string x, .string ⟨#[48]⟩] w fun e w' => ∃ q : ByteArray, e = .returned (.string q) ∧ q.data.toList = x.data.toList.dropWhile (· == 48) ∧ w' = w := by
  refine (Tryz.strings_TrimLeft_one x 48 (by decide) w).mono ?_
  rintro e w' ⟨rfl, rfl⟩
  exact ⟨_, rfl, rfl, rfl⟩
theorem cat_any (a b : ByteArray) (h : a.size + b.size ≤ 140737488355328) : ∃ q : ByteArray, (∀ w : World, (Op.stringOp .add a b).run Tryz.prog w = .ok (.string q) w) ∧ q.data.toList = a.data.toList ++ b.data.toList ∧ q.size = a.size + b.size :=
  ⟨a ++ b, fun w => run_string_add_sum w _ _ (by omega), by simp, ByteArray.size_append⟩
theorem dropWhile_le (p : UInt8 → Bool) : ∀ l : Bs, (l.dropWhile p).length ≤ l.length
  | [] => Nat.le_refl _
  | c :: t => by
    have := dropWhile_le p t
    simp only [List.dropWhile]
    split <;> simp <;> omega
theorem ext_size (s : ByteArray) (a b : Nat) (hb : b ≤ s.size) : (s.extract a b).size = b - a := by
  rw [Lib.size_eq, extract_toList, List.length_drop, List.length_take, ← Lib.size_eq]; omega

set_option maxRecDepth 100000 in
theorem token_int (s : ByteArray) (at' : Nat) (hs : s.size ≤ 4096) (h1 : 1 ≤ s.size) (w : World) :
    Calls Tryz.prog 151 #[.int .i64 3, .string s, .int .i64 (at' : Int)] w fun e w' => e = .returned (tokV ⟨3, tokText 3 s.data.toList, at'⟩) ∧ Below w.heap.size w w' := by
  have wr : IntKind.i64.wrap ((s.size : Int) - 1) = ((s.size - 1 : Nat) : Int) := by
    rw [show ((s.size : Int) - 1) = ((s.size - 1 : Nat) : Int) by omega]
    exact wrap_small _ (by omega) (by omega)
  have hsl1 : ∀ W, (Instr.slice 9 (.string s) none (some (.int .i64 ((s.size - 1 : Nat) : Int))) none).run Tryz.prog W = .ok (.string (s.extract 0 (s.size - 1))) W := fun W => by
    have : ((s.size - 1 : Nat) : Int) ≤ (s.size : Int) := by omega
    go_simp
  have hsl2 : ∀ W, (Instr.slice 9 (.string s) (some (.int .i64 ((s.size - 1 : Nat) : Int))) none none).run Tryz.prog W = .ok (.string (s.extract (s.size - 1) s.size)) W := fun W => by
    have : ((s.size - 1 : Nat) : Int) ≤ (s.size : Int) := by omega
    go_simp
  have H1 := hid h1
  have HS := hid hs
  clear h1 hs
  go_enter Tryz.func151, Tryz.ntmps151
  go_wp2
  go_region_held3 (fun _ => True) (first | trivial | go_keep) ((first
    | (go_at_call 169; (refine (trim_any _ _).mono ?_; rintro e w3 ⟨q, rfl, hq, rfl⟩; obtain ⟨q2, r2, hq2, hz2⟩ := cat_any q (s.extract (s.size - 1) s.size) (by have h5 := ext_size s (s.size - 1) s.size (Nat.le_refl _); have h6 := dropWhile_le (· == 48) (s.extract 0 (s.size - 1)).data.toList; rw [← hq, ← Lib.size_eq, ← Lib.size_eq] at h6; have h7 := ext_size s 0 (s.size - 1) (by omega); have := H1.out; have := HS.out; omega); have HQS : Hid (q.size + (s.extract (s.size - 1) s.size).size ≤ 4096) := hid (by have h5 := ext_size s (s.size - 1) s.size (Nat.le_refl _); have h6 := dropWhile_le (· == 48) (s.extract 0 (s.size - 1)).data.toList; rw [← hq, ← Lib.size_eq, ← Lib.size_eq] at h6; have h7 := ext_size s 0 (s.size - 1) (by omega); have := H1.out; have := HS.out; omega); have HQ := hid hq; have HQ2 := hid hq2; have HZ := hid hz2; clear hq hq2 hz2))))
  go_wp2_with (go_at_call 94; refine (clone_any q2 _ (by have := HZ.out; have := HQS.out; have := HS.out; omega)).mono ?_; rintro e w2 ⟨rfl, hb⟩; have f : w2.heap[w.heap.size]? = some (.cells #[.int .i64 0, .string ⟨#[]⟩, .int .i64 0] 171 (0, 0)) := (hb.block w.heap.size (by simp)).trans (heap_alloc_new w _); have g0 := cellOf f 0; have g1 := cellOf f 1; have g2 := cellOf f 2; have F0 := freeOf f 0; have F1 := freeOf f 1; have F2 := freeOf f 2; have HF := hid f; clear f)
  have h3 := three_heap HF.out (.int .i64 3) (.string q2) (.int .i64 at')
  have hbb : Below w.heap.size w (three w2 w.heap.size 0 (.int .i64 3) (.string q2) (.int .i64 at')) := three_below (((Below.refl _ w).alloc (Nat.le_refl _) _).drew.trans (hb.mono (by simp))) (Nat.le_refl _) _ _ _
  have z0 := cellOf h3 0
  have z1 := cellOf h3 1
  have z2 := cellOf h3 2
  clear h3
  simp only [three, Nat.zero_add] at z0 z1 z2 hbb
  refine bodyPost_ret (v := tokV ⟨3, tokText 3 s.data.toList, at'⟩) (by
    rw [show tokText 3 s.data.toList = q2.data.toList from by rw [HQ2.out, HQ.out, extract_toList, extract_toList, List.take_of_length_le (i := s.size) (by rw [← Lib.size_eq]; omega), List.drop_zero, tokText, if_pos rfl, ← Lib.size_eq]]
    simp [results, Tryz.results151, go_sem, z0, z1, z2, tokV, list_ofB]) rfl ⟨rfl, hbb⟩
theorem unq_len : ∀ (n : Nat) (l : Bs), l.length ≤ n → (unq l).length ≤ l.length
  | _, [], _ => Nat.le_refl _
  | _, [c], _ => Nat.le_refl _
  | 0, c :: d :: t, h => by simp at h
  | n + 1, c :: d :: t, h => by
    simp only [List.length_cons] at h
    unfold unq
    split
    · have := unq_len n t (by omega); simp; omega
    · have := unq_len n (d :: t) (by simp; omega); simp at this ⊢; omega
theorem unq_any (x : ByteArray) (w : World) (hx : x.size ≤ 4096) (hm : MX w) : Calls Tryz.prog 124 #[.string x, .string ⟨#[34, 34]⟩, .string ⟨#[34]⟩] w fun e w' => ∃ q : ByteArray, e = .returned (.string q) ∧ q.data.toList = unq x.data.toList ∧ Below w.heap.size w w' := by
  obtain ⟨m, hm⟩ := hm
  refine (Tryz.strings_ReplaceAll x ⟨#[34, 34]⟩ ⟨#[34]⟩ m w (by omega) hm (by decide) ?_).mono ?_
  · have := Lib.countB_le ⟨#[34, 34]⟩ (by decide) x.size x (Nat.le_refl _)
    have e : (⟨#[34]⟩ : ByteArray).size = 1 := rfl
    rw [e]; omega
  · rintro e w' ⟨rfl, h⟩
    exact ⟨_, rfl, by rw [show (ByteArray.mk #[34, 34]).data.toList = [34, 34] from rfl, show (ByteArray.mk #[34]).data.toList = [34] from rfl, replace_unq], h⟩
set_option maxRecDepth 100000 in
theorem token_text (s : ByteArray) (at' : Nat) (hs : s.size ≤ 4096) (h1 : 2 ≤ s.size) (w : World) (hm : MX w) :
    Calls Tryz.prog 151 #[.int .i64 4, .string s, .int .i64 (at' : Int)] w fun e w' => e = .returned (tokV ⟨4, tokText 4 s.data.toList, at'⟩) ∧ Below w.heap.size w w' := by
  have wr : IntKind.i64.wrap ((s.size : Int) - 1) = ((s.size - 1 : Nat) : Int) := by
    rw [show ((s.size : Int) - 1) = ((s.size - 1 : Nat) : Int) by omega]
    exact wrap_small _ (by omega) (by omega)
  have hsl1 : ∀ W, (Instr.slice 9 (.string s) (some (.int .i64 1)) (some (.int .i64 ((s.size - 1 : Nat) : Int))) none).run Tryz.prog W = .ok (.string (s.extract 1 (s.size - 1))) W := fun W => by
    have : ((s.size - 1 : Nat) : Int) ≤ (s.size : Int) := by omega
    have : (1 : Int) ≤ ((s.size - 1 : Nat) : Int) := by omega
    go_simp
  have H1 := hid h1
  have HS := hid hs
  have HM := hid hm
  clear h1 hs hm
  go_enter Tryz.func151, Tryz.ntmps151
  go_wp2_with (first
    | (go_at_call 124; (refine (unq_any _ _ (by have h5 := ext_size s 1 (s.size - 1) (by omega); have := HS.out; omega) (HM.out.below HM.out.lt ((Below.refl _ w).alloc (Nat.le_refl _) _))).mono ?_; rintro e w4 ⟨q2, rfl, hq, hb4⟩; have HQ := hid hq; have HB4 := hid hb4; have HZ : Hid (q2.size ≤ s.size) := hid (by have h5 := ext_size s 1 (s.size - 1) (by omega); have h6 := unq_len _ (s.extract 1 (s.size - 1)).data.toList (Nat.le_refl _); rw [← hq, ← Lib.size_eq, ← Lib.size_eq] at h6; omega); clear hq hb4))
    | (go_at_call 94; refine (clone_any q2 _ (by have := HZ.out; have := HS.out; omega)).mono ?_; rintro e w2 ⟨rfl, hb⟩; have f : w2.heap[w.heap.size]? = some (.cells #[.int .i64 0, .string ⟨#[]⟩, .int .i64 0] 171 (0, 0)) := (hb.block w.heap.size (by have := HB4.out.size; simp at this; omega)).trans ((HB4.out.block w.heap.size (by simp)).trans (heap_alloc_new w _)); have g0 := cellOf f 0; have g1 := cellOf f 1; have g2 := cellOf f 2; have F0 := freeOf f 0; have F1 := freeOf f 1; have F2 := freeOf f 2; have HF := hid f; clear f))
  have h3 := three_heap HF.out (.int .i64 4) (.string q2) (.int .i64 at')
  have hbb : Below w.heap.size w (three w2 w.heap.size 0 (.int .i64 4) (.string q2) (.int .i64 at')) := three_below ((((Below.refl _ w).alloc (Nat.le_refl _) _).trans (HB4.out.mono (by simp))).trans (hb.mono (by have := HB4.out.size; simp at this; omega))) (Nat.le_refl _) _ _ _
  have z0 := cellOf h3 0
  have z1 := cellOf h3 1
  have z2 := cellOf h3 2
  clear h3
  simp only [three, Nat.zero_add] at z0 z1 z2 hbb
  refine bodyPost_ret (v := tokV ⟨4, tokText 4 s.data.toList, at'⟩) (by
    rw [show tokText 4 s.data.toList = q2.data.toList from by rw [HQ.out, extract_toList, tokText, if_neg (by decide), if_pos rfl, ← Lib.size_eq]]
    simp [results, Tryz.results151, go_sem, z0, z1, z2, tokV, list_ofB]) rfl ⟨rfl, hbb⟩
end Go.Proofs.YtdfambocenohgaaGreatDoor

namespace Go.Proofs.YtdfambocenohgaaGreatDoor
set_option maxRecDepth 100000
open Go.RowKit Go.Deep
set_option linter.unusedVariables false
set_option linter.unusedSimpArgs false

theorem textF_one : ∀ (l : Bs) (n : Nat), textF false l = some n → 1 ≤ n
  | [], n, h => by simp [textF] at h
  | c :: t, n, h => by
    simp only [textF, Bool.false_eq_true, if_false, Bool.not_false] at h
    split at h
    · cases hx : textF true t with
      | none => rw [hx] at h; simp at h
      | some m => rw [hx] at h; simp at h; omega
    · cases hx : textF false t with
      | none => rw [hx] at h; simp at h
      | some m => rw [hx] at h; simp at h; omega
theorem textF_le : ∀ (l : Bs) (e : Bool) (n : Nat), textF e l = some n → n ≤ l.length
  | [], e, n, h => by cases e <;> simp [textF] at h <;> simp [← h]
  | c :: t, e, n, h => by
    simp only [textF] at h
    split at h
    · cases hx : textF (!e) t with
      | none => rw [hx] at h; simp at h
      | some m => rw [hx] at h; simp at h; have := textF_le t _ m hx; simp; omega
    · split at h
      · simp at h; simp [← h]
      · cases hx : textF false t with
        | none => rw [hx] at h; simp at h
        | some m => rw [hx] at h; simp at h; have := textF_le t _ m hx; simp; omega
theorem signF_le : ∀ l : Bs, signF l ≤ l.length
  | [] => Nat.le_refl _
  | [a] => by simp [signF]; split <;> omega
  | a :: b :: t => by simp [signF]; split <;> (try split) <;> omega
theorem runF_pos (p : UInt8 → Bool) (c : UInt8) (t : Bs) (h : p c = true) : 1 ≤ runF p (c :: t) := by simp [runF, h]
structure FirstOk (l : Bs) : Prop where
  k : (firstF l).1 ≤ 5
  n1 : 1 ≤ (firstF l).2.1
  n2 : (firstF l).2.1 ≤ l.length
  t2 : (firstF l).1 = 4 → 2 ≤ (firstF l).2.1
theorem first_ok (c : UInt8) (t : Bs) (h : (firstF (c :: t)).2.2 = 0) : FirstOk (c :: t) := by
  cases hc : isLt c
  · cases hd : isDg c
    · by_cases hq : c = 34
      · subst hq
        cases htx : textF false t with
        | none =>
          have e : firstF (34 :: t) = (0, 0, 52) := by unfold firstF; simp only; rw [if_neg (by decide), if_neg (by decide), if_pos trivial, htx]
          rw [e] at h; simp at h
        | some n =>
          have e : firstF (34 :: t) = (4, n + 1, 0) := by unfold firstF; simp only; rw [if_neg (by decide), if_neg (by decide), if_pos trivial, htx]
          have h1 := textF_one t n htx
          have h2 := textF_le t _ n htx
          constructor <;> rw [e] <;> simp <;> omega
      · by_cases hz : signF (c :: t) = 0
        · have e : firstF (c :: t) = (0, 0, 51) := by simp only [firstF, hc, hd, hq, hz, if_true, Bool.false_eq_true, if_false]
          rw [e] at h; simp at h
        · have e : firstF (c :: t) = (5, signF (c :: t), 0) := by simp only [firstF, hc, hd, hq, hz, if_true, Bool.false_eq_true, if_false]
          have := signF_le (c :: t)
          constructor <;> rw [e] <;> simp only <;> (try omega)
    · have e : firstF (c :: t) = (3, runF isDg (c :: t), 0) := by simp only [firstF, hc, hd, if_true, Bool.false_eq_true, if_false]
      have h1 := runF_pos isDg c t hd
      have h2 := runF_le isDg (c :: t)
      constructor <;> rw [e] <;> simp only <;> (try omega)
  · have e : firstF (c :: t) = (if isWd ((c :: t).take (runF isPt (c :: t))) then 2 else 1, runF isPt (c :: t), 0) := by simp only [firstF, hc, if_true]
    have h1 := runF_pos isPt c t (by unfold isPt; rw [hc]; rfl)
    have h2 := runF_le isPt (c :: t)
    constructor <;> rw [e] <;> simp only <;> (try split) <;> (try omega)

theorem token_any (k : Nat) (s : ByteArray) (at' : Nat) (hk : k ≤ 5) (hs : s.size ≤ 4096) (h1 : 1 ≤ s.size) (h2 : k = 4 → 2 ≤ s.size) (w : World) (hm : MX w) :
    Calls Tryz.prog 151 #[.int .i64 (k : Int), .string s, .int .i64 (at' : Int)] w fun e w' => e = .returned (tokV ⟨k, tokText k s.data.toList, at'⟩) ∧ Below w.heap.size w w' := by
  by_cases h3 : k = 3
  · subst h3; exact token_int s at' hs h1 w
  · by_cases h4 : k = 4
    · subst h4; exact token_text s at' hs (h2 rfl) w hm
    · exact token_plain k s at' hk hs h3 h4 w

def LTok.cs (t : LTok) : List Value := [.int .i64 t.kind, .string (ofB t.text), .int .i64 t.pos]
def tvv (ts : List LTok) : List Value := ts.flatMap LTok.cs
theorem tvv_length (hs : List LTok) : (tvv hs).length = hs.length * 3 := by
  induction hs with
  | nil => rfl
  | cons h r ih => simp [tvv, LTok.cs] at ih ⊢; omega
theorem tvv_snoc (hs : List LTok) (h : LTok) : tvv (hs ++ [h]) = tvv hs ++ h.cs := by simp [tvv]
theorem tvv_at (hs : List LTok) : ∀ (j : Nat) (h : LTok), hs[j]? = some h → ∀ i, i < 3 → (tvv hs)[j * 3 + i]? = h.cs[i]? := by
  induction hs with
  | nil => intro j h e; simp at e
  | cons x r ih =>
    intro j h e i hi
    have hx : (LTok.cs x).length = 3 := rfl
    cases j with
    | zero =>
      simp at e; subst e
      simp only [tvv, List.flatMap_cons]
      rw [List.getElem?_append_left (by omega)]
      simp
    | succ j =>
      simp at e
      simp only [tvv, List.flatMap_cons]
      rw [List.getElem?_append_right (by omega), hx, show (j + 1) * 3 + i - 3 = j * 3 + i from by omega]
      exact ih j h e i hi
def TRow (w : World) (B : Nat) (v : Value) (ts : List LTok) : Prop := w.ownsRow B 171 3 v ts.length (tvv ts)
theorem TRow.nil (w : World) (B : Nat) : TRow w B (.slice none 0 0) [] := World.ownsRow_nil w B 171 3
theorem TRow.own {w B v hs} (h : TRow w B v hs) : ∀ k, v.ownBlock = some k → B ≤ k ∧ k < w.heap.size := World.ownsRow.lt h
theorem TRow.same {w w' : World} {B v xs} (h : TRow w B v xs) (e : ∀ g, v.ownBlock = some g → w'.heap[g]? = w.heap[g]?) : TRow w' B v xs := by
  refine ⟨h.1, ?_⟩
  rcases h.2 with hn | ⟨g, cap, cur, rfl, hb, hgg, rest⟩
  · exact .inl hn
  · exact .inr ⟨g, cap, cur, rfl, hb, (e g rfl).trans hgg, rest⟩
theorem TRow.cells {w : World} {B v xs g} (h : TRow w B v xs) (e : v.ownBlock = some g) : ∃ cur, w.heap[g]? = some (.cells cur 171 (0, 0)) := by
  rcases h.2 with ⟨rfl, _⟩ | ⟨g', cap, cur, rfl, hb, hgg, rest⟩
  · cases e
  · cases e; exact ⟨cur, hgg⟩
theorem TRow.below {w w' : World} {B C v xs} (h : TRow w B v xs) (hC : w.heap.size ≤ C) (k : Below C w w') : TRow w' B v xs :=
  h.same fun g e => k.block g (by have := (h.own g e).2; omega)
theorem TRow.mono {w : World} {B C v xs} (h : TRow w B v xs) (hC : C ≤ B) : TRow w C v xs := by
  refine ⟨h.1, ?_⟩
  rcases h.2 with hn | ⟨g, cap, cur, rfl, hb, rest⟩
  · exact .inl hn
  · exact .inr ⟨g, cap, cur, rfl, by omega, rest⟩
theorem TRow.form {w B v xs} (h : TRow w B v xs) : ∃ a cap, v = .slice a xs.length cap ∧ xs.length ≤ cap := by
  rcases h.2 with ⟨rfl, hn⟩ | ⟨g, cap, cur, rfl, hb, hgg, hc, rest⟩
  · exact ⟨none, 0, by rw [hn], by omega⟩
  · exact ⟨_, _, rfl, hc⟩
theorem TRow.iterAt {w : World} {B v xs k} {s : ByteArray} {pos : Nat} (h : TRow w B v xs) (hk : w.heap[k]? = some (.stringIter s pos)) (pos' : Nat) : TRow (w.iterAt k s pos') B v xs :=
  h.same fun g e => by
    obtain ⟨cur, hc⟩ := h.cells e
    have : g ≠ k := by rintro rfl; rw [hk] at hc; cases hc
    simp [World.iterAt, Array.getElem?_setIfInBounds, Ne.symm this]
/- What a slice of tokens reads. -/
def TRd (w : World) (a : Option Addr) (ts : List LTok) : Prop := ∀ (j : Nat) (h : LTok), ts[j]? = some h → ∃ b off, a = some ⟨b, off, none⟩ ∧ ∀ i, i < 3 → w.cell? ⟨b, off + j * 3 + i, none⟩ = h.cs[i]?
theorem TRow.rd {w : World} {B a n cap hs} (h : TRow w B (.slice a n cap) hs) : TRd w a hs := by
  intro j x hx
  rcases h.2 with ⟨e, hn⟩ | ⟨g, cap', cur, e, hb, hgg, hc, hm, hs', ht⟩
  · have : hs = [] := List.eq_nil_of_length_eq_zero hn
    subst this; simp at hx
  · cases e
    refine ⟨g, 0, rfl, fun i hi => ?_⟩
    have hv := tvv_at hs j x hx i hi
    have hj : j < hs.length := (List.getElem?_eq_some_iff.1 hx).1
    rw [← hv, Nat.zero_add]
    have hlt : j * 3 + i < (tvv hs).length := by rw [tvv_length]; omega
    obtain ⟨u, hu⟩ : ∃ u, (tvv hs)[j * 3 + i]? = some u := ⟨_, List.getElem?_eq_getElem hlt⟩
    have := World.ownsRow.cells h (g := g) rfl _ u hu
    rw [Addr.add_lit, Nat.zero_add] at this
    rw [this, hu]
theorem TRd.below {w w' : World} {a hs B} (h : TRd w a hs) (hB : w.heap.size ≤ B) (k : Below B w w') : TRd w' a hs := by
  intro j x hx
  obtain ⟨b, off, rfl, hc⟩ := h j x hx
  refine ⟨b, off, rfl, fun i hi => ?_⟩
  have h0 := hc 0 (by omega)
  have hb : b < w.heap.size := World.block_lt_of_cell? w _ (h0.trans (show x.cs[0]? = some (.int .i64 x.kind) from rfl))
  rw [World.cell?_of_block (w := w) (k.block b (by omega))]
  exact hc i hi
def zeroTV : Value := .agg #[.int .i64 0, .string ⟨#[]⟩, .int .i64 0]
theorem info36 : (Tryz.prog.info? 171).map (fun i => (i.zero, i.size, i.bytes)) = some (some zeroTV, 3, 32) := by kernel_rfl
theorem cs_one (h : LTok) : ∀ u ∈ h.cs, u.oneCell' = true := by
  intro u hu
  simp only [LTok.cs, List.mem_cons, List.mem_nil_iff, or_false] at hu
  rcases hu with rfl | rfl | rfl <;> rfl
/- Between w and w' nothing old has turned but v's own row; and the row is v's still, or new. -/
def Grw (w : World) (v : Value) (w' : World) (v' : Value) : Prop := w.grownBy w' v.ownBlock ∧ (v'.ownBlock = v.ownBlock ∨ ∃ g, v'.ownBlock = some g ∧ w.heap.size ≤ g)
theorem Grw.old {w w' : World} {v v' : Value} (h : Grw w v w' v') {j : Nat} (hj : j < w.heap.size) (hne : some j ≠ v.ownBlock) : w'.heap[j]? = w.heap[j]? := h.1.block j hj hne
theorem run_appT (w : World) (ty : TypeId) (B : Nat) (v : Value) (hs : List LTok) (h : LTok) (g : Nat) (hr : TRow w B v hs) (hg : w.heap[g]? = some (.cells h.cs.toArray 171 (0, 0))) (hB : B ≤ w.heap.size) (hl : hs.length ≤ 1000000) :
    ∃ v' w', (Builtin.append_ #[167, 167] ty #[v, .slice (some ⟨g, 0, none⟩) 1 1]).run Tryz.prog w = .ok v' w' ∧ TRow w' B v' (hs ++ [h]) ∧ Grw w v w' v' := by
  obtain ⟨i0, hi, hz0, hz1, hz2⟩ := info_parts info36
  obtain ⟨v', w', hrun, hown, hgr, _, hat⟩ := run_append_own_at (P := Tryz.prog) w B 167 ty 171 i0 zeroTV 3 32 Tryz.underlying167 hi hz0 hz1 hz2 rfl (by decide) v hs.length (tvv hs) hr ⟨g, 0, none⟩ 1 1 h.cs rfl (by
    intro j u hu
    exact World.news_of_block hg j u (by simpa using hu)) (cs_one h) (by unfold maxLen; omega) (by omega) hB
  refine ⟨v', w', hrun, ?_, hgr, ?_⟩
  · unfold TRow
    rw [tvv_snoc, List.length_append]
    exact hown
  · rcases hat with hat | hat
    · exact .inl hat
    · exact .inr ⟨_, hat, Nat.le_refl _⟩
end Go.Proofs.YtdfambocenohgaaGreatDoor

namespace Go.Proofs.YtdfambocenohgaaGreatDoor
set_option maxRecDepth 100000
set_option linter.unusedVariables false
set_option linter.unusedSimpArgs false

def catE (a : List LTok) : Except (Nat × Nat) (List LTok) → Except (Nat × Nat) (List LTok)
  | .ok ts => .ok (a ++ ts)
  | .error e => .error e
theorem catE_nil (x : Except (Nat × Nat) (List LTok)) : catE [] x = x := by cases x <;> rfl
theorem lexG_skip : ∀ (n k at' : Nat) (l : Bs), n ≤ k → n ≤ l.length → lexG k at' l = lexG (k - n) (at' + n) (l.drop n)
  | 0, k, at', l, _, _ => by simp
  | n + 1, k, at', [], _, h => by simp at h
  | n + 1, 0, at', c :: t, h, _ => by omega
  | n + 1, k + 1, at', c :: t, h, h2 => by
    rw [lexG, lexG_skip n k (at' + 1) t (by omega) (by simpa using h2)]
    simp only [List.drop_succ_cons]
    congr 1
    · omega
    · omega
def Good (L : Bs) (pos behind : Nat) : Prop := behind ≤ pos ∨ (∀ c, L[behind]? = some c → c.toNat < 128) ∨ (∃ c, L[behind - 1]? = some c ∧ c.toNat < 128)
theorem Good.mono {L : Bs} {pos behind q : Nat} (h : Good L pos behind) (hq : pos ≤ q) : Good L q behind := by
  rcases h with h | h
  · exact .inl (by omega)
  · exact .inr h
theorem Good.step {L : Bs} {pos behind r wd : Nat} (R : Rune L pos r wd) (h : Good L pos behind) (hb : pos < behind) : pos + wd ≤ behind := by
  obtain ⟨c, e, hd⟩ := R.at
  by_cases hc : c.toNat < 128
  · have := (R.low c e hc).2; omega
  · have hall := R.all c e (by omega)
    have hf := R.fit
    rcases Nat.lt_or_ge behind (pos + wd) with hlt | hge
    · exfalso
      rcases h with h | h | ⟨d, h1, h2⟩
      · omega
      · have hx : behind < L.length := by omega
        have h1 := h L[behind] (List.getElem?_eq_getElem hx)
        have h2 := hall (behind - pos) L[behind] (by omega) (by rw [show pos + (behind - pos) = behind by omega]; exact List.getElem?_eq_getElem hx)
        omega
      · have h3 := hall (behind - 1 - pos) d (by omega) (by rw [show pos + (behind - 1 - pos) = behind - 1 by omega]; exact h1)
        omega
    · exact hge
theorem runF_stop (p : UInt8 → Bool) : ∀ (l : Bs) (c : UInt8), l[runF p l]? = some c → p c = false
  | [], c, h => by simp at h
  | d :: t, c, h => by
    cases hd : p d
    · simp only [runF, hd, Bool.false_eq_true, if_false] at h
      simp at h; subst h; exact hd
    · simp only [runF, hd, if_true] at h
      simp at h
      exact runF_stop p t c h
theorem runF_in (p : UInt8 → Bool) : ∀ (l : Bs) (k : Nat) (c : UInt8), k < runF p l → l[k]? = some c → p c = true
  | [], k, c, h, e => by simp at e
  | d :: t, k, c, h, e => by
    cases hd : p d
    · simp [runF, hd] at h
    · simp only [runF, hd, if_true] at h
      cases k with
      | zero => simp at e; subst e; exact hd
      | succ k => simp at e; exact runF_in p t k c (by omega) e
theorem textF_last : ∀ (l : Bs) (e : Bool) (n : Nat), textF e l = some n → (n = 0 ∧ e = true) ∨ (1 ≤ n ∧ l[n - 1]? = some 34)
  | [], e, n, h => by cases e <;> simp [textF] at h <;> exact .inl ⟨h.symm, rfl⟩
  | c :: t, e, n, h => by
    simp only [textF] at h
    split at h
    · rename_i hc
      cases hx : textF (!e) t with
      | none => rw [hx] at h; simp at h
      | some m =>
        rw [hx] at h; simp at h; subst h
        refine .inr ⟨by omega, ?_⟩
        rcases textF_last t _ m hx with ⟨rfl, _⟩ | ⟨h1, h2⟩
        · simp [hc]
        · rw [show m + 1 - 1 = (m - 1) + 1 by omega]; simpa using h2
    · split at h
      · rename_i he; simp at h; exact .inl ⟨h.symm, he⟩
      · cases hx : textF false t with
        | none => rw [hx] at h; simp at h
        | some m =>
          rw [hx] at h; simp at h; subst h
          refine .inr ⟨by omega, ?_⟩
          rcases textF_last t _ m hx with ⟨_, h2⟩ | ⟨h1, h2⟩
          · cases h2
          · rw [show m + 1 - 1 = (m - 1) + 1 by omega]; simpa using h2
theorem isLt_low {c : UInt8} (h : isLt c = true) : c.toNat < 128 := by unfold isLt at h; simp at h; omega
theorem isDg_low {c : UInt8} (h : isDg c = true) : c.toNat < 128 := by unfold isDg at h; simp at h; omega
theorem isPt_low {c : UInt8} (h : isPt c = true) : c.toNat < 128 := by
  unfold isPt at h
  rcases Bool.or_eq_true _ _ ▸ h with h | h
  · exact isLt_low h
  · exact isDg_low h
theorem sg1_low {c : UInt8} (h : sg1 c = true) : c.toNat < 128 := by
  unfold sg1 sg1s at h
  rw [List.contains_iff_mem] at h
  simp only [List.mem_cons, List.mem_nil_iff, or_false] at h
  rcases h with rfl | rfl | rfl | rfl | rfl | rfl | rfl | rfl | rfl | rfl | rfl | rfl | rfl | rfl | rfl | rfl | rfl | rfl | rfl <;> decide
theorem sg2_low {a b : UInt8} (h : sg2 a b = true) : a.toNat < 128 ∧ b.toNat < 128 := by
  rw [sg2_iff] at h
  simp only [sg2L, List.mem_cons, List.mem_nil_iff, or_false, List.cons.injEq, and_true] at h
  rcases h with ⟨rfl, rfl⟩ | ⟨rfl, rfl⟩ | ⟨rfl, rfl⟩ | ⟨rfl, rfl⟩ | ⟨rfl, rfl⟩ | ⟨rfl, rfl⟩ | ⟨rfl, rfl⟩ | ⟨rfl, rfl⟩ <;> decide
theorem signF_low : ∀ l : Bs, signF l ≠ 0 → (∃ c, l[0]? = some c ∧ c.toNat < 128) ∧ (∃ c, l[signF l - 1]? = some c ∧ c.toNat < 128)
  | [], h => absurd rfl h
  | [a], h => by
    simp only [signF] at h ⊢
    split at h
    · rename_i ha; rw [if_pos ha]; exact ⟨⟨a, rfl, sg1_low ha⟩, ⟨a, rfl, sg1_low ha⟩⟩
    · exact absurd rfl h
  | a :: b :: t, h => by
    simp only [signF] at h ⊢
    split at h
    · rename_i ha; rw [if_pos ha]; exact ⟨⟨a, rfl, (sg2_low ha).1⟩, ⟨b, rfl, (sg2_low ha).2⟩⟩
    · rename_i ha
      rw [if_neg ha]
      split at h
      · rename_i hb; rw [if_pos hb]; exact ⟨⟨a, rfl, sg1_low hb⟩, ⟨a, rfl, sg1_low hb⟩⟩
      · exact absurd rfl h
/- A token begins and ends with a byte below 128. -/
theorem first_low (c : UInt8) (t : Bs) (h : (firstF (c :: t)).2.2 = 0) : c.toNat < 128 ∧ ∃ d, (c :: t)[(firstF (c :: t)).2.1 - 1]? = some d ∧ d.toNat < 128 := by
  have ok := first_ok c t h
  cases hc : isLt c
  · cases hd : isDg c
    · by_cases hq : c = 34
      · subst hq
        refine ⟨by decide, ?_⟩
        cases htx : textF false t with
        | none =>
          have e : firstF (34 :: t) = (0, 0, 52) := by unfold firstF; simp only; rw [if_neg (by decide), if_neg (by decide), if_pos trivial, htx]
          rw [e] at h; simp at h
        | some n =>
          have e : firstF (34 :: t) = (4, n + 1, 0) := by unfold firstF; simp only; rw [if_neg (by decide), if_neg (by decide), if_pos trivial, htx]
          rw [e]
          rcases textF_last t _ n htx with ⟨_, h2⟩ | ⟨h1, h2⟩
          · cases h2
          · exact ⟨34, by simp only; rw [show n + 1 - 1 = (n - 1) + 1 by omega]; simpa using h2, by decide⟩
      · by_cases hz : signF (c :: t) = 0
        · have e : firstF (c :: t) = (0, 0, 51) := by simp only [firstF, hc, hd, hq, hz, if_true, Bool.false_eq_true, if_false]
          rw [e] at h; simp at h
        · have e : firstF (c :: t) = (5, signF (c :: t), 0) := by simp only [firstF, hc, hd, hq, hz, if_true, Bool.false_eq_true, if_false]
          rw [e]
          obtain ⟨⟨d, h1, h2⟩, h3⟩ := signF_low (c :: t) hz
          simp at h1; subst h1
          exact ⟨h2, h3⟩
    · have e : firstF (c :: t) = (3, runF isDg (c :: t), 0) := by simp only [firstF, hc, hd, if_true, Bool.false_eq_true, if_false]
      rw [e]
      have h1 := runF_pos isDg c t hd
      have h2 := runF_le isDg (c :: t)
      refine ⟨isDg_low hd, _, List.getElem?_eq_getElem (show runF isDg (c :: t) - 1 < (c :: t).length by omega), ?_⟩
      exact isDg_low (runF_in isDg (c :: t) (runF isDg (c :: t) - 1) _ (by omega) (List.getElem?_eq_getElem _))
  · have e : firstF (c :: t) = (if isWd ((c :: t).take (runF isPt (c :: t))) then 2 else 1, runF isPt (c :: t), 0) := by simp only [firstF, hc, if_true]
    rw [e]
    have h1 := runF_pos isPt c t (by unfold isPt; rw [hc]; rfl)
    have h2 := runF_le isPt (c :: t)
    refine ⟨isLt_low hc, _, List.getElem?_eq_getElem (show runF isPt (c :: t) - 1 < (c :: t).length by omega), ?_⟩
    exact isPt_low (runF_in isPt (c :: t) (runF isPt (c :: t) - 1) _ (by omega) (List.getElem?_eq_getElem _))
end Go.Proofs.YtdfambocenohgaaGreatDoor

