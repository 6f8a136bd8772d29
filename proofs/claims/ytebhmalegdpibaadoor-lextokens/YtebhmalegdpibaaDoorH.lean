/- The first token's kind and size. -/
import Derived.Test.YtebhmalegdpibaaDoorG
import Derived.Deep.RegionHeld3
namespace Go.Proofs.YtebhmalegdpibaaDoor
open Go.RowKit Go.Deep
set_option linter.unusedVariables false
set_option linter.unusedSimpArgs false

theorem ltI_nat (c : UInt8) : ltI (c.toNat : Int) = isLt c := by
  unfold ltI isLt
  rw [Bool.eq_iff_iff]; simp; omega
theorem dgI_nat (c : UInt8) : dgI (c.toNat : Int) = isDg c := by
  unfold dgI isDg
  rw [Bool.eq_iff_iff]; simp; omega
theorem ptI_nat (c : UInt8) : ptI (c.toNat : Int) = isPt c := by unfold ptI isPt; rw [ltI_nat, dgI_nat]
/- r is the rune that begins with c. -/
def RunC (c : UInt8) (r : Int) : Prop := (c.toNat < 128 → r = c.toNat) ∧ (128 ≤ c.toNat → 128 ≤ r)
theorem ltI_run {c : UInt8} {r : Int} (h : RunC c r) : ltI r = isLt c := by
  by_cases hc : c.toNat < 128
  · rw [h.1 hc, ltI_nat]
  · have := h.2 (by omega)
    unfold ltI isLt
    rw [Bool.eq_iff_iff]; simp; omega
theorem dgI_run {c : UInt8} {r : Int} (h : RunC c r) : dgI r = isDg c := by
  by_cases hc : c.toNat < 128
  · rw [h.1 hc, dgI_nat]
  · have := h.2 (by omega)
    unfold dgI isDg
    rw [Bool.eq_iff_iff]; simp; omega
theorem eq_run {c : UInt8} {r : Int} (h : RunC c r) (k : UInt8) (hk : k.toNat < 128) : r = (k.toNat : Int) ↔ c = k := by
  by_cases hc : c.toNat < 128
  · rw [h.1 hc, ← UInt8.toNat_inj]; omega
  · have := h.2 (by omega)
    rw [← UInt8.toNat_inj]; omega
theorem hi_lt (a : Int) (h : 128 ≤ a) : ltI a = false := by unfold ltI; simp; omega
theorem hi_dg (a : Int) (h : 128 ≤ a) : dgI a = false := by unfold dgI; simp; omega
theorem enters35 : ∀ args w, (callFunc 35 args).run Tryd.prog w = .ok (.enter 35 args) w := enters_of Tryd.func35 (by kernel_rfl) rfl
theorem enters37 : ∀ args w, (callFunc 37 args).run Tryd.prog w = .ok (.enter 37 args) w := enters_of Tryd.func37 (by kernel_rfl) rfl
theorem run_part (s : ByteArray) (hs : s.size ≤ 9223372036854775807) (w : World) : Calls Tryd.prog 32 #[.string s, .func (.func 35) #[] #[]] w fun e w' => e = .returned (.int .i64 (runF isPt s.data.toList : Nat)) ∧ Below w.heap.size w w' := by
  have h := run_any s 35 #[] ptI hs (fun a b ha hb => by unfold ptI; rw [hi_lt a ha, hi_lt b hb, hi_dg a ha, hi_dg b hb]) enters35 (fun r w => isPart_any r w) w
  rw [show (fun c : UInt8 => ptI c.toNat) = isPt from funext ptI_nat] at h
  exact h
theorem run_digit (s : ByteArray) (hs : s.size ≤ 9223372036854775807) (w : World) : Calls Tryd.prog 32 #[.string s, .func (.func 37) #[] #[]] w fun e w' => e = .returned (.int .i64 (runF isDg s.data.toList : Nat)) ∧ Below w.heap.size w w' := by
  have h := run_any s 37 #[] dgI hs (fun a b ha hb => by rw [hi_dg a ha, hi_dg b hb]) enters37 (fun r w => isDigit_any r w) w
  rw [show (fun c : UInt8 => dgI c.toNat) = isDg from funext dgI_nat] at h
  exact h
theorem words_mem (x : ByteArray) : Lib.containsS (wordsS.take 29) x = isWd x.data.toList := by
  unfold isWd
  rw [Bool.eq_iff_iff, Lib.containsS_iff, show wordsS.take 29 = wordsS from rfl, List.contains_iff_mem]
  unfold wordsS
  rw [List.mem_map]
  constructor
  · rintro ⟨l, hl, rfl⟩; simpa using hl
  · intro h; exact ⟨_, h, by cases x; simp⟩
theorem words_cells (w : World) (b : Nat) (hb : w.heap[b]? = some (.cells wordsV 9 (0, 0))) : ∀ j, j < wordsS.length → w.cell? ⟨b, 0 + j, none⟩ = some (.string (wordsS.getD j ByteArray.empty)) := by
  intro j hj
  rw [Nat.zero_add, cellOf hb j]
  simp only [wordsV, List.getElem?_toArray, List.getElem?_map, List.getD_eq_getElem?_getD, List.getElem?_eq_getElem hj]
  rfl
theorem contains_words (w : World) (b : Nat) (hb : w.heap[b]? = some (.cells wordsV 9 (0, 0))) (x : ByteArray) : Calls Tryd.prog 36 #[.slice (some ⟨b, 0, none⟩) 29 29, .string x] w fun e w' => e = .returned (.bool (isWd x.data.toList)) ∧ w' = w := by
  have h := Tryd.slices_Contains_string b 0 29 29 wordsS x w (by decide) (by decide) (words_cells w b hb)
  rw [words_mem] at h
  exact h
def frV (x : Nat × Nat × Nat) : Value := .tuple #[.int .i64 x.1, .int .i64 x.2.1, .int .i64 x.2.2]

set_option maxRecDepth 100000 in
theorem first_letter (s : ByteArray) (c : UInt8) (t : Bs) (r : Int) (hs : s.size ≤ 4096) (hl : s.data.toList = c :: t) (hr : RunC c r) (hc : isLt c = true) (w : World) :
    Calls Tryd.prog 22 #[.string s, .int .i32 r] w fun e w' => e = .returned (frV (firstF (c :: t))) ∧ Below w.heap.size w w' := by
  have c1 := isLetter_any r w
  rw [ltI_run hr, hc] at c1
  have c2 := run_part s (by omega) w
  rw [hl] at c2
  have hle : runF isPt (c :: t) ≤ s.size := by rw [Lib.size_eq, hl]; exact runF_le _ _
  have hf : firstF (c :: t) = (if isWd ((c :: t).take (runF isPt (c :: t))) then 2 else 1, runF isPt (c :: t), 0) := by simp only [firstF, hc, if_true]
  obtain ⟨n, hn⟩ : ∃ n, runF isPt (c :: t) = n := ⟨_, rfl⟩
  rw [hn] at c2 hle hf
  have HW := hid contains_words
  have hle' : (n : Int) ≤ (s.size : Int) := by omega
  have HF := hid hf
  have HL := hid hl
  clear hf hl hn
  go_enter Tryd.func22, Tryd.ntmps22
  go_wp2_with (first | (go_at_call 34; refine c1.mono ?_; rintro e w ⟨rfl, rfl⟩) | (go_at_call 32; refine c2.mono ?_; rintro e w2 ⟨rfl, hb⟩))
  go_region_held3 (fun _ => True) (first | trivial | go_keep) ((first
    | (go_at_call 14; (refine (words_any _).mono ?_; rintro e w3 ⟨rfl, rfl⟩))
    | (go_at_call 36; (refine (HW.out _ _ (by exact heap_alloc_new w2 _) _).mono ?_; rintro e w4 ⟨rfl, rfl⟩))))
  cases hwd : isWd (List.take n s.data.toList)
  all_goals
    go_wp2
    refine bodyPost_ret (v := frV (firstF (c :: t))) (by rw [HF.out, ← HL.out]; simp [results, Tryd.results22, go_sem, frV, hwd]) rfl ⟨rfl, (hb.alloc (by exact hb.size) _).drew⟩
end Go.Proofs.YtebhmalegdpibaaDoor
