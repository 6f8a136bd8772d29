/- The first token: digits, texts, signs. -/
import Derived.Test.YtebhmalegdpibaaDoorH
namespace Go.Proofs.YtebhmalegdpibaaDoor
open Go.RowKit Go.Deep
set_option linter.unusedVariables false
set_option linter.unusedSimpArgs false

set_option maxRecDepth 100000 in
theorem first_digit (s : ByteArray) (c : UInt8) (t : Bs) (r : Int) (hs : s.size ≤ 4096) (hl : s.data.toList = c :: t) (hr : RunC c r) (hc : isLt c = false) (hd : isDg c = true) (w : World) :
    Calls Tryd.prog 22 #[.string s, .int .i32 r] w fun e w' => e = .returned (frV (firstF (c :: t))) ∧ Below w.heap.size w w' := by
  have c1 := isLetter_any r w
  rw [ltI_run hr, hc] at c1
  have c3 := isDigit_any r w
  rw [dgI_run hr, hd] at c3
  have c2 := run_digit s (by omega) w
  rw [hl] at c2
  have hf : firstF (c :: t) = (3, runF isDg (c :: t), 0) := by simp only [firstF, hc, hd, if_true, Bool.false_eq_true, if_false]
  obtain ⟨n, hn⟩ : ∃ n, runF isDg (c :: t) = n := ⟨_, rfl⟩
  rw [hn] at c2 hf
  have HF := hid hf
  clear hf hl hn
  go_enter Tryd.func22, Tryd.ntmps22
  go_wp2_with (first | (go_at_call 34; refine c1.mono ?_; rintro e w ⟨rfl, rfl⟩) | (go_at_call 37; refine c3.mono ?_; rintro e w ⟨rfl, rfl⟩) | (go_at_call 32; refine c2.mono ?_; rintro e w2 ⟨rfl, hb⟩))
  refine bodyPost_ret (v := frV (firstF (c :: t))) (by rw [HF.out]; simp [results, Tryd.results22, go_sem, frV]) rfl ⟨rfl, hb⟩
set_option maxRecDepth 100000 in
theorem first_text (s : ByteArray) (c : UInt8) (t : Bs) (r : Int) (hs : s.size ≤ 4096) (hl : s.data.toList = c :: t) (hr : RunC c r) (hc : isLt c = false) (hd : isDg c = false) (hq : c = 34) (w : World) :
    Calls Tryd.prog 22 #[.string s, .int .i32 r] w fun e w' => e = .returned (frV (firstF (c :: t))) ∧ Below w.heap.size w w' := by
  have c1 := isLetter_any r w
  rw [ltI_run hr, hc] at c1
  have c3 := isDigit_any r w
  rw [dgI_run hr, hd] at c3
  have hr34 : r = 34 := by have := (eq_run hr 34 (by decide)).2 hq; simpa using this
  have c2 := textSize_any s (by omega) (by rw [Lib.size_eq, hl]; simp) w
  rw [hl, List.drop_succ_cons, List.drop_zero] at c2
  unfold tsz at c2
  have hf : firstF (c :: t) = (match textF false t with | some n => (4, n + 1, 0) | none => (0, 0, 52)) := by unfold firstF; simp only; rw [if_neg (by simp [hc]), if_neg (by simp [hd]), if_pos hq]; cases textF false t <;> rfl
  subst hr34
  cases htx : textF false t with
  | none =>
    rw [htx] at c2 hf
    simp only at c2 hf
    have HF := hid hf
    clear hf hl htx
    go_enter Tryd.func22, Tryd.ntmps22
    go_wp2_with (first | (go_at_call 34; refine c1.mono ?_; rintro e w ⟨rfl, rfl⟩) | (go_at_call 37; refine c3.mono ?_; rintro e w ⟨rfl, rfl⟩) | (go_at_call 38; refine c2.mono ?_; rintro e w2 ⟨rfl, hb⟩))
    refine bodyPost_ret (v := frV (firstF (c :: t))) (by rw [HF.out]; simp [results, Tryd.results22, go_sem, frV]) rfl ⟨rfl, hb⟩
  | some n =>
    rw [htx] at c2 hf
    simp only at c2 hf
    have HF := hid hf
    clear hf hl htx
    go_enter Tryd.func22, Tryd.ntmps22
    go_wp2_with (first | (go_at_call 34; refine c1.mono ?_; rintro e w ⟨rfl, rfl⟩) | (go_at_call 37; refine c3.mono ?_; rintro e w ⟨rfl, rfl⟩) | (go_at_call 38; refine c2.mono ?_; rintro e w2 ⟨rfl, hb⟩))
    refine bodyPost_ret (v := frV (firstF (c :: t))) (by rw [HF.out]; simp [results, Tryd.results22, go_sem, frV]) rfl ⟨rfl, hb⟩
set_option maxRecDepth 100000 in
theorem first_sign (s : ByteArray) (c : UInt8) (t : Bs) (r : Int) (hs : s.size ≤ 4096) (hl : s.data.toList = c :: t) (hr : RunC c r) (hc : isLt c = false) (hd : isDg c = false) (hq : ¬ c = 34) (w : World) :
    Calls Tryd.prog 22 #[.string s, .int .i32 r] w fun e w' => e = .returned (frV (firstF (c :: t))) ∧ Below w.heap.size w w' := by
  have c1 := isLetter_any r w
  rw [ltI_run hr, hc] at c1
  have c3 := isDigit_any r w
  rw [dgI_run hr, hd] at c3
  have hr34 : ¬ r = 34 := fun e => hq ((eq_run hr 34 (by decide)).1 (by simpa using e))
  have c2 := signSize_any s c t hl w
  have hf : firstF (c :: t) = (if signF (c :: t) = 0 then (0, 0, 51) else (5, signF (c :: t), 0)) := by simp only [firstF, hc, hd, hq, if_true, Bool.false_eq_true, if_false]
  obtain ⟨n, hn⟩ : ∃ n, signF (c :: t) = n := ⟨_, rfl⟩
  rw [hn] at c2 hf
  by_cases hz : n = 0
  · rw [if_pos hz] at hf
    subst hz
    have HF := hid hf
    clear hf hl hn
    go_enter Tryd.func22, Tryd.ntmps22
    go_wp2_with (first | (go_at_call 34; refine c1.mono ?_; rintro e w ⟨rfl, rfl⟩) | (go_at_call 37; refine c3.mono ?_; rintro e w ⟨rfl, rfl⟩) | (go_at_call 39; refine c2.mono ?_; rintro e w2 ⟨rfl, hb⟩))
    refine bodyPost_ret (v := frV (firstF (c :: t))) (by rw [HF.out]; simp [results, Tryd.results22, go_sem, frV]) rfl ⟨rfl, hb⟩
  · rw [if_neg hz] at hf
    have hz' : ¬ (n : Int) = 0 := by omega
    have HF := hid hf
    clear hf hl hn hz
    go_enter Tryd.func22, Tryd.ntmps22
    go_wp2_with (first | (go_at_call 34; refine c1.mono ?_; rintro e w ⟨rfl, rfl⟩) | (go_at_call 37; refine c3.mono ?_; rintro e w ⟨rfl, rfl⟩) | (go_at_call 39; refine c2.mono ?_; rintro e w2 ⟨rfl, hb⟩))
    refine bodyPost_ret (v := frV (firstF (c :: t))) (by rw [HF.out]; simp [results, Tryd.results22, go_sem, frV]) rfl ⟨rfl, hb⟩
theorem first_any (s : ByteArray) (c : UInt8) (t : Bs) (r : Int) (hs : s.size ≤ 4096) (hl : s.data.toList = c :: t) (hr : RunC c r) (w : World) :
    Calls Tryd.prog 22 #[.string s, .int .i32 r] w fun e w' => e = .returned (frV (firstF (c :: t))) ∧ Below w.heap.size w w' := by
  cases hc : isLt c
  · cases hd : isDg c
    · by_cases hq : c = 34
      · exact first_text s c t r hs hl hr hc hd hq w
      · exact first_sign s c t r hs hl hr hc hd hq w
    · exact first_digit s c t r hs hl hr hc hd w
  · exact first_letter s c t r hs hl hr hc w
end Go.Proofs.YtebhmalegdpibaaDoor
