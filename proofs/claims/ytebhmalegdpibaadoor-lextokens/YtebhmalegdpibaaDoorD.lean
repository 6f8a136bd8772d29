/- A note's size, a text's size. -/
import Derived.Test.YtebhmalegdpibaaDoorC
namespace Go.Proofs.YtebhmalegdpibaaDoor
open Go.RowKit Go.Deep
set_option linter.unusedVariables false
set_option linter.unusedSimpArgs false

theorem eq10 (c : UInt8) : (!decide ((c.toNat : Int) = 10)) = !(c == 10) := by
  congr 1
  rw [Bool.eq_iff_iff]
  simp only [decide_eq_true_eq, beq_iff_eq]
  constructor
  · intro h
    exact UInt8.toNat_inj.1 (show c.toNat = 10 from by omega)
  · rintro rfl; rfl
theorem c34 (c : UInt8) : (c = 34) ↔ c.toNat = 34 := by
  constructor
  · rintro rfl; rfl
  · intro h
    exact UInt8.toNat_inj.1 (by simpa using h)
theorem enters33 : ∀ args w, (callFunc 33 args).run Tryd.prog w = .ok (.enter 33 args) w := enters_of Tryd.func33 (by kernel_rfl) rfl
theorem noteSize_any (s : ByteArray) (hs : s.size ≤ 9223372036854775807) (w : World) : Calls Tryd.prog 21 #[.string s] w fun e w' => e = .returned (.int .i64 (noteF s.data.toList : Nat)) ∧ Below w.heap.size w w' := by
  have h := run_any s 33 #[] (fun r => !decide (r = 10)) hs (fun a b ha hb => by simp; omega) enters33 (fun r w => notNl_any r w)
  have e : (fun c : UInt8 => !decide ((c.toNat : Int) = 10)) = fun c => !(c == 10) := funext eq10
  rw [e] at h
  go_enter Tryd.func21, Tryd.ntmps21
  go_wp2_with (go_at_call 32; refine (h _).mono ?_; rintro e w2 ⟨rfl, hb⟩)
  go_ret
  exact ⟨rfl, hb⟩

theorem textF_skip : ∀ (n : Nat) (l : Bs), n ≤ l.length → (∀ k c, k < n → l[k]? = some c → ¬ c = 34) → textF false l = (textF false (l.drop n)).map (· + n)
  | 0, l, _, _ => by simp
  | n + 1, [], h, _ => by simp at h
  | n + 1, c :: t, h, hc => by
    have h0 := hc 0 c (by omega) rfl
    have := textF_skip n t (by simpa using h) (fun k d hk e => hc (k + 1) d (by omega) e)
    simp only [textF, h0, if_false, this, List.drop_succ_cons, Bool.false_eq_true]
    cases textF false (t.drop n) <;> simp
    omega
theorem textF_step {l : Bs} {pos r wd : Nat} (R : Rune l pos r wd) (e : Bool) :
    (r = 34 → wd = 1 ∧ textF e (l.drop pos) = (textF (!e) (l.drop (pos + wd))).map (· + 1)) ∧ (¬ r = 34 → e = true → textF e (l.drop pos) = some 0) ∧
      (¬ r = 34 → e = false → textF e (l.drop pos) = (textF false (l.drop (pos + wd))).map (· + wd)) := by
  obtain ⟨c, ec, hd⟩ := R.at
  have hc : r = 34 ↔ c = 34 := by
    rw [c34]
    by_cases h : c.toNat < 128
    · rw [(R.low c ec h).1]
    · have := R.high c ec (by omega); constructor <;> intro <;> omega
  refine ⟨fun h => ?_, fun h1 h2 => ?_, fun h1 h2 => ?_⟩
  · have hw := (R.low c ec (by rw [hc.1 h]; decide)).2
    refine ⟨hw, ?_⟩
    rw [hd, hw]
    simp [textF, hc.1 h]
  · rw [hd]
    have h3 : ¬ c = 34 := fun h => h1 (hc.2 h)
    simp [textF, h3, h2]
  · subst h2
    rw [textF_skip wd (l.drop pos) (by rw [List.length_drop]; have := R.fit; omega) ?_, List.drop_drop]
    intro k d hk ek
    rw [List.getElem?_drop] at ek
    by_cases h : c.toNat < 128
    · have := (R.low c ec h).2
      have hk0 : k = 0 := by omega
      subst hk0
      rw [Nat.add_zero, ec] at ek; cases ek
      exact fun h => h1 (hc.2 h)
    · have := R.all c ec (by omega) k d hk ek
      rw [c34]; omega

def tsz (t : Bs) : Value := match textF false t with | some n => .tuple #[.int .i64 ((n : Int) + 1), .bool true] | none => .tuple #[.int .i64 ((t.length : Int) + 1), .bool false]
theorem extract_toList (s : ByteArray) (a b : Nat) : (s.extract a b).data.toList = (s.data.toList.take b).drop a := by
  rw [Lib.extract_data]; simp [List.drop_take]
theorem textSize_any (s : ByteArray) (hs : s.size ≤ 9223372036854775807) (h1 : 1 ≤ s.size) (w : World) : Calls Tryd.prog 38 #[.string s] w fun e w' => e = .returned (tsz (s.data.toList.drop 1)) ∧ Below w.heap.size w w' := by
  have hx : (s.extract 1 s.size).data.toList = s.data.toList.drop 1 := by rw [extract_toList, List.take_of_length_le (by rw [← Lib.size_eq]; omega)]
  have hxs : (s.extract 1 s.size).size = s.size - 1 := by rw [Lib.size_eq, hx, List.length_drop, ← Lib.size_eq]
  have hlen : (s.data.toList.drop 1).length = s.size - 1 := by rw [List.length_drop, ← Lib.size_eq]
  obtain ⟨T, hT⟩ : ∃ T, s.data.toList.drop 1 = T := ⟨_, rfl⟩
  rw [hT] at hx hlen ⊢
  have HT := hid hx
  have HL := hid hlen
  clear hx hT hlen
  have hz : (1 : Int) ≤ (s.size : Int) := by omega
  go_enter Tryd.func38, Tryd.ntmps38
  go_wp2
  obtain ⟨t, ht⟩ : ∃ t, s.extract 1 s.size = t := ⟨_, rfl⟩
  simp only [ht] at *
  go_loopg [4] t.size (fun gf e wx => ∃ (pos : Nat) (b : Bool), e = .bool b ∧ wx.heap[w.heap.size]? = some (.stringIter t pos) ∧ Below w.heap.size w wx ∧ (textF b (t.data.toList.drop pos)).map (· + pos) = textF false t.data.toList ∧ t.size ≤ pos + gf ∧ pos ≤ t.size)
  case atStart => exact ⟨0, false, rfl, World.iter_heap w t 0, (Below.refl _ w).alloc (Nat.le_refl _) _, by simp, by omega, by omega⟩
  case round =>
    obtain ⟨pos, b, rfl, hit, hbw, hleft, hfu, hle⟩ := hrel
    by_cases hps : pos < t.size
    · obtain ⟨g', rfl⟩ : ∃ g', gk = g' + 1 := ⟨gk - 1, by omega⟩
      have hnx : ∀ ty, (Instr.next (.pointer (some ⟨w.heap.size, 0, none⟩)) true ty).run Tryd.prog wr = _ := fun ty => Lib.run_next_any_at wr w.heap.size t pos ty hit hps
      have hR := rune_at t pos hps
      obtain ⟨R, hRe⟩ : ∃ R, (Utf8.decode t pos).1 = R := ⟨_, rfl⟩
      obtain ⟨K, hK⟩ : ∃ K, (Utf8.decode t pos).2 = K := ⟨_, rfl⟩
      rw [hRe, hK] at hnx hR
      have hit2 := Lib.iterAt_heap wr w.heap.size t pos (pos + K) hit
      have hbw2 := Lib.below_iterAt hbw (k := w.heap.size) (Nat.le_refl _) t (pos + K)
      obtain ⟨W, hWd⟩ : ∃ W, wr.iterAt w.heap.size t (pos + K) = W := ⟨_, rfl⟩
      rw [hWd] at hnx hit2 hbw2
      have hst := textF_step hR b
      have h1' := hR.one
      have h2 := hR.fit
      rw [← Lib.size_eq] at h2
      have HX := hid hleft
      have HS := hid hst
      clear hR hst hleft
      by_cases hr : R = 34
      · have hr' : (R : Int) = 34 := by omega
        have HR := hid hr
        clear hr
        go_wp2
        go_roundg g'
        case measure => omega
        case rel =>
          have h3 := HS.out.1 HR.out
          have h4 := HX.out
          rw [h3.2] at h4
          refine ⟨pos + K, !b, by simp, hit2, hbw2, ?_, by omega, by omega⟩
          rw [← h4, Option.map_map]
          congr 1
          funext x
          simp
          omega
      · have hr' : ¬ (R : Int) = 34 := by omega
        have HR := hid hr
        clear hr
        cases b
        · go_wp2
          go_roundg g'
          case measure => omega
          case rel =>
            have h3 := HS.out.2.2 HR.out (by trivial)
            have h4 := HX.out
            rw [h3] at h4
            refine ⟨pos + K, false, by simp, hit2, hbw2, ?_, by omega, by omega⟩
            rw [← h4, Option.map_map]
            congr 1
            funext x
            simp
            omega
        · go_wp2
          refine bodyPost_ret (v := .tuple #[.int .i64 ((pos : Int) + 1), .bool true]) (by simp [results, Tryd.results38, go_sem]; try omega) rfl ?_
          have h3 := HS.out.2.1 HR.out (by trivial)
          have h4 := HX.out
          rw [h3, HT.out] at h4
          refine ⟨?_, hbw2⟩
          unfold tsz
          rw [← h4]
          simp
    · have hnx : ∀ ty, (Instr.next (.pointer (some ⟨w.heap.size, 0, none⟩)) true ty).run Tryd.prog wr = _ := fun ty => Lib.run_next_end_at wr w.heap.size t pos ty hit hps
      have HX := hid hleft
      have : pos = t.size := by omega
      have hn : t.data.toList.drop pos = [] := List.drop_eq_nil_of_le (by rw [← Lib.size_eq]; omega)
      have HN := hid hn
      have HP := hid this
      clear hleft hn this
      go_wp2
      refine bodyPost_ret (v := .tuple #[.int .i64 (s.size : Int), .bool b]) (by simp [results, Tryd.results38, go_sem]; try omega) rfl ?_
      refine ⟨?_, hbw⟩
      have h4 := HX.out
      rw [HN.out, HT.out] at h4
      unfold tsz
      rw [← h4, HL.out]
      have := HP.out
      cases b <;> simp [textF] <;> omega
end Go.Proofs.YtebhmalegdpibaaDoor
