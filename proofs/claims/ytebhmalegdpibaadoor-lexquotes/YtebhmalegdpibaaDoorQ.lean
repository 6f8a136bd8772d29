/- LexQuotes: the walk. -/
import Derived.Test.YtebhmalegdpibaaDoorP
namespace Go.Proofs.YtebhmalegdpibaaDoor
open Go.RowKit Go.Deep
set_option linter.unusedVariables false
set_option linter.unusedSimpArgs false

theorem quote_q (s : ByteArray) (hs : s.size ≤ 100000) (w : World) (hm : MX w) : Calls Tryd.prog 18 #[.string s] w fun e w' => ∃ q : ByteArray, e = .returned (.string q) ∧ q.data.toList = quoB s.data.toList ∧ Below w.heap.size w w' := by
  refine (quote_any s hs w hm).mono ?_
  rintro e w' ⟨rfl, hb⟩
  exact ⟨_, rfl, rfl, hb⟩
theorem quo_size (s q : ByteArray) (n : Nat) (hq : q.data.toList = quoB s.data.toList) (hs : s.size ≤ 1500) (hn : n ≤ 100) :
    (ofB (List.replicate n 32)).size + q.size ≤ 140737488355328 ∧ (ofB (List.replicate n 32)).size + q.size + (⟨#[32, 120]⟩ : ByteArray).size ≤ 140737488355328 ∧ (ofB (List.replicate n 32)).size + q.size + (⟨#[34]⟩ : ByteArray).size ≤ 140737488355328 := by
  have h1 : q.size = (quoB s.data.toList).length := by rw [Lib.size_eq, hq]
  have h2 := quoB_len s.data.toList
  have h3 := dbl_len s.data.toList
  rw [← Lib.size_eq] at h3
  rw [ofB_size, List.length_replicate, h1, h2]
  have e1 : (⟨#[32, 120]⟩ : ByteArray).size = 2 := rfl
  have e2 : (⟨#[34]⟩ : ByteArray).size = 1 := rfl
  omega
set_option maxRecDepth 100000 in
set_option maxHeartbeats 1000000 in
theorem quotes_go (s : ByteArray) (ah : Int) (w : World) (hm : MX w) : Calls Tryd.prog 6 #[.string s, .int .i64 ah] w fun e w' => e = .returned (.bool true) ∧ Below w.heap.size w w' := by
  have HM := hid hm
  have ck := known_any w hm
  clear hm
  by_cases h1 : 1500 < s.size
  · have h1' : (1500 : Int) < (s.size : Int) := by omega
    go_enter Tryd.func6, Tryd.ntmps6
    go_wp2_with (go_at_call 9; refine ck.mono ?_; rintro e w1 ⟨rfl, hb1⟩)
    go_ret
    exact ⟨rfl, hb1⟩
  · have h1' : ¬ (1500 : Int) < (s.size : Int) := by omega
    by_cases h2 : ah < 0
    · go_enter Tryd.func6, Tryd.ntmps6
      go_wp2_with (go_at_call 9; refine ck.mono ?_; rintro e w1 ⟨rfl, hb1⟩)
      go_ret
      exact ⟨rfl, hb1⟩
    · by_cases h3 : 100 < ah
      · go_enter Tryd.func6, Tryd.ntmps6
        go_wp2_with (go_at_call 9; refine ck.mono ?_; rintro e w1 ⟨rfl, hb1⟩)
        go_ret
        exact ⟨rfl, hb1⟩
      · obtain ⟨n, rfl⟩ : ∃ n : Nat, ah = n := ⟨ah.toNat, by omega⟩
        have hn : n ≤ 100 := by omega
        have Hn := hid hn
        have HS : Hid (s.size ≤ 1500) := hid (by omega)
        have HQ1 := hid (quo_one s.data.toList n (by rw [← Lib.size_eq]; omega) hn)
        have HQ2 := hid (quo_open s.data.toList n (by rw [← Lib.size_eq]; omega) hn)
        go_enter Tryd.func6, Tryd.ntmps6
        go_wp2_with (go_at_call 9; refine ck.mono ?_; rintro e w1 ⟨rfl, hb1⟩)
        have HB1 := hid hb1
        go_loopg [5, 6] n (fun g t ii wr => ∃ i : Nat, i + g = n ∧ t = .string (ofB (List.replicate i 32)) ∧ ii = .int .i64 (i : Int) ∧ wr = w1)
        case atStart => exact ⟨0, by omega, rfl, rfl, rfl⟩
        case round =>
          obtain ⟨i, hi, rfl, rfl, rfl⟩ := hrel
          cases gk with
          | succ g =>
            have hlt : (i : Int) < (n : Int) := by omega
            obtain ⟨q1, r1, e1, z1⟩ := cat_any (ofB (List.replicate i 32)) ⟨#[32]⟩ (by rw [ofB_size, List.length_replicate]; have e : (⟨#[32]⟩ : ByteArray).size = 1 := rfl; omega)
            have hq1 : q1 = ofB (List.replicate (i + 1) 32) := eq_ofB (by rw [e1, ofB_list, List.replicate_succ'])
            have Hq := hid hq1
            have Hi := hid hi
            clear e1 z1 hq1 hi
            go_wp2
            go_roundg g
            case measure => omega
            case rel => exact ⟨i + 1, by have := Hi.out; omega, by rw [Hq.out], by go_num, rfl⟩
          | zero =>
            have hin : i = n := by omega
            subst hin
            clear hi
            have HMW := hid (HM.out.below HM.out.lt HB1.out)
            go_wp2_with (first
              | (go_at_call 18; refine (quote_q s (by have := HS.out; omega) _ HMW.out).mono ?_; rintro e w2 ⟨q, rfl, hq, hb2⟩; obtain ⟨q1, r1, e1, z1⟩ := cat_any (ofB (List.replicate i 32)) q (quo_size s q i hq HS.out Hn.out).1; obtain ⟨q2, r2, e2, z2⟩ := cat_any q1 ⟨#[32, 120]⟩ (by rw [z1]; exact (quo_size s q i hq HS.out Hn.out).2.1); obtain ⟨q3, r3, e3, z3⟩ := cat_any q1 ⟨#[34]⟩ (by rw [z1]; exact (quo_size s q i hq HS.out Hn.out).2.2); have c2 := hid (fun (W : World) (h : MX W) => tokens_ok q2 (by rw [z2, z1]; exact Nat.le_trans (quo_size s q i hq HS.out Hn.out).2.1 (by decide)) _ (by rw [e2, e1, ofB_list, hq]; exact HQ1.out) W h); have c3 := hid (fun (W : World) (h : MX W) => tokens_err q3 (by rw [z3, z1]; exact Nat.le_trans (quo_size s q i hq HS.out Hn.out).2.2 (by decide)) _ (by rw [e3, e1, ofB_list, hq]; exact HQ2.out) W h); clear e1 e2 e3 z1 z2 z3 hq)
              | (go_at_call 10; have hno := hb3; clear hno; refine (c3.out _ ((HMW.out.below HMW.out.lt hb2).below (Nat.lt_of_lt_of_le HMW.out.lt hb2.size) hb3)).mono ?_; rintro e w4 ⟨rfl, hb4⟩)
              | (go_at_call 10; refine (c2.out _ (HMW.out.below HMW.out.lt hb2)).mono ?_; rintro e w3 ⟨b, cap, rfl, hrd, hB, hlt, hb3⟩; obtain ⟨b', o', eb, hc⟩ := hrd 0 _ rfl; cases eb; have g0 : w3.cell? ⟨b, 0, none⟩ = some (.int .i64 4) := hc 0 (by omega); have g1 : w3.cell? ⟨b, 1, none⟩ = some (.string (ofB s.data.toList)) := hc 1 (by omega); have g2 : w3.cell? ⟨b, 2, none⟩ = some (.int .i64 (i : Int)) := hc 2 (by omega); obtain ⟨b', o', eb, hd⟩ := hrd 1 _ rfl; cases eb; have g3 : w3.cell? ⟨b, 4, none⟩ = some (.string ⟨#[120]⟩) := hd 1 (by omega); rw [list_ofB] at g1; clear hc hd hrd))
            go_ret
            exact ⟨rfl, ((HB1.out.trans (hb2.mono HB1.out.size)).trans (hb3.mono (Nat.le_trans HB1.out.size hb2.size))).trans (hb4.mono (Nat.le_trans HB1.out.size (Nat.le_trans hb2.size hb3.size)))⟩
end Go.Proofs.YtebhmalegdpibaaDoor
