/- The parser: enter, leave, maybe, want, small, great. -/
import Derived.Test.YtcnohgifihbkdaaGreatDoorJAB
namespace Go.Proofs.YtcnohgifihbkdaaGreatDoor
open Go.RowKit Go.Deep Go.Shelf
set_option linter.unusedVariables false
set_option linter.unusedSimpArgs false
set_option maxRecDepth 100000
theorem bd_ok {α β : Type} {x : Pr α} {f : α → Pr β} {s s' : PS} {a : α} (h : x s = .ok (a, s')) : bd x f s = f a s' := by unfold bd; rw [h]
theorem bd_err {α β : Type} {x : Pr α} {f : α → Pr β} {s : PS} {e : Flt} (h : x s = .error e) : bd x f s = .error e := by unfold bd; rw [h]
set_option maxHeartbeats 1000000 in
theorem isSmall_any (w : World) (P D : Nat) (s : PS) (HP : Pst w P D s) : Calls Tryz.prog 113 #[.pointer (some ⟨P, 0, none⟩)] w fun e w' => e = .returned (.bool (isSmall s)) ∧ Below w.heap.size w w' := by
  have K := hid (next_any w P D s HP)
  have KG := hid (fun (V : World) (hV : Pst V P D s) => isGreat_any V P D s hV)
  unfold tokV at K
  unfold isSmall
  by_cases hk : (nxt s).kind = 1
  · rw [hk] at K ⊢
    go_enter Tryz.func113, Tryz.ntmps113
    go_wp2_with (first
      | (go_at_call 41; (refine (Hid.out K).mono ?_; rintro e w1 ⟨rfl, hb⟩; have HB := hid hb; have HP1 := HP.below hb; clear hb))
      | (go_at_call 108; (refine (Hid.out KG _ HP1).mono ?_; rintro e w2 ⟨rfl, hb⟩; have HB2 := hid hb; clear hb)))
    go_ret
    exact ⟨by simp, HB.out.trans (HB2.out.mono HB.out.size)⟩
  · have hk2 : ((nxt s).kind == 1) = false := by simp [hk]
    rw [hk2]
    go_enter Tryz.func113, Tryz.ntmps113
    go_wp2_with (first
      | (go_at_call 41; (refine (Hid.out K).mono ?_; rintro e w1 ⟨rfl, hb⟩; have HB := hid hb; have HP1 := HP.below hb; clear hb))
      | (go_at_call 108; (refine (Hid.out KG _ HP1).mono ?_; rintro e w2 ⟨rfl, hb⟩; have HB2 := hid hb; clear hb)))
    go_ret
    exact ⟨by simp, HB.out⟩
set_option maxHeartbeats 1000000 in
theorem leave_any (w : World) (P D : Nat) (s : PS) (HP : Pst w P D s) : Calls Tryz.prog 151 #[.pointer (some ⟨P, 0, none⟩)] w (Rt RU P D w (leave s)) := by
  obtain ⟨g, off, n, c, hP, hg, c0, c1, c2, f0, f1, f2, hn, n0, n1, nc, t0, t1, t2⟩ := HP.open
  have FIN := hid (HP.opn (wrap64 (s.opn - 1)))
  clear hn
  go_enter Tryz.func151, Tryz.ntmps151
  go_wp2
  exact ⟨rfl, .tuple #[], by simp [results, Tryz.results151, go_sem], Rt.ok (a := ()) (s' := { s with opn := wrap64 (s.opn - 1) }) rfl rfl FIN.out (grown_set _ _ _ _)⟩
set_option maxHeartbeats 1000000 in
theorem enter_any (w : World) (P D : Nat) (s : PS) (HP : Pst w P D s) (HK : (nxt s).kind ≠ 0) : Calls Tryz.prog 150 #[.pointer (some ⟨P, 0, none⟩)] w (Rt RT P D w (enter s)) := by
  have H := hid (show enter s = bd take (fun t s => if s.opn = 40 then .error (t.pos, 71) else .ok (t, { s with opn := wrap64 (s.opn + 1) })) s from rfl)
  have HG := World.grownBy.refl w (some P)
  have hPw := HP.lt
  have hD := HP.dw
  have hPD := HP.pd
  have t0 := True.intro
  go_enter Tryz.func150, Tryz.ntmps150
  go_wp2_with (first
    | (have hno := t0; (go_at_call 75; (refine (take_any _ _ _ _ (by with_reducible repeat first | exact HP | apply pA | refine pS (by omega) ?_) HK).mono ?_; intro e w1 hrt; rcases hrt.go (W := w) (by with_reducible repeat first | exact HG | apply gA | apply gB | refine gS (by omega) ?_) with ⟨f, hx, rfl, hg⟩ | ⟨a, s1, v, hx, rfl, hv, HP, hGw1, HG, hcw1, hfw1, hzw1, hPw1⟩; exact ⟨rfl, Rt.err (H.out.trans (bd_err hx)) hg⟩; (have hv2 : v = tokV a := hv; subst hv2; unfold tokV); have H := hid (H.out.trans (bd_ok hx)); (try simp only [szA, szS] at hzw1); have hleww1 := le1 w w1 (by omega); (try have hltww1 := lt1 w w1 (by omega)); have t1 := True.intro; obtain ⟨g', off, n, c, hP', hg', c0, c1, c2, f0, f1, f2, hn, n0, n1, nc, u0, u1, u2⟩ := HP.open; (try clear hn); have hneP0 : ¬ w.heap.size = P := (by omega); have hneP1 : ¬ w1.heap.size = P := (by omega); have HPO := HP.opn (wrap64 (s1.opn + 1)); skip; by_cases h40 : s1.opn = 40; (try clear hg hs))))
    )
  · exact ⟨rfl, Rt.err (H.out.trans (if_pos h40)) (by with_reducible repeat first | exact HG | apply gA | apply gB | refine gS (by omega) ?_)⟩
  · refine ret3 Tryz.results150 rfl (by repeat (first | (with_reducible apply Bx.put3) | (with_reducible apply Box.alloc) | ((with_reducible refine Box.set ?_ ?_); rotate_left; omega) | ((with_reducible refine Bx.new _ _ _ ?_); rfl) | (with_reducible apply Bx.alloc) | (with_reducible apply Bx.set) | ((with_reducible refine Bx.call hGw1 ?_ ?_); omega))) rfl (Rt.ok (H.out.trans (if_neg h40)) rfl ?_ (by with_reducible repeat first | exact HG | apply gA | apply gB | refine gS (by omega) ?_))
    clear HP
    have HP := HPO
    exact (by with_reducible repeat first | exact HP | apply pA | refine pS (by omega) ?_)
theorem isS_k {q : Bsq} {s : PS} (h : isS q s = true) : (nxt s).kind ≠ 0 := by
  unfold isS at h
  intro e
  rw [e] at h
  simp at h
theorem isG_kind {s : PS} (h : isGreat s = true) : (nxt s).kind ≠ 0 := by
  unfold isGreat at h
  intro e
  rw [e] at h
  simp at h
theorem isM_kind {s : PS} (h : isSmall s = true) : (nxt s).kind ≠ 0 := by
  unfold isSmall at h
  intro e
  rw [e] at h
  simp at h
set_option maxHeartbeats 1000000 in
theorem maybe_any (w : World) (P D : Nat) (s : PS) (q : Bsq) (HP : Pst w P D s) : Calls Tryz.prog 85 #[.pointer (some ⟨P, 0, none⟩), .string (bs q)] w (Rt RB P D w (maybe q s)) := by
  have HG := World.grownBy.refl w (some P)
  have hPw := HP.lt
  have hD := HP.dw
  have hPD := HP.pd
  have t0 := True.intro
  have KI := hid (is_any w P D s q HP)
  by_cases hq : isS q s = true
  · have H := hid (show maybe q s = bd take (fun _ => ret true) s by unfold maybe; rw [if_pos hq])
    have HK := isS_k hq
    simp only [hq] at KI
    go_enter Tryz.func85, Tryz.ntmps85
    go_wp2_with (first
      | (have hno := t1; (go_at_call 75; (refine (take_any _ _ _ _ (by with_reducible repeat first | exact HP | apply pA | refine pS (by omega) ?_) HK).mono ?_; intro e w2 hrt; rcases hrt.go (W := w) (by with_reducible repeat first | exact HG | apply gA | apply gB | refine gS (by omega) ?_) with ⟨f, hx, rfl, hg⟩ | ⟨a, s1, v, hx, rfl, hv, HP, hGw2, HG, hcw2, hfw2, hzw2, hPw2⟩; exact ⟨rfl, Rt.err (H.out.trans (bd_err hx)) hg⟩; (have hv2 : v = tokV a := hv; subst hv2; unfold tokV); have H := hid (H.out.trans (bd_ok hx)); (try simp only [szA, szS] at hzw2); have hleww2 := le1 w w2 (by omega); (try have hltww2 := lt1 w w2 (by omega)); have hlew1w2 := le1 w1 w2 (by omega); (try have hltw1w2 := lt1 w1 w2 (by omega)); have t2 := True.intro)))
      | (have hno := t0; (go_at_call 42; (refine (KI.out).mono ?_; rintro e w1 ⟨rfl, hb⟩; have hg := bgrown hb (some P); have hs := Pst.below (by with_reducible repeat first | exact HP | apply pA | refine pS (by omega) ?_) hb; obtain ⟨hcw1, hfw1⟩ := gcell hg; have hzw1 := hg.size; (try simp only [szA, szS] at hzw1); have hPw1 := hs.lt; have hleww1 := le1 w w1 (by omega); (try have hltww1 := lt1 w w1 (by omega)); have HG := gtrans (by with_reducible repeat first | exact HG | apply gA | apply gB | refine gS (by omega) ?_) hg; have HP := hs; have hGw1 := hg; have t1 := True.intro; (try clear hg hs)))))
    go_ret
    exact Rt.ok H.out rfl HP HG
  · have hq : isS q s = false := by simpa using hq
    have H : maybe q s = .ok (false, s) := by unfold maybe; rw [if_neg (by rw [hq]; decide)]
    have H := hid H
    simp only [hq] at KI
    go_enter Tryz.func85, Tryz.ntmps85
    go_wp2_with ((have hno := t0; (go_at_call 42; (refine (KI.out).mono ?_; rintro e w1 ⟨rfl, hb⟩; have hg := bgrown hb (some P); have hs := Pst.below (by with_reducible repeat first | exact HP | apply pA | refine pS (by omega) ?_) hb; obtain ⟨hcw1, hfw1⟩ := gcell hg; have hzw1 := hg.size; (try simp only [szA, szS] at hzw1); have hPw1 := hs.lt; have hleww1 := le1 w w1 (by omega); (try have hltww1 := lt1 w w1 (by omega)); have HG := gtrans (by with_reducible repeat first | exact HG | apply gA | apply gB | refine gS (by omega) ?_) hg; have HP := hs; have hGw1 := hg; have t1 := True.intro; (try clear hg hs)))))
    go_ret
    exact Rt.ok H.out rfl HP HG
set_option maxHeartbeats 1000000 in
theorem want_any (w : World) (P D : Nat) (s : PS) (q : Bsq) (HP : Pst w P D s) : Calls Tryz.prog 80 #[.pointer (some ⟨P, 0, none⟩), .string (bs q)] w (Rt RU P D w (want q s)) := by
  have H := hid (show want q s = bd (maybe q) (fun b => if b = true then ret () else wrong) s from rfl)
  have HG := World.grownBy.refl w (some P)
  have hPw := HP.lt
  have hD := HP.dw
  have hPD := HP.pd
  have t0 := True.intro
  go_enter Tryz.func80, Tryz.ntmps80
  go_wp2_with (first
    | (have hno := t1; (go_at_call 48; (refine (wrong_any _ _ _ _ (by with_reducible repeat first | exact HP | apply pA | refine pS (by omega) ?_)).mono ?_; rintro e w2 ⟨rfl, hb⟩; have hg := bgrown hb (some P); have hs := Pst.below (by with_reducible repeat first | exact HP | apply pA | refine pS (by omega) ?_) hb; obtain ⟨hcw2, hfw2⟩ := gcell hg; have hzw2 := hg.size; (try simp only [szA, szS] at hzw2); have hPw2 := hs.lt; have hleww2 := le1 w w2 (by omega); (try have hltww2 := lt1 w w2 (by omega)); have hlew1w2 := le1 w1 w2 (by omega); (try have hltw1w2 := lt1 w1 w2 (by omega)); have HG := gtrans (by with_reducible repeat first | exact HG | apply gA | apply gB | refine gS (by omega) ?_) hg; have HP := hs; have hGw2 := hg; have t2 := True.intro; (try clear hg hs))))
    | (have hno := t0; (go_at_call 85; (refine (maybe_any _ _ _ _ _ (by with_reducible repeat first | exact HP | apply pA | refine pS (by omega) ?_)).mono ?_; intro e w1 hrt; rcases hrt.go (W := w) (by with_reducible repeat first | exact HG | apply gA | apply gB | refine gS (by omega) ?_) with ⟨f, hx, rfl, hg⟩ | ⟨a, s1, v, hx, rfl, hv, HP, hGw1, HG, hcw1, hfw1, hzw1, hPw1⟩; exact ⟨rfl, Rt.err (H.out.trans (bd_err hx)) hg⟩; (have hv2 : v = .bool a := hv; subst hv2); have H := hid (H.out.trans (bd_ok hx)); (try simp only [szA, szS] at hzw1); have hleww1 := le1 w w1 (by omega); (try have hltww1 := lt1 w w1 (by omega)); have t1 := True.intro; skip; cases a))))
  · exact ⟨rfl, Rt.err (H.out.trans rfl) (by with_reducible repeat first | exact HG | apply gA | apply gB | refine gS (by omega) ?_)⟩
  · exact ⟨rfl, .tuple #[], by simp [results, Tryz.results80, go_sem], Rt.ok (H.out.trans rfl) rfl HP HG⟩
end Go.Proofs.YtcnohgifihbkdaaGreatDoor

namespace Go.Proofs.YtcnohgifihbkdaaGreatDoor
open Go.RowKit Go.Deep Go.Shelf
set_option linter.unusedVariables false
set_option linter.unusedSimpArgs false
set_option maxRecDepth 100000
set_option maxHeartbeats 1000000 in
theorem small_any (w : World) (P D : Nat) (s : PS) (HP : Pst w P D s) : Calls Tryz.prog 79 #[.pointer (some ⟨P, 0, none⟩)] w (Rt RS P D w (small s)) := by
  have HG := World.grownBy.refl w (some P)
  have hPw := HP.lt
  have hD := HP.dw
  have hPD := HP.pd
  have t0 := True.intro
  have KI := hid (isSmall_any w P D s HP)
  by_cases hq : isSmall s = true
  · have H := hid (show small s = bd take (fun t => ret t.text) s by unfold small; rw [if_pos hq])
    have HK := isM_kind hq
    simp only [hq] at KI
    go_enter Tryz.func79, Tryz.ntmps79
    go_wp2_with (first
      | (have hno := t1; (go_at_call 75; (refine (take_any _ _ _ _ (by with_reducible repeat first | exact HP | apply pA | refine pS (by omega) ?_) HK).mono ?_; intro e w2 hrt; rcases hrt.go (W := w) (by with_reducible repeat first | exact HG | apply gA | apply gB | refine gS (by omega) ?_) with ⟨f, hx, rfl, hg⟩ | ⟨a, s1, v, hx, rfl, hv, HP, hGw2, HG, hcw2, hfw2, hzw2, hPw2⟩; exact ⟨rfl, Rt.err (H.out.trans (bd_err hx)) hg⟩; (have hv2 : v = tokV a := hv; subst hv2; unfold tokV); have H := hid (H.out.trans (bd_ok hx)); (try simp only [szA, szS] at hzw2); have hleww2 := le1 w w2 (by omega); (try have hltww2 := lt1 w w2 (by omega)); have hlew1w2 := le1 w1 w2 (by omega); (try have hltw1w2 := lt1 w1 w2 (by omega)); have t2 := True.intro)))
      | (have hno := t0; (go_at_call 113; (refine (KI.out).mono ?_; rintro e w1 ⟨rfl, hb⟩; have hg := bgrown hb (some P); have hs := Pst.below (by with_reducible repeat first | exact HP | apply pA | refine pS (by omega) ?_) hb; obtain ⟨hcw1, hfw1⟩ := gcell hg; have hzw1 := hg.size; (try simp only [szA, szS] at hzw1); have hPw1 := hs.lt; have hleww1 := le1 w w1 (by omega); (try have hltww1 := lt1 w w1 (by omega)); have HG := gtrans (by with_reducible repeat first | exact HG | apply gA | apply gB | refine gS (by omega) ?_) hg; have HP := hs; have hGw1 := hg; have t1 := True.intro; (try clear hg hs))))
      )
    go_ret
    exact Rt.ok (H.out.trans rfl) rfl (by with_reducible repeat first | exact HP | apply pA | refine pS (by omega) ?_) (by with_reducible repeat first | exact HG | apply gA | apply gB | refine gS (by omega) ?_)
  · have hq : isSmall s = false := by simpa using hq
    have H := hid (show small s = wrong s by unfold small; rw [if_neg (by rw [hq]; decide)])
    simp only [hq] at KI
    go_enter Tryz.func79, Tryz.ntmps79
    go_wp2_with (first
      | (have hno := t1; (go_at_call 48; (refine (wrong_any _ _ _ _ (by with_reducible repeat first | exact HP | apply pA | refine pS (by omega) ?_)).mono ?_; rintro e w2 ⟨rfl, hb⟩; have hg := bgrown hb (some P); have hs := Pst.below (by with_reducible repeat first | exact HP | apply pA | refine pS (by omega) ?_) hb; obtain ⟨hcw2, hfw2⟩ := gcell hg; have hzw2 := hg.size; (try simp only [szA, szS] at hzw2); have hPw2 := hs.lt; have hleww2 := le1 w w2 (by omega); (try have hltww2 := lt1 w w2 (by omega)); have hlew1w2 := le1 w1 w2 (by omega); (try have hltw1w2 := lt1 w1 w2 (by omega)); have HG := gtrans (by with_reducible repeat first | exact HG | apply gA | apply gB | refine gS (by omega) ?_) hg; have HP := hs; have hGw2 := hg; have t2 := True.intro; (try clear hg hs))))
      | (have hno := t0; (go_at_call 113; (refine (KI.out).mono ?_; rintro e w1 ⟨rfl, hb⟩; have hg := bgrown hb (some P); have hs := Pst.below (by with_reducible repeat first | exact HP | apply pA | refine pS (by omega) ?_) hb; obtain ⟨hcw1, hfw1⟩ := gcell hg; have hzw1 := hg.size; (try simp only [szA, szS] at hzw1); have hPw1 := hs.lt; have hleww1 := le1 w w1 (by omega); (try have hltww1 := lt1 w w1 (by omega)); have HG := gtrans (by with_reducible repeat first | exact HG | apply gA | apply gB | refine gS (by omega) ?_) hg; have HP := hs; have hGw1 := hg; have t1 := True.intro; (try clear hg hs))))
      )
    exact ⟨rfl, Rt.err (H.out.trans rfl) (by with_reducible repeat first | exact HG | apply gA | apply gB | refine gS (by omega) ?_)⟩
set_option maxHeartbeats 1000000 in
theorem great_any (w : World) (P D : Nat) (s : PS) (HP : Pst w P D s) : Calls Tryz.prog 76 #[.pointer (some ⟨P, 0, none⟩)] w (Rt RS P D w (great s)) := by
  have HG := World.grownBy.refl w (some P)
  have hPw := HP.lt
  have hD := HP.dw
  have hPD := HP.pd
  have t0 := True.intro
  have KI := hid (isGreat_any w P D s HP)
  by_cases hq : isGreat s = true
  · have H := hid (show great s = bd take (fun t => ret t.text) s by unfold great; rw [if_pos hq])
    have HK := isG_kind hq
    simp only [hq] at KI
    go_enter Tryz.func76, Tryz.ntmps76
    go_wp2_with (first
      | (have hno := t1; (go_at_call 75; (refine (take_any _ _ _ _ (by with_reducible repeat first | exact HP | apply pA | refine pS (by omega) ?_) HK).mono ?_; intro e w2 hrt; rcases hrt.go (W := w) (by with_reducible repeat first | exact HG | apply gA | apply gB | refine gS (by omega) ?_) with ⟨f, hx, rfl, hg⟩ | ⟨a, s1, v, hx, rfl, hv, HP, hGw2, HG, hcw2, hfw2, hzw2, hPw2⟩; exact ⟨rfl, Rt.err (H.out.trans (bd_err hx)) hg⟩; (have hv2 : v = tokV a := hv; subst hv2; unfold tokV); have H := hid (H.out.trans (bd_ok hx)); (try simp only [szA, szS] at hzw2); have hleww2 := le1 w w2 (by omega); (try have hltww2 := lt1 w w2 (by omega)); have hlew1w2 := le1 w1 w2 (by omega); (try have hltw1w2 := lt1 w1 w2 (by omega)); have t2 := True.intro)))
      | (have hno := t0; (go_at_call 108; (refine (KI.out).mono ?_; rintro e w1 ⟨rfl, hb⟩; have hg := bgrown hb (some P); have hs := Pst.below (by with_reducible repeat first | exact HP | apply pA | refine pS (by omega) ?_) hb; obtain ⟨hcw1, hfw1⟩ := gcell hg; have hzw1 := hg.size; (try simp only [szA, szS] at hzw1); have hPw1 := hs.lt; have hleww1 := le1 w w1 (by omega); (try have hltww1 := lt1 w w1 (by omega)); have HG := gtrans (by with_reducible repeat first | exact HG | apply gA | apply gB | refine gS (by omega) ?_) hg; have HP := hs; have hGw1 := hg; have t1 := True.intro; (try clear hg hs))))
      )
    go_ret
    exact Rt.ok (H.out.trans rfl) rfl (by with_reducible repeat first | exact HP | apply pA | refine pS (by omega) ?_) (by with_reducible repeat first | exact HG | apply gA | apply gB | refine gS (by omega) ?_)
  · have hq : isGreat s = false := by simpa using hq
    have H := hid (show great s = wrong s by unfold great; rw [if_neg (by rw [hq]; decide)])
    simp only [hq] at KI
    go_enter Tryz.func76, Tryz.ntmps76
    go_wp2_with (first
      | (have hno := t1; (go_at_call 48; (refine (wrong_any _ _ _ _ (by with_reducible repeat first | exact HP | apply pA | refine pS (by omega) ?_)).mono ?_; rintro e w2 ⟨rfl, hb⟩; have hg := bgrown hb (some P); have hs := Pst.below (by with_reducible repeat first | exact HP | apply pA | refine pS (by omega) ?_) hb; obtain ⟨hcw2, hfw2⟩ := gcell hg; have hzw2 := hg.size; (try simp only [szA, szS] at hzw2); have hPw2 := hs.lt; have hleww2 := le1 w w2 (by omega); (try have hltww2 := lt1 w w2 (by omega)); have hlew1w2 := le1 w1 w2 (by omega); (try have hltw1w2 := lt1 w1 w2 (by omega)); have HG := gtrans (by with_reducible repeat first | exact HG | apply gA | apply gB | refine gS (by omega) ?_) hg; have HP := hs; have hGw2 := hg; have t2 := True.intro; (try clear hg hs))))
      | (have hno := t0; (go_at_call 108; (refine (KI.out).mono ?_; rintro e w1 ⟨rfl, hb⟩; have hg := bgrown hb (some P); have hs := Pst.below (by with_reducible repeat first | exact HP | apply pA | refine pS (by omega) ?_) hb; obtain ⟨hcw1, hfw1⟩ := gcell hg; have hzw1 := hg.size; (try simp only [szA, szS] at hzw1); have hPw1 := hs.lt; have hleww1 := le1 w w1 (by omega); (try have hltww1 := lt1 w w1 (by omega)); have HG := gtrans (by with_reducible repeat first | exact HG | apply gA | apply gB | refine gS (by omega) ?_) hg; have HP := hs; have hGw1 := hg; have t1 := True.intro; (try clear hg hs))))
      )
    exact ⟨rfl, Rt.err (H.out.trans rfl) (by with_reducible repeat first | exact HG | apply gA | apply gB | refine gS (by omega) ?_)⟩
theorem oneOf_take {q : Bsq} {l : List Bsq} {s : PS} (h : isS q s = true) : oneOf (q :: l) s = bd take (fun t => ret t.text) s := by show (if isS q s = true then _ else _) = _; rw [if_pos h]
theorem oneOf_skip {q : Bsq} {l : List Bsq} {s : PS} (h : isS q s = false) : oneOf (q :: l) s = oneOf l s := by show (if isS q s = true then _ else _) = _; rw [if_neg (by rw [h]; decide)]
set_option maxHeartbeats 1000000 in
theorem oneOf_any (w : World) (P D : Nat) (s : PS) (l : List Bsq) (b : Nat) (HP : Pst w P D s) (hb : Box b ((l.map fun q => Value.string (bs q)).toArray) 9 w) (hn : l.length ≤ 10) (hbD : D ≤ b) : Calls Tryz.prog 81 #[.pointer (some ⟨P, 0, none⟩), .slice (some ⟨b, 0, none⟩) l.length l.length] w (Rt RS P D w (oneOf l s)) := by
  have HG := World.grownBy.refl w (some P)
  have hPw := HP.lt
  have hD := HP.dw
  have hPD := HP.pd
  have t0 := True.intro
  have hcell : ∀ (k : Nat) (q : Bsq), l[k]? = some q → w.cell? ⟨b, k, none⟩ = some (.string (bs q)) := fun k q e => by
    rw [cellOf hb]; simp [e]
  have hbl := hb.lt
  obtain ⟨n, hln⟩ : ∃ n, n = l.length := ⟨_, rfl⟩
  have nI : (n : Int) ≤ 10 := by omega
  rw [← hln]
  have HC := hid hcell
  have HL := hid hln
  have HB := hid hb
  clear hcell hb hln
  go_enter Tryz.func81, Tryz.ntmps81
  go_wp2
  go_loopg [9] n (fun g x wr => ∃ k : Nat, k + g = n ∧ x = .int .i64 (k : Int) ∧ oneOf l s = oneOf (l.drop k) s ∧ Pst wr P D s ∧ w.grownBy wr (some P) ∧ ∀ i, wr.cell? ⟨b, i, none⟩ = w.cell? ⟨b, i, none⟩)
  case atStart => exact ⟨0, by omega, rfl, by rw [List.drop_zero], HP, HG, fun i => rfl⟩
  case round =>
    obtain ⟨k, hk, rfl, ho, HP, HG, hcl⟩ := hrel
    cases gk with
    | zero =>
      have hkn : k = n := by omega
      subst hkn
      have H := hid (show oneOf l s = wrong s by rw [ho, List.drop_of_length_le (by rw [HL.out]; exact Nat.le_refl _)]; rfl)
      have hgz := HG.size
      have hPr := HP.lt
      clear ho hcl
      go_wp2_with (first
        | (have hno := t0; (go_at_call 48; (refine (wrong_any _ _ _ _ (by with_reducible repeat first | exact HP | apply pA | refine pS (by omega) ?_)).mono ?_; rintro e w2 ⟨rfl, hb⟩; have hg := bgrown hb (some P); have hs := Pst.below (by with_reducible repeat first | exact HP | apply pA | refine pS (by omega) ?_) hb; obtain ⟨hcw2, hfw2⟩ := gcell hg; have hzw2 := hg.size; (try simp only [szA, szS] at hzw2); have hPw2 := hs.lt; have hleww2 := le1 w w2 (by omega); (try have hltww2 := lt1 w w2 (by omega)); have hlewrw2 := le1 wr w2 (by omega); (try have hltwrw2 := lt1 wr w2 (by omega)); have HG := gtrans (by with_reducible repeat first | exact HG | apply gA | apply gB | refine gS (by omega) ?_) hg; have HP := hs; have hGw2 := hg; have t1 := True.intro; (try clear hg hs))))
        )
      exact ⟨rfl, Rt.err (H.out.trans rfl) (by with_reducible repeat first | exact HG | apply gA | apply gB | refine gS (by omega) ?_)⟩
    | succ g =>
      have hkl : k < l.length := by rw [← HL.out]; omega
      obtain ⟨q, hq⟩ : ∃ q, l[k]? = some q := ⟨_, List.getElem?_eq_getElem hkl⟩
      have hd : l.drop k = q :: l.drop (k + 1) := by
        rw [List.drop_eq_getElem_cons hkl]
        rw [List.getElem?_eq_getElem hkl] at hq
        cases hq; rfl
      rw [hd] at ho
      have c0 := (hcl k).trans (HC.out k q hq)
      have hkI : (k : Int) < (n : Int) := by omega
      have HCL := hid hcl
      have HO := hid ho
      have hgz := HG.size
      have hPr := HP.lt
      have hbr : b < wr.heap.size := by omega
      have HKG := hid hk
      clear hq hd ho hcl hkl hk
      have KI := hid (is_any wr P D s q HP)
      cases hb : isS q s with
      | true =>
        have H := hid (HO.out.trans (oneOf_take hb))
        have HK := isS_k hb
        simp only [hb] at KI
        clear hb
        go_wp2_with (first
          | (have hno := t1; (go_at_call 75; (refine (take_any _ _ _ _ (by with_reducible repeat first | exact HP | apply pA | refine pS (by omega) ?_) HK).mono ?_; intro e w3 hrt; rcases hrt.go (W := w) (by with_reducible repeat first | exact HG | apply gA | apply gB | refine gS (by omega) ?_) with ⟨f, hx, rfl, hg⟩ | ⟨a, s1, v, hx, rfl, hv, HP, hGw3, HG, hcw3, hfw3, hzw3, hPw3⟩; exact ⟨rfl, Rt.err (H.out.trans (bd_err hx)) hg⟩; (have hv2 : v = tokV a := hv; subst hv2; unfold tokV); have H := hid (H.out.trans (bd_ok hx)); (try simp only [szA, szS] at hzw3); have hleww3 := le1 w w3 (by omega); (try have hltww3 := lt1 w w3 (by omega)); have hlewrw3 := le1 wr w3 (by omega); (try have hltwrw3 := lt1 wr w3 (by omega)); have hlew2w3 := le1 w2 w3 (by omega); (try have hltw2w3 := lt1 w2 w3 (by omega)); have t2 := True.intro)))
          | (have hno := t0; (go_at_call 42; (refine (KI.out).mono ?_; rintro e w2 ⟨rfl, hb⟩; have hg := bgrown hb (some P); have hs := Pst.below (by with_reducible repeat first | exact HP | apply pA | refine pS (by omega) ?_) hb; obtain ⟨hcw2, hfw2⟩ := gcell hg; have hzw2 := hg.size; (try simp only [szA, szS] at hzw2); have hPw2 := hs.lt; have hleww2 := le1 w w2 (by omega); (try have hltww2 := lt1 w w2 (by omega)); have hlewrw2 := le1 wr w2 (by omega); (try have hltwrw2 := lt1 wr w2 (by omega)); have HG := gtrans (by with_reducible repeat first | exact HG | apply gA | apply gB | refine gS (by omega) ?_) hg; have HP := hs; have hGw2 := hg; have t1 := True.intro; (try clear hg hs))))
          )
        go_ret
        exact Rt.ok (H.out.trans rfl) rfl (by with_reducible repeat first | exact HP | apply pA | refine pS (by omega) ?_) (by with_reducible repeat first | exact HG | apply gA | apply gB | refine gS (by omega) ?_)
      | false =>
        have H := hid (HO.out.trans (oneOf_skip hb))
        simp only [hb] at KI
        clear hb
        go_wp2_with (first
          | (have hno := t0; (go_at_call 42; (refine (KI.out).mono ?_; rintro e w2 ⟨rfl, hb⟩; have hg := bgrown hb (some P); have hs := Pst.below (by with_reducible repeat first | exact HP | apply pA | refine pS (by omega) ?_) hb; obtain ⟨hcw2, hfw2⟩ := gcell hg; have hzw2 := hg.size; (try simp only [szA, szS] at hzw2); have hPw2 := hs.lt; have hleww2 := le1 w w2 (by omega); (try have hltww2 := lt1 w w2 (by omega)); have hlewrw2 := le1 wr w2 (by omega); (try have hltwrw2 := lt1 wr w2 (by omega)); have HG := gtrans (by with_reducible repeat first | exact HG | apply gA | apply gB | refine gS (by omega) ?_) hg; have HP := hs; have hGw2 := hg; have t1 := True.intro; (try clear hg hs))))
          )
        go_roundg g
        case measure => omega
        exact ⟨k + 1, by have := HKG.out; omega, by go_num, H.out, HP, HG, fun i => (World.grownBy.cell_far hGw2 ⟨b, i, none⟩ hbr (some_ne (show P < b by omega))).trans (HCL.out i)⟩
theorem lit_row (w : World) (l : List Bsq) (cs : Array Value) (h : cs = (l.map fun q => Value.string (bs q)).toArray) : Box w.heap.size ((l.map fun q => Value.string (bs q)).toArray) 9 (w.alloc (.cells cs 9)) := by rw [h]; exact Box.new w _ _
set_option maxHeartbeats 1000000 in
theorem simpleKind_any (w : World) (P D : Nat) (s : PS) (HP : Pst w P D s) : Calls Tryz.prog 112 #[.pointer (some ⟨P, 0, none⟩)] w (Rt RS P D w (simpleKind s)) := by
  have HG := World.grownBy.refl w (some P)
  have hPw := HP.lt
  have hD := HP.dw
  have hPD := HP.pd
  have t0 := True.intro
  have K := hid (oneOf_any (w.alloc (.cells #[.string ⟨#[105, 110, 116]⟩, .string ⟨#[116, 101, 120, 116]⟩, .string ⟨#[98, 111, 111, 108]⟩] 9)) P D s [[105, 110, 116], [116, 101, 120, 116], [98, 111, 111, 108]] w.heap.size (HP.alloc _) (lit_row w _ _ rfl) (by decide) hD)
  have H := hid (show simpleKind s = bd (oneOf [[105, 110, 116], [116, 101, 120, 116], [98, 111, 111, 108]]) ret s by unfold bd simpleKind ret; cases oneOf [[105, 110, 116], [116, 101, 120, 116], [98, 111, 111, 108]] s <;> rfl)
  go_enter Tryz.func112, Tryz.ntmps112
  go_wp2_with (first
    | (have hno := t0; (go_at_call 81; (refine (K.out).mono ?_; intro e w1 hrt; rcases hrt.go (W := w) (by with_reducible repeat first | exact HG | apply gA | apply gB | refine gS (by omega) ?_) with ⟨f, hx, rfl, hg⟩ | ⟨a, s1, v, hx, rfl, hv, HP, hGw1, HG, hcw1, hfw1, hzw1, hPw1⟩; exact ⟨rfl, Rt.err (H.out.trans (bd_err hx)) hg⟩; (have hv2 : v = .string (bs a) := hv; subst hv2); have H := hid (H.out.trans (bd_ok hx)); (try simp only [szA, szS] at hzw1); have hleww1 := le1 w w1 (by omega); (try have hltww1 := lt1 w w1 (by omega)); have t1 := True.intro)))
    )
  go_ret
  exact Rt.ok (H.out.trans rfl) rfl (by with_reducible repeat first | exact HP | apply pA | refine pS (by omega) ?_) (by with_reducible repeat first | exact HG | apply gA | apply gB | refine gS (by omega) ?_)
set_option maxHeartbeats 1000000 in
theorem kind_any (w : World) (P D : Nat) (s : PS) (HP : Pst w P D s) : Calls Tryz.prog 82 #[.pointer (some ⟨P, 0, none⟩)] w (Rt RS P D w (kindP s)) := by
  have HG := World.grownBy.refl w (some P)
  have hPw := HP.lt
  have hD := HP.dw
  have hPD := HP.pd
  have t0 := True.intro
  have KI := hid (isGreat_any w P D s HP)
  by_cases hq : isGreat s = true
  · have H := hid (show kindP s = bd great ret s by unfold kindP bd ret; rw [if_pos hq]; cases great s <;> rfl)
    simp only [hq] at KI
    go_enter Tryz.func82, Tryz.ntmps82
    go_wp2_with (first
      | (have hno := t1; (go_at_call 76; (refine (great_any _ _ _ _ (by with_reducible repeat first | exact HP | apply pA | refine pS (by omega) ?_)).mono ?_; intro e w2 hrt; rcases hrt.go (W := w) (by with_reducible repeat first | exact HG | apply gA | apply gB | refine gS (by omega) ?_) with ⟨f, hx, rfl, hg⟩ | ⟨a, s1, v, hx, rfl, hv, HP, hGw2, HG, hcw2, hfw2, hzw2, hPw2⟩; exact ⟨rfl, Rt.err (H.out.trans (bd_err hx)) hg⟩; (have hv2 : v = .string (bs a) := hv; subst hv2); have H := hid (H.out.trans (bd_ok hx)); (try simp only [szA, szS] at hzw2); have hleww2 := le1 w w2 (by omega); (try have hltww2 := lt1 w w2 (by omega)); have hlew1w2 := le1 w1 w2 (by omega); (try have hltw1w2 := lt1 w1 w2 (by omega)); have t2 := True.intro)))
      | (have hno := t0; (go_at_call 108; (refine (KI.out).mono ?_; rintro e w1 ⟨rfl, hb⟩; have hg := bgrown hb (some P); have hs := Pst.below (by with_reducible repeat first | exact HP | apply pA | refine pS (by omega) ?_) hb; obtain ⟨hcw1, hfw1⟩ := gcell hg; have hzw1 := hg.size; (try simp only [szA, szS] at hzw1); have hPw1 := hs.lt; have hleww1 := le1 w w1 (by omega); (try have hltww1 := lt1 w w1 (by omega)); have HG := gtrans (by with_reducible repeat first | exact HG | apply gA | apply gB | refine gS (by omega) ?_) hg; have HP := hs; have hGw1 := hg; have t1 := True.intro; (try clear hg hs))))
      )
    go_ret
    exact Rt.ok (H.out.trans rfl) rfl (by with_reducible repeat first | exact HP | apply pA | refine pS (by omega) ?_) (by with_reducible repeat first | exact HG | apply gA | apply gB | refine gS (by omega) ?_)
  · have hq : isGreat s = false := by simpa using hq
    have H := hid (show kindP s = bd simpleKind ret s by unfold kindP bd ret; rw [if_neg (by rw [hq]; decide)]; cases simpleKind s <;> rfl)
    simp only [hq] at KI
    go_enter Tryz.func82, Tryz.ntmps82
    go_wp2_with (first
      | (have hno := t1; (go_at_call 112; (refine (simpleKind_any _ _ _ _ (by with_reducible repeat first | exact HP | apply pA | refine pS (by omega) ?_)).mono ?_; intro e w2 hrt; rcases hrt.go (W := w) (by with_reducible repeat first | exact HG | apply gA | apply gB | refine gS (by omega) ?_) with ⟨f, hx, rfl, hg⟩ | ⟨a, s1, v, hx, rfl, hv, HP, hGw2, HG, hcw2, hfw2, hzw2, hPw2⟩; exact ⟨rfl, Rt.err (H.out.trans (bd_err hx)) hg⟩; (have hv2 : v = .string (bs a) := hv; subst hv2); have H := hid (H.out.trans (bd_ok hx)); (try simp only [szA, szS] at hzw2); have hleww2 := le1 w w2 (by omega); (try have hltww2 := lt1 w w2 (by omega)); have hlew1w2 := le1 w1 w2 (by omega); (try have hltw1w2 := lt1 w1 w2 (by omega)); have t2 := True.intro)))
      | (have hno := t0; (go_at_call 108; (refine (KI.out).mono ?_; rintro e w1 ⟨rfl, hb⟩; have hg := bgrown hb (some P); have hs := Pst.below (by with_reducible repeat first | exact HP | apply pA | refine pS (by omega) ?_) hb; obtain ⟨hcw1, hfw1⟩ := gcell hg; have hzw1 := hg.size; (try simp only [szA, szS] at hzw1); have hPw1 := hs.lt; have hleww1 := le1 w w1 (by omega); (try have hltww1 := lt1 w w1 (by omega)); have HG := gtrans (by with_reducible repeat first | exact HG | apply gA | apply gB | refine gS (by omega) ?_) hg; have HP := hs; have hGw1 := hg; have t1 := True.intro; (try clear hg hs))))
      )
    go_ret
    exact Rt.ok (H.out.trans rfl) rfl (by with_reducible repeat first | exact HP | apply pA | refine pS (by omega) ?_) (by with_reducible repeat first | exact HG | apply gA | apply gB | refine gS (by omega) ?_)
set_option maxHeartbeats 1000000 in
theorem field_any (w : World) (P D : Nat) (s : PS) (HP : Pst w P D s) : Calls Tryz.prog 78 #[.pointer (some ⟨P, 0, none⟩)] w (Rt RP P D w (fieldP s)) := by
  have HG := World.grownBy.refl w (some P)
  have hPw := HP.lt
  have hD := HP.dw
  have hPD := HP.pd
  have t0 := True.intro
  have H := hid (show fieldP s = bd small (fun nm => bd (want [58]) fun _ => bd simpleKind fun t => ret ⟨nm, t⟩) s from rfl)
  go_enter Tryz.func78, Tryz.ntmps78
  go_wp2_with (first
    | (have hno := t2; (go_at_call 112; (refine (simpleKind_any _ _ _ _ (by with_reducible repeat first | exact HP | apply pA | refine pS (by omega) ?_)).mono ?_; intro e w3 hrt; rcases hrt.go (W := w) (by with_reducible repeat first | exact HG | apply gA | apply gB | refine gS (by omega) ?_) with ⟨f, hx, rfl, hg⟩ | ⟨ty, s3, v, hx, rfl, hv, HP, hGw3, HG, hcw3, hfw3, hzw3, hPw3⟩; exact ⟨rfl, Rt.err (H.out.trans (bd_err hx)) hg⟩; (have hv2 : v = .string (bs ty) := hv; subst hv2); have H := hid (H.out.trans (bd_ok hx)); (try simp only [szA, szS] at hzw3); have hleww3 := le1 w w3 (by omega); (try have hltww3 := lt1 w w3 (by omega)); have hlew1w3 := le1 w1 w3 (by omega); (try have hltw1w3 := lt1 w1 w3 (by omega)); have hlew2w3 := le1 w2 w3 (by omega); (try have hltw2w3 := lt1 w2 w3 (by omega)); have t3 := True.intro)))
    | (have hno := t1; (go_at_call 80; (refine (want_any _ _ _ _ _ (by with_reducible repeat first | exact HP | apply pA | refine pS (by omega) ?_)).mono ?_; intro e w2 hrt; rcases hrt.go (W := w) (by with_reducible repeat first | exact HG | apply gA | apply gB | refine gS (by omega) ?_) with ⟨f, hx, rfl, hg⟩ | ⟨b, s2, v, hx, rfl, hv, HP, hGw2, HG, hcw2, hfw2, hzw2, hPw2⟩; exact ⟨rfl, Rt.err (H.out.trans (bd_err hx)) hg⟩; (have hv2 : v = .tuple #[] := hv; subst hv2); have H := hid (H.out.trans (bd_ok hx)); (try simp only [szA, szS] at hzw2); have hleww2 := le1 w w2 (by omega); (try have hltww2 := lt1 w w2 (by omega)); have hlew1w2 := le1 w1 w2 (by omega); (try have hltw1w2 := lt1 w1 w2 (by omega)); have t2 := True.intro)))
    | (have hno := t0; (go_at_call 79; (refine (small_any _ _ _ _ (by with_reducible repeat first | exact HP | apply pA | refine pS (by omega) ?_)).mono ?_; intro e w1 hrt; rcases hrt.go (W := w) (by with_reducible repeat first | exact HG | apply gA | apply gB | refine gS (by omega) ?_) with ⟨f, hx, rfl, hg⟩ | ⟨nm, s1, v, hx, rfl, hv, HP, hGw1, HG, hcw1, hfw1, hzw1, hPw1⟩; exact ⟨rfl, Rt.err (H.out.trans (bd_err hx)) hg⟩; (have hv2 : v = .string (bs nm) := hv; subst hv2); have H := hid (H.out.trans (bd_ok hx)); (try simp only [szA, szS] at hzw1); have hleww1 := le1 w w1 (by omega); (try have hltww1 := lt1 w w1 (by omega)); have t1 := True.intro)))
    )
  exact ret2 Tryz.results78 rfl (by repeat (first | (with_reducible apply Bx.put2) | (with_reducible apply Box.alloc) | ((with_reducible refine Box.set ?_ ?_); rotate_left; omega) | ((with_reducible refine Bx.new _ _ _ ?_); rfl) | (with_reducible apply Bx.alloc) | (with_reducible apply Bx.set) | ((with_reducible refine Bx.call hGw1 ?_ ?_); omega) | ((with_reducible refine Bx.call hGw2 ?_ ?_); omega) | ((with_reducible refine Bx.call hGw3 ?_ ?_); omega))) rfl (Rt.ok (H.out.trans rfl) rfl (by with_reducible repeat first | exact HP | apply pA | refine pS (by omega) ?_) (by with_reducible repeat first | exact HG | apply gA | apply gB | refine gS (by omega) ?_))
set_option maxHeartbeats 1000000 in
theorem param_any (w : World) (P D : Nat) (s : PS) (HP : Pst w P D s) : Calls Tryz.prog 84 #[.pointer (some ⟨P, 0, none⟩)] w (Rt RP P D w (paramP s)) := by
  have HG := World.grownBy.refl w (some P)
  have hPw := HP.lt
  have hD := HP.dw
  have hPD := HP.pd
  have t0 := True.intro
  have H := hid (show paramP s = bd small (fun nm => bd (want [58]) fun _ => bd kindP fun t => ret ⟨nm, t⟩) s from rfl)
  go_enter Tryz.func84, Tryz.ntmps84
  go_wp2_with (first
    | (have hno := t2; (go_at_call 82; (refine (kind_any _ _ _ _ (by with_reducible repeat first | exact HP | apply pA | refine pS (by omega) ?_)).mono ?_; intro e w3 hrt; rcases hrt.go (W := w) (by with_reducible repeat first | exact HG | apply gA | apply gB | refine gS (by omega) ?_) with ⟨f, hx, rfl, hg⟩ | ⟨ty, s3, v, hx, rfl, hv, HP, hGw3, HG, hcw3, hfw3, hzw3, hPw3⟩; exact ⟨rfl, Rt.err (H.out.trans (bd_err hx)) hg⟩; (have hv2 : v = .string (bs ty) := hv; subst hv2); have H := hid (H.out.trans (bd_ok hx)); (try simp only [szA, szS] at hzw3); have hleww3 := le1 w w3 (by omega); (try have hltww3 := lt1 w w3 (by omega)); have hlew1w3 := le1 w1 w3 (by omega); (try have hltw1w3 := lt1 w1 w3 (by omega)); have hlew2w3 := le1 w2 w3 (by omega); (try have hltw2w3 := lt1 w2 w3 (by omega)); have t3 := True.intro)))
    | (have hno := t1; (go_at_call 80; (refine (want_any _ _ _ _ _ (by with_reducible repeat first | exact HP | apply pA | refine pS (by omega) ?_)).mono ?_; intro e w2 hrt; rcases hrt.go (W := w) (by with_reducible repeat first | exact HG | apply gA | apply gB | refine gS (by omega) ?_) with ⟨f, hx, rfl, hg⟩ | ⟨b, s2, v, hx, rfl, hv, HP, hGw2, HG, hcw2, hfw2, hzw2, hPw2⟩; exact ⟨rfl, Rt.err (H.out.trans (bd_err hx)) hg⟩; (have hv2 : v = .tuple #[] := hv; subst hv2); have H := hid (H.out.trans (bd_ok hx)); (try simp only [szA, szS] at hzw2); have hleww2 := le1 w w2 (by omega); (try have hltww2 := lt1 w w2 (by omega)); have hlew1w2 := le1 w1 w2 (by omega); (try have hltw1w2 := lt1 w1 w2 (by omega)); have t2 := True.intro)))
    | (have hno := t0; (go_at_call 79; (refine (small_any _ _ _ _ (by with_reducible repeat first | exact HP | apply pA | refine pS (by omega) ?_)).mono ?_; intro e w1 hrt; rcases hrt.go (W := w) (by with_reducible repeat first | exact HG | apply gA | apply gB | refine gS (by omega) ?_) with ⟨f, hx, rfl, hg⟩ | ⟨nm, s1, v, hx, rfl, hv, HP, hGw1, HG, hcw1, hfw1, hzw1, hPw1⟩; exact ⟨rfl, Rt.err (H.out.trans (bd_err hx)) hg⟩; (have hv2 : v = .string (bs nm) := hv; subst hv2); have H := hid (H.out.trans (bd_ok hx)); (try simp only [szA, szS] at hzw1); have hleww1 := le1 w w1 (by omega); (try have hltww1 := lt1 w w1 (by omega)); have t1 := True.intro)))
    )
  exact ret2 Tryz.results84 rfl (by repeat (first | (with_reducible apply Bx.put2) | (with_reducible apply Box.alloc) | ((with_reducible refine Box.set ?_ ?_); rotate_left; omega) | ((with_reducible refine Bx.new _ _ _ ?_); rfl) | (with_reducible apply Bx.alloc) | (with_reducible apply Bx.set) | ((with_reducible refine Bx.call hGw1 ?_ ?_); omega) | ((with_reducible refine Bx.call hGw2 ?_ ?_); omega) | ((with_reducible refine Bx.call hGw3 ?_ ?_); omega))) rfl (Rt.ok (H.out.trans rfl) rfl (by with_reducible repeat first | exact HP | apply pA | refine pS (by omega) ?_) (by with_reducible repeat first | exact HG | apply gA | apply gB | refine gS (by omega) ?_))
end Go.Proofs.YtcnohgifihbkdaaGreatDoor

namespace Go.Proofs.YtcnohgifihbkdaaGreatDoor
open Go.RowKit Go.Deep Go.Shelf
set_option linter.unusedVariables false
set_option linter.unusedSimpArgs false
set_option maxRecDepth 100000
theorem Pst.grown {w w' : World} {P D : Nat} {s : PS} {row : Option Nat} (h : Pst w P D s) (hg : w.grownBy w' row) (hr : ∀ r, row = some r → D ≤ r) : Pst w' P D s := h.keep hg.size fun g hgD => hg.block g (by have := h.dw; omega) (fun e => by have := hr g e.symm; omega)
theorem grown_row {w W w' : World} {P : Nat} {row : Option Nat} (h : w.grownBy W (some P)) (hg : W.grownBy w' row) (hr : ∀ r, row = some r → w.heap.size ≤ r) : w.grownBy w' (some P) := ⟨hg.os.trans h.os, hg.tape.trans h.tape, hg.output.trans h.output, Nat.le_trans h.size hg.size, fun j hj hne => (hg.block j (by have := h.size; omega) (fun e => by have := hr j e.symm; omega)).trans (h.block j hj hne)⟩
theorem infoX : (Tryz.prog.info? 45).map (fun i => (i.zero, i.size, i.bytes)) = some (some (.agg #[.int .i64 0, .int .i64 0, .int .i64 0, .string ⟨#[]⟩, .string ⟨#[]⟩, .slice none 0 0, .slice none 0 0, .int .i64 0]), 8, 112) := by kernel_rfl
theorem infoSt : (Tryz.prog.info? 48).map (fun i => (i.zero, i.size, i.bytes)) = some (some (.agg #[.int .i64 0, .string ⟨#[]⟩, .string ⟨#[]⟩, .string ⟨#[]⟩, .slice none 0 0, .slice none 0 0, .slice none 0 0, .int .i64 0]), 8, 136) := by kernel_rfl
theorem infoPm : (Tryz.prog.info? 112).map (fun i => (i.zero, i.size, i.bytes)) = some (some (.agg #[.string ⟨#[]⟩, .string ⟨#[]⟩]), 2, 32) := by kernel_rfl
theorem infoPt : (Tryz.prog.info? 250).map (fun i => (i.zero, i.size, i.bytes)) = some (some (.agg #[.string ⟨#[]⟩, .int .i64 0, .int .i64 0, .int .i64 0, .string ⟨#[]⟩, .string ⟨#[]⟩, .slice none 0 0, .slice none 0 0, .int .i64 0]), 9, 128) := by kernel_rfl
theorem run_appK2 {T E : TypeId} {k bytes : Nat} {z : Value} (hU : Tryz.prog.underlying T = some (.slice E)) (hI : (Tryz.prog.info? E).map (fun i => (i.zero, i.size, i.bytes)) = some (some z, k, bytes)) (hz : z.cells.size = k) (k0 : 0 < k) (hby : bytes ≤ 1000)
    (w : World) (ty : TypeId) (B : Nat) (v : Value) (l : List (List Value)) (h : KR E k w B v l) (a : Option Addr) (m c : Nat) (l2 : List (List Value)) (hm : m = l2.length) (hr : CRd w a k l2) (hR : Rk k l2) (hnil : a = none → c = 0) (hl : l.length ≤ 1000000) (hl2 : m ≤ 1000000) (hB : B ≤ w.heap.size) :
    ∃ v' w', (Builtin.append_ #[T, T] ty #[v, .slice a m c]).run Tryz.prog w = .ok v' w' ∧ KR E k w' B v' (l ++ l2) ∧ w.grownBy w' v.ownBlock ∧ (v'.ownBlock = v.ownBlock ∨ v'.ownBlock = some w.heap.size) := by
  obtain ⟨i0, hi, hz0, hz1, hz2⟩ := info_parts hI
  cases a with
  | none =>
    have hc0 := hnil rfl
    have hl0 : l2 = [] := by
      cases l2 with
      | nil => rfl
      | cons o r => obtain ⟨b, off, e, _⟩ := hr 0 o rfl; cases e
    subst hl0
    subst hc0
    have hm0 : m = 0 := hm
    subst hm0
    exact ⟨v, w, run_append_owned_none w B T ty E i0 k hU hi v l.length l.flatten h.1, by rw [List.append_nil]; exact h, ⟨rfl, rfl, rfl, Nat.le_refl _, fun _ _ _ => rfl⟩, .inl rfl⟩
  | some ad =>
    have hcell : ∀ q u, l2.flatten[q]? = some u → w.cell? (ad.add q) = some u := by
      intro q u hu
      obtain ⟨r, hr1, hr2⟩ := flat_of k0 hR.len hu
      obtain ⟨b, off, e, _, hc⟩ := hr (q / k) r hr1
      cases e
      have := hc (q % k) (Nat.mod_lt _ k0)
      rw [hr2] at this
      have he : off + q / k * k + q % k = off + q := by rw [Nat.add_assoc, Nat.mul_comm, Nat.div_add_mod]
      rw [Addr.add_lit, ← he]
      exact this
    have hone : ∀ u ∈ l2.flatten, u.oneCell' = true := fun u hu => by
      obtain ⟨r, hr1, hr2⟩ := List.mem_flatten.1 hu
      exact hR.one r hr1 u hr2
    obtain ⟨v', w', hrun, hown, hgr, _, hat⟩ := run_append_own_at (P := Tryz.prog) w B T ty E i0 z k bytes hU hi hz0 hz1 hz2 hz k0 v l.length l.flatten h.1 ad m c l2.flatten (by rw [flat_len hR.len, hm]) hcell hone (by unfold maxLen; omega) (by
      have : (l.length + m) * bytes ≤ 2000000 * 1000 := Nat.mul_le_mul (by omega) hby
      omega) hB
    refine ⟨v', w', hrun, ⟨?_, h.2.app hR⟩, hgr, hat⟩
    rw [List.length_append, ← hm, List.flatten_append]
    exact hown
/- A list that grows: its elements lie in other blocks than its own row. -/
def Lst {α : Type} (E : TypeId) (k : Nat) (R : World → (Nat → Prop) → List Value → α → Prop) (w : World) (A : Nat → Prop) (v : Value) (l : List α) : Prop := ∃ rows, Rws E k w A v rows ∧ All2 (R w (fun g => A g ∧ v.ownBlock ≠ some g)) rows l
theorem Lst.nil {α : Type} (E : TypeId) (k : Nat) (R : World → (Nat → Prop) → List Value → α → Prop) (w : World) (A : Nat → Prop) : Lst E k R w A (.slice none 0 0) [] := ⟨[], Rws.nil _ _ _ _, All2.nil _⟩
abbrev Mv {α : Type} (R : World → (Nat → Prop) → List Value → α → Prop) : Prop := ∀ (w w' : World) (A B : Nat → Prop) (r : List Value) (a : α), R w A r a → Same A w w' → (∀ g, A g → B g) → R w' B r a
abbrev Rw {α : Type} (k : Nat) (R : World → (Nat → Prop) → List Value → α → Prop) : Prop := ∀ (w : World) (A : Nat → Prop) (r : List Value) (a : α), R w A r a → r.length = k ∧ ∀ u ∈ r, u.oneCell' = true
theorem Lst.mv {α : Type} {E : TypeId} {k : Nat} {R : World → (Nat → Prop) → List Value → α → Prop} (hmv : Mv R) {w w' : World} {A B : Nat → Prop} {v : Value} {l : List α} (h : Lst E k R w A v l) (s : Same A w w') (i : ∀ g, A g → B g) : Lst E k R w' B v l := by
  obtain ⟨rows, h1, h2⟩ := h
  exact ⟨rows, h1.mv s i, h2.imp fun r a h => hmv _ _ _ _ _ _ h (fun g hg => s g hg.1) (fun g hg => ⟨i g hg.1, hg.2⟩)⟩
theorem Lst.form {α : Type} {E : TypeId} {k : Nat} {R : World → (Nat → Prop) → List Value → α → Prop} {w : World} {A : Nat → Prop} {v : Value} {l : List α} (h : Lst E k R w A v l) : ∃ a c, v = .slice a l.length c := by
  obtain ⟨rows, h1, h2⟩ := h
  obtain ⟨a, c, hv, _⟩ := h1.1.rd
  exact ⟨a, c, by rw [← h2.1]; exact hv⟩
theorem run_appL {α : Type} {T E : TypeId} {k bytes : Nat} {z : Value} {R : World → (Nat → Prop) → List Value → α → Prop} (hmv : Mv R) (hrow : Rw k R) (hU : Tryz.prog.underlying T = some (.slice E)) (hI : (Tryz.prog.info? E).map (fun i => (i.zero, i.size, i.bytes)) = some (some z, k, bytes)) (hz : z.cells.size = k) (k0 : 0 < k) (hby : bytes ≤ 1000)
    (W : World) (ty : TypeId) (lo : Nat) (v : Value) (l : List α) (h : Lst E k R W (fun g => lo ≤ g ∧ g < W.heap.size) v l) (A : Nat → Prop) (r : List Value) (e : α) (he : R W A r e) (hA : ∀ g, A g → lo ≤ g ∧ g < W.heap.size ∧ v.ownBlock ≠ some g) (hl : l.length ≤ 100000) (hlo : lo ≤ W.heap.size) :
    ∃ v' w', (Builtin.append_ #[T, T] ty #[v, .slice (some ⟨W.heap.size, 0, none⟩) 1 1]).run Tryz.prog (W.alloc (.cells r.toArray E)) = .ok v' w' ∧ Lst E k R w' (fun g => lo ≤ g ∧ g < w'.heap.size) v' (l ++ [e]) ∧ (W.alloc (.cells r.toArray E)).grownBy w' v.ownBlock ∧ (∀ g, v.ownBlock = some g → lo ≤ g) := by
  obtain ⟨rows, ⟨h1, h1'⟩, h2⟩ := h
  obtain ⟨q1, q2⟩ := hrow _ _ _ _ he
  have hb : Below W.heap.size W (W.alloc (.cells r.toArray E)) := (Below.refl _ _).alloc (Nat.le_refl _) _
  have hlen := h2.1
  obtain ⟨v', w', hrun, hk, hg, ho⟩ := run_appK2 hU hI hz k0 hby (W.alloc (.cells r.toArray E)) ty 0 v rows (h1.below (Nat.le_refl _) hb) (some ⟨W.heap.size, 0, none⟩) 1 1 [r] rfl (crd_one E W r k q1) ⟨fun x hx => by simp at hx; rw [hx]; exact q1, fun x hx => by simp at hx; rw [hx]; exact q2⟩ (fun e => by cases e) (by omega) (by omega) (Nat.zero_le _)
  have hsz := hg.size
  rw [World.size_alloc] at hsz
  have hov : ∀ g, v'.ownBlock = some g → g < w'.heap.size := fun g e => (hk.own e).2
  have same : ∀ g, g < W.heap.size → v.ownBlock ≠ some g → w'.heap[g]? = W.heap[g]? := fun g hg1 hg2 => (hg.block g (by rw [World.size_alloc]; omega) (fun e => hg2 e.symm)).trans (hb.block g hg1)
  have own : ∀ g, g < W.heap.size → v.ownBlock ≠ some g → v'.ownBlock ≠ some g := fun g hg1 hg2 e => by
    rcases ho with h | h
    · rw [h] at e; exact hg2 e
    · rw [h, World.size_alloc] at e
      have := Option.some.inj e
      omega
  refine ⟨v', w', hrun, ⟨rows ++ [r], ⟨hk, fun g e => ⟨?_, hov g e⟩⟩, (h2.imp fun x a hx => hmv _ _ _ _ _ _ hx (fun g hg => same g hg.1.2 hg.2) (fun g hg => ⟨⟨hg.1.1, by omega⟩, own g hg.1.2 hg.2⟩)).app (All2.one (hmv _ _ _ _ _ _ he (fun g hg => same g (hA g hg).2.1 (hA g hg).2.2) (fun g hg => ⟨⟨(hA g hg).1, by have := (hA g hg).2.1; omega⟩, own g (hA g hg).2.1 (hA g hg).2.2⟩)))⟩, hg, fun g e => (h1' g e).1⟩
  rcases ho with h | h
  · rw [h] at e; exact (h1' g e).1
  · rw [h, World.size_alloc] at e
    have := Option.some.inj e
    omega
theorem wpList_appL {α : Type} {T E : TypeId} {k bytes : Nat} {z : Value} {R : World → (Nat → Prop) → List Value → α → Prop} (hmv : Mv R) (hrow : Rw k R) (hU : Tryz.prog.underlying T = some (.slice E)) (hI : (Tryz.prog.info? E).map (fun i => (i.zero, i.size, i.bytes)) = some (some z, k, bytes)) (hz : z.cells.size = k) (k0 : 0 < k) (hby : bytes ≤ 1000)
    {ops : Array Oper} {rest : List Oper} {o : Oper} {act : Act} {Q : Exit → Act → World → Prop} (X W : World) (cs : Array Value) (hX : X = W.alloc (.cells cs E)) (hgd : o.guard = none) (s x : Operand)
    (ho : o.op = .call { callee := .builtin .append, args := #[s, x], argTypes := #[T, T] }) (v u : Value) (hs : act.eval s = v) (hx : act.eval x = u) (hu : u = .slice (some ⟨W.heap.size, 0, none⟩) 1 1) (lo : Nat) (l : List α) (h : Lst E k R W (fun g => lo ≤ g ∧ g < W.heap.size) v l) (A : Nat → Prop) (e : α) (he : R W A cs.toList e) (hA : ∀ g, A g → lo ≤ g ∧ g < W.heap.size ∧ v.ownBlock ≠ some g) (hl : l.length ≤ 100000) (hlo : lo ≤ W.heap.size)
    (kk : ∀ v' w', Lst E k R w' (fun g => lo ≤ g ∧ g < w'.heap.size) v' (l ++ [e]) → X.grownBy w' v.ownBlock → (∀ g, v.ownBlock = some g → lo ≤ g) → wpList Tryz.prog ops Q rest (act.put o.dst v') w') :
    wpList Tryz.prog ops Q (o :: rest) act X := by
  refine wpList_plain hgd fun K hK => ?_
  subst hu
  subst hX
  obtain ⟨v', w', hrun, h2, h3, h4⟩ := run_appL hmv hrow hU hI hz k0 hby W o.type lo v l h A cs.toList e he hA hl hlo
  rw [Array.toArray_toList] at hrun h3
  unfold Oper.wp execOp
  simp only [ho, resolve, invoke, builtin, Sem.run_bind, Sem.run_pure, Result.andThen_ok, List.map_toArray, List.map_cons, List.map_nil, hs, hx, hrun]
  exact hK _ _ (kk v' w' h2 h3 h4)
/- The four kinds of elements. -/
def LX (w : World) (A : Nat → Prop) (r : List Value) (e : PEx) : Prop := ∃ n, Er n w A r e
def LS (w : World) (A : Nat → Prop) (r : List Value) (e : PSt) : Prop := ∃ n, Sr n w A r e
def LP (w : World) (A : Nat → Prop) (r : List Value) (p : PPm) : Prop := r = [.string (bs p.name), .string (bs p.type)]
def LQ (w : World) (A : Nat → Prop) (r : List Value) (p : Bsq × PEx) : Prop := ∃ r', r = .string (bs p.1) :: r' ∧ LX w A r' p.2
theorem LX_mv : Mv LX := fun w w' A B r a ⟨n, h⟩ s i => ⟨n, Er.mv n h s i⟩
theorem LS_mv : Mv LS := fun w w' A B r a ⟨n, h⟩ s i => ⟨n, Sr.mv n h s i⟩
theorem LP_mv : Mv LP := fun w w' A B r a h s i => h
theorem LQ_mv : Mv LQ := fun w w' A B r a ⟨r', h, k⟩ s i => ⟨r', h, LX_mv _ _ _ _ _ _ k s i⟩
theorem LX_row : Rw 8 LX := fun w A r a ⟨n, h⟩ => h.row
theorem LS_row : Rw 8 LS := fun w A r a ⟨n, h⟩ => h.row
theorem LP_row : Rw 2 LP := fun w A r a h => by
  rw [show r = [.string (bs a.name), .string (bs a.type)] from h]
  exact ⟨rfl, fun u hu => by simp at hu; rcases hu with rfl | rfl <;> rfl⟩
theorem LQ_row : Rw 9 LQ := fun w A r a ⟨r', h, k⟩ => by
  obtain ⟨h1, h2⟩ := LX_row _ _ _ _ k
  subst h
  exact ⟨by simp [h1], fun u hu => by rcases List.mem_cons.1 hu with rfl | hu; rfl; exact h2 u hu⟩
theorem all2_max {β : Type} {R : Nat → List Value → β → Prop} (mono : ∀ m n r b, m ≤ n → R m r b → R n r b) : ∀ (rows : List (List Value)) (l : List β), All2 (fun r b => ∃ n, R n r b) rows l → ∃ n, All2 (R n) rows l
  | [], [], _ => ⟨0, All2.nil _⟩
  | [], b :: l, h => by have := h.1; simp at this
  | r :: rows, [], h => by have := h.1; simp at this
  | r :: rows, b :: l, h => by
    obtain ⟨n, hn⟩ := h.2 0 r b rfl rfl
    obtain ⟨m, hm⟩ := all2_max mono rows l ⟨by have := h.1; simpa using this, fun j x y e f => h.2 (j + 1) x y (by simpa using e) (by simpa using f)⟩
    have h1 : All2 (R (max n m)) [r] [b] := All2.one (mono n _ r b (Nat.le_max_left _ _) hn)
    exact ⟨max n m, h1.app (hm.imp fun x y hx => mono m _ x y (Nat.le_max_right _ _) hx)⟩
theorem Lst.xs {w : World} {A : Nat → Prop} {v : Value} {l : List PEx} (h : Lst 45 8 LX w A v l) : XsR w A v l := by
  obtain ⟨rows, h1, h2⟩ := h
  obtain ⟨n, hn⟩ := all2_max (R := fun n r e => Er n w A r e) (fun m n r b hm h => h.le hm) rows l (h2.imp fun r e ⟨n, h⟩ => ⟨n, Er.mv n h (Same.refl _ _) fun g hg => hg.1⟩)
  exact ⟨n, rows, h1, hn⟩
theorem Lst.ss {w : World} {A : Nat → Prop} {v : Value} {l : List PSt} (h : Lst 48 8 LS w A v l) : SsR w A v l := by
  obtain ⟨rows, h1, h2⟩ := h
  obtain ⟨n, hn⟩ := all2_max (R := fun n r e => Sr n w A r e) (fun m n r b hm h => h.le hm) rows l (h2.imp fun r e ⟨n, h⟩ => ⟨n, Sr.mv n h (Same.refl _ _) fun g hg => hg.1⟩)
  exact ⟨n, rows, h1, hn⟩
theorem Lst.pm {w : World} {A : Nat → Prop} {v : Value} {l : List PPm} (h : Lst 112 2 LP w A v l) : PmR w A v l := by
  obtain ⟨rows, h1, h2⟩ := h
  have : rows = pmR l := by
    apply List.ext_getElem?
    intro j
    rw [pmR, List.getElem?_map]
    cases hj : l[j]? with
    | none =>
      rw [List.getElem?_eq_none_iff] at hj
      rw [List.getElem?_eq_none (by rw [h2.1]; exact hj)]; rfl
    | some p =>
      have hlt : j < rows.length := by rw [h2.1]; exact (List.getElem?_eq_some_iff.1 hj).1
      have := h2.2 j _ p (List.getElem?_eq_getElem hlt) hj
      rw [List.getElem?_eq_getElem hlt, show rows[j] = _ from this]; rfl
  rw [this] at h1
  exact h1
theorem RE.row {w : World} {A : Nat → Prop} {cs : Array Value} {e : PEx} (h : RE w A (.agg cs) e) : LX w A cs.toList e := by
  obtain ⟨k, r, hr, h2⟩ := h
  cases hr
  exact ⟨k, h2⟩
theorem RSt.row {w : World} {A : Nat → Prop} {cs : Array Value} {e : PSt} (h : RSt w A (.agg cs) e) : LS w A cs.toList e := by
  obtain ⟨k, r, hr, h2⟩ := h
  cases hr
  exact ⟨k, h2⟩
end Go.Proofs.YtcnohgifihbkdaaGreatDoor

