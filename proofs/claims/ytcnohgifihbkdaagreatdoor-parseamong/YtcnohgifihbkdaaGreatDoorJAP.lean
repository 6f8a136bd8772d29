/- The parser: parts of statements. -/
import Derived.Test.YtcnohgifihbkdaaGreatDoorJAO
namespace Go.Proofs.YtcnohgifihbkdaaGreatDoor
open Go.RowKit Go.Deep Go.Shelf
set_option linter.unusedVariables false
set_option linter.unusedSimpArgs false
set_option maxRecDepth 100000
theorem RSt.mk2 {w : World} {A : Nat → Prop} {s : PSt} {v av bv ev : Value} {xs : List PEx} {b l : List PSt} (hv : v = .agg #[.int .i64 s.kind, .string (bs s.name), .string (bs s.label), .string (bs s.var), av, bv, ev, .int .i64 s.pos]) (h1 : XsR w A av xs) (h2 : SsR w A bv b) (h3 : SsR w A ev l) (q1 : s.args = xs.map pkE) (q2 : s.body = b.map pkS) (q3 : s.els = l.map pkS) : RSt w A v s := by rw [hv]; exact RSt.mk h1 h2 h3 q1 q2 q3
def XlR (w : World) (A : Nat → Prop) (v : Value) (l : List PEx) : Prop := Lst 45 8 LX w A v l
theorem XlR.mv {w w' : World} {A B : Nat → Prop} {v : Value} {l : List PEx} (h : XlR w A v l) (s : Same A w w') (i : ∀ g, A g → B g) : XlR w' B v l := Lst.mv LX_mv h s i
theorem XlR.form {w : World} {A : Nat → Prop} {v : Value} {l : List PEx} (h : XlR w A v l) : ∃ a m c, v = .slice a m c := by
  obtain ⟨a, c, h⟩ := Lst.form h
  exact ⟨a, _, c, h⟩
theorem XlR.one {w : World} {A B : Nat → Prop} {cs : Array Value} {e : PEx} (h : RE w A (.agg cs) e) (hA : ∀ g, A g → g < w.heap.size) (hAB : ∀ g, A g → B g) (hB : B w.heap.size) : XlR (w.alloc (.cells cs 45)) B (.slice (some ⟨w.heap.size, 0, none⟩) 1 1) [e] := by
  have hr := h.row
  obtain ⟨q1, q2⟩ := LX_row _ _ _ _ hr
  refine ⟨[cs.toList], ⟨by have := (KR.one (E := 45) w cs.toList q1 q2).lower (Nat.zero_le w.heap.size); rw [Array.toArray_toList] at this; exact this.lower (Nat.zero_le _), fun g e => by cases e; exact hB⟩, All2.one (LX_mv _ _ _ _ _ _ hr ((Same.refl _ _).alloc hA) (fun g hg => ⟨hAB g hg, fun e => by cases e; exact absurd (hA _ hg) (Nat.lt_irrefl _)⟩))⟩
set_option maxHeartbeats 1000000 in
theorem one_anyL (w : World) (P D : Nat) (s : PS) (e : Pr PEx) (HP : Pst w P D s) (J : ∀ (V : World) (t : PS), Pst V P D t → w.grownBy V (some P) → Fed (e t) → Calls Tryz.prog 205 #[.pointer (some ⟨P, 0, none⟩)] V (Rt RE P D V (e t))) (HF : Fed (one e s)) : Calls Tryz.prog 202 #[.pointer (some ⟨P, 0, none⟩)] w (Rt XlR P D w (one e s)) := by
  have HG := World.grownBy.refl w (some P)
  have hPw := HP.lt
  have hD := HP.dw
  have hPD := HP.pd
  have t0 := True.intro
  have hmf : ∀ (fn : Fn) (first cap : Array Value) (w : World), (Instr.makeFunc fn first cap).run Tryz.prog w = .ok (.func fn first cap) w := fun _ _ _ _ => rfl
  have H := hid (show one e s = bd e (fun x => ret [x]) s from rfl)
  have J := hid J
  have HF := hid HF
  go_enter Tryz.func202, Tryz.ntmps202
  go_wp2_with (first
    | (have hno := t0; (go_at_call 205; (refine (J.out _ _ (by with_reducible repeat first | exact HP | apply pA | refine pS (by omega) ?_) (by with_reducible repeat first | exact HG | apply gA | apply gB | refine gS (by omega) ?_) (fun h => HF.out (H.out.trans (bd_err h)))).mono ?_; intro e w1 hrt; rcases hrt.go (W := w) (by with_reducible repeat first | exact HG | apply gA | apply gB | refine gS (by omega) ?_) with ⟨f, hx, rfl, hg⟩ | ⟨a, s1, v, hx, rfl, hv, HP, hGw1, HG, hcw1, hfw1, hzw1, hPw1⟩; exact ⟨rfl, Rt.err (H.out.trans (bd_err hx)) hg⟩; (obtain ⟨na, nn, nc, aa, an, ac, es, rfl, hN, hX, hA⟩ := hv.parts; have hE := hv); have H := hid (H.out.trans (bd_ok hx)); (try simp only [szA, szS] at hzw1); have hleww1 := le1 w w1 (by omega); (try have hltww1 := lt1 w w1 (by omega)); have t1 := True.intro)))
    )
  go_ret
  exact Rt.ok (H.out.trans rfl) (XlR.one hE (by rintro g ⟨q1, q2⟩; exact q2) (by rintro g ⟨q1, q2⟩; exact ⟨q1, by simp only [World.size_alloc]; omega⟩) ⟨by omega, by simp only [World.size_alloc]; omega⟩) (by with_reducible repeat first | exact HP | apply pA | refine pS (by omega) ?_) (by with_reducible repeat first | exact HG | apply gA | apply gB | refine gS (by omega) ?_)
set_option maxHeartbeats 1000000 in
theorem bt_oneL (w : World) (P D : Nat) (s : PS) (f t : Bsq) (inner : Pr (List PEx)) (HP : Pst w P D s) (J : ∀ (V : World) (t' : PS), Pst V P D t' → w.grownBy V (some P) → Fed (inner t') → Calls Tryz.prog 202 #[.pointer (some ⟨P, 0, none⟩)] V (Rt XlR P D V (inner t'))) (HF : Fed (between f t inner s)) : Calls Tryz.prog 219 #[.pointer (some ⟨P, 0, none⟩), .string (bs f), .string (bs t), .func (.func 202) #[.pointer (some ⟨P, 0, none⟩)] #[]] w (Rt XlR P D w (between f t inner s)) := by
  have HG := World.grownBy.refl w (some P)
  have hPw := HP.lt
  have hD := HP.dw
  have hPD := HP.pd
  have t0 := True.intro
  have J := hid J
  have HF := hid HF
  have KI := hid (fun (V : World) (hV : Pst V P D s) => is_any V P D s f hV)
  by_cases hq : isS f s = true
  · have H := hid (show between f t inner s = bd enter (fun _ => bd inner fun x => bd (want t) fun _ => bd leave fun _ => ret x) s by unfold between; rw [if_pos hq])
    have HK := isS_k hq
    simp only [hq] at KI
    go_enter Tryz.func219, Tryz.ntmps219
    go_wp2_with (first
      | (have hno := t4; (go_at_call 151; (refine (leave_any _ _ _ _ (by with_reducible repeat first | exact HP | apply pA | refine pS (by omega) ?_)).mono ?_; intro e w5 hrt; rcases hrt.go (W := w) (by with_reducible repeat first | exact HG | apply gA | apply gB | refine gS (by omega) ?_) with ⟨f, hx, rfl, hg⟩ | ⟨u2, s5, v, hx, rfl, hv, HP, hGw5, HG, hcw5, hfw5, hzw5, hPw5⟩; exact ⟨rfl, Rt.err (H.out.trans (bd_err hx)) hg⟩; (have hv2 : v = .tuple #[] := hv; subst hv2); have H := hid (H.out.trans (bd_ok hx)); (try simp only [szA, szS] at hzw5); have hleww5 := le1 w w5 (by omega); (try have hltww5 := lt1 w w5 (by omega)); have hlew1w5 := le1 w1 w5 (by omega); (try have hltw1w5 := lt1 w1 w5 (by omega)); have hlew2w5 := le1 w2 w5 (by omega); (try have hltw2w5 := lt1 w2 w5 (by omega)); have hlew3w5 := le1 w3 w5 (by omega); (try have hltw3w5 := lt1 w3 w5 (by omega)); have hlew4w5 := le1 w4 w5 (by omega); (try have hltw4w5 := lt1 w4 w5 (by omega)); have t5 := True.intro)))
      | (have hno := t3; (go_at_call 80; (refine (want_any _ _ _ _ _ (by with_reducible repeat first | exact HP | apply pA | refine pS (by omega) ?_)).mono ?_; intro e w4 hrt; rcases hrt.go (W := w) (by with_reducible repeat first | exact HG | apply gA | apply gB | refine gS (by omega) ?_) with ⟨f, hx, rfl, hg⟩ | ⟨u, s4, v, hx, rfl, hv, HP, hGw4, HG, hcw4, hfw4, hzw4, hPw4⟩; exact ⟨rfl, Rt.err (H.out.trans (bd_err hx)) hg⟩; (have hv2 : v = .tuple #[] := hv; subst hv2); have H := hid (H.out.trans (bd_ok hx)); (try simp only [szA, szS] at hzw4); have hleww4 := le1 w w4 (by omega); (try have hltww4 := lt1 w w4 (by omega)); have hlew1w4 := le1 w1 w4 (by omega); (try have hltw1w4 := lt1 w1 w4 (by omega)); have hlew2w4 := le1 w2 w4 (by omega); (try have hltw2w4 := lt1 w2 w4 (by omega)); have hlew3w4 := le1 w3 w4 (by omega); (try have hltw3w4 := lt1 w3 w4 (by omega)); have t4 := True.intro)))
      | (have hno := t2; (go_at_call 202; (refine (J.out _ _ (by with_reducible repeat first | exact HP | apply pA | refine pS (by omega) ?_) (by with_reducible repeat first | exact HG | apply gA | apply gB | refine gS (by omega) ?_) (fun h => HF.out (H.out.trans (bd_err h)))).mono ?_; intro e w3 hrt; rcases hrt.go (W := w) (by with_reducible repeat first | exact HG | apply gA | apply gB | refine gS (by omega) ?_) with ⟨f, hx, rfl, hg⟩ | ⟨a, s3, v, hx, rfl, hv, HP, hGw3, HG, hcw3, hfw3, hzw3, hPw3⟩; exact ⟨rfl, Rt.err (H.out.trans (bd_err hx)) hg⟩; (obtain ⟨ax, mx, cx, rfl⟩ := hv.form; have hE := hv); have H := hid (H.out.trans (bd_ok hx)); (try simp only [szA, szS] at hzw3); have hleww3 := le1 w w3 (by omega); (try have hltww3 := lt1 w w3 (by omega)); have hlew1w3 := le1 w1 w3 (by omega); (try have hltw1w3 := lt1 w1 w3 (by omega)); have hlew2w3 := le1 w2 w3 (by omega); (try have hltw2w3 := lt1 w2 w3 (by omega)); have t3 := True.intro)))
      | (have hno := t1; (go_at_call 150; (refine (enter_any _ _ _ _ (by with_reducible repeat first | exact HP | apply pA | refine pS (by omega) ?_) HK).mono ?_; intro e w2 hrt; rcases hrt.go (W := w) (by with_reducible repeat first | exact HG | apply gA | apply gB | refine gS (by omega) ?_) with ⟨f, hx, rfl, hg⟩ | ⟨k, s2, v, hx, rfl, hv, HP, hGw2, HG, hcw2, hfw2, hzw2, hPw2⟩; exact ⟨rfl, Rt.err (H.out.trans (bd_err hx)) hg⟩; (have hv2 : v = tokV k := hv; subst hv2; unfold tokV); have H := hid (H.out.trans (bd_ok hx)); (try simp only [szA, szS] at hzw2); have hleww2 := le1 w w2 (by omega); (try have hltww2 := lt1 w w2 (by omega)); have hlew1w2 := le1 w1 w2 (by omega); (try have hltw1w2 := lt1 w1 w2 (by omega)); have t2 := True.intro)))
      | (have hno := t0; (go_at_call 42; (refine (KI.out _ (by with_reducible repeat first | exact HP | apply pA | refine pS (by omega) ?_)).mono ?_; rintro e w1 ⟨rfl, hb⟩; have hg := bgrown hb (some P); have hs := Pst.below (by with_reducible repeat first | exact HP | apply pA | refine pS (by omega) ?_) hb; obtain ⟨hcw1, hfw1⟩ := gcell hg; have hzw1 := hg.size; (try simp only [szA, szS] at hzw1); have hPw1 := hs.lt; have hleww1 := le1 w w1 (by omega); (try have hltww1 := lt1 w w1 (by omega)); have HG := gtrans (by with_reducible repeat first | exact HG | apply gA | apply gB | refine gS (by omega) ?_) hg; have HP := hs; have hGw1 := hg; have t1 := True.intro; (try clear hg hs))))
      )
    go_ret
    refine Rt.ok (H.out.trans rfl) ?_ ?_ ?_
    · refine XlR.mv hE (show Same (fun g => w2.heap.size ≤ g ∧ g < w3.heap.size) w3 _ from ?_) ?_
      · exact (by repeat (first | (with_reducible exact Same.refl _ _) | ((with_reducible apply Same.alloc); rotate_left; (rintro g ⟨q1, q2⟩; (try simp only [szA, szS]); omega)) | ((with_reducible apply Same.set); rotate_left; (rintro ⟨q1, q2⟩; omega)) | ((with_reducible refine Same.call hGw4 ?_ ?_ ?_); rotate_left; (rintro g ⟨q1, q2⟩; (try simp only [szA, szS]); omega); (rintro ⟨q1, q2⟩; omega)) | ((with_reducible refine Same.call hGw5 ?_ ?_ ?_); rotate_left; (rintro g ⟨q1, q2⟩; (try simp only [szA, szS]); omega); (rintro ⟨q1, q2⟩; omega))))
      · exact (by rintro g ⟨q1, q2⟩; (try simp only [szA, szS] at q1 q2); exact ⟨by omega, by (try simp only [szA, szS]); omega⟩)
    · exact (by with_reducible repeat first | exact HP | apply pA | refine pS (by omega) ?_)
    · exact (by with_reducible repeat first | exact HG | apply gA | apply gB | refine gS (by omega) ?_)
  · have hq : isS f s = false := by simpa using hq
    have H := hid (show between f t inner s = wrong s by unfold between; rw [if_neg (by rw [hq]; decide)])
    simp only [hq] at KI
    go_enter Tryz.func219, Tryz.ntmps219
    go_wp2_with (first
      | (have hno := t1; (go_at_call 48; (refine (wrong_any _ _ _ _ (by with_reducible repeat first | exact HP | apply pA | refine pS (by omega) ?_)).mono ?_; rintro e w2 ⟨rfl, hb⟩; have hg := bgrown hb (some P); have hs := Pst.below (by with_reducible repeat first | exact HP | apply pA | refine pS (by omega) ?_) hb; obtain ⟨hcw2, hfw2⟩ := gcell hg; have hzw2 := hg.size; (try simp only [szA, szS] at hzw2); have hPw2 := hs.lt; have hleww2 := le1 w w2 (by omega); (try have hltww2 := lt1 w w2 (by omega)); have hlew1w2 := le1 w1 w2 (by omega); (try have hltw1w2 := lt1 w1 w2 (by omega)); have HG := gtrans (by with_reducible repeat first | exact HG | apply gA | apply gB | refine gS (by omega) ?_) hg; have HP := hs; have hGw2 := hg; have t2 := True.intro; (try clear hg hs))))
      | (have hno := t0; (go_at_call 42; (refine (KI.out _ (by with_reducible repeat first | exact HP | apply pA | refine pS (by omega) ?_)).mono ?_; rintro e w1 ⟨rfl, hb⟩; have hg := bgrown hb (some P); have hs := Pst.below (by with_reducible repeat first | exact HP | apply pA | refine pS (by omega) ?_) hb; obtain ⟨hcw1, hfw1⟩ := gcell hg; have hzw1 := hg.size; (try simp only [szA, szS] at hzw1); have hPw1 := hs.lt; have hleww1 := le1 w w1 (by omega); (try have hltww1 := lt1 w w1 (by omega)); have HG := gtrans (by with_reducible repeat first | exact HG | apply gA | apply gB | refine gS (by omega) ?_) hg; have HP := hs; have hGw1 := hg; have t1 := True.intro; (try clear hg hs))))
      )
    exact ⟨rfl, Rt.err (H.out.trans rfl) (by with_reducible repeat first | exact HG | apply gA | apply gB | refine gS (by omega) ?_)⟩
set_option maxHeartbeats 1000000 in
theorem key_anyL (w : World) (P D : Nat) (s : PS) (e : Pr PEx) (HP : Pst w P D s) (J : ∀ (V : World) (t : PS), Pst V P D t → w.grownBy V (some P) → Fed (e t) → Calls Tryz.prog 205 #[.pointer (some ⟨P, 0, none⟩)] V (Rt RE P D V (e t))) (HF : Fed (keyP e s)) : Calls Tryz.prog 204 #[.pointer (some ⟨P, 0, none⟩)] w (Rt XlR P D w (keyP e s)) := by
  have HG := World.grownBy.refl w (some P)
  have hPw := HP.lt
  have hD := HP.dw
  have hPD := HP.pd
  have t0 := True.intro
  have hmf : ∀ (fn : Fn) (first cap : Array Value) (w : World), (Instr.makeFunc fn first cap).run Tryz.prog w = .ok (.func fn first cap) w := fun _ _ _ _ => rfl
  have K := hid (bt_oneL w P D s [91] [93] (one e) HP (fun V t hV hg hf => one_anyL V P D t e hV (fun X u hX hVX => J X u hX (gtrans hg hVX)) hf) HF)
  have H := hid (show keyP e s = bd (between [91] [93] (one e)) ret s by unfold keyP bd ret; cases between [91] [93] (one e) s <;> rfl)
  clear J HF
  go_enter Tryz.func204, Tryz.ntmps204
  go_wp2_with (first
    | (have hno := t0; (go_at_call 219; (refine (K.out).mono ?_; intro e w1 hrt; rcases hrt.go (W := w) (by with_reducible repeat first | exact HG | apply gA | apply gB | refine gS (by omega) ?_) with ⟨f, hx, rfl, hg⟩ | ⟨a, s1, v, hx, rfl, hv, HP, hGw1, HG, hcw1, hfw1, hzw1, hPw1⟩; exact ⟨rfl, Rt.err (H.out.trans (bd_err hx)) hg⟩; (obtain ⟨ax, mx, cx, rfl⟩ := hv.form; have hE := hv); have H := hid (H.out.trans (bd_ok hx)); (try simp only [szA, szS] at hzw1); have hleww1 := le1 w w1 (by omega); (try have hltww1 := lt1 w w1 (by omega)); have t1 := True.intro)))
    )
  go_ret
  exact Rt.ok (H.out.trans rfl) hE HP HG
set_option maxHeartbeats 1000000 in
theorem target_any (w : World) (P D : Nat) (s : PS) (HP : Pst w P D s) : Calls Tryz.prog 206 #[.pointer (some ⟨P, 0, none⟩)] w (Rt RS P D w (targetP s)) := by
  have HG := World.grownBy.refl w (some P)
  have hPw := HP.lt
  have hD := HP.dw
  have hPD := HP.pd
  have t0 := True.intro
  have KI := hid (is_any w P D s [59] HP)
  by_cases hq : isS [59] s = true
  · have H := hid (show targetP s = .ok ([], s) by unfold targetP; rw [if_pos hq])
    simp only [hq] at KI
    clear hq
    go_enter Tryz.func206, Tryz.ntmps206
    go_wp2_with (first
      | (have hno := t0; (go_at_call 42; (refine (KI.out).mono ?_; rintro e w1 ⟨rfl, hb⟩; have hg := bgrown hb (some P); have hs := Pst.below (by with_reducible repeat first | exact HP | apply pA | refine pS (by omega) ?_) hb; obtain ⟨hcw1, hfw1⟩ := gcell hg; have hzw1 := hg.size; (try simp only [szA, szS] at hzw1); have hPw1 := hs.lt; have hleww1 := le1 w w1 (by omega); (try have hltww1 := lt1 w w1 (by omega)); have HG := gtrans (by with_reducible repeat first | exact HG | apply gA | apply gB | refine gS (by omega) ?_) hg; have HP := hs; have hGw1 := hg; have t1 := True.intro; (try clear hg hs))))
      )
    go_ret
    exact Rt.ok H.out rfl HP HG
  · have hq2 : isS [59] s = false := by simpa using hq
    have H := hid (show targetP s = bd small ret s by unfold targetP bd ret; rw [if_neg hq]; cases small s <;> rfl)
    simp only [hq2] at KI
    clear hq hq2
    go_enter Tryz.func206, Tryz.ntmps206
    go_wp2_with (first
      | (have hno := t1; (go_at_call 79; (refine (small_any _ _ _ _ (by with_reducible repeat first | exact HP | apply pA | refine pS (by omega) ?_)).mono ?_; intro e w2 hrt; rcases hrt.go (W := w) (by with_reducible repeat first | exact HG | apply gA | apply gB | refine gS (by omega) ?_) with ⟨f, hx, rfl, hg⟩ | ⟨nm, s1, v, hx, rfl, hv, HP, hGw2, HG, hcw2, hfw2, hzw2, hPw2⟩; exact ⟨rfl, Rt.err (H.out.trans (bd_err hx)) hg⟩; (have hv2 : v = .string (bs nm) := hv; subst hv2); have H := hid (H.out.trans (bd_ok hx)); (try simp only [szA, szS] at hzw2); have hleww2 := le1 w w2 (by omega); (try have hltww2 := lt1 w w2 (by omega)); have hlew1w2 := le1 w1 w2 (by omega); (try have hltw1w2 := lt1 w1 w2 (by omega)); have t2 := True.intro)))
      | (have hno := t0; (go_at_call 42; (refine (KI.out).mono ?_; rintro e w1 ⟨rfl, hb⟩; have hg := bgrown hb (some P); have hs := Pst.below (by with_reducible repeat first | exact HP | apply pA | refine pS (by omega) ?_) hb; obtain ⟨hcw1, hfw1⟩ := gcell hg; have hzw1 := hg.size; (try simp only [szA, szS] at hzw1); have hPw1 := hs.lt; have hleww1 := le1 w w1 (by omega); (try have hltww1 := lt1 w w1 (by omega)); have HG := gtrans (by with_reducible repeat first | exact HG | apply gA | apply gB | refine gS (by omega) ?_) hg; have HP := hs; have hGw1 := hg; have t1 := True.intro; (try clear hg hs))))
      )
    go_ret
    exact Rt.ok (H.out.trans rfl) rfl (by with_reducible repeat first | exact HP | apply pA | refine pS (by omega) ?_) (by with_reducible repeat first | exact HG | apply gA | apply gB | refine gS (by omega) ?_)
set_option maxHeartbeats 1000000 in
theorem result_any (w : World) (P D : Nat) (s : PS) (e : Pr PEx) (HP : Pst w P D s) (J : ∀ (V : World) (t : PS), Pst V P D t → w.grownBy V (some P) → Fed (e t) → Calls Tryz.prog 205 #[.pointer (some ⟨P, 0, none⟩)] V (Rt RE P D V (e t))) (HF : Fed (resultP e s)) : Calls Tryz.prog 207 #[.pointer (some ⟨P, 0, none⟩)] w (Rt XsR P D w (resultP e s)) := by
  have HG := World.grownBy.refl w (some P)
  have hPw := HP.lt
  have hD := HP.dw
  have hPD := HP.pd
  have t0 := True.intro
  have hmf : ∀ (fn : Fn) (first cap : Array Value) (w : World), (Instr.makeFunc fn first cap).run Tryz.prog w = .ok (.func fn first cap) w := fun _ _ _ _ => rfl
  have J := hid J
  have HF := hid HF
  have KI := hid (is_any w P D s [59] HP)
  by_cases hq : isS [59] s = true
  · have H := hid (show resultP e s = .ok ([], s) by unfold resultP; rw [if_pos hq])
    simp only [hq] at KI
    clear hq
    go_enter Tryz.func207, Tryz.ntmps207
    go_wp2_with (first
      | (have hno := t0; (go_at_call 42; (refine (KI.out).mono ?_; rintro e w1 ⟨rfl, hb⟩; have hg := bgrown hb (some P); have hs := Pst.below (by with_reducible repeat first | exact HP | apply pA | refine pS (by omega) ?_) hb; obtain ⟨hcw1, hfw1⟩ := gcell hg; have hzw1 := hg.size; (try simp only [szA, szS] at hzw1); have hPw1 := hs.lt; have hleww1 := le1 w w1 (by omega); (try have hltww1 := lt1 w w1 (by omega)); have HG := gtrans (by with_reducible repeat first | exact HG | apply gA | apply gB | refine gS (by omega) ?_) hg; have HP := hs; have hGw1 := hg; have t1 := True.intro; (try clear hg hs))))
      )
    go_ret
    exact Rt.ok H.out (XsR.nil _ _) HP HG
  · have hq2 : isS [59] s = false := by simpa using hq
    have H := hid (show resultP e s = bd (one e) ret s by unfold resultP bd ret; rw [if_neg hq]; cases one e s <;> rfl)
    simp only [hq2] at KI
    clear hq hq2
    go_enter Tryz.func207, Tryz.ntmps207
    go_wp2_with (first
      | (have hno := t1; (go_at_call 202; (refine (one_any _ _ _ _ _ (by with_reducible repeat first | exact HP | apply pA | refine pS (by omega) ?_) (fun X u hX hVX => J.out X u hX (gtrans (by with_reducible repeat first | exact HG | apply gA | apply gB | refine gS (by omega) ?_) hVX)) (fun h => HF.out (H.out.trans (bd_err h)))).mono ?_; intro e w2 hrt; rcases hrt.go (W := w) (by with_reducible repeat first | exact HG | apply gA | apply gB | refine gS (by omega) ?_) with ⟨f, hx, rfl, hg⟩ | ⟨xs, s1, v, hx, rfl, hv, HP, hGw2, HG, hcw2, hfw2, hzw2, hPw2⟩; exact ⟨rfl, Rt.err (H.out.trans (bd_err hx)) hg⟩; (obtain ⟨ax, mx, cx, rfl⟩ := hv.form; have hE := hv); have H := hid (H.out.trans (bd_ok hx)); (try simp only [szA, szS] at hzw2); have hleww2 := le1 w w2 (by omega); (try have hltww2 := lt1 w w2 (by omega)); have hlew1w2 := le1 w1 w2 (by omega); (try have hltw1w2 := lt1 w1 w2 (by omega)); have t2 := True.intro)))
      | (have hno := t0; (go_at_call 42; (refine (KI.out).mono ?_; rintro e w1 ⟨rfl, hb⟩; have hg := bgrown hb (some P); have hs := Pst.below (by with_reducible repeat first | exact HP | apply pA | refine pS (by omega) ?_) hb; obtain ⟨hcw1, hfw1⟩ := gcell hg; have hzw1 := hg.size; (try simp only [szA, szS] at hzw1); have hPw1 := hs.lt; have hleww1 := le1 w w1 (by omega); (try have hltww1 := lt1 w w1 (by omega)); have HG := gtrans (by with_reducible repeat first | exact HG | apply gA | apply gB | refine gS (by omega) ?_) hg; have HP := hs; have hGw1 := hg; have t1 := True.intro; (try clear hg hs))))
      )
    go_ret
    refine Rt.ok (H.out.trans rfl) ?_ HP HG
    exact hE.mv (Same.refl _ _) (by rintro g ⟨q1, q2⟩; (try simp only [szA, szS] at q1 q2); exact ⟨by omega, by (try simp only [szA, szS]); omega⟩)
set_option maxHeartbeats 4000000 in
theorem cl_block (w : World) (P D n : Nat) (s : PS) (st : Pr PSt) (b1 : Nat) (HP : Pst w P D s) (hn : n ≤ 10000) (hb1 : P < b1) (hl1 : b1 < w.heap.size) (hb : w.cell? ⟨b1, 0, none⟩ = some (.pointer (some ⟨P, 0, none⟩))) (JS : ∀ (V : World) (t : PS), Pst V P D t → w.grownBy V (some P) → Fed (st t) → Calls Tryz.prog 117 #[.pointer (some ⟨P, 0, none⟩)] V (Rt RSt P D V (st t))) (HF : Fed (blockL st n [] s)) : Calls Tryz.prog 116 #[.pointer (some ⟨b1, 0, none⟩)] w (Rt SsR P D w (blockL st n [] s)) := by
  have HG := World.grownBy.refl w (some P)
  have hPw := HP.lt
  have hD := HP.dw
  have hPD := HP.pd
  have t0 := True.intro
  have JS := hid JS
  have HF := hid HF
  have HBC := hid hb
  clear hb
  go_enter Tryz.func116, Tryz.ntmps116
  go_wp2
  go_loopg [2] n (fun g v wr => ∃ (l : List PSt) (t : PS), l.length + g = n ∧ Lst 48 8 LS wr (fun g => w.heap.size ≤ g ∧ g < wr.heap.size) v l ∧ blockL st n [] s = blockL st g l t ∧ Pst wr P D t ∧ w.grownBy wr (some P))
  case atStart => exact ⟨[], s, by simp, Lst.nil _ _ _ _ _, rfl, HP, HG⟩
  case round =>
    obtain ⟨l, t, hlg, HL, ho, HP, HG⟩ := hrel
    cases gk with
    | zero => exact absurd (ho.trans rfl) HF.out
    | succ g =>
      obtain ⟨a5, c5, hv5⟩ := HL.form
      subst hv5
      have hgz := HG.size
      have hPr := HP.lt
      have c0 : wr.cell? ⟨b1, 0, none⟩ = some (.pointer (some ⟨P, 0, none⟩)) := (World.grownBy.cell_far HG ⟨b1, 0, none⟩ hl1 (some_ne hb1)).trans HBC.out
      have hb1r : b1 < wr.heap.size := by omega
      have hlI : (l.length : Int) ≤ 10000 := by omega
      have hown : ∀ g, (Value.slice a5 l.length c5).ownBlock = some g → g < wr.heap.size := fun g e => by obtain ⟨rows, ⟨_, q⟩, _⟩ := HL; exact (q g e).2
      have HOW := hid hown
      have HLG := hid hlg
      have HLL := hid HL
      have KI := hid (fun (V : World) (hV : Pst V P D t) => is_any V P D t [125] hV)
      clear hown hlg HL
      by_cases hq : isS [125] t = true
      · have H := hid (show blockL st n [] s = .ok (l, t) from ho.trans (if_pos hq))
        simp only [hq] at KI
        clear ho hq
        go_wp2_with ((have hno := t0; (go_at_call 42; (refine (KI.out _ (by with_reducible repeat first | exact HP | apply pA | refine pS (by omega) ?_)).mono ?_; rintro e w2 ⟨rfl, hb⟩; have hg := bgrown hb (some P); have hs := Pst.below (by with_reducible repeat first | exact HP | apply pA | refine pS (by omega) ?_) hb; obtain ⟨hcw2, hfw2⟩ := gcell hg; have hzw2 := hg.size; (try simp only [szA, szS] at hzw2); have hPw2 := hs.lt; have hleww2 := le1 w w2 (by omega); (try have hltww2 := lt1 w w2 (by omega)); have hlewrw2 := le1 wr w2 (by omega); (try have hltwrw2 := lt1 wr w2 (by omega)); have HG := gtrans (by with_reducible repeat first | exact HG | apply gA | apply gB | refine gS (by omega) ?_) hg; have HP := hs; have hGw2 := hg; have t1 := True.intro; (try clear hg hs)))))
        go_ret
        exact Rt.ok H.out (Lst.ss (HLL.out.mv LS_mv (by repeat (first | (with_reducible exact Same.refl _ _) | ((with_reducible apply Same.alloc); rotate_left; (rintro g ⟨q1, q2⟩; (try simp only [szA, szS]); omega)) | ((with_reducible apply Same.set); rotate_left; (rintro ⟨q1, q2⟩; omega)) | ((with_reducible refine Same.call hGw2 ?_ ?_ ?_); rotate_left; (rintro g ⟨q1, q2⟩; (try simp only [szA, szS]); omega); (rintro ⟨q1, q2⟩; omega)))) (by rintro g ⟨q1, q2⟩; exact ⟨q1, by omega⟩))) HP HG
      · have hq2 : isS [125] t = false := by simpa using hq
        have H := hid (show blockL st n [] s = bd st (fun x => blockL st g (l ++ [x])) t from ho.trans (if_neg hq))
        simp only [hq2] at KI
        clear ho hq hq2
        go_wp2_with (first
          | (have hno := t2; (at_builtin; refine wpList_appL LS_mv LS_row Tryz.underlying46 infoSt rfl (by decide) (by decide) _ w3 _ rfl rfl _ _ rfl _ _ (by rfl) (by rfl) rfl w.heap.size l (HLL.out.mv LS_mv (by repeat (first | (with_reducible exact Same.refl _ _) | ((with_reducible apply Same.alloc); rotate_left; (rintro g ⟨q1, q2⟩; (try simp only [szA, szS]); omega)) | ((with_reducible apply Same.set); rotate_left; (rintro ⟨q1, q2⟩; omega)) | ((with_reducible refine Same.call hGw2 ?_ ?_ ?_); rotate_left; (rintro g ⟨q1, q2⟩; (try simp only [szA, szS]); omega); (rintro ⟨q1, q2⟩; omega)) | ((with_reducible refine Same.call hGw3 ?_ ?_ ?_); rotate_left; (rintro g ⟨q1, q2⟩; (try simp only [szA, szS]); omega); (rintro ⟨q1, q2⟩; omega)))) (by rintro g ⟨q1, q2⟩; exact ⟨q1, by omega⟩)) _ a (RSt.row hE) (by rintro g ⟨q1, q2⟩; exact ⟨by omega, q2, fun e => by have := HOW.out g e; omega⟩) (by omega) (by omega) ?_; intro v4 w4 h1 h2 h3; have hz4 := h2.size; simp only [World.size_alloc] at hz4; have HP := (HP.alloc _).grown h2 (fun r e => by have := h3 r e; omega); have HG := grown_row (grown_alloc HG _) h2 h3; have HL4 := hid h1; have hP4 := HP.lt; have t3 := True.intro; clear h1 h2 h3))
          | (have hno := t1; (go_at_call 117; (refine (JS.out _ _ (by with_reducible repeat first | exact HP | apply pA | refine pS (by omega) ?_) (by with_reducible repeat first | exact HG | apply gA | apply gB | refine gS (by omega) ?_) (fun h => HF.out (H.out.trans (bd_err h)))).mono ?_; intro e w3 hrt; rcases hrt.go (W := w) (by with_reducible repeat first | exact HG | apply gA | apply gB | refine gS (by omega) ?_) with ⟨f, hx, rfl, hg⟩ | ⟨a, s3, v, hx, rfl, hv, HP, hGw3, HG, hcw3, hfw3, hzw3, hPw3⟩; exact ⟨rfl, Rt.err (H.out.trans (bd_err hx)) hg⟩; (obtain ⟨saa, san, sac, sba, sbn, sbc, sea, sen, sec, sxs, sb, sl, rfl, hX1, hX2, hX3, hq1, hq2, hq3⟩ := hv.parts; have hE := hv); have H := hid (H.out.trans (bd_ok hx)); (try simp only [szA, szS] at hzw3); have hleww3 := le1 w w3 (by omega); (try have hltww3 := lt1 w w3 (by omega)); have hlewrw3 := le1 wr w3 (by omega); (try have hltwrw3 := lt1 wr w3 (by omega)); have hlew2w3 := le1 w2 w3 (by omega); (try have hltw2w3 := lt1 w2 w3 (by omega)); have t2 := True.intro)))
          | (have hno := t0; (go_at_call 42; (refine (KI.out _ (by with_reducible repeat first | exact HP | apply pA | refine pS (by omega) ?_)).mono ?_; rintro e w2 ⟨rfl, hb⟩; have hg := bgrown hb (some P); have hs := Pst.below (by with_reducible repeat first | exact HP | apply pA | refine pS (by omega) ?_) hb; obtain ⟨hcw2, hfw2⟩ := gcell hg; have hzw2 := hg.size; (try simp only [szA, szS] at hzw2); have hPw2 := hs.lt; have hleww2 := le1 w w2 (by omega); (try have hltww2 := lt1 w w2 (by omega)); have hlewrw2 := le1 wr w2 (by omega); (try have hltwrw2 := lt1 wr w2 (by omega)); have HG := gtrans (by with_reducible repeat first | exact HG | apply gA | apply gB | refine gS (by omega) ?_) hg; have HP := hs; have hGw2 := hg; have t1 := True.intro; (try clear hg hs))))
          )
        go_roundg g
        case measure => omega
        exact ⟨l ++ [a], s3, by rw [List.length_append]; have := HLG.out; simp; omega, HL4.out, H.out, HP, HG⟩
set_option maxHeartbeats 1000000 in
theorem block_any (w : World) (P D n : Nat) (s : PS) (st : Pr PSt) (HP : Pst w P D s) (hn : n ≤ 10000) (JS : ∀ (V : World) (t : PS), Pst V P D t → w.grownBy V (some P) → Fed (st t) → Calls Tryz.prog 117 #[.pointer (some ⟨P, 0, none⟩)] V (Rt RSt P D V (st t))) (HF : Fed (blockP n st s)) : Calls Tryz.prog 86 #[.pointer (some ⟨P, 0, none⟩)] w (Rt SsR P D w (blockP n st s)) := by
  have HG := World.grownBy.refl w (some P)
  have hPw := HP.lt
  have hD := HP.dw
  have hPD := HP.pd
  have t0 := True.intro
  have hmf : ∀ (fn : Fn) (first cap : Array Value) (w : World), (Instr.makeFunc fn first cap).run Tryz.prog w = .ok (.func fn first cap) w := fun _ _ _ _ => rfl
  have hb1 : Box w.heap.size #[.pointer (some ⟨P, 0, none⟩)] 99 (w.alloc (.cells #[.pointer (some ⟨P, 0, none⟩)] 99)) := Box.new w _ _
  have HPW := HP.alloc (.cells #[.pointer (some ⟨P, 0, none⟩)] 99)
  have HGW := World.grownBy_alloc w (.cells #[.pointer (some ⟨P, 0, none⟩)] 99) (some P)
  have K := hid (bt_st _ P D s [123] [125] (blockL st n []) w.heap.size 0 0 HPW (fun V t hV hg hf => cl_block V P D n t st w.heap.size hV hn (by omega) ((hb1.call hg (by omega)).lt) ((hb1.call hg (by omega)).cell rfl) (fun X u hX hVX hu => JS X u hX (gtrans HGW (gtrans hg hVX)) hu) hf) HF)
  have H := hid (show blockP n st s = bd (between [123] [125] (blockL st n [])) ret s by unfold blockP bd ret; cases between [123] [125] (blockL st n []) s <;> rfl)
  clear JS HF hb1
  have HP := HPW
  have HG := HGW
  go_enter Tryz.func86, Tryz.ntmps86
  go_wp2_with ((have hno := t0; (go_at_call 115; (refine (K.out).mono ?_; intro e w1 hrt; rcases hrt.go (W := w) (by with_reducible repeat first | exact HG | apply gA | apply gB | refine gS (by omega) ?_) with ⟨f, hx, rfl, hg⟩ | ⟨a, s1, v, hx, rfl, hv, HP, hGw1, HG, hcw1, hfw1, hzw1, hPw1⟩; exact ⟨rfl, Rt.err (H.out.trans (bd_err hx)) hg⟩; (obtain ⟨ax, mx, cx, rfl⟩ := hv.form; have hE := hv); have H := hid (H.out.trans (bd_ok hx)); (try simp only [szA, szS] at hzw1); have t1 := True.intro))))
  go_ret
  refine Rt.ok (H.out.trans rfl) ?_ HP HG
  exact SsR.mv hE (Same.refl _ _) (by rintro g ⟨q1, q2⟩; simp only [World.size_alloc] at q1; exact ⟨by omega, q2⟩)
set_option maxHeartbeats 1000000 in
theorem other_any (w : World) (P D n : Nat) (s : PS) (st : Pr PSt) (HP : Pst w P D s) (hn : n ≤ 10000) (JS : ∀ (V : World) (t : PS), Pst V P D t → w.grownBy V (some P) → Fed (st t) → Calls Tryz.prog 117 #[.pointer (some ⟨P, 0, none⟩)] V (Rt RSt P D V (st t))) (HF : Fed (otherP n st s)) : Calls Tryz.prog 203 #[.pointer (some ⟨P, 0, none⟩)] w (Rt SsR P D w (otherP n st s)) := by
  have HG := World.grownBy.refl w (some P)
  have hPw := HP.lt
  have hD := HP.dw
  have hPD := HP.pd
  have t0 := True.intro
  have JS := hid JS
  have HF := hid HF
  have KI := hid (is_any w P D s [105, 102] HP)
  by_cases hq : isS [105, 102] s = true
  · have H := hid (show otherP n st s = bd st (fun x => ret [x]) s by unfold otherP; rw [if_pos hq])
    simp only [hq] at KI
    clear hq
    go_enter Tryz.func203, Tryz.ntmps203
    go_wp2_with (first
      | (have hno := t1; (go_at_call 117; (refine (JS.out _ _ (by with_reducible repeat first | exact HP | apply pA | refine pS (by omega) ?_) (by with_reducible repeat first | exact HG | apply gA | apply gB | refine gS (by omega) ?_) (fun h => HF.out (H.out.trans (bd_err h)))).mono ?_; intro e w2 hrt; rcases hrt.go (W := w) (by with_reducible repeat first | exact HG | apply gA | apply gB | refine gS (by omega) ?_) with ⟨f, hx, rfl, hg⟩ | ⟨a, s1, v, hx, rfl, hv, HP, hGw2, HG, hcw2, hfw2, hzw2, hPw2⟩; exact ⟨rfl, Rt.err (H.out.trans (bd_err hx)) hg⟩; (obtain ⟨saa, san, sac, sba, sbn, sbc, sea, sen, sec, sxs, sb, sl, rfl, hX1, hX2, hX3, hq1, hq2, hq3⟩ := hv.parts; have hE := hv); have H := hid (H.out.trans (bd_ok hx)); (try simp only [szA, szS] at hzw2); have hleww2 := le1 w w2 (by omega); (try have hltww2 := lt1 w w2 (by omega)); have hlew1w2 := le1 w1 w2 (by omega); (try have hltw1w2 := lt1 w1 w2 (by omega)); have t2 := True.intro)))
      | (have hno := t0; (go_at_call 42; (refine (KI.out).mono ?_; rintro e w1 ⟨rfl, hb⟩; have hg := bgrown hb (some P); have hs := Pst.below (by with_reducible repeat first | exact HP | apply pA | refine pS (by omega) ?_) hb; obtain ⟨hcw1, hfw1⟩ := gcell hg; have hzw1 := hg.size; (try simp only [szA, szS] at hzw1); have hPw1 := hs.lt; have hleww1 := le1 w w1 (by omega); (try have hltww1 := lt1 w w1 (by omega)); have HG := gtrans (by with_reducible repeat first | exact HG | apply gA | apply gB | refine gS (by omega) ?_) hg; have HP := hs; have hGw1 := hg; have t1 := True.intro; (try clear hg hs))))
      )
    go_ret
    exact Rt.ok (H.out.trans rfl) (SsR.one hE (by rintro g ⟨q1, q2⟩; exact q2) (by rintro g ⟨q1, q2⟩; exact ⟨by omega, by simp only [World.size_alloc]; omega⟩) ⟨by omega, by simp only [World.size_alloc]; omega⟩) (by with_reducible repeat first | exact HP | apply pA | refine pS (by omega) ?_) (by with_reducible repeat first | exact HG | apply gA | apply gB | refine gS (by omega) ?_)
  · have hq2 : isS [105, 102] s = false := by simpa using hq
    have H := hid (show otherP n st s = bd (blockP n st) ret s by unfold otherP bd ret; rw [if_neg hq]; cases blockP n st s <;> rfl)
    simp only [hq2] at KI
    clear hq hq2
    go_enter Tryz.func203, Tryz.ntmps203
    go_wp2_with (first
      | (have hno := t1; (go_at_call 86; (refine (block_any _ _ _ _ _ _ (by with_reducible repeat first | exact HP | apply pA | refine pS (by omega) ?_) hn (fun X u hX hVX => JS.out X u hX (gtrans (by with_reducible repeat first | exact HG | apply gA | apply gB | refine gS (by omega) ?_) hVX)) (fun h => HF.out (H.out.trans (bd_err h)))).mono ?_; intro e w2 hrt; rcases hrt.go (W := w) (by with_reducible repeat first | exact HG | apply gA | apply gB | refine gS (by omega) ?_) with ⟨f, hx, rfl, hg⟩ | ⟨bl, s1, v, hx, rfl, hv, HP, hGw2, HG, hcw2, hfw2, hzw2, hPw2⟩; exact ⟨rfl, Rt.err (H.out.trans (bd_err hx)) hg⟩; (obtain ⟨ax, mx, cx, rfl⟩ := hv.form; have hE := hv); have H := hid (H.out.trans (bd_ok hx)); (try simp only [szA, szS] at hzw2); have hleww2 := le1 w w2 (by omega); (try have hltww2 := lt1 w w2 (by omega)); have hlew1w2 := le1 w1 w2 (by omega); (try have hltw1w2 := lt1 w1 w2 (by omega)); have t2 := True.intro)))
      | (have hno := t0; (go_at_call 42; (refine (KI.out).mono ?_; rintro e w1 ⟨rfl, hb⟩; have hg := bgrown hb (some P); have hs := Pst.below (by with_reducible repeat first | exact HP | apply pA | refine pS (by omega) ?_) hb; obtain ⟨hcw1, hfw1⟩ := gcell hg; have hzw1 := hg.size; (try simp only [szA, szS] at hzw1); have hPw1 := hs.lt; have hleww1 := le1 w w1 (by omega); (try have hltww1 := lt1 w w1 (by omega)); have HG := gtrans (by with_reducible repeat first | exact HG | apply gA | apply gB | refine gS (by omega) ?_) hg; have HP := hs; have hGw1 := hg; have t1 := True.intro; (try clear hg hs))))
      )
    go_ret
    refine Rt.ok (H.out.trans rfl) ?_ HP HG
    exact hE.mv (Same.refl _ _) (by rintro g ⟨q1, q2⟩; (try simp only [szA, szS] at q1 q2); exact ⟨by omega, by (try simp only [szA, szS]); omega⟩)
end Go.Proofs.YtcnohgifihbkdaaGreatDoor

namespace Go.Proofs.YtcnohgifihbkdaaGreatDoor
open Go.RowKit Go.Deep Go.Shelf
theorem Pst.to {w w' : World} {P D : Nat} {s : PS} (h : Pst w P D s) (k : Pst w P D s → Pst w' P D s) : Pst w' P D s := k h

theorem Gw.to {w w1 w2 : World} {P : Nat} (h : w.grownBy w1 (some P)) (k : w.grownBy w1 (some P) → w.grownBy w2 (some P)) : w.grownBy w2 (some P) := k h
end Go.Proofs.YtcnohgifihbkdaaGreatDoor

