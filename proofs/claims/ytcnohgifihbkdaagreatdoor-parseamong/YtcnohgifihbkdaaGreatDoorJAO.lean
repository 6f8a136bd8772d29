/- The parser: expressions, the whole. -/
import Derived.Test.YtcnohgifihbkdaaGreatDoorJAN
namespace Go.Proofs.YtcnohgifihbkdaaGreatDoor
open Go.RowKit Go.Deep Go.Shelf
set_option linter.unusedVariables false
set_option linter.unusedSimpArgs false
set_option maxRecDepth 100000
theorem take_tail {s s' : PS} {a : PTok} (h : take s = .ok (a, s')) : s' = { s with toks := s.toks.tail } := by
  unfold take at h
  split at h
  · cases h
  · split at h
    · cases h
    · cases h; rfl
theorem Pst.open2 {w : World} {P D : Nat} {s : PS} (h : Pst w P D s) (h2 : 2 ≤ s.toks.length) : ∃ (g off n c : Nat), P < w.heap.size ∧ g < w.heap.size ∧ w.cell? ⟨P, 0, none⟩ = some (.slice (some ⟨g, off, none⟩) n c) ∧ (1 : Int) < (n : Int) ∧ (n : Int) ≤ 5000 ∧ (n : Int) ≤ (c : Int) ∧ w.cell? ⟨g, off + 3, none⟩ = some (.int .i64 (second s).kind) := by
  obtain ⟨⟨g, off, c, cs, h1, h2', h3, h3', h4⟩, h5, h6, h7⟩ := h
  obtain ⟨t, ht⟩ : ∃ t, s.toks[1]? = some t := ⟨_, List.getElem?_eq_getElem (by omega)⟩
  have hs : second s = t := by
    unfold second
    cases hl : s.toks with
    | nil => rw [hl] at ht; simp at ht
    | cons x r =>
      rw [hl] at ht
      cases r with
      | nil => simp at ht
      | cons y r => simp at ht; simp [ht]
  obtain ⟨a1, _, _⟩ := h4 1 t ht
  refine ⟨g, off, s.toks.length, c, lt_of_heap h1, lt_of_heap h3, cellOf h1 0, by omega, by omega, by omega, ?_⟩
  rw [cellOf h3, hs]; simpa using a1
set_option maxHeartbeats 1000000 in
theorem fac_any (w : World) (P D n : Nat) (s : PS) (l : Lay) (HP : Pst w P D s) (hn : n ≤ 10000) (HN : NumC) (J : ∀ (V : World) (t : PS), Pst V P D t → w.grownBy V (some P) → Fed (l.expr t) → Calls Tryz.prog 205 #[.pointer (some ⟨P, 0, none⟩)] V (Rt RE P D V (l.expr t))) (JF : ∀ (V : World) (t : PS), Pst V P D t → w.grownBy V (some P) → Fed (l.fac t) → Calls Tryz.prog 243 #[.pointer (some ⟨P, 0, none⟩)] V (Rt RE P D V (l.fac t))) (HF : Fed (facP n l s)) : Calls Tryz.prog 243 #[.pointer (some ⟨P, 0, none⟩)] w (Rt RE P D w (facP n l s)) := by
  have HG := World.grownBy.refl w (some P)
  have hPw := HP.lt
  have hD := HP.dw
  have hPD := HP.pd
  have t0 := True.intro
  have hmf : ∀ (fn : Fn) (first cap : Array Value) (w : World), (Instr.makeFunc fn first cap).run Tryz.prog w = .ok (.func fn first cap) w := fun _ _ _ _ => rfl
  have HF := hid HF
  have J := hid J
  have JF := hid JF
  have HN := hid HN
  have KI := hid (fun (V : World) (hV : Pst V P D s) => is_any V P D s [45] hV)
  by_cases hq : isS [45] s = true
  · have HK := isS_k hq
    obtain ⟨hrt, h2⟩ := tail_ok HP.ok HK
    simp only [hq] at KI
    by_cases h3 : (second s).kind = 3
    · have H := hid (show facP n l s = bd take (fun t => bd (number true) fun m => ret ⟨1, 0, m, [], [], [], [], t.pos⟩) s by unfold facP; rw [if_pos hq, if_pos h3])
      have H3 := hid h3
      have H2L := hid h2
      clear h3 hrt h2
      go_enter Tryz.func243, Tryz.ntmps243
      go_wp2_with (first
        | (have hno := t2; (go_at_call 245; (refine (HN.out _ _ _ _ true (by with_reducible repeat first | exact HP | apply pA | refine pS (by omega) ?_) H4.out).mono ?_; intro e w3 hrt; rcases hrt.go (W := w) (by with_reducible repeat first | exact HG | apply gA | apply gB | refine gS (by omega) ?_) with ⟨f, hx, rfl, hg⟩ | ⟨m, s2, v, hx, rfl, hv, HP, hGw3, HG, hcw3, hfw3, hzw3, hPw3⟩; exact ⟨rfl, Rt.err (H.out.trans (bd_err hx)) hg⟩; (have hv2 : v = .int .i64 m := hv; subst hv2); have H := hid (H.out.trans (bd_ok hx)); (try simp only [szA, szS] at hzw3); have hleww3 := le1 w w3 (by omega); (try have hltww3 := lt1 w w3 (by omega)); have hlew1w3 := le1 w1 w3 (by omega); (try have hltw1w3 := lt1 w1 w3 (by omega)); have hlew2w3 := le1 w2 w3 (by omega); (try have hltw2w3 := lt1 w2 w3 (by omega)); have t3 := True.intro)))
        | (have hno := t1; (go_at_call 75; (refine (take_any _ _ _ _ (by with_reducible repeat first | exact HP | apply pA | refine pS (by omega) ?_) HK).mono ?_; intro e w2 hrt; rcases hrt.go (W := w) (by with_reducible repeat first | exact HG | apply gA | apply gB | refine gS (by omega) ?_) with ⟨f, hx, rfl, hg⟩ | ⟨k, s1, v, hx, rfl, hv, HP, hGw2, HG, hcw2, hfw2, hzw2, hPw2⟩; exact ⟨rfl, Rt.err (H.out.trans (bd_err hx)) hg⟩; (have hv2 : v = tokV k := hv; subst hv2; unfold tokV); have H := hid (H.out.trans (bd_ok hx)); (try simp only [szA, szS] at hzw2); have hleww2 := le1 w w2 (by omega); (try have hltww2 := lt1 w w2 (by omega)); have hlew1w2 := le1 w1 w2 (by omega); (try have hltw1w2 := lt1 w1 w2 (by omega)); have t2 := True.intro; have H4 : Hid ((nxt s1).kind = 3) := hid (by rw [take_tail hx]; exact H3.out))))
        | (have hno := t0; (go_at_call 42; (refine (KI.out _ (by with_reducible repeat first | exact HP | apply pA | refine pS (by omega) ?_)).mono ?_; rintro e w1 ⟨rfl, hb⟩; have hg := bgrown hb (some P); have hs := Pst.below (by with_reducible repeat first | exact HP | apply pA | refine pS (by omega) ?_) hb; obtain ⟨hcw1, hfw1⟩ := gcell hg; have hzw1 := hg.size; (try simp only [szA, szS] at hzw1); have hPw1 := hs.lt; have hleww1 := le1 w w1 (by omega); (try have hltww1 := lt1 w w1 (by omega)); have HG := gtrans (by with_reducible repeat first | exact HG | apply gA | apply gB | refine gS (by omega) ?_) hg; have HP := hs; have hGw1 := hg; have t1 := True.intro; obtain ⟨g2, off2, n2, c2, hP2, hg2, p0, p1, p2, p3, p4⟩ := hs.open2 H2L.out; rw [H3.out] at p4; (try clear hg hs))))
        )
      refine ret8 Tryz.results243 rfl (by repeat (first | (with_reducible apply Bx.put8) | (with_reducible apply Box.alloc) | ((with_reducible refine Box.set ?_ ?_); rotate_left; omega) | ((with_reducible refine Bx.new _ _ _ ?_); rfl) | (with_reducible apply Bx.alloc) | (with_reducible apply Bx.set) | ((with_reducible refine Bx.call hGw1 ?_ ?_); omega) | ((with_reducible refine Bx.call hGw2 ?_ ?_); omega) | ((with_reducible refine Bx.call hGw3 ?_ ?_); omega))) rfl ?_
      refine Rt.ok (H.out.trans rfl) ?_ (by with_reducible repeat first | exact HP | apply pA | refine pS (by omega) ?_) (by with_reducible repeat first | exact HG | apply gA | apply gB | refine gS (by omega) ?_)
      exact RE.mk2 (es := []) rfl (Rws.nil _ _ _ _) (XsR.nil _ _) rfl
    · have H := hid (show facP n l s = bd (unary 18 l.fac) ret s by unfold facP bd ret; rw [if_pos hq, if_neg h3]; cases unary 18 l.fac s <;> rfl)
      have h3f : ((second s).kind == 3) = false := by simp [h3]
      have h3t : ((second s).kind != 3) = true := by simp [h3]
      have H2L := hid h2
      clear hrt h2
      go_enter Tryz.func243, Tryz.ntmps243
      go_wp2_with (first
        | (have hno := t1; (go_at_call 233; (refine (unary_fac _ _ _ _ _ _ (by with_reducible repeat first | exact HP | apply pA | refine pS (by omega) ?_) HK (fun X u hX hVX => JF.out X u hX (gtrans (by with_reducible repeat first | exact HG | apply gA | apply gB | refine gS (by omega) ?_) hVX)) (fun h => HF.out (H.out.trans (bd_err h)))).mono ?_; intro e w2 hrt; rcases hrt.go (W := w) (by with_reducible repeat first | exact HG | apply gA | apply gB | refine gS (by omega) ?_) with ⟨f, hx, rfl, hg⟩ | ⟨a, s1, v, hx, rfl, hv, HP, hGw2, HG, hcw2, hfw2, hzw2, hPw2⟩; exact ⟨rfl, Rt.err (H.out.trans (bd_err hx)) hg⟩; (obtain ⟨na, nn, nc, aa, an, ac, es, rfl, hN, hX, hA⟩ := hv.parts; have hE := hv); have H := hid (H.out.trans (bd_ok hx)); (try simp only [szA, szS] at hzw2); have hleww2 := le1 w w2 (by omega); (try have hltww2 := lt1 w w2 (by omega)); have hlew1w2 := le1 w1 w2 (by omega); (try have hltw1w2 := lt1 w1 w2 (by omega)); have t2 := True.intro)))
        | (have hno := t0; (go_at_call 42; (refine (KI.out _ (by with_reducible repeat first | exact HP | apply pA | refine pS (by omega) ?_)).mono ?_; rintro e w1 ⟨rfl, hb⟩; have hg := bgrown hb (some P); have hs := Pst.below (by with_reducible repeat first | exact HP | apply pA | refine pS (by omega) ?_) hb; obtain ⟨hcw1, hfw1⟩ := gcell hg; have hzw1 := hg.size; (try simp only [szA, szS] at hzw1); have hPw1 := hs.lt; have hleww1 := le1 w w1 (by omega); (try have hltww1 := lt1 w w1 (by omega)); have HG := gtrans (by with_reducible repeat first | exact HG | apply gA | apply gB | refine gS (by omega) ?_) hg; have HP := hs; have hGw1 := hg; have t1 := True.intro; obtain ⟨g2, off2, n2, c2, hP2, hg2, p0, p1, p2, p3, p4⟩ := hs.open2 H2L.out; (try clear hg hs))))
        )
      refine ret8 Tryz.results243 rfl (by repeat (first | (with_reducible apply Bx.put8) | (with_reducible apply Box.alloc) | ((with_reducible refine Box.set ?_ ?_); rotate_left; omega) | ((with_reducible refine Bx.new _ _ _ ?_); rfl) | (with_reducible apply Bx.alloc) | (with_reducible apply Bx.set) | ((with_reducible refine Bx.call hGw1 ?_ ?_); omega) | ((with_reducible refine Bx.call hGw2 ?_ ?_); omega))) rfl ?_
      refine Rt.ok (H.out.trans rfl) ?_ (by with_reducible repeat first | exact HP | apply pA | refine pS (by omega) ?_) (by with_reducible repeat first | exact HG | apply gA | apply gB | refine gS (by omega) ?_)
      refine RE.mv hE (show Same (fun g => w1.heap.size ≤ g ∧ g < w2.heap.size) w2 _ from ?_) ?_
      · exact (by repeat (first | (with_reducible exact Same.refl _ _) | ((with_reducible apply Same.alloc); rotate_left; (rintro g ⟨q1, q2⟩; (try simp only [szA, szS]); omega)) | ((with_reducible apply Same.set); rotate_left; (rintro ⟨q1, q2⟩; omega))))
      · exact (by rintro g ⟨q1, q2⟩; (try simp only [szA, szS] at q1 q2); exact ⟨by omega, by (try simp only [szA, szS]); omega⟩)
  · have hq2 : isS [45] s = false := by simpa using hq
    have H := hid (show facP n l s = bd (post n l.expr) ret s by unfold facP bd ret; rw [if_neg hq]; cases post n l.expr s <;> rfl)
    simp only [hq2] at KI
    go_enter Tryz.func243, Tryz.ntmps243
    go_wp2_with (first
      | (have hno := t1; (go_at_call 244; (refine (post_any _ _ _ _ _ _ (by with_reducible repeat first | exact HP | apply pA | refine pS (by omega) ?_) hn (fun X u hX hVX => J.out X u hX (gtrans (by with_reducible repeat first | exact HG | apply gA | apply gB | refine gS (by omega) ?_) hVX)) HN.out (fun h => HF.out (H.out.trans (bd_err h)))).mono ?_; intro e w2 hrt; rcases hrt.go (W := w) (by with_reducible repeat first | exact HG | apply gA | apply gB | refine gS (by omega) ?_) with ⟨f, hx, rfl, hg⟩ | ⟨a, s1, v, hx, rfl, hv, HP, hGw2, HG, hcw2, hfw2, hzw2, hPw2⟩; exact ⟨rfl, Rt.err (H.out.trans (bd_err hx)) hg⟩; (obtain ⟨na, nn, nc, aa, an, ac, es, rfl, hN, hX, hA⟩ := hv.parts; have hE := hv); have H := hid (H.out.trans (bd_ok hx)); (try simp only [szA, szS] at hzw2); have hleww2 := le1 w w2 (by omega); (try have hltww2 := lt1 w w2 (by omega)); have hlew1w2 := le1 w1 w2 (by omega); (try have hltw1w2 := lt1 w1 w2 (by omega)); have t2 := True.intro)))
      | (have hno := t0; (go_at_call 42; (refine (KI.out _ (by with_reducible repeat first | exact HP | apply pA | refine pS (by omega) ?_)).mono ?_; rintro e w1 ⟨rfl, hb⟩; have hg := bgrown hb (some P); have hs := Pst.below (by with_reducible repeat first | exact HP | apply pA | refine pS (by omega) ?_) hb; obtain ⟨hcw1, hfw1⟩ := gcell hg; have hzw1 := hg.size; (try simp only [szA, szS] at hzw1); have hPw1 := hs.lt; have hleww1 := le1 w w1 (by omega); (try have hltww1 := lt1 w w1 (by omega)); have HG := gtrans (by with_reducible repeat first | exact HG | apply gA | apply gB | refine gS (by omega) ?_) hg; have HP := hs; have hGw1 := hg; have t1 := True.intro; (try clear hg hs))))
      )
    refine ret8 Tryz.results243 rfl (by repeat (first | (with_reducible apply Bx.put8) | (with_reducible apply Box.alloc) | ((with_reducible refine Box.set ?_ ?_); rotate_left; omega) | ((with_reducible refine Bx.new _ _ _ ?_); rfl) | (with_reducible apply Bx.alloc) | (with_reducible apply Bx.set) | ((with_reducible refine Bx.call hGw1 ?_ ?_); omega) | ((with_reducible refine Bx.call hGw2 ?_ ?_); omega))) rfl ?_
    refine Rt.ok (H.out.trans rfl) ?_ (by with_reducible repeat first | exact HP | apply pA | refine pS (by omega) ?_) (by with_reducible repeat first | exact HG | apply gA | apply gB | refine gS (by omega) ?_)
    refine RE.mv hE (show Same (fun g => w1.heap.size ≤ g ∧ g < w2.heap.size) w2 _ from ?_) ?_
    · exact (by repeat (first | (with_reducible exact Same.refl _ _) | ((with_reducible apply Same.alloc); rotate_left; (rintro g ⟨q1, q2⟩; (try simp only [szA, szS]); omega)) | ((with_reducible apply Same.set); rotate_left; (rintro ⟨q1, q2⟩; omega))))
    · exact (by rintro g ⟨q1, q2⟩; (try simp only [szA, szS] at q1 q2); exact ⟨by omega, by (try simp only [szA, szS]); omega⟩)
set_option maxHeartbeats 1000000 in
theorem prod_any (w : World) (P D n : Nat) (s : PS) (l : Lay) (HP : Pst w P D s) (hn : n ≤ 10000) (HN : NumC) (J : ∀ (V : World) (t : PS), Pst V P D t → w.grownBy V (some P) → Fed (l.expr t) → Calls Tryz.prog 205 #[.pointer (some ⟨P, 0, none⟩)] V (Rt RE P D V (l.expr t))) (JF : ∀ (V : World) (t : PS), Pst V P D t → w.grownBy V (some P) → Fed (l.fac t) → Calls Tryz.prog 243 #[.pointer (some ⟨P, 0, none⟩)] V (Rt RE P D V (l.fac t))) (HF : Fed (prodP n l s)) : Calls Tryz.prog 241 #[.pointer (some ⟨P, 0, none⟩)] w (Rt RE P D w (prodP n l s)) := by
  have HG := World.grownBy.refl w (some P)
  have hPw := HP.lt
  have hD := HP.dw
  have hPD := HP.pd
  have t0 := True.intro
  have hmf : ∀ (fn : Fn) (first cap : Array Value) (w : World), (Instr.makeFunc fn first cap).run Tryz.prog w = .ok (.func fn first cap) w := fun _ _ _ _ => rfl
  have HF := hid HF
  have H := hid (show prodP n l s = bd (leftward n 5 (facP n l)) ret s by unfold prodP bd ret; cases leftward n 5 (facP n l) s <;> rfl)
  go_enter Tryz.func241, Tryz.ntmps241
  go_wp2_with (first
    | (have hno := t0; (go_at_call 220; (refine (left_fac _ _ _ _ _ _ _ (by with_reducible repeat first | exact HP | apply pA | refine pS (by omega) ?_) (fun V t hV hg hf => fac_any V P D n t l hV hn HN (fun X u hX hVX => J X u hX (gtrans (by with_reducible repeat first | exact HG | apply gA | apply gB | refine gS (by omega) ?_) (gtrans hg hVX))) (fun X u hX hVX => JF X u hX (gtrans (by with_reducible repeat first | exact HG | apply gA | apply gB | refine gS (by omega) ?_) (gtrans hg hVX))) hf) (fun h => HF.out (H.out.trans (bd_err h)))).mono ?_; intro e w1 hrt; rcases hrt.go (W := w) (by with_reducible repeat first | exact HG | apply gA | apply gB | refine gS (by omega) ?_) with ⟨f, hx, rfl, hg⟩ | ⟨a, s1, v, hx, rfl, hv, HP, hGw1, HG, hcw1, hfw1, hzw1, hPw1⟩; exact ⟨rfl, Rt.err (H.out.trans (bd_err hx)) hg⟩; (obtain ⟨na, nn, nc, aa, an, ac, es, rfl, hN, hX, hA⟩ := hv.parts; have hE := hv); have H := hid (H.out.trans (bd_ok hx)); (try simp only [szA, szS] at hzw1); have hleww1 := le1 w w1 (by omega); (try have hltww1 := lt1 w w1 (by omega)); have t1 := True.intro)))
    )
  refine ret8 Tryz.results241 rfl (by repeat (first | (with_reducible apply Bx.put8) | (with_reducible apply Box.alloc) | ((with_reducible refine Box.set ?_ ?_); rotate_left; omega) | ((with_reducible refine Bx.new _ _ _ ?_); rfl) | (with_reducible apply Bx.alloc) | (with_reducible apply Bx.set) | ((with_reducible refine Bx.call hGw1 ?_ ?_); omega))) rfl ?_
  refine Rt.ok (H.out.trans rfl) ?_ (by with_reducible repeat first | exact HP | apply pA | refine pS (by omega) ?_) (by with_reducible repeat first | exact HG | apply gA | apply gB | refine gS (by omega) ?_)
  refine RE.mv hE ?_ ?_
  · repeat (first | (with_reducible exact Same.refl _ _) | ((with_reducible apply Same.set); rotate_left; (rintro ⟨q1, q2⟩; simp only [World.size_alloc] at q1; omega)))
  · rintro g ⟨q1, q2⟩; simp only [World.size_alloc] at q1; exact ⟨by omega, by simp only [World.size_setCell]; exact q2⟩
set_option maxHeartbeats 1000000 in
theorem sum_any (w : World) (P D n : Nat) (s : PS) (l : Lay) (HP : Pst w P D s) (hn : n ≤ 10000) (HN : NumC) (J : ∀ (V : World) (t : PS), Pst V P D t → w.grownBy V (some P) → Fed (l.expr t) → Calls Tryz.prog 205 #[.pointer (some ⟨P, 0, none⟩)] V (Rt RE P D V (l.expr t))) (JF : ∀ (V : World) (t : PS), Pst V P D t → w.grownBy V (some P) → Fed (l.fac t) → Calls Tryz.prog 243 #[.pointer (some ⟨P, 0, none⟩)] V (Rt RE P D V (l.fac t))) (HF : Fed (sumP n l s)) : Calls Tryz.prog 239 #[.pointer (some ⟨P, 0, none⟩)] w (Rt RE P D w (sumP n l s)) := by
  have HG := World.grownBy.refl w (some P)
  have hPw := HP.lt
  have hD := HP.dw
  have hPD := HP.pd
  have t0 := True.intro
  have hmf : ∀ (fn : Fn) (first cap : Array Value) (w : World), (Instr.makeFunc fn first cap).run Tryz.prog w = .ok (.func fn first cap) w := fun _ _ _ _ => rfl
  have HF := hid HF
  have H := hid (show sumP n l s = bd (leftward n 4 (prodP n l)) ret s by unfold sumP bd ret; cases leftward n 4 (prodP n l) s <;> rfl)
  go_enter Tryz.func239, Tryz.ntmps239
  go_wp2_with (first
    | (have hno := t0; (go_at_call 220; (refine (left_prod _ _ _ _ _ _ _ (by with_reducible repeat first | exact HP | apply pA | refine pS (by omega) ?_) (fun V t hV hg hf => prod_any V P D n t l hV hn HN (fun X u hX hVX => J X u hX (gtrans (by with_reducible repeat first | exact HG | apply gA | apply gB | refine gS (by omega) ?_) (gtrans hg hVX))) (fun X u hX hVX => JF X u hX (gtrans (by with_reducible repeat first | exact HG | apply gA | apply gB | refine gS (by omega) ?_) (gtrans hg hVX))) hf) (fun h => HF.out (H.out.trans (bd_err h)))).mono ?_; intro e w1 hrt; rcases hrt.go (W := w) (by with_reducible repeat first | exact HG | apply gA | apply gB | refine gS (by omega) ?_) with ⟨f, hx, rfl, hg⟩ | ⟨a, s1, v, hx, rfl, hv, HP, hGw1, HG, hcw1, hfw1, hzw1, hPw1⟩; exact ⟨rfl, Rt.err (H.out.trans (bd_err hx)) hg⟩; (obtain ⟨na, nn, nc, aa, an, ac, es, rfl, hN, hX, hA⟩ := hv.parts; have hE := hv); have H := hid (H.out.trans (bd_ok hx)); (try simp only [szA, szS] at hzw1); have hleww1 := le1 w w1 (by omega); (try have hltww1 := lt1 w w1 (by omega)); have t1 := True.intro)))
    )
  refine ret8 Tryz.results239 rfl (by repeat (first | (with_reducible apply Bx.put8) | (with_reducible apply Box.alloc) | ((with_reducible refine Box.set ?_ ?_); rotate_left; omega) | ((with_reducible refine Bx.new _ _ _ ?_); rfl) | (with_reducible apply Bx.alloc) | (with_reducible apply Bx.set) | ((with_reducible refine Bx.call hGw1 ?_ ?_); omega))) rfl ?_
  refine Rt.ok (H.out.trans rfl) ?_ (by with_reducible repeat first | exact HP | apply pA | refine pS (by omega) ?_) (by with_reducible repeat first | exact HG | apply gA | apply gB | refine gS (by omega) ?_)
  refine RE.mv hE ?_ ?_
  · repeat (first | (with_reducible exact Same.refl _ _) | ((with_reducible apply Same.set); rotate_left; (rintro ⟨q1, q2⟩; simp only [World.size_alloc] at q1; omega)))
  · rintro g ⟨q1, q2⟩; simp only [World.size_alloc] at q1; exact ⟨by omega, by simp only [World.size_setCell]; exact q2⟩
set_option maxHeartbeats 4000000 in
theorem test_any (w : World) (P D n : Nat) (s : PS) (l : Lay) (HP : Pst w P D s) (hn : n ≤ 10000) (HN : NumC) (J : ∀ (V : World) (t : PS), Pst V P D t → w.grownBy V (some P) → Fed (l.expr t) → Calls Tryz.prog 205 #[.pointer (some ⟨P, 0, none⟩)] V (Rt RE P D V (l.expr t))) (JF : ∀ (V : World) (t : PS), Pst V P D t → w.grownBy V (some P) → Fed (l.fac t) → Calls Tryz.prog 243 #[.pointer (some ⟨P, 0, none⟩)] V (Rt RE P D V (l.fac t))) (HF : Fed (testP n l s)) : Calls Tryz.prog 234 #[.pointer (some ⟨P, 0, none⟩)] w (Rt RE P D w (testP n l s)) := by
  have HG := World.grownBy.refl w (some P)
  have hPw := HP.lt
  have hD := HP.dw
  have hPD := HP.pd
  have t0 := True.intro
  have hmf : ∀ (fn : Fn) (first cap : Array Value) (w : World), (Instr.makeFunc fn first cap).run Tryz.prog w = .ok (.func fn first cap) w := fun _ _ _ _ => rfl
  have H := hid (show testP n l s = bd (sumP n l) (fun e => bd (operator 3) fun op => if op = 0 then ret e else bd (sumP n l) fun b => ret (binary op e b)) s from rfl)
  have HF := hid HF
  have J := hid J
  have JF := hid JF
  have HN := hid HN
  go_enter Tryz.func234, Tryz.ntmps234
  go_wp2_with (first
    | (have hno := t1; (go_at_call 227; (refine (operator_any _ _ _ _ _ (by with_reducible repeat first | exact HP | apply pA | refine pS (by omega) ?_)).mono ?_; intro e w2 hrt; rcases hrt.go (W := w) (by with_reducible repeat first | exact HG | apply gA | apply gB | refine gS (by omega) ?_) with ⟨f, hx, rfl, hg⟩ | ⟨op, s2, v, hx, rfl, hv, HP, hGw2, HG, hcw2, hfw2, hzw2, hPw2⟩; exact ⟨rfl, Rt.err (H.out.trans (bd_err hx)) hg⟩; (have hv2 : v = .int .i64 op := hv; subst hv2); have H := hid (H.out.trans (bd_ok hx)); (try simp only [szA, szS] at hzw2); have hleww2 := le1 w w2 (by omega); (try have hltww2 := lt1 w w2 (by omega)); have hlew1w2 := le1 w1 w2 (by omega); (try have hltw1w2 := lt1 w1 w2 (by omega)); have t2 := True.intro; skip; by_cases hop : op = 0)))
    | (have hno := t0; (go_at_call 239; (refine (sum_any _ _ _ _ _ _ (by with_reducible repeat first | exact HP | apply pA | refine pS (by omega) ?_) hn HN.out (fun X u hX hVX => J.out X u hX (gtrans (by with_reducible repeat first | exact HG | apply gA | apply gB | refine gS (by omega) ?_) hVX)) (fun X u hX hVX => JF.out X u hX (gtrans (by with_reducible repeat first | exact HG | apply gA | apply gB | refine gS (by omega) ?_) hVX)) (fun h => HF.out (H.out.trans (bd_err h)))).mono ?_; intro e w1 hrt; rcases hrt.go (W := w) (by with_reducible repeat first | exact HG | apply gA | apply gB | refine gS (by omega) ?_) with ⟨f, hx, rfl, hg⟩ | ⟨e, s1, v, hx, rfl, hv, HP, hGw1, HG, hcw1, hfw1, hzw1, hPw1⟩; exact ⟨rfl, Rt.err (H.out.trans (bd_err hx)) hg⟩; (obtain ⟨na, nn, nc, aa, an, ac, es, rfl, hN, hX, hA⟩ := hv.parts; have hE := hv); have H := hid (H.out.trans (bd_ok hx)); (try simp only [szA, szS] at hzw1); have hleww1 := le1 w w1 (by omega); (try have hltww1 := lt1 w w1 (by omega)); have t1 := True.intro; have hE1 := hid hE))))
  · have H2 : testP n l s = .ok (e, s2) := by have := H.out; rw [if_pos hop] at this; exact this
    refine ret8 Tryz.results234 rfl (by repeat (first | (with_reducible apply Bx.put8) | (with_reducible apply Box.alloc) | ((with_reducible refine Box.set ?_ ?_); rotate_left; omega) | ((with_reducible refine Bx.new _ _ _ ?_); rfl) | (with_reducible apply Bx.alloc) | (with_reducible apply Bx.set) | ((with_reducible refine Bx.call hGw1 ?_ ?_); omega) | ((with_reducible refine Bx.call hGw2 ?_ ?_); omega))) rfl ?_
    refine Rt.ok H2 ?_ (by with_reducible repeat first | exact HP | apply pA | refine pS (by omega) ?_) (by with_reducible repeat first | exact HG | apply gA | apply gB | refine gS (by omega) ?_)
    refine RE.mv hE1.out ?_ ?_
    · repeat (first | (with_reducible exact Same.refl _ _) | (with_reducible apply Same.alloc; rotate_left; (rintro g ⟨q1, q2⟩; exact q2)) | ((with_reducible apply Same.set); rotate_left; (rintro ⟨q1, q2⟩; simp only [World.size_alloc] at q1; omega)) | ((with_reducible refine Same.call hGw2 ?_ ?_ ?_); rotate_left; (rintro g ⟨q1, q2⟩; simp only [World.size_alloc]; omega); (rintro ⟨q1, q2⟩; simp only [World.size_alloc] at q1; omega)))
    · rintro g ⟨q1, q2⟩; simp only [World.size_alloc] at q1; exact ⟨by omega, by simp only [World.size_setCell]; omega⟩
  · have H2 := hid (show testP n l s = bd (sumP n l) (fun b => ret (binary op e b)) s2 by have := H.out; rw [if_neg hop] at this; exact this)
    have hB7 := (Box.new w1 #[.int .i64 e.kind, .int .i64 e.op, .int .i64 e.int, .string (bs e.text), .string (bs e.name), .slice na nn nc, .slice aa an ac, .int .i64 e.pos] 45).call hGw2 (by omega)
    have ST : ∀ v : World, Box w1.heap.size #[.int .i64 e.kind, .int .i64 e.op, .int .i64 e.int, .string (bs e.text), .string (bs e.name), .slice na nn nc, .slice aa an ac, .int .i64 e.pos] 45 v → v.cell? ⟨w1.heap.size, 0, none⟩ = some (.int .i64 e.kind) ∧ v.cell? ⟨w1.heap.size, 1, none⟩ = some (.int .i64 e.op) ∧ v.cell? ⟨w1.heap.size, 2, none⟩ = some (.int .i64 e.int) ∧ v.cell? ⟨w1.heap.size, 3, none⟩ = some (.string (bs e.text)) ∧ v.cell? ⟨w1.heap.size, 4, none⟩ = some (.string (bs e.name)) ∧ v.cell? ⟨w1.heap.size, 5, none⟩ = some (.slice na nn nc) ∧ v.cell? ⟨w1.heap.size, 6, none⟩ = some (.slice aa an ac) ∧ v.cell? ⟨w1.heap.size, 7, none⟩ = some (.int .i64 e.pos) := fun v hv => ⟨hv.cell rfl, hv.cell rfl, hv.cell rfl, hv.cell rfl, hv.cell rfl, hv.cell rfl, hv.cell rfl, hv.cell rfl⟩
    have HBX : Bx 8 w.heap.size 45 w2 := by repeat (first | ((with_reducible refine Bx.call hGw2 ?_ ?_); omega) | ((with_reducible refine Bx.call hGw1 ?_ ?_); omega) | ((with_reducible refine Bx.new _ _ _ ?_); rfl) | (with_reducible apply Bx.alloc))
    have HE2 := hid (RE.mv hE1.out (w' := w2.drew) (B := fun g => w.heap.size ≤ g ∧ g < w2.heap.size ∧ g ≠ w.heap.size ∧ g ≠ w1.heap.size) (Same.drw (Same.call hGw2 ((Same.refl _ _).alloc (by rintro g ⟨q1, q2⟩; exact q2)) (by rintro g ⟨q1, q2⟩; simp only [World.size_alloc]; omega) (by rintro ⟨q1, q2⟩; simp only [World.size_alloc] at q1; omega))) (by rintro g ⟨q1, q2⟩; simp only [World.size_alloc] at q1; exact ⟨by omega, by omega, by omega, by omega⟩))
    have HB7 := hid hB7
    have HP2 := HP.drw
    have HG2 := grown_drew HG
    have hzd : w2.drew.heap.size = w2.heap.size := rfl
    clear hcw2 hfw2 hcw1 hfw1
    refine wp_region_I 5 (fun v : World => v.cell? ⟨w1.heap.size, 0, none⟩ = some (.int .i64 e.kind) ∧ v.cell? ⟨w1.heap.size, 1, none⟩ = some (.int .i64 e.op) ∧ v.cell? ⟨w1.heap.size, 2, none⟩ = some (.int .i64 e.int) ∧ v.cell? ⟨w1.heap.size, 3, none⟩ = some (.string (bs e.text)) ∧ v.cell? ⟨w1.heap.size, 4, none⟩ = some (.string (bs e.name)) ∧ v.cell? ⟨w1.heap.size, 5, none⟩ = some (.slice na nn nc) ∧ v.cell? ⟨w1.heap.size, 6, none⟩ = some (.slice aa an ac) ∧ v.cell? ⟨w1.heap.size, 7, none⟩ = some (.int .i64 e.pos)) (by kernel_rfl) (ST _ HB7.out.drw) (fun hHeld => ?_)
    refine wpAnyI_take (i := 0) (oi := { dst := some 12, op := Go.Op.move (Go.Operand.tmp 4), type := 3, pos := "expr.go:102", after := #[], guard := none }) (v := ?_) [5] rfl (by kernel_rfl) (by kernel_rfl) (by kernel_rfl) (by kernel_rfl) (fun _ _ _ h => h) (Or.inl ⟨by rfl, ?_⟩) (by assumption) ?_
    rotate_left
    · (intro w hSw; (try dsimp only at hSw); go_simp; (try with_reducible rfl))
    (try simp only [Act.put, List.setIfInBounds_toArray, List.set_cons_zero, List.set_cons_succ])
    refine wpAnyI_take (i := 1) (oi := { dst := some 13, op := Go.Op.load 45 (Go.Operand.tmp 3), type := 45, pos := "expr.go:102", after := #[], guard := none }) (v := ?_) [5] rfl (by kernel_rfl) (by kernel_rfl) (by kernel_rfl) (by kernel_rfl) (fun _ _ _ h => h) (Or.inl ⟨by rfl, ?_⟩) (by assumption) ?_
    rotate_left
    · (intro w hSw; (try dsimp only at hSw); go_simp; (try with_reducible rfl))
    (try simp only [Act.put, List.setIfInBounds_toArray, List.set_cons_zero, List.set_cons_succ])
    refine wpAnyI_take (i := 2) (oi := { dst := some 14, op := Go.Op.move (Go.Operand.tmp 0), type := 99, pos := "expr.go:102", after := #[], guard := none }) (v := ?_) [5] rfl (by kernel_rfl) (by kernel_rfl) (by kernel_rfl) (by kernel_rfl) (fun _ _ _ h => h) (Or.inl ⟨by rfl, ?_⟩) (by assumption) ?_
    rotate_left
    · (intro w hSw; (try dsimp only at hSw); go_simp; (try with_reducible rfl))
    (try simp only [Act.put, List.setIfInBounds_toArray, List.set_cons_zero, List.set_cons_succ])
    refine wpAnyI_one (i := 3) (o := { dst := some 15, op := Go.Op.call { callee := Go.Callee.value (Go.Operand.func 239), args := #[Go.Operand.tmp 14], argTypes := #[99] }, type := 45, pos := "expr.go:102", after := #[{ on := 2, ground := Go.Ground.data }], guard := none }) (by kernel_rfl) rfl (fun K hK => ?_)
    go_simp
    (refine (sum_any _ _ _ _ _ _ HP2 hn HN.out (fun X u hX hVX => J.out X u hX (gtrans HG2 hVX)) (fun X u hX hVX => JF.out X u hX (gtrans HG2 hVX)) (fun h => HF.out (H2.out.trans (bd_err h)))).mono ?_; intro e3 w3 hrt; rcases hrt.cases with ⟨f, hx, rfl, hg⟩ | ⟨b, s3, v, hx, rfl, hv, hs, hg⟩; (focus (exact ⟨rfl, Rt.err (H2.out.trans (bd_err hx)) (gtrans HG2 hg)⟩)); (obtain ⟨na3, nn3, nc3, aa3, an3, ac3, es3, rfl, hN3, hX3, hA3⟩ := hv.parts); have H3 := hid (H2.out.trans (bd_ok hx)); have hz3 := hg.size; have hB73 := Box.call (HB7.out.drw) hg (by omega); have HG3 := gtrans HG2 hg; have HP3 := hs; have hG3 := hg; have hv3 := hid hv; clear hg hs hN3 hX3 hA3 hv)
    try go_wp2_with fail
    refine hK.out _ _ (ST _ hB73) (fun hHeldN => ?_)
    clear hK K hHeld
    have hHeld := hHeldN
    clear hHeldN
    (try simp only [Act.put, List.setIfInBounds_toArray, List.set_cons_zero, List.set_cons_succ])
    refine wpAnyI_one (i := 4) (o := { dst := some 16, op := Go.Op.call { callee := Go.Callee.value (Go.Operand.func 228), args := #[Go.Operand.tmp 12, Go.Operand.tmp 13, Go.Operand.tmp 15], argTypes := #[3, 45, 45] }, type := 45, pos := "expr.go:102", after := #[{ on := 0, ground := Go.Ground.data }, { on := 1, ground := Go.Ground.data }, { on := 3, ground := Go.Ground.data }, { on := 3, ground := Go.Ground.chain }], guard := none }) (by kernel_rfl) rfl (fun K hK => ?_)
    go_simp
    (have hA1 := HE2.out.mv (B := fun g => w.heap.size ≤ g ∧ g < w3.heap.size ∧ g ≠ w.heap.size ∧ g ≠ w1.heap.size) (w' := w3) (Same.call hG3 (Same.refl _ _) (by rintro g ⟨q1, q2, q3, q4⟩; omega) (by rintro ⟨q1, q2, q3, q4⟩; omega)) (by rintro g ⟨q1, q2, q3, q4⟩; exact ⟨q1, by omega, q3, q4⟩); have hA2 := hv3.out.mv (B := fun g => w.heap.size ≤ g ∧ g < w3.heap.size ∧ g ≠ w.heap.size ∧ g ≠ w1.heap.size) (Same.refl _ _) (by rintro g ⟨q1, q2⟩; exact ⟨by omega, q2, by omega, by omega⟩); refine (binary_any w3 op e b (fun g => w.heap.size ≤ g ∧ g < w3.heap.size ∧ g ≠ w.heap.size ∧ g ≠ w1.heap.size) _ _ hA1 hA2 (by rintro g ⟨q1, q2, q3, q4⟩; exact q2)).mono ?_; rintro e4 w4 ⟨v4, rfl, hv4, hb4⟩; obtain ⟨na4, nn4, nc4, aa4, an4, ac4, es4, rfl, hN4, hX4, hA4⟩ := hv4.parts; have hz4 := hb4.size; have hB74 := hB73.below hb4; have HG4 := gbelow HG3 hb4; have HP4 := HP3.below hb4; have HV4 := hid hv4; have hBX4 := ((HBX.drw.call' hG3 (by omega)).below hb4); obtain ⟨⟨l6⟩, hl6, hB6⟩ := hBX4; obtain ⟨z0, z1, z2, z3, z4, z5, z6, z7, rfl⟩ := eight_of l6 hl6; have x0 := hB6.cell (i := 0) rfl; have x1 := hB6.cell (i := 1) rfl; have x2 := hB6.cell (i := 2) rfl; have x3 := hB6.cell (i := 3) rfl; have x4 := hB6.cell (i := 4) rfl; have x5 := hB6.cell (i := 5) rfl; have x6 := hB6.cell (i := 6) rfl; have x7 := hB6.cell (i := 7) rfl; have xf : ∀ o, w4.frozen? ⟨w.heap.size, o, none⟩ = false := (fun o => freeOf hB6 o); clear hN4 hX4 hA4 hv4 hb4 hA1 hA2)
    try go_wp2_with fail
    refine hK.out _ _ (ST _ hB74) (fun hHeldN => ?_)
    clear hK K hHeld
    have hHeld := hHeldN
    clear hHeldN
    (try simp only [Act.put, List.setIfInBounds_toArray, List.set_cons_zero, List.set_cons_succ])
    refine wpAnyI_last (o := { dst := none, op := Go.Op.store 45 (Go.Operand.tmp 2) (Go.Operand.tmp 16), type := 0, pos := "expr.go:102", after := #[{ on := 4, ground := Go.Ground.data }, { on := 4, ground := Go.Ground.chain }, { on := 0, ground := Go.Ground.phase }, { on := 1, ground := Go.Ground.phase }, { on := 2, ground := Go.Ground.phase }, { on := 3, ground := Go.Ground.phase }, { on := 4, ground := Go.Ground.phase }], guard := none }) (by kernel_rfl) rfl (by kernel_rfl) (fun K hK => ?_)
    go_simp
    refine hK.out _ _ ?_
    clear hK K hHeld
    (try simp only [Act.put, List.setIfInBounds_toArray, List.set_cons_zero, List.set_cons_succ])
    go_wp2
    have HP := HP4
    have HG := HG4
    refine ret8 Tryz.results234 rfl (Bx.put8 ⟨_, rfl, hB6⟩) rfl ?_
    refine Rt.ok (H3.out.trans rfl) ?_ (by with_reducible repeat first | exact HP | apply pA | refine pS (by omega) ?_) (by with_reducible repeat first | exact HG | apply gA | apply gB | refine gS (by omega) ?_)
    have hnA : ¬ (fun g => ((fun g => w.heap.size ≤ g ∧ g < w3.heap.size ∧ g ≠ w.heap.size ∧ g ≠ w1.heap.size) g) ∨ (w3.heap.size ≤ g ∧ g < w4.heap.size)) w.heap.size := fun h => h.elim (fun q => q.2.2.1 rfl) (fun q => by omega)
    refine HV4.out.mv ?_ ?_
    · repeat (first | (with_reducible exact Same.refl _ _) | ((with_reducible apply Same.set); rotate_left; exact hnA))
    · rintro g (⟨q1, q2, q3, q4⟩ | ⟨q1, q2⟩) <;> exact ⟨by omega, by simp only [World.size_setCell]; omega⟩
set_option maxHeartbeats 1000000 in
theorem neg_any (w : World) (P D n : Nat) (s : PS) (l : Lay) (HP : Pst w P D s) (hn : n ≤ 10000) (HN : NumC) (J : ∀ (V : World) (t : PS), Pst V P D t → w.grownBy V (some P) → Fed (l.expr t) → Calls Tryz.prog 205 #[.pointer (some ⟨P, 0, none⟩)] V (Rt RE P D V (l.expr t))) (JN : ∀ (V : World) (t : PS), Pst V P D t → w.grownBy V (some P) → Fed (l.neg t) → Calls Tryz.prog 229 #[.pointer (some ⟨P, 0, none⟩)] V (Rt RE P D V (l.neg t))) (JF : ∀ (V : World) (t : PS), Pst V P D t → w.grownBy V (some P) → Fed (l.fac t) → Calls Tryz.prog 243 #[.pointer (some ⟨P, 0, none⟩)] V (Rt RE P D V (l.fac t))) (HF : Fed (negP n l s)) : Calls Tryz.prog 229 #[.pointer (some ⟨P, 0, none⟩)] w (Rt RE P D w (negP n l s)) := by
  have HG := World.grownBy.refl w (some P)
  have hPw := HP.lt
  have hD := HP.dw
  have hPD := HP.pd
  have t0 := True.intro
  have hmf : ∀ (fn : Fn) (first cap : Array Value) (w : World), (Instr.makeFunc fn first cap).run Tryz.prog w = .ok (.func fn first cap) w := fun _ _ _ _ => rfl
  have HF := hid HF
  have J := hid J
  have JN := hid JN
  have JF := hid JF
  have HN := hid HN
  have KI := hid (fun (V : World) (hV : Pst V P D s) => is_any V P D s [110, 111, 116] hV)
  by_cases hq : isS [110, 111, 116] s = true
  · have HK := isS_k hq
    have H := hid (show negP n l s = bd (unary 19 l.neg) ret s by unfold negP bd ret; rw [if_pos hq]; cases unary 19 l.neg s <;> rfl)
    simp only [hq] at KI
    go_enter Tryz.func229, Tryz.ntmps229
    go_wp2_with (first
      | (have hno := t1; (go_at_call 233; (refine (unary_neg _ _ _ _ _ _ (by with_reducible repeat first | exact HP | apply pA | refine pS (by omega) ?_) HK (fun X u hX hVX => JN.out X u hX (gtrans (by with_reducible repeat first | exact HG | apply gA | apply gB | refine gS (by omega) ?_) hVX)) (fun h => HF.out (H.out.trans (bd_err h)))).mono ?_; intro e w2 hrt; rcases hrt.go (W := w) (by with_reducible repeat first | exact HG | apply gA | apply gB | refine gS (by omega) ?_) with ⟨f, hx, rfl, hg⟩ | ⟨a, s1, v, hx, rfl, hv, HP, hGw2, HG, hcw2, hfw2, hzw2, hPw2⟩; exact ⟨rfl, Rt.err (H.out.trans (bd_err hx)) hg⟩; (obtain ⟨na, nn, nc, aa, an, ac, es, rfl, hN, hX, hA⟩ := hv.parts; have hE := hv); have H := hid (H.out.trans (bd_ok hx)); (try simp only [szA, szS] at hzw2); have hleww2 := le1 w w2 (by omega); (try have hltww2 := lt1 w w2 (by omega)); have hlew1w2 := le1 w1 w2 (by omega); (try have hltw1w2 := lt1 w1 w2 (by omega)); have t2 := True.intro)))
      | (have hno := t0; (go_at_call 42; (refine (KI.out _ (by with_reducible repeat first | exact HP | apply pA | refine pS (by omega) ?_)).mono ?_; rintro e w1 ⟨rfl, hb⟩; have hg := bgrown hb (some P); have hs := Pst.below (by with_reducible repeat first | exact HP | apply pA | refine pS (by omega) ?_) hb; obtain ⟨hcw1, hfw1⟩ := gcell hg; have hzw1 := hg.size; (try simp only [szA, szS] at hzw1); have hPw1 := hs.lt; have hleww1 := le1 w w1 (by omega); (try have hltww1 := lt1 w w1 (by omega)); have HG := gtrans (by with_reducible repeat first | exact HG | apply gA | apply gB | refine gS (by omega) ?_) hg; have HP := hs; have hGw1 := hg; have t1 := True.intro; (try clear hg hs))))
      )
    refine ret8 Tryz.results229 rfl (by repeat (first | (with_reducible apply Bx.put8) | (with_reducible apply Box.alloc) | ((with_reducible refine Box.set ?_ ?_); rotate_left; omega) | ((with_reducible refine Bx.new _ _ _ ?_); rfl) | (with_reducible apply Bx.alloc) | (with_reducible apply Bx.set) | ((with_reducible refine Bx.call hGw1 ?_ ?_); omega) | ((with_reducible refine Bx.call hGw2 ?_ ?_); omega))) rfl ?_
    refine Rt.ok (H.out.trans rfl) ?_ (by with_reducible repeat first | exact HP | apply pA | refine pS (by omega) ?_) (by with_reducible repeat first | exact HG | apply gA | apply gB | refine gS (by omega) ?_)
    refine RE.mv hE (show Same (fun g => w1.heap.size ≤ g ∧ g < w2.heap.size) w2 _ from ?_) ?_
    · exact (by repeat (first | (with_reducible exact Same.refl _ _) | ((with_reducible apply Same.alloc); rotate_left; (rintro g ⟨q1, q2⟩; (try simp only [szA, szS]); omega)) | ((with_reducible apply Same.set); rotate_left; (rintro ⟨q1, q2⟩; omega))))
    · exact (by rintro g ⟨q1, q2⟩; (try simp only [szA, szS] at q1 q2); exact ⟨by omega, by (try simp only [szA, szS]); omega⟩)
  · have hq2 : isS [110, 111, 116] s = false := by simpa using hq
    have H := hid (show negP n l s = bd (testP n l) ret s by unfold negP bd ret; rw [if_neg hq]; cases testP n l s <;> rfl)
    simp only [hq2] at KI
    go_enter Tryz.func229, Tryz.ntmps229
    go_wp2_with (first
      | (have hno := t1; (go_at_call 234; (refine (test_any _ _ _ _ _ _ (by with_reducible repeat first | exact HP | apply pA | refine pS (by omega) ?_) hn HN.out (fun X u hX hVX => J.out X u hX (gtrans (by with_reducible repeat first | exact HG | apply gA | apply gB | refine gS (by omega) ?_) hVX)) (fun X u hX hVX => JF.out X u hX (gtrans (by with_reducible repeat first | exact HG | apply gA | apply gB | refine gS (by omega) ?_) hVX)) (fun h => HF.out (H.out.trans (bd_err h)))).mono ?_; intro e w2 hrt; rcases hrt.go (W := w) (by with_reducible repeat first | exact HG | apply gA | apply gB | refine gS (by omega) ?_) with ⟨f, hx, rfl, hg⟩ | ⟨a, s1, v, hx, rfl, hv, HP, hGw2, HG, hcw2, hfw2, hzw2, hPw2⟩; exact ⟨rfl, Rt.err (H.out.trans (bd_err hx)) hg⟩; (obtain ⟨na, nn, nc, aa, an, ac, es, rfl, hN, hX, hA⟩ := hv.parts; have hE := hv); have H := hid (H.out.trans (bd_ok hx)); (try simp only [szA, szS] at hzw2); have hleww2 := le1 w w2 (by omega); (try have hltww2 := lt1 w w2 (by omega)); have hlew1w2 := le1 w1 w2 (by omega); (try have hltw1w2 := lt1 w1 w2 (by omega)); have t2 := True.intro)))
      | (have hno := t0; (go_at_call 42; (refine (KI.out _ (by with_reducible repeat first | exact HP | apply pA | refine pS (by omega) ?_)).mono ?_; rintro e w1 ⟨rfl, hb⟩; have hg := bgrown hb (some P); have hs := Pst.below (by with_reducible repeat first | exact HP | apply pA | refine pS (by omega) ?_) hb; obtain ⟨hcw1, hfw1⟩ := gcell hg; have hzw1 := hg.size; (try simp only [szA, szS] at hzw1); have hPw1 := hs.lt; have hleww1 := le1 w w1 (by omega); (try have hltww1 := lt1 w w1 (by omega)); have HG := gtrans (by with_reducible repeat first | exact HG | apply gA | apply gB | refine gS (by omega) ?_) hg; have HP := hs; have hGw1 := hg; have t1 := True.intro; (try clear hg hs))))
      )
    refine ret8 Tryz.results229 rfl (by repeat (first | (with_reducible apply Bx.put8) | (with_reducible apply Box.alloc) | ((with_reducible refine Box.set ?_ ?_); rotate_left; omega) | ((with_reducible refine Bx.new _ _ _ ?_); rfl) | (with_reducible apply Bx.alloc) | (with_reducible apply Bx.set) | ((with_reducible refine Bx.call hGw1 ?_ ?_); omega) | ((with_reducible refine Bx.call hGw2 ?_ ?_); omega))) rfl ?_
    refine Rt.ok (H.out.trans rfl) ?_ (by with_reducible repeat first | exact HP | apply pA | refine pS (by omega) ?_) (by with_reducible repeat first | exact HG | apply gA | apply gB | refine gS (by omega) ?_)
    refine RE.mv hE (show Same (fun g => w1.heap.size ≤ g ∧ g < w2.heap.size) w2 _ from ?_) ?_
    · exact (by repeat (first | (with_reducible exact Same.refl _ _) | ((with_reducible apply Same.alloc); rotate_left; (rintro g ⟨q1, q2⟩; (try simp only [szA, szS]); omega)) | ((with_reducible apply Same.set); rotate_left; (rintro ⟨q1, q2⟩; omega))))
    · exact (by rintro g ⟨q1, q2⟩; (try simp only [szA, szS] at q1 q2); exact ⟨by omega, by (try simp only [szA, szS]); omega⟩)
set_option maxHeartbeats 1000000 in
theorem conj_any (w : World) (P D n : Nat) (s : PS) (l : Lay) (HP : Pst w P D s) (hn : n ≤ 10000) (HN : NumC) (J : ∀ (V : World) (t : PS), Pst V P D t → w.grownBy V (some P) → Fed (l.expr t) → Calls Tryz.prog 205 #[.pointer (some ⟨P, 0, none⟩)] V (Rt RE P D V (l.expr t))) (JN : ∀ (V : World) (t : PS), Pst V P D t → w.grownBy V (some P) → Fed (l.neg t) → Calls Tryz.prog 229 #[.pointer (some ⟨P, 0, none⟩)] V (Rt RE P D V (l.neg t))) (JF : ∀ (V : World) (t : PS), Pst V P D t → w.grownBy V (some P) → Fed (l.fac t) → Calls Tryz.prog 243 #[.pointer (some ⟨P, 0, none⟩)] V (Rt RE P D V (l.fac t))) (HF : Fed (conjP n l s)) : Calls Tryz.prog 221 #[.pointer (some ⟨P, 0, none⟩)] w (Rt RE P D w (conjP n l s)) := by
  have HG := World.grownBy.refl w (some P)
  have hPw := HP.lt
  have hD := HP.dw
  have hPD := HP.pd
  have t0 := True.intro
  have hmf : ∀ (fn : Fn) (first cap : Array Value) (w : World), (Instr.makeFunc fn first cap).run Tryz.prog w = .ok (.func fn first cap) w := fun _ _ _ _ => rfl
  have HF := hid HF
  have H := hid (show conjP n l s = bd (leftward n 2 (negP n l)) ret s by unfold conjP bd ret; cases leftward n 2 (negP n l) s <;> rfl)
  go_enter Tryz.func221, Tryz.ntmps221
  go_wp2_with (first
    | (have hno := t0; (go_at_call 220; (refine (left_neg _ _ _ _ _ _ _ (by with_reducible repeat first | exact HP | apply pA | refine pS (by omega) ?_) (fun V t hV hg hf => neg_any V P D n t l hV hn HN (fun X u hX hVX => J X u hX (gtrans (by with_reducible repeat first | exact HG | apply gA | apply gB | refine gS (by omega) ?_) (gtrans hg hVX))) (fun X u hX hVX => JN X u hX (gtrans (by with_reducible repeat first | exact HG | apply gA | apply gB | refine gS (by omega) ?_) (gtrans hg hVX))) (fun X u hX hVX => JF X u hX (gtrans (by with_reducible repeat first | exact HG | apply gA | apply gB | refine gS (by omega) ?_) (gtrans hg hVX))) hf) (fun h => HF.out (H.out.trans (bd_err h)))).mono ?_; intro e w1 hrt; rcases hrt.go (W := w) (by with_reducible repeat first | exact HG | apply gA | apply gB | refine gS (by omega) ?_) with ⟨f, hx, rfl, hg⟩ | ⟨a, s1, v, hx, rfl, hv, HP, hGw1, HG, hcw1, hfw1, hzw1, hPw1⟩; exact ⟨rfl, Rt.err (H.out.trans (bd_err hx)) hg⟩; (obtain ⟨na, nn, nc, aa, an, ac, es, rfl, hN, hX, hA⟩ := hv.parts; have hE := hv); have H := hid (H.out.trans (bd_ok hx)); (try simp only [szA, szS] at hzw1); have hleww1 := le1 w w1 (by omega); (try have hltww1 := lt1 w w1 (by omega)); have t1 := True.intro)))
    )
  refine ret8 Tryz.results221 rfl (by repeat (first | (with_reducible apply Bx.put8) | (with_reducible apply Box.alloc) | ((with_reducible refine Box.set ?_ ?_); rotate_left; omega) | ((with_reducible refine Bx.new _ _ _ ?_); rfl) | (with_reducible apply Bx.alloc) | (with_reducible apply Bx.set) | ((with_reducible refine Bx.call hGw1 ?_ ?_); omega))) rfl ?_
  refine Rt.ok (H.out.trans rfl) ?_ (by with_reducible repeat first | exact HP | apply pA | refine pS (by omega) ?_) (by with_reducible repeat first | exact HG | apply gA | apply gB | refine gS (by omega) ?_)
  refine RE.mv hE ?_ ?_
  · repeat (first | (with_reducible exact Same.refl _ _) | ((with_reducible apply Same.set); rotate_left; (rintro ⟨q1, q2⟩; simp only [World.size_alloc] at q1; omega)))
  · rintro g ⟨q1, q2⟩; simp only [World.size_alloc] at q1; exact ⟨by omega, by simp only [World.size_setCell]; exact q2⟩
set_option maxHeartbeats 1000000 in
theorem exprP_any (w : World) (P D n : Nat) (s : PS) (l : Lay) (HP : Pst w P D s) (hn : n ≤ 10000) (HN : NumC) (J : ∀ (V : World) (t : PS), Pst V P D t → w.grownBy V (some P) → Fed (l.expr t) → Calls Tryz.prog 205 #[.pointer (some ⟨P, 0, none⟩)] V (Rt RE P D V (l.expr t))) (JN : ∀ (V : World) (t : PS), Pst V P D t → w.grownBy V (some P) → Fed (l.neg t) → Calls Tryz.prog 229 #[.pointer (some ⟨P, 0, none⟩)] V (Rt RE P D V (l.neg t))) (JF : ∀ (V : World) (t : PS), Pst V P D t → w.grownBy V (some P) → Fed (l.fac t) → Calls Tryz.prog 243 #[.pointer (some ⟨P, 0, none⟩)] V (Rt RE P D V (l.fac t))) (HF : Fed (exprP n l s)) : Calls Tryz.prog 205 #[.pointer (some ⟨P, 0, none⟩)] w (Rt RE P D w (exprP n l s)) := by
  have HG := World.grownBy.refl w (some P)
  have hPw := HP.lt
  have hD := HP.dw
  have hPD := HP.pd
  have t0 := True.intro
  have hmf : ∀ (fn : Fn) (first cap : Array Value) (w : World), (Instr.makeFunc fn first cap).run Tryz.prog w = .ok (.func fn first cap) w := fun _ _ _ _ => rfl
  have HF := hid HF
  have H := hid (show exprP n l s = bd (leftward n 1 (conjP n l)) ret s by unfold exprP bd ret; cases leftward n 1 (conjP n l) s <;> rfl)
  go_enter Tryz.func205, Tryz.ntmps205
  go_wp2_with (first
    | (have hno := t0; (go_at_call 220; (refine (left_conj _ _ _ _ _ _ _ (by with_reducible repeat first | exact HP | apply pA | refine pS (by omega) ?_) (fun V t hV hg hf => conj_any V P D n t l hV hn HN (fun X u hX hVX => J X u hX (gtrans (by with_reducible repeat first | exact HG | apply gA | apply gB | refine gS (by omega) ?_) (gtrans hg hVX))) (fun X u hX hVX => JN X u hX (gtrans (by with_reducible repeat first | exact HG | apply gA | apply gB | refine gS (by omega) ?_) (gtrans hg hVX))) (fun X u hX hVX => JF X u hX (gtrans (by with_reducible repeat first | exact HG | apply gA | apply gB | refine gS (by omega) ?_) (gtrans hg hVX))) hf) (fun h => HF.out (H.out.trans (bd_err h)))).mono ?_; intro e w1 hrt; rcases hrt.go (W := w) (by with_reducible repeat first | exact HG | apply gA | apply gB | refine gS (by omega) ?_) with ⟨f, hx, rfl, hg⟩ | ⟨a, s1, v, hx, rfl, hv, HP, hGw1, HG, hcw1, hfw1, hzw1, hPw1⟩; exact ⟨rfl, Rt.err (H.out.trans (bd_err hx)) hg⟩; (obtain ⟨na, nn, nc, aa, an, ac, es, rfl, hN, hX, hA⟩ := hv.parts; have hE := hv); have H := hid (H.out.trans (bd_ok hx)); (try simp only [szA, szS] at hzw1); have hleww1 := le1 w w1 (by omega); (try have hltww1 := lt1 w w1 (by omega)); have t1 := True.intro)))
    )
  refine ret8 Tryz.results205 rfl (by repeat (first | (with_reducible apply Bx.put8) | (with_reducible apply Box.alloc) | ((with_reducible refine Box.set ?_ ?_); rotate_left; omega) | ((with_reducible refine Bx.new _ _ _ ?_); rfl) | (with_reducible apply Bx.alloc) | (with_reducible apply Bx.set) | ((with_reducible refine Bx.call hGw1 ?_ ?_); omega))) rfl ?_
  refine Rt.ok (H.out.trans rfl) ?_ (by with_reducible repeat first | exact HP | apply pA | refine pS (by omega) ?_) (by with_reducible repeat first | exact HG | apply gA | apply gB | refine gS (by omega) ?_)
  refine RE.mv hE ?_ ?_
  · repeat (first | (with_reducible exact Same.refl _ _) | ((with_reducible apply Same.set); rotate_left; (rintro ⟨q1, q2⟩; simp only [World.size_alloc] at q1; omega)))
  · rintro g ⟨q1, q2⟩; simp only [World.size_alloc] at q1; exact ⟨by omega, by simp only [World.size_setCell]; exact q2⟩
theorem lay_ok (HN : NumC) : ∀ (k : Nat), k ≤ 10000 → ∀ (w : World) (P D : Nat) (s : PS), Pst w P D s →
    (Fed ((lay k).expr s) → Calls Tryz.prog 205 #[.pointer (some ⟨P, 0, none⟩)] w (Rt RE P D w ((lay k).expr s))) ∧
    (Fed ((lay k).neg s) → Calls Tryz.prog 229 #[.pointer (some ⟨P, 0, none⟩)] w (Rt RE P D w ((lay k).neg s))) ∧
    (Fed ((lay k).fac s) → Calls Tryz.prog 243 #[.pointer (some ⟨P, 0, none⟩)] w (Rt RE P D w ((lay k).fac s)))
  | 0, _, w, P, D, s, _ => ⟨fun h => absurd rfl h, fun h => absurd rfl h, fun h => absurd rfl h⟩
  | k + 1, hk, w, P, D, s, HP => by
    have ih := lay_ok HN k (by omega)
    exact ⟨fun hf => exprP_any w P D k s (lay k) HP (by omega) HN (fun V t hV _ h => (ih V P D t hV).1 h) (fun V t hV _ h => (ih V P D t hV).2.1 h) (fun V t hV _ h => (ih V P D t hV).2.2 h) hf,
      fun hf => neg_any w P D k s (lay k) HP (by omega) HN (fun V t hV _ h => (ih V P D t hV).1 h) (fun V t hV _ h => (ih V P D t hV).2.1 h) (fun V t hV _ h => (ih V P D t hV).2.2 h) hf,
      fun hf => fac_any w P D k s (lay k) HP (by omega) HN (fun V t hV _ h => (ih V P D t hV).1 h) (fun V t hV _ h => (ih V P D t hV).2.2 h) hf⟩
theorem expr_any (HN : NumC) (k : Nat) (hk : k ≤ 10000) (w : World) (P D : Nat) (s : PS) (HP : Pst w P D s) (hf : Fed (expr k s)) : Calls Tryz.prog 205 #[.pointer (some ⟨P, 0, none⟩)] w (Rt RE P D w (expr k s)) := (lay_ok HN k hk w P D s HP).1 hf
end Go.Proofs.YtcnohgifihbkdaaGreatDoor

