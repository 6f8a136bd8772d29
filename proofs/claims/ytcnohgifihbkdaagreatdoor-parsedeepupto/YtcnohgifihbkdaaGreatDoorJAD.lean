/- The parser: rows, and what stands between two signs. -/
import Derived.Test.YtcnohgifihbkdaaGreatDoorJAC
namespace Go.Proofs.YtcnohgifihbkdaaGreatDoor
open Go.RowKit Go.Deep Go.Shelf
set_option linter.unusedVariables false
set_option linter.unusedSimpArgs false
set_option maxRecDepth 100000
set_option maxHeartbeats 4000000 in
theorem row_field (w : World) (P D n : Nat) (s : PS) (el : Pr PPm) (HP : Pst w P D s) (hn : n ≤ 10000) (J : ∀ (V : World) (t : PS), Pst V P D t → w.grownBy V (some P) → Fed (el t) → Calls Tryz.prog 78 #[.pointer (some ⟨P, 0, none⟩)] V (Rt RP P D V (el t))) (HF : Fed (rowL el n [] s)) : Calls Tryz.prog 111 #[.pointer (some ⟨P, 0, none⟩), .func (.func 78) #[.pointer (some ⟨P, 0, none⟩)] #[]] w (Rt PmR P D w (rowL el n [] s)) := by
  have HG := World.grownBy.refl w (some P)
  have hPw := HP.lt
  have hD := HP.dw
  have hPD := HP.pd
  have t0 := True.intro
  have J := hid J
  have HF := hid HF
  go_enter Tryz.func111, Tryz.ntmps111
  go_wp2
  go_loopg [5] n (fun g v wr => ∃ (l : List PPm) (t : PS), l.length + g = n ∧ Lst 112 2 LP wr (fun g => w.heap.size ≤ g ∧ g < wr.heap.size) v l ∧ rowL el n [] s = rowL el g l t ∧ Pst wr P D t ∧ w.grownBy wr (some P))
  case atStart => exact ⟨[], s, by simp, Lst.nil _ _ _ _ _, rfl, HP, HG⟩
  case round =>
    obtain ⟨l, t, hlg, HL, ho, HP, HG⟩ := hrel
    cases gk with
    | zero => exact absurd (ho.trans rfl) HF.out
    | succ g =>
      have hb12 : decide (l.length = 12) = ((l.length : Int) == 12) := by rw [Bool.eq_iff_iff]; simp; omega
      have H := hid (show rowL el n [] s = (bd el fun x => bd (maybe [44]) fun b => if b = true then rowL el g (l ++ [x]) else ret (l ++ [x])) { t with sur := ((l.length : Int) == 12) } by rw [← hb12]; exact ho)
      obtain ⟨a5, c5, hv5⟩ := HL.form
      subst hv5
      obtain ⟨g', off, nt, ct, hP', hg', c0, c1, c2, f0, f1, f2, hn', n0, n1, nct, u0, u1, u2⟩ := HP.open
      have HP := HP.sur ((l.length : Int) == 12)
      have hgz := HG.size
      have hPr : P < wr.heap.size := hP'
      have hlI : (l.length : Int) ≤ 10000 := by omega
      have hown : ∀ g, (Value.slice a5 l.length c5).ownBlock = some g → g < wr.heap.size := fun g e => by obtain ⟨rows, ⟨_, q⟩, _⟩ := HL; exact (q g e).2
      have HOW := hid hown
      have HLG := hid hlg
      have HLL := hid HL
      clear hn' hown hlg HL ho hb12
      go_wp2_with (first
        | (have hno := t2; (go_at_call 85; (refine (maybe_any _ _ _ _ _ (by with_reducible repeat first | exact HP | apply pA | refine pS (by omega) ?_)).mono ?_; intro e w4 hrt; rcases hrt.go (W := w) (by with_reducible repeat first | exact HG | apply gA | apply gB | refine gS (by omega) ?_) with ⟨f, hx, rfl, hg⟩ | ⟨b, s4, v, hx, rfl, hv, HP, hGw4, HG, hcw4, hfw4, hzw4, hPw4⟩; exact ⟨rfl, Rt.err (H.out.trans (bd_err hx)) hg⟩; (have hv2 : v = .bool b := hv; subst hv2); have H := hid (H.out.trans (bd_ok hx)); (try simp only [szA, szS] at hzw4); have hleww4 := le1 w w4 (by omega); (try have hltww4 := lt1 w w4 (by omega)); have hlewrw4 := le1 wr w4 (by omega); (try have hltwrw4 := lt1 wr w4 (by omega)); have hlew2w4 := le1 w2 w4 (by omega); (try have hltw2w4 := lt1 w2 w4 (by omega)); have hlew3w4 := le1 w3 w4 (by omega); (try have hltw3w4 := lt1 w3 w4 (by omega)); have t3 := True.intro; skip; cases b)))
        | (have hno := t1; (at_builtin; refine wpList_appL LP_mv LP_row Tryz.underlying49 infoPm rfl (by decide) (by decide) _ w2 _ rfl rfl _ _ rfl _ _ (by rfl) (by rfl) rfl w.heap.size l (HLL.out.mv LP_mv (by repeat (first | (with_reducible exact Same.refl _ _) | ((with_reducible apply Same.alloc); rotate_left; (rintro g ⟨q1, q2⟩; (try simp only [szA, szS]); omega)) | ((with_reducible apply Same.set); rotate_left; (rintro ⟨q1, q2⟩; omega)) | ((with_reducible refine Same.call hGw2 ?_ ?_ ?_); rotate_left; (rintro g ⟨q1, q2⟩; (try simp only [szA, szS]); omega); (rintro ⟨q1, q2⟩; omega)))) (by rintro g ⟨q1, q2⟩; exact ⟨q1, by omega⟩)) (fun _ => False) a rfl (fun g h => h.elim) (by omega) (by omega) ?_; intro v3 w3 h1 h2 h3; have hz3 := h2.size; simp only [World.size_alloc] at hz3; have HP := (HP.alloc _).grown h2 (fun r e => by have := h3 r e; omega); have HG := grown_row (grown_alloc HG _) h2 h3; have HL3 := hid h1; have hP3 := HP.lt; have t2 := True.intro; clear h1 h2 h3))
        | (have hno := t0; (go_at_call 78; (refine (J.out _ _ (by with_reducible repeat first | exact HP | apply pA | refine pS (by omega) ?_) (by with_reducible repeat first | exact HG | apply gA | apply gB | refine gS (by omega) ?_) (fun h => HF.out (H.out.trans (bd_err h)))).mono ?_; intro e w2 hrt; rcases hrt.go (W := w) (by with_reducible repeat first | exact HG | apply gA | apply gB | refine gS (by omega) ?_) with ⟨f, hx, rfl, hg⟩ | ⟨a, s2, v, hx, rfl, hv, HP, hGw2, HG, hcw2, hfw2, hzw2, hPw2⟩; exact ⟨rfl, Rt.err (H.out.trans (bd_err hx)) hg⟩; (have hv2 : v = .agg #[.string (bs a.name), .string (bs a.type)] := hv; subst hv2); have H := hid (H.out.trans (bd_ok hx)); (try simp only [szA, szS] at hzw2); have hleww2 := le1 w w2 (by omega); (try have hltww2 := lt1 w w2 (by omega)); have hlewrw2 := le1 wr w2 (by omega); (try have hltwrw2 := lt1 wr w2 (by omega)); have t1 := True.intro)))
        )
      · go_ret
        exact Rt.ok (H.out.trans rfl) (Lst.pm (HL3.out.mv LP_mv (by repeat (first | (with_reducible exact Same.refl _ _) | ((with_reducible apply Same.alloc); rotate_left; (rintro g ⟨q1, q2⟩; (try simp only [szA, szS]); omega)) | ((with_reducible apply Same.set); rotate_left; (rintro ⟨q1, q2⟩; omega)) | ((with_reducible refine Same.call hGw4 ?_ ?_ ?_); rotate_left; (rintro g ⟨q1, q2⟩; (try simp only [szA, szS]); omega); (rintro ⟨q1, q2⟩; omega)))) (by rintro g ⟨q1, q2⟩; exact ⟨q1, by omega⟩))) HP HG
      · go_roundg g
        case measure => omega
        exact ⟨l ++ [a], s4, by rw [List.length_append]; have := HLG.out; simp; omega, HL3.out.mv LP_mv (by repeat (first | (with_reducible exact Same.refl _ _) | ((with_reducible apply Same.alloc); rotate_left; (rintro g ⟨q1, q2⟩; (try simp only [szA, szS]); omega)) | ((with_reducible apply Same.set); rotate_left; (rintro ⟨q1, q2⟩; omega)) | ((with_reducible refine Same.call hGw4 ?_ ?_ ?_); rotate_left; (rintro g ⟨q1, q2⟩; (try simp only [szA, szS]); omega); (rintro ⟨q1, q2⟩; omega)))) (by rintro g ⟨q1, q2⟩; exact ⟨q1, by omega⟩), H.out.trans rfl, HP, HG⟩
set_option maxHeartbeats 4000000 in
theorem row_param (w : World) (P D n : Nat) (s : PS) (el : Pr PPm) (HP : Pst w P D s) (hn : n ≤ 10000) (J : ∀ (V : World) (t : PS), Pst V P D t → w.grownBy V (some P) → Fed (el t) → Calls Tryz.prog 84 #[.pointer (some ⟨P, 0, none⟩)] V (Rt RP P D V (el t))) (HF : Fed (rowL el n [] s)) : Calls Tryz.prog 111 #[.pointer (some ⟨P, 0, none⟩), .func (.func 84) #[.pointer (some ⟨P, 0, none⟩)] #[]] w (Rt PmR P D w (rowL el n [] s)) := by
  have HG := World.grownBy.refl w (some P)
  have hPw := HP.lt
  have hD := HP.dw
  have hPD := HP.pd
  have t0 := True.intro
  have J := hid J
  have HF := hid HF
  go_enter Tryz.func111, Tryz.ntmps111
  go_wp2
  go_loopg [5] n (fun g v wr => ∃ (l : List PPm) (t : PS), l.length + g = n ∧ Lst 112 2 LP wr (fun g => w.heap.size ≤ g ∧ g < wr.heap.size) v l ∧ rowL el n [] s = rowL el g l t ∧ Pst wr P D t ∧ w.grownBy wr (some P))
  case atStart => exact ⟨[], s, by simp, Lst.nil _ _ _ _ _, rfl, HP, HG⟩
  case round =>
    obtain ⟨l, t, hlg, HL, ho, HP, HG⟩ := hrel
    cases gk with
    | zero => exact absurd (ho.trans rfl) HF.out
    | succ g =>
      have hb12 : decide (l.length = 12) = ((l.length : Int) == 12) := by rw [Bool.eq_iff_iff]; simp; omega
      have H := hid (show rowL el n [] s = (bd el fun x => bd (maybe [44]) fun b => if b = true then rowL el g (l ++ [x]) else ret (l ++ [x])) { t with sur := ((l.length : Int) == 12) } by rw [← hb12]; exact ho)
      obtain ⟨a5, c5, hv5⟩ := HL.form
      subst hv5
      obtain ⟨g', off, nt, ct, hP', hg', c0, c1, c2, f0, f1, f2, hn', n0, n1, nct, u0, u1, u2⟩ := HP.open
      have HP := HP.sur ((l.length : Int) == 12)
      have hgz := HG.size
      have hPr : P < wr.heap.size := hP'
      have hlI : (l.length : Int) ≤ 10000 := by omega
      have hown : ∀ g, (Value.slice a5 l.length c5).ownBlock = some g → g < wr.heap.size := fun g e => by obtain ⟨rows, ⟨_, q⟩, _⟩ := HL; exact (q g e).2
      have HOW := hid hown
      have HLG := hid hlg
      have HLL := hid HL
      clear hn' hown hlg HL ho hb12
      go_wp2_with (first
        | (have hno := t2; (go_at_call 85; (refine (maybe_any _ _ _ _ _ (by with_reducible repeat first | exact HP | apply pA | refine pS (by omega) ?_)).mono ?_; intro e w4 hrt; rcases hrt.go (W := w) (by with_reducible repeat first | exact HG | apply gA | apply gB | refine gS (by omega) ?_) with ⟨f, hx, rfl, hg⟩ | ⟨b, s4, v, hx, rfl, hv, HP, hGw4, HG, hcw4, hfw4, hzw4, hPw4⟩; exact ⟨rfl, Rt.err (H.out.trans (bd_err hx)) hg⟩; (have hv2 : v = .bool b := hv; subst hv2); have H := hid (H.out.trans (bd_ok hx)); (try simp only [szA, szS] at hzw4); have hleww4 := le1 w w4 (by omega); (try have hltww4 := lt1 w w4 (by omega)); have hlewrw4 := le1 wr w4 (by omega); (try have hltwrw4 := lt1 wr w4 (by omega)); have hlew2w4 := le1 w2 w4 (by omega); (try have hltw2w4 := lt1 w2 w4 (by omega)); have hlew3w4 := le1 w3 w4 (by omega); (try have hltw3w4 := lt1 w3 w4 (by omega)); have t3 := True.intro; skip; cases b)))
        | (have hno := t1; (at_builtin; refine wpList_appL LP_mv LP_row Tryz.underlying49 infoPm rfl (by decide) (by decide) _ w2 _ rfl rfl _ _ rfl _ _ (by rfl) (by rfl) rfl w.heap.size l (HLL.out.mv LP_mv (by repeat (first | (with_reducible exact Same.refl _ _) | ((with_reducible apply Same.alloc); rotate_left; (rintro g ⟨q1, q2⟩; (try simp only [szA, szS]); omega)) | ((with_reducible apply Same.set); rotate_left; (rintro ⟨q1, q2⟩; omega)) | ((with_reducible refine Same.call hGw2 ?_ ?_ ?_); rotate_left; (rintro g ⟨q1, q2⟩; (try simp only [szA, szS]); omega); (rintro ⟨q1, q2⟩; omega)))) (by rintro g ⟨q1, q2⟩; exact ⟨q1, by omega⟩)) (fun _ => False) a rfl (fun g h => h.elim) (by omega) (by omega) ?_; intro v3 w3 h1 h2 h3; have hz3 := h2.size; simp only [World.size_alloc] at hz3; have HP := (HP.alloc _).grown h2 (fun r e => by have := h3 r e; omega); have HG := grown_row (grown_alloc HG _) h2 h3; have HL3 := hid h1; have hP3 := HP.lt; have t2 := True.intro; clear h1 h2 h3))
        | (have hno := t0; (go_at_call 84; (refine (J.out _ _ (by with_reducible repeat first | exact HP | apply pA | refine pS (by omega) ?_) (by with_reducible repeat first | exact HG | apply gA | apply gB | refine gS (by omega) ?_) (fun h => HF.out (H.out.trans (bd_err h)))).mono ?_; intro e w2 hrt; rcases hrt.go (W := w) (by with_reducible repeat first | exact HG | apply gA | apply gB | refine gS (by omega) ?_) with ⟨f, hx, rfl, hg⟩ | ⟨a, s2, v, hx, rfl, hv, HP, hGw2, HG, hcw2, hfw2, hzw2, hPw2⟩; exact ⟨rfl, Rt.err (H.out.trans (bd_err hx)) hg⟩; (have hv2 : v = .agg #[.string (bs a.name), .string (bs a.type)] := hv; subst hv2); have H := hid (H.out.trans (bd_ok hx)); (try simp only [szA, szS] at hzw2); have hleww2 := le1 w w2 (by omega); (try have hltww2 := lt1 w w2 (by omega)); have hlewrw2 := le1 wr w2 (by omega); (try have hltwrw2 := lt1 wr w2 (by omega)); have t1 := True.intro)))
        )
      · go_ret
        exact Rt.ok (H.out.trans rfl) (Lst.pm (HL3.out.mv LP_mv (by repeat (first | (with_reducible exact Same.refl _ _) | ((with_reducible apply Same.alloc); rotate_left; (rintro g ⟨q1, q2⟩; (try simp only [szA, szS]); omega)) | ((with_reducible apply Same.set); rotate_left; (rintro ⟨q1, q2⟩; omega)) | ((with_reducible refine Same.call hGw4 ?_ ?_ ?_); rotate_left; (rintro g ⟨q1, q2⟩; (try simp only [szA, szS]); omega); (rintro ⟨q1, q2⟩; omega)))) (by rintro g ⟨q1, q2⟩; exact ⟨q1, by omega⟩))) HP HG
      · go_roundg g
        case measure => omega
        exact ⟨l ++ [a], s4, by rw [List.length_append]; have := HLG.out; simp; omega, HL3.out.mv LP_mv (by repeat (first | (with_reducible exact Same.refl _ _) | ((with_reducible apply Same.alloc); rotate_left; (rintro g ⟨q1, q2⟩; (try simp only [szA, szS]); omega)) | ((with_reducible apply Same.set); rotate_left; (rintro ⟨q1, q2⟩; omega)) | ((with_reducible refine Same.call hGw4 ?_ ?_ ?_); rotate_left; (rintro g ⟨q1, q2⟩; (try simp only [szA, szS]); omega); (rintro ⟨q1, q2⟩; omega)))) (by rintro g ⟨q1, q2⟩; exact ⟨q1, by omega⟩), H.out.trans rfl, HP, HG⟩
set_option maxHeartbeats 4000000 in
theorem row_expr (w : World) (P D n : Nat) (s : PS) (el : Pr PEx) (HP : Pst w P D s) (hn : n ≤ 10000) (J : ∀ (V : World) (t : PS), Pst V P D t → w.grownBy V (some P) → Fed (el t) → Calls Tryz.prog 205 #[.pointer (some ⟨P, 0, none⟩)] V (Rt RE P D V (el t))) (HF : Fed (rowL el n [] s)) : Calls Tryz.prog 236 #[.pointer (some ⟨P, 0, none⟩), .func (.func 205) #[.pointer (some ⟨P, 0, none⟩)] #[]] w (Rt XsR P D w (rowL el n [] s)) := by
  have HG := World.grownBy.refl w (some P)
  have hPw := HP.lt
  have hD := HP.dw
  have hPD := HP.pd
  have t0 := True.intro
  have J := hid J
  have HF := hid HF
  go_enter Tryz.func236, Tryz.ntmps236
  go_wp2
  go_loopg [5] n (fun g v wr => ∃ (l : List PEx) (t : PS), l.length + g = n ∧ Lst 45 8 LX wr (fun g => w.heap.size ≤ g ∧ g < wr.heap.size) v l ∧ rowL el n [] s = rowL el g l t ∧ Pst wr P D t ∧ w.grownBy wr (some P))
  case atStart => exact ⟨[], s, by simp, Lst.nil _ _ _ _ _, rfl, HP, HG⟩
  case round =>
    obtain ⟨l, t, hlg, HL, ho, HP, HG⟩ := hrel
    cases gk with
    | zero => exact absurd (ho.trans rfl) HF.out
    | succ g =>
      have hb12 : decide (l.length = 12) = ((l.length : Int) == 12) := by rw [Bool.eq_iff_iff]; simp; omega
      have H := hid (show rowL el n [] s = (bd el fun x => bd (maybe [44]) fun b => if b = true then rowL el g (l ++ [x]) else ret (l ++ [x])) { t with sur := ((l.length : Int) == 12) } by rw [← hb12]; exact ho)
      obtain ⟨a5, c5, hv5⟩ := HL.form
      subst hv5
      obtain ⟨g', off, nt, ct, hP', hg', c0, c1, c2, f0, f1, f2, hn', n0, n1, nct, u0, u1, u2⟩ := HP.open
      have HP := HP.sur ((l.length : Int) == 12)
      have hgz := HG.size
      have hPr : P < wr.heap.size := hP'
      have hlI : (l.length : Int) ≤ 10000 := by omega
      have hown : ∀ g, (Value.slice a5 l.length c5).ownBlock = some g → g < wr.heap.size := fun g e => by obtain ⟨rows, ⟨_, q⟩, _⟩ := HL; exact (q g e).2
      have HOW := hid hown
      have HLG := hid hlg
      have HLL := hid HL
      clear hn' hown hlg HL ho hb12
      go_wp2_with (first
        | (have hno := t2; (go_at_call 85; (refine (maybe_any _ _ _ _ _ (by with_reducible repeat first | exact HP | apply pA | refine pS (by omega) ?_)).mono ?_; intro e w4 hrt; rcases hrt.go (W := w) (by with_reducible repeat first | exact HG | apply gA | apply gB | refine gS (by omega) ?_) with ⟨f, hx, rfl, hg⟩ | ⟨b, s4, v, hx, rfl, hv, HP, hGw4, HG, hcw4, hfw4, hzw4, hPw4⟩; exact ⟨rfl, Rt.err (H.out.trans (bd_err hx)) hg⟩; (have hv2 : v = .bool b := hv; subst hv2); have H := hid (H.out.trans (bd_ok hx)); (try simp only [szA, szS] at hzw4); have hleww4 := le1 w w4 (by omega); (try have hltww4 := lt1 w w4 (by omega)); have hlewrw4 := le1 wr w4 (by omega); (try have hltwrw4 := lt1 wr w4 (by omega)); have hlew2w4 := le1 w2 w4 (by omega); (try have hltw2w4 := lt1 w2 w4 (by omega)); have hlew3w4 := le1 w3 w4 (by omega); (try have hltw3w4 := lt1 w3 w4 (by omega)); have t3 := True.intro; skip; cases b)))
        | (have hno := t1; (at_builtin; refine wpList_appL LX_mv LX_row Tryz.underlying43 infoX rfl (by decide) (by decide) _ w2 _ rfl rfl _ _ rfl _ _ (by rfl) (by rfl) rfl w.heap.size l (HLL.out.mv LX_mv (by repeat (first | (with_reducible exact Same.refl _ _) | ((with_reducible apply Same.alloc); rotate_left; (rintro g ⟨q1, q2⟩; (try simp only [szA, szS]); omega)) | ((with_reducible apply Same.set); rotate_left; (rintro ⟨q1, q2⟩; omega)) | ((with_reducible refine Same.call hGw2 ?_ ?_ ?_); rotate_left; (rintro g ⟨q1, q2⟩; (try simp only [szA, szS]); omega); (rintro ⟨q1, q2⟩; omega)))) (by rintro g ⟨q1, q2⟩; exact ⟨q1, by omega⟩)) _ a (RE.row hE) (by rintro g ⟨q1, q2⟩; (try simp only [World.size_setCell] at q1); exact ⟨by omega, q2, fun e => by have := HOW.out g e; omega⟩) (by omega) (by omega) ?_; intro v3 w3 h1 h2 h3; have hz3 := h2.size; simp only [World.size_alloc] at hz3; have HP := (HP.alloc _).grown h2 (fun r e => by have := h3 r e; omega); have HG := grown_row (grown_alloc HG _) h2 h3; have HL3 := hid h1; have hP3 := HP.lt; have t2 := True.intro; clear h1 h2 h3))
        | (have hno := t0; (go_at_call 205; (refine (J.out _ _ (by with_reducible repeat first | exact HP | apply pA | refine pS (by omega) ?_) (by with_reducible repeat first | exact HG | apply gA | apply gB | refine gS (by omega) ?_) (fun h => HF.out (H.out.trans (bd_err h)))).mono ?_; intro e w2 hrt; rcases hrt.go (W := w) (by with_reducible repeat first | exact HG | apply gA | apply gB | refine gS (by omega) ?_) with ⟨f, hx, rfl, hg⟩ | ⟨a, s2, v, hx, rfl, hv, HP, hGw2, HG, hcw2, hfw2, hzw2, hPw2⟩; exact ⟨rfl, Rt.err (H.out.trans (bd_err hx)) hg⟩; (obtain ⟨na, nn, nc, aa, an, ac, es, rfl, hN, hX, hA⟩ := hv.parts; have hE := hv); have H := hid (H.out.trans (bd_ok hx)); (try simp only [szA, szS] at hzw2); have hleww2 := le1 w w2 (by omega); (try have hltww2 := lt1 w w2 (by omega)); have hlewrw2 := le1 wr w2 (by omega); (try have hltwrw2 := lt1 wr w2 (by omega)); have t1 := True.intro)))
        )
      · go_ret
        exact Rt.ok (H.out.trans rfl) (Lst.xs (HL3.out.mv LX_mv (by repeat (first | (with_reducible exact Same.refl _ _) | ((with_reducible apply Same.alloc); rotate_left; (rintro g ⟨q1, q2⟩; (try simp only [szA, szS]); omega)) | ((with_reducible apply Same.set); rotate_left; (rintro ⟨q1, q2⟩; omega)) | ((with_reducible refine Same.call hGw4 ?_ ?_ ?_); rotate_left; (rintro g ⟨q1, q2⟩; (try simp only [szA, szS]); omega); (rintro ⟨q1, q2⟩; omega)))) (by rintro g ⟨q1, q2⟩; exact ⟨q1, by omega⟩))) HP HG
      · go_roundg g
        case measure => omega
        exact ⟨l ++ [a], s4, by rw [List.length_append]; have := HLG.out; simp; omega, HL3.out.mv LX_mv (by repeat (first | (with_reducible exact Same.refl _ _) | ((with_reducible apply Same.alloc); rotate_left; (rintro g ⟨q1, q2⟩; (try simp only [szA, szS]); omega)) | ((with_reducible apply Same.set); rotate_left; (rintro ⟨q1, q2⟩; omega)) | ((with_reducible refine Same.call hGw4 ?_ ?_ ?_); rotate_left; (rintro g ⟨q1, q2⟩; (try simp only [szA, szS]); omega); (rintro ⟨q1, q2⟩; omega)))) (by rintro g ⟨q1, q2⟩; exact ⟨q1, by omega⟩), H.out.trans rfl, HP, HG⟩
end Go.Proofs.YtcnohgifihbkdaaGreatDoor

