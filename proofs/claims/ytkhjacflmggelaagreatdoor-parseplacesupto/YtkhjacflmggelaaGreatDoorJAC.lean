/- The parser: enter, leave, maybe, want, small, great. -/
import Derived.Test.YtkhjacflmggelaaGreatDoorJAB
namespace Go.Proofs.YtkhjacflmggelaaGreatDoor
open Go.RowKit Go.Deep Go.Shelf
set_option linter.unusedVariables false
set_option linter.unusedSimpArgs false
set_option maxRecDepth 100000
theorem bd_ok {α β : Type} {x : Pr α} {f : α → Pr β} {s s' : PS} {a : α} (h : x s = .ok (a, s')) : bd x f s = f a s' := by unfold bd; rw [h]
theorem bd_err {α β : Type} {x : Pr α} {f : α → Pr β} {s : PS} {e : Flt} (h : x s = .error e) : bd x f s = .error e := by unfold bd; rw [h]
set_option maxHeartbeats 1000000 in
theorem isSmall_any (w : World) (P D : Nat) (s : PS) (HP : Pst w P D s) : Calls Tryz.prog 115 #[.pointer (some ⟨P, 0, none⟩)] w fun e w' => e = .returned (.bool (isSmall s)) ∧ Below w.heap.size w w' := by
  have K := hid (next_any w P D s HP)
  have KG := hid (fun (V : World) (hV : Pst V P D s) => isGreat_any V P D s hV)
  unfold tokV at K
  unfold isSmall
  by_cases hk : (nxt s).kind = 1
  · rw [hk] at K ⊢
    go_enter Tryz.func115, Tryz.ntmps115
    go_wp2_with (first
      | (go_at_call 43; (refine (Hid.out K).mono ?_; rintro e w1 ⟨rfl, hb⟩; have HB := hid hb; have HP1 := HP.below hb; clear hb))
      | (go_at_call 110; (refine (Hid.out KG _ HP1).mono ?_; rintro e w2 ⟨rfl, hb⟩; have HB2 := hid hb; clear hb)))
    go_ret
    exact ⟨by simp, HB.out.trans (HB2.out.mono HB.out.size)⟩
  · have hk2 : ((nxt s).kind == 1) = false := by simp [hk]
    rw [hk2]
    go_enter Tryz.func115, Tryz.ntmps115
    go_wp2_with (first
      | (go_at_call 43; (refine (Hid.out K).mono ?_; rintro e w1 ⟨rfl, hb⟩; have HB := hid hb; have HP1 := HP.below hb; clear hb))
      | (go_at_call 110; (refine (Hid.out KG _ HP1).mono ?_; rintro e w2 ⟨rfl, hb⟩; have HB2 := hid hb; clear hb)))
    go_ret
    exact ⟨by simp, HB.out⟩
set_option maxHeartbeats 1000000 in
theorem leave_any (w : World) (P D : Nat) (s : PS) (HP : Pst w P D s) : Calls Tryz.prog 153 #[.pointer (some ⟨P, 0, none⟩)] w (Rt RU P D w (leave s)) := by
  obtain ⟨g, off, n, c, hP, hg, c0, c1, c2, f0, f1, f2, hn, n0, n1, nc, t0, t1, t2⟩ := HP.open
  have FIN := hid (HP.opn (wrap64 (s.opn - 1)))
  clear hn
  go_enter Tryz.func153, Tryz.ntmps153
  go_wp2
  exact ⟨rfl, .tuple #[], by simp [results, Tryz.results153, go_sem], Rt.ok (a := ()) (s' := { s with opn := wrap64 (s.opn - 1) }) rfl rfl FIN.out (grown_set _ _ _ _)⟩
set_option maxHeartbeats 1000000 in
theorem enter_any (w : World) (P D : Nat) (s : PS) (HP : Pst w P D s) (HK : (nxt s).kind ≠ 0) : Calls Tryz.prog 152 #[.pointer (some ⟨P, 0, none⟩)] w (Rt RT P D w (enter s)) := by
  have H := hid (show enter s = bd take (fun t s => if s.opn = 40 then .error (t.pos, 71) else .ok (t, { s with opn := wrap64 (s.opn + 1) })) s from rfl)
  have HG := World.grownBy.refl w (some P)
  have hPw := HP.lt
  have hD := HP.dw
  have hPD := HP.pd
  have t0 := True.intro
  go_enter Tryz.func152, Tryz.ntmps152
  go_wp2_with (first
    | (have hno := t0; (go_at_call 77; (refine (take_any _ _ _ _ (by repeat (first | (with_reducible exact HP) | (with_reducible apply Pst.alloc) | ((with_reducible refine Pst.set ?_ ?_); rotate_left; omega))) HK).mono ?_; intro e w1 hrt; rcases hrt.cases with ⟨f, hx, rfl, hg⟩ | ⟨a, s1, v, hx, rfl, hv, hs, hg⟩; (focus (exact ⟨rfl, Rt.err (H.out.trans (bd_err hx)) (gtrans (by repeat (first | (with_reducible exact HG) | (with_reducible apply grown_alloc) | (with_reducible apply grown_box) | ((with_reducible refine grown_set' ?_ ?_); rotate_left; omega))) hg)⟩)); (have hv2 : v = tokV a := hv; subst hv2; unfold tokV); have H := hid (H.out.trans (bd_ok hx)); obtain ⟨hcw1, hfw1⟩ := gcell hg; have hzw1 := hg.size; (try simp only [World.size_alloc, World.size_setCell] at hzw1); have hPw1 := hs.lt; have hleww1 : w.heap.size ≤ w1.heap.size := (by omega); (try (have hltww1 : w.heap.size < w1.heap.size := (by omega))); have HG := gtrans (by repeat (first | (with_reducible exact HG) | (with_reducible apply grown_alloc) | (with_reducible apply grown_box) | ((with_reducible refine grown_set' ?_ ?_); rotate_left; omega))) hg; have HP := hs; have hGw1 := hg; have t1 := True.intro; obtain ⟨g', off, n, c, hP', hg', c0, c1, c2, f0, f1, f2, hn, n0, n1, nc, u0, u1, u2⟩ := hs.open; (try clear hn); have hneP0 : ¬ w.heap.size = P := (by omega); have hneP1 : ¬ w1.heap.size = P := (by omega); have HPO := hs.opn (wrap64 (s1.opn + 1)); (try clear hg hs); by_cases h40 : s1.opn = 40; (try clear hg hs))))
    )
  · exact ⟨rfl, Rt.err (H.out.trans (if_pos h40)) (by repeat (first | (with_reducible exact HG) | (with_reducible apply grown_alloc) | (with_reducible apply grown_box) | ((with_reducible refine grown_set' ?_ ?_); rotate_left; omega)))⟩
  · refine ret3 Tryz.results152 rfl (by repeat (first | (with_reducible apply Bx.put3) | (with_reducible apply Box.alloc) | ((with_reducible refine Box.set ?_ ?_); rotate_left; omega) | ((with_reducible refine Bx.new _ _ _ ?_); rfl) | (with_reducible apply Bx.alloc) | (with_reducible apply Bx.set) | ((with_reducible refine Bx.call hGw1 ?_ ?_); omega))) rfl (Rt.ok (H.out.trans (if_neg h40)) rfl ?_ (by repeat (first | (with_reducible exact HG) | (with_reducible apply grown_alloc) | (with_reducible apply grown_box) | ((with_reducible refine grown_set' ?_ ?_); rotate_left; omega))))
    clear HP
    have HP := HPO
    exact (by repeat (first | (with_reducible exact HP) | (with_reducible apply Pst.alloc) | ((with_reducible refine Pst.set ?_ ?_); rotate_left; omega)))
theorem isS_k {q : Bsq} {s : PS} (h : isS q s = true) : (nxt s).kind ≠ 0 := by
  unfold isS at h
  intro e
  rw [e] at h
  simp at h
theorem isG_kind {s : PS} (h : isGreat s = true) : (nxt s).kind ≠ 0 := by
  unfold isGreat at h
  intro e
  rw [e] at h
  simp at h
theorem isM_kind {s : PS} (h : isSmall s = true) : (nxt s).kind ≠ 0 := by
  unfold isSmall at h
  intro e
  rw [e] at h
  simp at h
set_option maxHeartbeats 1000000 in
theorem maybe_any (w : World) (P D : Nat) (s : PS) (q : Bsq) (HP : Pst w P D s) : Calls Tryz.prog 87 #[.pointer (some ⟨P, 0, none⟩), .string (bs q)] w (Rt RB P D w (maybe q s)) := by
  have HG := World.grownBy.refl w (some P)
  have hPw := HP.lt
  have hD := HP.dw
  have hPD := HP.pd
  have t0 := True.intro
  have KI := hid (is_any w P D s q HP)
  by_cases hq : isS q s = true
  · have H := hid (show maybe q s = bd take (fun _ => ret true) s by unfold maybe; rw [if_pos hq])
    have HK := isS_k hq
    simp only [hq] at KI
    go_enter Tryz.func87, Tryz.ntmps87
    go_wp2_with (first
      | (have hno := t1; (go_at_call 77; (refine (take_any _ _ _ _ (by repeat (first | (with_reducible exact HP) | (with_reducible apply Pst.alloc) | ((with_reducible refine Pst.set ?_ ?_); rotate_left; omega))) HK).mono ?_; intro e w2 hrt; rcases hrt.cases with ⟨f, hx, rfl, hg⟩ | ⟨a, s1, v, hx, rfl, hv, hs, hg⟩; (focus (exact ⟨rfl, Rt.err (H.out.trans (bd_err hx)) (gtrans (by repeat (first | (with_reducible exact HG) | (with_reducible apply grown_alloc) | (with_reducible apply grown_box) | ((with_reducible refine grown_set' ?_ ?_); rotate_left; omega))) hg)⟩)); (have hv2 : v = tokV a := hv; subst hv2; unfold tokV); have H := hid (H.out.trans (bd_ok hx)); obtain ⟨hcw2, hfw2⟩ := gcell hg; have hzw2 := hg.size; (try simp only [World.size_alloc, World.size_setCell] at hzw2); have hPw2 := hs.lt; have hleww2 : w.heap.size ≤ w2.heap.size := (by omega); (try (have hltww2 : w.heap.size < w2.heap.size := (by omega))); have hlew1w2 : w1.heap.size ≤ w2.heap.size := (by omega); (try (have hltw1w2 : w1.heap.size < w2.heap.size := (by omega))); have HG := gtrans (by repeat (first | (with_reducible exact HG) | (with_reducible apply grown_alloc) | (with_reducible apply grown_box) | ((with_reducible refine grown_set' ?_ ?_); rotate_left; omega))) hg; have HP := hs; have hGw2 := hg; have t2 := True.intro; (try clear hg hs))))
      | (have hno := t0; (go_at_call 44; (refine (KI.out).mono ?_; rintro e w1 ⟨rfl, hb⟩; have hg := bgrown hb (some P); have hs := Pst.below (by repeat (first | (with_reducible exact HP) | (with_reducible apply Pst.alloc) | ((with_reducible refine Pst.set ?_ ?_); rotate_left; omega))) hb; obtain ⟨hcw1, hfw1⟩ := gcell hg; have hzw1 := hg.size; (try simp only [World.size_alloc, World.size_setCell] at hzw1); have hPw1 := hs.lt; have hleww1 : w.heap.size ≤ w1.heap.size := (by omega); (try (have hltww1 : w.heap.size < w1.heap.size := (by omega))); have HG := gtrans (by repeat (first | (with_reducible exact HG) | (with_reducible apply grown_alloc) | (with_reducible apply grown_box) | ((with_reducible refine grown_set' ?_ ?_); rotate_left; omega))) hg; have HP := hs; have hGw1 := hg; have t1 := True.intro; (try clear hg hs)))))
    go_ret
    exact Rt.ok H.out rfl HP HG
  · have hq : isS q s = false := by simpa using hq
    have H : maybe q s = .ok (false, s) := by unfold maybe; rw [if_neg (by rw [hq]; decide)]
    have H := hid H
    simp only [hq] at KI
    go_enter Tryz.func87, Tryz.ntmps87
    go_wp2_with ((have hno := t0; (go_at_call 44; (refine (KI.out).mono ?_; rintro e w1 ⟨rfl, hb⟩; have hg := bgrown hb (some P); have hs := Pst.below (by repeat (first | (with_reducible exact HP) | (with_reducible apply Pst.alloc) | ((with_reducible refine Pst.set ?_ ?_); rotate_left; omega))) hb; obtain ⟨hcw1, hfw1⟩ := gcell hg; have hzw1 := hg.size; (try simp only [World.size_alloc, World.size_setCell] at hzw1); have hPw1 := hs.lt; have hleww1 : w.heap.size ≤ w1.heap.size := (by omega); (try (have hltww1 : w.heap.size < w1.heap.size := (by omega))); have HG := gtrans (by repeat (first | (with_reducible exact HG) | (with_reducible apply grown_alloc) | (with_reducible apply grown_box) | ((with_reducible refine grown_set' ?_ ?_); rotate_left; omega))) hg; have HP := hs; have hGw1 := hg; have t1 := True.intro; (try clear hg hs)))))
    go_ret
    exact Rt.ok H.out rfl HP HG
set_option maxHeartbeats 1000000 in
theorem want_any (w : World) (P D : Nat) (s : PS) (q : Bsq) (HP : Pst w P D s) : Calls Tryz.prog 82 #[.pointer (some ⟨P, 0, none⟩), .string (bs q)] w (Rt RU P D w (want q s)) := by
  have H := hid (show want q s = bd (maybe q) (fun b => if b = true then ret () else wrong) s from rfl)
  have HG := World.grownBy.refl w (some P)
  have hPw := HP.lt
  have hD := HP.dw
  have hPD := HP.pd
  have t0 := True.intro
  go_enter Tryz.func82, Tryz.ntmps82
  go_wp2_with (first
    | (have hno := t1; (go_at_call 50; (refine (wrong_any _ _ _ _ (by repeat (first | (with_reducible exact HP) | (with_reducible apply Pst.alloc) | ((with_reducible refine Pst.set ?_ ?_); rotate_left; omega)))).mono ?_; rintro e w2 ⟨rfl, hb⟩; have hg := bgrown hb (some P); have hs := Pst.below (by repeat (first | (with_reducible exact HP) | (with_reducible apply Pst.alloc) | ((with_reducible refine Pst.set ?_ ?_); rotate_left; omega))) hb; obtain ⟨hcw2, hfw2⟩ := gcell hg; have hzw2 := hg.size; (try simp only [World.size_alloc, World.size_setCell] at hzw2); have hPw2 := hs.lt; have hleww2 : w.heap.size ≤ w2.heap.size := (by omega); (try (have hltww2 : w.heap.size < w2.heap.size := (by omega))); have hlew1w2 : w1.heap.size ≤ w2.heap.size := (by omega); (try (have hltw1w2 : w1.heap.size < w2.heap.size := (by omega))); have HG := gtrans (by repeat (first | (with_reducible exact HG) | (with_reducible apply grown_alloc) | (with_reducible apply grown_box) | ((with_reducible refine grown_set' ?_ ?_); rotate_left; omega))) hg; have HP := hs; have hGw2 := hg; have t2 := True.intro; (try clear hg hs))))
    | (have hno := t0; (go_at_call 87; (refine (maybe_any _ _ _ _ _ (by repeat (first | (with_reducible exact HP) | (with_reducible apply Pst.alloc) | ((with_reducible refine Pst.set ?_ ?_); rotate_left; omega)))).mono ?_; intro e w1 hrt; rcases hrt.cases with ⟨f, hx, rfl, hg⟩ | ⟨a, s1, v, hx, rfl, hv, hs, hg⟩; (focus (exact ⟨rfl, Rt.err (H.out.trans (bd_err hx)) (gtrans (by repeat (first | (with_reducible exact HG) | (with_reducible apply grown_alloc) | (with_reducible apply grown_box) | ((with_reducible refine grown_set' ?_ ?_); rotate_left; omega))) hg)⟩)); (have hv2 : v = .bool a := hv; subst hv2); have H := hid (H.out.trans (bd_ok hx)); obtain ⟨hcw1, hfw1⟩ := gcell hg; have hzw1 := hg.size; (try simp only [World.size_alloc, World.size_setCell] at hzw1); have hPw1 := hs.lt; have hleww1 : w.heap.size ≤ w1.heap.size := (by omega); (try (have hltww1 : w.heap.size < w1.heap.size := (by omega))); have HG := gtrans (by repeat (first | (with_reducible exact HG) | (with_reducible apply grown_alloc) | (with_reducible apply grown_box) | ((with_reducible refine grown_set' ?_ ?_); rotate_left; omega))) hg; have HP := hs; have hGw1 := hg; have t1 := True.intro; (try clear hg hs); cases a))))
  · exact ⟨rfl, Rt.err (H.out.trans rfl) (by repeat (first | (with_reducible exact HG) | (with_reducible apply grown_alloc) | (with_reducible apply grown_box) | ((with_reducible refine grown_set' ?_ ?_); rotate_left; omega)))⟩
  · exact ⟨rfl, .tuple #[], by simp [results, Tryz.results82, go_sem], Rt.ok (H.out.trans rfl) rfl HP HG⟩
end Go.Proofs.YtkhjacflmggelaaGreatDoor

namespace Go.Proofs.YtkhjacflmggelaaGreatDoor
open Go.RowKit Go.Deep Go.Shelf
set_option linter.unusedVariables false
set_option linter.unusedSimpArgs false
set_option maxRecDepth 100000
set_option maxHeartbeats 1000000 in
theorem small_any (w : World) (P D : Nat) (s : PS) (HP : Pst w P D s) : Calls Tryz.prog 81 #[.pointer (some ⟨P, 0, none⟩)] w (Rt RS P D w (small s)) := by
  have HG := World.grownBy.refl w (some P)
  have hPw := HP.lt
  have hD := HP.dw
  have hPD := HP.pd
  have t0 := True.intro
  have KI := hid (isSmall_any w P D s HP)
  by_cases hq : isSmall s = true
  · have H := hid (show small s = bd take (fun t => ret t.text) s by unfold small; rw [if_pos hq])
    have HK := isM_kind hq
    simp only [hq] at KI
    go_enter Tryz.func81, Tryz.ntmps81
    go_wp2_with (first
      | (have hno := t1; (go_at_call 77; (refine (take_any _ _ _ _ (by repeat (first | (with_reducible exact HP) | (with_reducible apply Pst.alloc) | ((with_reducible refine Pst.set ?_ ?_); rotate_left; omega))) HK).mono ?_; intro e w2 hrt; rcases hrt.cases with ⟨f, hx, rfl, hg⟩ | ⟨a, s1, v, hx, rfl, hv, hs, hg⟩; (focus (exact ⟨rfl, Rt.err (H.out.trans (bd_err hx)) (gtrans (by repeat (first | (with_reducible exact HG) | (with_reducible apply grown_alloc) | (with_reducible apply grown_box) | ((with_reducible refine grown_set' ?_ ?_); rotate_left; omega))) hg)⟩)); (have hv2 : v = tokV a := hv; subst hv2; unfold tokV); have H := hid (H.out.trans (bd_ok hx)); obtain ⟨hcw2, hfw2⟩ := gcell hg; have hzw2 := hg.size; (try simp only [World.size_alloc, World.size_setCell] at hzw2); have hPw2 := hs.lt; have hleww2 : w.heap.size ≤ w2.heap.size := (by omega); (try (have hltww2 : w.heap.size < w2.heap.size := (by omega))); have hlew1w2 : w1.heap.size ≤ w2.heap.size := (by omega); (try (have hltw1w2 : w1.heap.size < w2.heap.size := (by omega))); have HG := gtrans (by repeat (first | (with_reducible exact HG) | (with_reducible apply grown_alloc) | (with_reducible apply grown_box) | ((with_reducible refine grown_set' ?_ ?_); rotate_left; omega))) hg; have HP := hs; have hGw2 := hg; have t2 := True.intro; (try clear hg hs))))
      | (have hno := t0; (go_at_call 115; (refine (KI.out).mono ?_; rintro e w1 ⟨rfl, hb⟩; have hg := bgrown hb (some P); have hs := Pst.below (by repeat (first | (with_reducible exact HP) | (with_reducible apply Pst.alloc) | ((with_reducible refine Pst.set ?_ ?_); rotate_left; omega))) hb; obtain ⟨hcw1, hfw1⟩ := gcell hg; have hzw1 := hg.size; (try simp only [World.size_alloc, World.size_setCell] at hzw1); have hPw1 := hs.lt; have hleww1 : w.heap.size ≤ w1.heap.size := (by omega); (try (have hltww1 : w.heap.size < w1.heap.size := (by omega))); have HG := gtrans (by repeat (first | (with_reducible exact HG) | (with_reducible apply grown_alloc) | (with_reducible apply grown_box) | ((with_reducible refine grown_set' ?_ ?_); rotate_left; omega))) hg; have HP := hs; have hGw1 := hg; have t1 := True.intro; (try clear hg hs))))
      )
    go_ret
    exact Rt.ok (H.out.trans rfl) rfl (by repeat (first | (with_reducible exact HP) | (with_reducible apply Pst.alloc) | ((with_reducible refine Pst.set ?_ ?_); rotate_left; omega))) (by repeat (first | (with_reducible exact HG) | (with_reducible apply grown_alloc) | (with_reducible apply grown_box) | ((with_reducible refine grown_set' ?_ ?_); rotate_left; omega)))
  · have hq : isSmall s = false := by simpa using hq
    have H := hid (show small s = wrong s by unfold small; rw [if_neg (by rw [hq]; decide)])
    simp only [hq] at KI
    go_enter Tryz.func81, Tryz.ntmps81
    go_wp2_with (first
      | (have hno := t1; (go_at_call 50; (refine (wrong_any _ _ _ _ (by repeat (first | (with_reducible exact HP) | (with_reducible apply Pst.alloc) | ((with_reducible refine Pst.set ?_ ?_); rotate_left; omega)))).mono ?_; rintro e w2 ⟨rfl, hb⟩; have hg := bgrown hb (some P); have hs := Pst.below (by repeat (first | (with_reducible exact HP) | (with_reducible apply Pst.alloc) | ((with_reducible refine Pst.set ?_ ?_); rotate_left; omega))) hb; obtain ⟨hcw2, hfw2⟩ := gcell hg; have hzw2 := hg.size; (try simp only [World.size_alloc, World.size_setCell] at hzw2); have hPw2 := hs.lt; have hleww2 : w.heap.size ≤ w2.heap.size := (by omega); (try (have hltww2 : w.heap.size < w2.heap.size := (by omega))); have hlew1w2 : w1.heap.size ≤ w2.heap.size := (by omega); (try (have hltw1w2 : w1.heap.size < w2.heap.size := (by omega))); have HG := gtrans (by repeat (first | (with_reducible exact HG) | (with_reducible apply grown_alloc) | (with_reducible apply grown_box) | ((with_reducible refine grown_set' ?_ ?_); rotate_left; omega))) hg; have HP := hs; have hGw2 := hg; have t2 := True.intro; (try clear hg hs))))
      | (have hno := t0; (go_at_call 115; (refine (KI.out).mono ?_; rintro e w1 ⟨rfl, hb⟩; have hg := bgrown hb (some P); have hs := Pst.below (by repeat (first | (with_reducible exact HP) | (with_reducible apply Pst.alloc) | ((with_reducible refine Pst.set ?_ ?_); rotate_left; omega))) hb; obtain ⟨hcw1, hfw1⟩ := gcell hg; have hzw1 := hg.size; (try simp only [World.size_alloc, World.size_setCell] at hzw1); have hPw1 := hs.lt; have hleww1 : w.heap.size ≤ w1.heap.size := (by omega); (try (have hltww1 : w.heap.size < w1.heap.size := (by omega))); have HG := gtrans (by repeat (first | (with_reducible exact HG) | (with_reducible apply grown_alloc) | (with_reducible apply grown_box) | ((with_reducible refine grown_set' ?_ ?_); rotate_left; omega))) hg; have HP := hs; have hGw1 := hg; have t1 := True.intro; (try clear hg hs))))
      )
    exact ⟨rfl, Rt.err (H.out.trans rfl) (by repeat (first | (with_reducible exact HG) | (with_reducible apply grown_alloc) | (with_reducible apply grown_box) | ((with_reducible refine grown_set' ?_ ?_); rotate_left; omega)))⟩
set_option maxHeartbeats 1000000 in
theorem great_any (w : World) (P D : Nat) (s : PS) (HP : Pst w P D s) : Calls Tryz.prog 78 #[.pointer (some ⟨P, 0, none⟩)] w (Rt RS P D w (great s)) := by
  have HG := World.grownBy.refl w (some P)
  have hPw := HP.lt
  have hD := HP.dw
  have hPD := HP.pd
  have t0 := True.intro
  have KI := hid (isGreat_any w P D s HP)
  by_cases hq : isGreat s = true
  · have H := hid (show great s = bd take (fun t => ret t.text) s by unfold great; rw [if_pos hq])
    have HK := isG_kind hq
    simp only [hq] at KI
    go_enter Tryz.func78, Tryz.ntmps78
    go_wp2_with (first
      | (have hno := t1; (go_at_call 77; (refine (take_any _ _ _ _ (by repeat (first | (with_reducible exact HP) | (with_reducible apply Pst.alloc) | ((with_reducible refine Pst.set ?_ ?_); rotate_left; omega))) HK).mono ?_; intro e w2 hrt; rcases hrt.cases with ⟨f, hx, rfl, hg⟩ | ⟨a, s1, v, hx, rfl, hv, hs, hg⟩; (focus (exact ⟨rfl, Rt.err (H.out.trans (bd_err hx)) (gtrans (by repeat (first | (with_reducible exact HG) | (with_reducible apply grown_alloc) | (with_reducible apply grown_box) | ((with_reducible refine grown_set' ?_ ?_); rotate_left; omega))) hg)⟩)); (have hv2 : v = tokV a := hv; subst hv2; unfold tokV); have H := hid (H.out.trans (bd_ok hx)); obtain ⟨hcw2, hfw2⟩ := gcell hg; have hzw2 := hg.size; (try simp only [World.size_alloc, World.size_setCell] at hzw2); have hPw2 := hs.lt; have hleww2 : w.heap.size ≤ w2.heap.size := (by omega); (try (have hltww2 : w.heap.size < w2.heap.size := (by omega))); have hlew1w2 : w1.heap.size ≤ w2.heap.size := (by omega); (try (have hltw1w2 : w1.heap.size < w2.heap.size := (by omega))); have HG := gtrans (by repeat (first | (with_reducible exact HG) | (with_reducible apply grown_alloc) | (with_reducible apply grown_box) | ((with_reducible refine grown_set' ?_ ?_); rotate_left; omega))) hg; have HP := hs; have hGw2 := hg; have t2 := True.intro; (try clear hg hs))))
      | (have hno := t0; (go_at_call 110; (refine (KI.out).mono ?_; rintro e w1 ⟨rfl, hb⟩; have hg := bgrown hb (some P); have hs := Pst.below (by repeat (first | (with_reducible exact HP) | (with_reducible apply Pst.alloc) | ((with_reducible refine Pst.set ?_ ?_); rotate_left; omega))) hb; obtain ⟨hcw1, hfw1⟩ := gcell hg; have hzw1 := hg.size; (try simp only [World.size_alloc, World.size_setCell] at hzw1); have hPw1 := hs.lt; have hleww1 : w.heap.size ≤ w1.heap.size := (by omega); (try (have hltww1 : w.heap.size < w1.heap.size := (by omega))); have HG := gtrans (by repeat (first | (with_reducible exact HG) | (with_reducible apply grown_alloc) | (with_reducible apply grown_box) | ((with_reducible refine grown_set' ?_ ?_); rotate_left; omega))) hg; have HP := hs; have hGw1 := hg; have t1 := True.intro; (try clear hg hs))))
      )
    go_ret
    exact Rt.ok (H.out.trans rfl) rfl (by repeat (first | (with_reducible exact HP) | (with_reducible apply Pst.alloc) | ((with_reducible refine Pst.set ?_ ?_); rotate_left; omega))) (by repeat (first | (with_reducible exact HG) | (with_reducible apply grown_alloc) | (with_reducible apply grown_box) | ((with_reducible refine grown_set' ?_ ?_); rotate_left; omega)))
  · have hq : isGreat s = false := by simpa using hq
    have H := hid (show great s = wrong s by unfold great; rw [if_neg (by rw [hq]; decide)])
    simp only [hq] at KI
    go_enter Tryz.func78, Tryz.ntmps78
    go_wp2_with (first
      | (have hno := t1; (go_at_call 50; (refine (wrong_any _ _ _ _ (by repeat (first | (with_reducible exact HP) | (with_reducible apply Pst.alloc) | ((with_reducible refine Pst.set ?_ ?_); rotate_left; omega)))).mono ?_; rintro e w2 ⟨rfl, hb⟩; have hg := bgrown hb (some P); have hs := Pst.below (by repeat (first | (with_reducible exact HP) | (with_reducible apply Pst.alloc) | ((with_reducible refine Pst.set ?_ ?_); rotate_left; omega))) hb; obtain ⟨hcw2, hfw2⟩ := gcell hg; have hzw2 := hg.size; (try simp only [World.size_alloc, World.size_setCell] at hzw2); have hPw2 := hs.lt; have hleww2 : w.heap.size ≤ w2.heap.size := (by omega); (try (have hltww2 : w.heap.size < w2.heap.size := (by omega))); have hlew1w2 : w1.heap.size ≤ w2.heap.size := (by omega); (try (have hltw1w2 : w1.heap.size < w2.heap.size := (by omega))); have HG := gtrans (by repeat (first | (with_reducible exact HG) | (with_reducible apply grown_alloc) | (with_reducible apply grown_box) | ((with_reducible refine grown_set' ?_ ?_); rotate_left; omega))) hg; have HP := hs; have hGw2 := hg; have t2 := True.intro; (try clear hg hs))))
      | (have hno := t0; (go_at_call 110; (refine (KI.out).mono ?_; rintro e w1 ⟨rfl, hb⟩; have hg := bgrown hb (some P); have hs := Pst.below (by repeat (first | (with_reducible exact HP) | (with_reducible apply Pst.alloc) | ((with_reducible refine Pst.set ?_ ?_); rotate_left; omega))) hb; obtain ⟨hcw1, hfw1⟩ := gcell hg; have hzw1 := hg.size; (try simp only [World.size_alloc, World.size_setCell] at hzw1); have hPw1 := hs.lt; have hleww1 : w.heap.size ≤ w1.heap.size := (by omega); (try (have hltww1 : w.heap.size < w1.heap.size := (by omega))); have HG := gtrans (by repeat (first | (with_reducible exact HG) | (with_reducible apply grown_alloc) | (with_reducible apply grown_box) | ((with_reducible refine grown_set' ?_ ?_); rotate_left; omega))) hg; have HP := hs; have hGw1 := hg; have t1 := True.intro; (try clear hg hs))))
      )
    exact ⟨rfl, Rt.err (H.out.trans rfl) (by repeat (first | (with_reducible exact HG) | (with_reducible apply grown_alloc) | (with_reducible apply grown_box) | ((with_reducible refine grown_set' ?_ ?_); rotate_left; omega)))⟩
theorem oneOf_take {q : Bsq} {l : List Bsq} {s : PS} (h : isS q s = true) : oneOf (q :: l) s = bd take (fun t => ret t.text) s := by show (if isS q s = true then _ else _) = _; rw [if_pos h]
theorem oneOf_skip {q : Bsq} {l : List Bsq} {s : PS} (h : isS q s = false) : oneOf (q :: l) s = oneOf l s := by show (if isS q s = true then _ else _) = _; rw [if_neg (by rw [h]; decide)]
set_option maxHeartbeats 1000000 in
theorem oneOf_any (w : World) (P D : Nat) (s : PS) (l : List Bsq) (b : Nat) (HP : Pst w P D s) (hb : Box b ((l.map fun q => Value.string (bs q)).toArray) 9 w) (hn : l.length ≤ 10) (hbD : D ≤ b) : Calls Tryz.prog 83 #[.pointer (some ⟨P, 0, none⟩), .slice (some ⟨b, 0, none⟩) l.length l.length] w (Rt RS P D w (oneOf l s)) := by
  have HG := World.grownBy.refl w (some P)
  have hPw := HP.lt
  have hD := HP.dw
  have hPD := HP.pd
  have t0 := True.intro
  have hcell : ∀ (k : Nat) (q : Bsq), l[k]? = some q → w.cell? ⟨b, k, none⟩ = some (.string (bs q)) := fun k q e => by
    rw [cellOf hb]; simp [e]
  have hbl := hb.lt
  obtain ⟨n, hln⟩ : ∃ n, n = l.length := ⟨_, rfl⟩
  have nI : (n : Int) ≤ 10 := by omega
  rw [← hln]
  have HC := hid hcell
  have HL := hid hln
  have HB := hid hb
  clear hcell hb hln
  go_enter Tryz.func83, Tryz.ntmps83
  go_wp2
  go_loopg [9] n (fun g x wr => ∃ k : Nat, k + g = n ∧ x = .int .i64 (k : Int) ∧ oneOf l s = oneOf (l.drop k) s ∧ Pst wr P D s ∧ w.grownBy wr (some P) ∧ ∀ i, wr.cell? ⟨b, i, none⟩ = w.cell? ⟨b, i, none⟩)
  case atStart => exact ⟨0, by omega, rfl, by rw [List.drop_zero], HP, HG, fun i => rfl⟩
  case round =>
    obtain ⟨k, hk, rfl, ho, HP, HG, hcl⟩ := hrel
    cases gk with
    | zero =>
      have hkn : k = n := by omega
      subst hkn
      have H := hid (show oneOf l s = wrong s by rw [ho, List.drop_of_length_le (by rw [HL.out]; exact Nat.le_refl _)]; rfl)
      have hgz := HG.size
      have hPr := HP.lt
      clear ho hcl
      go_wp2_with (first
        | (have hno := t0; (go_at_call 50; (refine (wrong_any _ _ _ _ (by repeat (first | (with_reducible exact HP) | (with_reducible apply Pst.alloc) | ((with_reducible refine Pst.set ?_ ?_); rotate_left; omega)))).mono ?_; rintro e w2 ⟨rfl, hb⟩; have hg := bgrown hb (some P); have hs := Pst.below (by repeat (first | (with_reducible exact HP) | (with_reducible apply Pst.alloc) | ((with_reducible refine Pst.set ?_ ?_); rotate_left; omega))) hb; obtain ⟨hcw2, hfw2⟩ := gcell hg; have hzw2 := hg.size; (try simp only [World.size_alloc, World.size_setCell] at hzw2); have hPw2 := hs.lt; have hleww2 : w.heap.size ≤ w2.heap.size := (by omega); (try (have hltww2 : w.heap.size < w2.heap.size := (by omega))); have hlewrw2 : wr.heap.size ≤ w2.heap.size := (by omega); (try (have hltwrw2 : wr.heap.size < w2.heap.size := (by omega))); have HG := gtrans (by repeat (first | (with_reducible exact HG) | (with_reducible apply grown_alloc) | (with_reducible apply grown_box) | ((with_reducible refine grown_set' ?_ ?_); rotate_left; omega))) hg; have HP := hs; have hGw2 := hg; have t1 := True.intro; (try clear hg hs))))
        )
      exact ⟨rfl, Rt.err (H.out.trans rfl) (by repeat (first | (with_reducible exact HG) | (with_reducible apply grown_alloc) | (with_reducible apply grown_box) | ((with_reducible refine grown_set' ?_ ?_); rotate_left; omega)))⟩
    | succ g =>
      have hkl : k < l.length := by rw [← HL.out]; omega
      obtain ⟨q, hq⟩ : ∃ q, l[k]? = some q := ⟨_, List.getElem?_eq_getElem hkl⟩
      have hd : l.drop k = q :: l.drop (k + 1) := by
        rw [List.drop_eq_getElem_cons hkl]
        rw [List.getElem?_eq_getElem hkl] at hq
        cases hq; rfl
      rw [hd] at ho
      have c0 := (hcl k).trans (HC.out k q hq)
      have hkI : (k : Int) < (n : Int) := by omega
      have HCL := hid hcl
      have HO := hid ho
      have hgz := HG.size
      have hPr := HP.lt
      have hbr : b < wr.heap.size := by omega
      have HKG := hid hk
      clear hq hd ho hcl hkl hk
      have KI := hid (is_any wr P D s q HP)
      cases hb : isS q s with
      | true =>
        have H := hid (HO.out.trans (oneOf_take hb))
        have HK := isS_k hb
        simp only [hb] at KI
        clear hb
        go_wp2_with (first
          | (have hno := t1; (go_at_call 77; (refine (take_any _ _ _ _ (by repeat (first | (with_reducible exact HP) | (with_reducible apply Pst.alloc) | ((with_reducible refine Pst.set ?_ ?_); rotate_left; omega))) HK).mono ?_; intro e w3 hrt; rcases hrt.cases with ⟨f, hx, rfl, hg⟩ | ⟨a, s1, v, hx, rfl, hv, hs, hg⟩; (focus (exact ⟨rfl, Rt.err (H.out.trans (bd_err hx)) (gtrans (by repeat (first | (with_reducible exact HG) | (with_reducible apply grown_alloc) | (with_reducible apply grown_box) | ((with_reducible refine grown_set' ?_ ?_); rotate_left; omega))) hg)⟩)); (have hv2 : v = tokV a := hv; subst hv2; unfold tokV); have H := hid (H.out.trans (bd_ok hx)); obtain ⟨hcw3, hfw3⟩ := gcell hg; have hzw3 := hg.size; (try simp only [World.size_alloc, World.size_setCell] at hzw3); have hPw3 := hs.lt; have hleww3 : w.heap.size ≤ w3.heap.size := (by omega); (try (have hltww3 : w.heap.size < w3.heap.size := (by omega))); have hlewrw3 : wr.heap.size ≤ w3.heap.size := (by omega); (try (have hltwrw3 : wr.heap.size < w3.heap.size := (by omega))); have hlew2w3 : w2.heap.size ≤ w3.heap.size := (by omega); (try (have hltw2w3 : w2.heap.size < w3.heap.size := (by omega))); have HG := gtrans (by repeat (first | (with_reducible exact HG) | (with_reducible apply grown_alloc) | (with_reducible apply grown_box) | ((with_reducible refine grown_set' ?_ ?_); rotate_left; omega))) hg; have HP := hs; have hGw3 := hg; have t2 := True.intro; (try clear hg hs))))
          | (have hno := t0; (go_at_call 44; (refine (KI.out).mono ?_; rintro e w2 ⟨rfl, hb⟩; have hg := bgrown hb (some P); have hs := Pst.below (by repeat (first | (with_reducible exact HP) | (with_reducible apply Pst.alloc) | ((with_reducible refine Pst.set ?_ ?_); rotate_left; omega))) hb; obtain ⟨hcw2, hfw2⟩ := gcell hg; have hzw2 := hg.size; (try simp only [World.size_alloc, World.size_setCell] at hzw2); have hPw2 := hs.lt; have hleww2 : w.heap.size ≤ w2.heap.size := (by omega); (try (have hltww2 : w.heap.size < w2.heap.size := (by omega))); have hlewrw2 : wr.heap.size ≤ w2.heap.size := (by omega); (try (have hltwrw2 : wr.heap.size < w2.heap.size := (by omega))); have HG := gtrans (by repeat (first | (with_reducible exact HG) | (with_reducible apply grown_alloc) | (with_reducible apply grown_box) | ((with_reducible refine grown_set' ?_ ?_); rotate_left; omega))) hg; have HP := hs; have hGw2 := hg; have t1 := True.intro; (try clear hg hs))))
          )
        go_ret
        exact Rt.ok (H.out.trans rfl) rfl (by repeat (first | (with_reducible exact HP) | (with_reducible apply Pst.alloc) | ((with_reducible refine Pst.set ?_ ?_); rotate_left; omega))) (by repeat (first | (with_reducible exact HG) | (with_reducible apply grown_alloc) | (with_reducible apply grown_box) | ((with_reducible refine grown_set' ?_ ?_); rotate_left; omega)))
      | false =>
        have H := hid (HO.out.trans (oneOf_skip hb))
        simp only [hb] at KI
        clear hb
        go_wp2_with (first
          | (have hno := t0; (go_at_call 44; (refine (KI.out).mono ?_; rintro e w2 ⟨rfl, hb⟩; have hg := bgrown hb (some P); have hs := Pst.below (by repeat (first | (with_reducible exact HP) | (with_reducible apply Pst.alloc) | ((with_reducible refine Pst.set ?_ ?_); rotate_left; omega))) hb; obtain ⟨hcw2, hfw2⟩ := gcell hg; have hzw2 := hg.size; (try simp only [World.size_alloc, World.size_setCell] at hzw2); have hPw2 := hs.lt; have hleww2 : w.heap.size ≤ w2.heap.size := (by omega); (try (have hltww2 : w.heap.size < w2.heap.size := (by omega))); have hlewrw2 : wr.heap.size ≤ w2.heap.size := (by omega); (try (have hltwrw2 : wr.heap.size < w2.heap.size := (by omega))); have HG := gtrans (by repeat (first | (with_reducible exact HG) | (with_reducible apply grown_alloc) | (with_reducible apply grown_box) | ((with_reducible refine grown_set' ?_ ?_); rotate_left; omega))) hg; have HP := hs; have hGw2 := hg; have t1 := True.intro; (try clear hg hs))))
          )
        go_roundg g
        case measure => omega
        exact ⟨k + 1, by have := HKG.out; omega, by go_num, H.out, HP, HG, fun i => (World.grownBy.cell_far hGw2 ⟨b, i, none⟩ hbr (some_ne (show P < b by omega))).trans (HCL.out i)⟩
theorem lit_row (w : World) (l : List Bsq) (cs : Array Value) (h : cs = (l.map fun q => Value.string (bs q)).toArray) : Box w.heap.size ((l.map fun q => Value.string (bs q)).toArray) 9 (w.alloc (.cells cs 9)) := by rw [h]; exact Box.new w _ _
set_option maxHeartbeats 1000000 in
theorem simpleKind_any (w : World) (P D : Nat) (s : PS) (HP : Pst w P D s) : Calls Tryz.prog 114 #[.pointer (some ⟨P, 0, none⟩)] w (Rt RS P D w (simpleKind s)) := by
  have HG := World.grownBy.refl w (some P)
  have hPw := HP.lt
  have hD := HP.dw
  have hPD := HP.pd
  have t0 := True.intro
  have K := hid (oneOf_any (w.alloc (.cells #[.string ⟨#[105, 110, 116]⟩, .string ⟨#[116, 101, 120, 116]⟩, .string ⟨#[98, 111, 111, 108]⟩] 9)) P D s [[105, 110, 116], [116, 101, 120, 116], [98, 111, 111, 108]] w.heap.size (HP.alloc _) (lit_row w _ _ rfl) (by decide) hD)
  have H := hid (show simpleKind s = bd (oneOf [[105, 110, 116], [116, 101, 120, 116], [98, 111, 111, 108]]) ret s by unfold bd simpleKind ret; cases oneOf [[105, 110, 116], [116, 101, 120, 116], [98, 111, 111, 108]] s <;> rfl)
  go_enter Tryz.func114, Tryz.ntmps114
  go_wp2_with (first
    | (have hno := t0; (go_at_call 83; (refine (K.out).mono ?_; intro e w1 hrt; rcases hrt.cases with ⟨f, hx, rfl, hg⟩ | ⟨a, s1, v, hx, rfl, hv, hs, hg⟩; (focus (exact ⟨rfl, Rt.err (H.out.trans (bd_err hx)) (gtrans (by repeat (first | (with_reducible exact HG) | (with_reducible apply grown_alloc) | (with_reducible apply grown_box) | ((with_reducible refine grown_set' ?_ ?_); rotate_left; omega))) hg)⟩)); (have hv2 : v = .string (bs a) := hv; subst hv2); have H := hid (H.out.trans (bd_ok hx)); obtain ⟨hcw1, hfw1⟩ := gcell hg; have hzw1 := hg.size; (try simp only [World.size_alloc, World.size_setCell] at hzw1); have hPw1 := hs.lt; have hleww1 : w.heap.size ≤ w1.heap.size := (by omega); (try (have hltww1 : w.heap.size < w1.heap.size := (by omega))); have HG := gtrans (by repeat (first | (with_reducible exact HG) | (with_reducible apply grown_alloc) | (with_reducible apply grown_box) | ((with_reducible refine grown_set' ?_ ?_); rotate_left; omega))) hg; have HP := hs; have hGw1 := hg; have t1 := True.intro; (try clear hg hs))))
    )
  go_ret
  exact Rt.ok (H.out.trans rfl) rfl (by repeat (first | (with_reducible exact HP) | (with_reducible apply Pst.alloc) | ((with_reducible refine Pst.set ?_ ?_); rotate_left; omega))) (by repeat (first | (with_reducible exact HG) | (with_reducible apply grown_alloc) | (with_reducible apply grown_box) | ((with_reducible refine grown_set' ?_ ?_); rotate_left; omega)))
set_option maxHeartbeats 1000000 in
theorem kind_any (w : World) (P D : Nat) (s : PS) (HP : Pst w P D s) : Calls Tryz.prog 84 #[.pointer (some ⟨P, 0, none⟩)] w (Rt RS P D w (kindP s)) := by
  have HG := World.grownBy.refl w (some P)
  have hPw := HP.lt
  have hD := HP.dw
  have hPD := HP.pd
  have t0 := True.intro
  have KI := hid (isGreat_any w P D s HP)
  by_cases hq : isGreat s = true
  · have H := hid (show kindP s = bd great ret s by unfold kindP bd ret; rw [if_pos hq]; cases great s <;> rfl)
    simp only [hq] at KI
    go_enter Tryz.func84, Tryz.ntmps84
    go_wp2_with (first
      | (have hno := t1; (go_at_call 78; (refine (great_any _ _ _ _ (by repeat (first | (with_reducible exact HP) | (with_reducible apply Pst.alloc) | ((with_reducible refine Pst.set ?_ ?_); rotate_left; omega)))).mono ?_; intro e w2 hrt; rcases hrt.cases with ⟨f, hx, rfl, hg⟩ | ⟨a, s1, v, hx, rfl, hv, hs, hg⟩; (focus (exact ⟨rfl, Rt.err (H.out.trans (bd_err hx)) (gtrans (by repeat (first | (with_reducible exact HG) | (with_reducible apply grown_alloc) | (with_reducible apply grown_box) | ((with_reducible refine grown_set' ?_ ?_); rotate_left; omega))) hg)⟩)); (have hv2 : v = .string (bs a) := hv; subst hv2); have H := hid (H.out.trans (bd_ok hx)); obtain ⟨hcw2, hfw2⟩ := gcell hg; have hzw2 := hg.size; (try simp only [World.size_alloc, World.size_setCell] at hzw2); have hPw2 := hs.lt; have hleww2 : w.heap.size ≤ w2.heap.size := (by omega); (try (have hltww2 : w.heap.size < w2.heap.size := (by omega))); have hlew1w2 : w1.heap.size ≤ w2.heap.size := (by omega); (try (have hltw1w2 : w1.heap.size < w2.heap.size := (by omega))); have HG := gtrans (by repeat (first | (with_reducible exact HG) | (with_reducible apply grown_alloc) | (with_reducible apply grown_box) | ((with_reducible refine grown_set' ?_ ?_); rotate_left; omega))) hg; have HP := hs; have hGw2 := hg; have t2 := True.intro; (try clear hg hs))))
      | (have hno := t0; (go_at_call 110; (refine (KI.out).mono ?_; rintro e w1 ⟨rfl, hb⟩; have hg := bgrown hb (some P); have hs := Pst.below (by repeat (first | (with_reducible exact HP) | (with_reducible apply Pst.alloc) | ((with_reducible refine Pst.set ?_ ?_); rotate_left; omega))) hb; obtain ⟨hcw1, hfw1⟩ := gcell hg; have hzw1 := hg.size; (try simp only [World.size_alloc, World.size_setCell] at hzw1); have hPw1 := hs.lt; have hleww1 : w.heap.size ≤ w1.heap.size := (by omega); (try (have hltww1 : w.heap.size < w1.heap.size := (by omega))); have HG := gtrans (by repeat (first | (with_reducible exact HG) | (with_reducible apply grown_alloc) | (with_reducible apply grown_box) | ((with_reducible refine grown_set' ?_ ?_); rotate_left; omega))) hg; have HP := hs; have hGw1 := hg; have t1 := True.intro; (try clear hg hs))))
      )
    go_ret
    exact Rt.ok (H.out.trans rfl) rfl (by repeat (first | (with_reducible exact HP) | (with_reducible apply Pst.alloc) | ((with_reducible refine Pst.set ?_ ?_); rotate_left; omega))) (by repeat (first | (with_reducible exact HG) | (with_reducible apply grown_alloc) | (with_reducible apply grown_box) | ((with_reducible refine grown_set' ?_ ?_); rotate_left; omega)))
  · have hq : isGreat s = false := by simpa using hq
    have H := hid (show kindP s = bd simpleKind ret s by unfold kindP bd ret; rw [if_neg (by rw [hq]; decide)]; cases simpleKind s <;> rfl)
    simp only [hq] at KI
    go_enter Tryz.func84, Tryz.ntmps84
    go_wp2_with (first
      | (have hno := t1; (go_at_call 114; (refine (simpleKind_any _ _ _ _ (by repeat (first | (with_reducible exact HP) | (with_reducible apply Pst.alloc) | ((with_reducible refine Pst.set ?_ ?_); rotate_left; omega)))).mono ?_; intro e w2 hrt; rcases hrt.cases with ⟨f, hx, rfl, hg⟩ | ⟨a, s1, v, hx, rfl, hv, hs, hg⟩; (focus (exact ⟨rfl, Rt.err (H.out.trans (bd_err hx)) (gtrans (by repeat (first | (with_reducible exact HG) | (with_reducible apply grown_alloc) | (with_reducible apply grown_box) | ((with_reducible refine grown_set' ?_ ?_); rotate_left; omega))) hg)⟩)); (have hv2 : v = .string (bs a) := hv; subst hv2); have H := hid (H.out.trans (bd_ok hx)); obtain ⟨hcw2, hfw2⟩ := gcell hg; have hzw2 := hg.size; (try simp only [World.size_alloc, World.size_setCell] at hzw2); have hPw2 := hs.lt; have hleww2 : w.heap.size ≤ w2.heap.size := (by omega); (try (have hltww2 : w.heap.size < w2.heap.size := (by omega))); have hlew1w2 : w1.heap.size ≤ w2.heap.size := (by omega); (try (have hltw1w2 : w1.heap.size < w2.heap.size := (by omega))); have HG := gtrans (by repeat (first | (with_reducible exact HG) | (with_reducible apply grown_alloc) | (with_reducible apply grown_box) | ((with_reducible refine grown_set' ?_ ?_); rotate_left; omega))) hg; have HP := hs; have hGw2 := hg; have t2 := True.intro; (try clear hg hs))))
      | (have hno := t0; (go_at_call 110; (refine (KI.out).mono ?_; rintro e w1 ⟨rfl, hb⟩; have hg := bgrown hb (some P); have hs := Pst.below (by repeat (first | (with_reducible exact HP) | (with_reducible apply Pst.alloc) | ((with_reducible refine Pst.set ?_ ?_); rotate_left; omega))) hb; obtain ⟨hcw1, hfw1⟩ := gcell hg; have hzw1 := hg.size; (try simp only [World.size_alloc, World.size_setCell] at hzw1); have hPw1 := hs.lt; have hleww1 : w.heap.size ≤ w1.heap.size := (by omega); (try (have hltww1 : w.heap.size < w1.heap.size := (by omega))); have HG := gtrans (by repeat (first | (with_reducible exact HG) | (with_reducible apply grown_alloc) | (with_reducible apply grown_box) | ((with_reducible refine grown_set' ?_ ?_); rotate_left; omega))) hg; have HP := hs; have hGw1 := hg; have t1 := True.intro; (try clear hg hs))))
      )
    go_ret
    exact Rt.ok (H.out.trans rfl) rfl (by repeat (first | (with_reducible exact HP) | (with_reducible apply Pst.alloc) | ((with_reducible refine Pst.set ?_ ?_); rotate_left; omega))) (by repeat (first | (with_reducible exact HG) | (with_reducible apply grown_alloc) | (with_reducible apply grown_box) | ((with_reducible refine grown_set' ?_ ?_); rotate_left; omega)))
set_option maxHeartbeats 1000000 in
theorem field_any (w : World) (P D : Nat) (s : PS) (HP : Pst w P D s) : Calls Tryz.prog 80 #[.pointer (some ⟨P, 0, none⟩)] w (Rt RP P D w (fieldP s)) := by
  have HG := World.grownBy.refl w (some P)
  have hPw := HP.lt
  have hD := HP.dw
  have hPD := HP.pd
  have t0 := True.intro
  have H := hid (show fieldP s = bd small (fun nm => bd (want [58]) fun _ => bd simpleKind fun t => ret ⟨nm, t⟩) s from rfl)
  go_enter Tryz.func80, Tryz.ntmps80
  go_wp2_with (first
    | (have hno := t2; (go_at_call 114; (refine (simpleKind_any _ _ _ _ (by repeat (first | (with_reducible exact HP) | (with_reducible apply Pst.alloc) | ((with_reducible refine Pst.set ?_ ?_); rotate_left; omega)))).mono ?_; intro e w3 hrt; rcases hrt.cases with ⟨f, hx, rfl, hg⟩ | ⟨ty, s3, v, hx, rfl, hv, hs, hg⟩; (focus (exact ⟨rfl, Rt.err (H.out.trans (bd_err hx)) (gtrans (by repeat (first | (with_reducible exact HG) | (with_reducible apply grown_alloc) | (with_reducible apply grown_box) | ((with_reducible refine grown_set' ?_ ?_); rotate_left; omega))) hg)⟩)); (have hv2 : v = .string (bs ty) := hv; subst hv2); have H := hid (H.out.trans (bd_ok hx)); obtain ⟨hcw3, hfw3⟩ := gcell hg; have hzw3 := hg.size; (try simp only [World.size_alloc, World.size_setCell] at hzw3); have hPw3 := hs.lt; have hleww3 : w.heap.size ≤ w3.heap.size := (by omega); (try (have hltww3 : w.heap.size < w3.heap.size := (by omega))); have hlew1w3 : w1.heap.size ≤ w3.heap.size := (by omega); (try (have hltw1w3 : w1.heap.size < w3.heap.size := (by omega))); have hlew2w3 : w2.heap.size ≤ w3.heap.size := (by omega); (try (have hltw2w3 : w2.heap.size < w3.heap.size := (by omega))); have HG := gtrans (by repeat (first | (with_reducible exact HG) | (with_reducible apply grown_alloc) | (with_reducible apply grown_box) | ((with_reducible refine grown_set' ?_ ?_); rotate_left; omega))) hg; have HP := hs; have hGw3 := hg; have t3 := True.intro; (try clear hg hs))))
    | (have hno := t1; (go_at_call 82; (refine (want_any _ _ _ _ _ (by repeat (first | (with_reducible exact HP) | (with_reducible apply Pst.alloc) | ((with_reducible refine Pst.set ?_ ?_); rotate_left; omega)))).mono ?_; intro e w2 hrt; rcases hrt.cases with ⟨f, hx, rfl, hg⟩ | ⟨b, s2, v, hx, rfl, hv, hs, hg⟩; (focus (exact ⟨rfl, Rt.err (H.out.trans (bd_err hx)) (gtrans (by repeat (first | (with_reducible exact HG) | (with_reducible apply grown_alloc) | (with_reducible apply grown_box) | ((with_reducible refine grown_set' ?_ ?_); rotate_left; omega))) hg)⟩)); (have hv2 : v = .tuple #[] := hv; subst hv2); have H := hid (H.out.trans (bd_ok hx)); obtain ⟨hcw2, hfw2⟩ := gcell hg; have hzw2 := hg.size; (try simp only [World.size_alloc, World.size_setCell] at hzw2); have hPw2 := hs.lt; have hleww2 : w.heap.size ≤ w2.heap.size := (by omega); (try (have hltww2 : w.heap.size < w2.heap.size := (by omega))); have hlew1w2 : w1.heap.size ≤ w2.heap.size := (by omega); (try (have hltw1w2 : w1.heap.size < w2.heap.size := (by omega))); have HG := gtrans (by repeat (first | (with_reducible exact HG) | (with_reducible apply grown_alloc) | (with_reducible apply grown_box) | ((with_reducible refine grown_set' ?_ ?_); rotate_left; omega))) hg; have HP := hs; have hGw2 := hg; have t2 := True.intro; (try clear hg hs))))
    | (have hno := t0; (go_at_call 81; (refine (small_any _ _ _ _ (by repeat (first | (with_reducible exact HP) | (with_reducible apply Pst.alloc) | ((with_reducible refine Pst.set ?_ ?_); rotate_left; omega)))).mono ?_; intro e w1 hrt; rcases hrt.cases with ⟨f, hx, rfl, hg⟩ | ⟨nm, s1, v, hx, rfl, hv, hs, hg⟩; (focus (exact ⟨rfl, Rt.err (H.out.trans (bd_err hx)) (gtrans (by repeat (first | (with_reducible exact HG) | (with_reducible apply grown_alloc) | (with_reducible apply grown_box) | ((with_reducible refine grown_set' ?_ ?_); rotate_left; omega))) hg)⟩)); (have hv2 : v = .string (bs nm) := hv; subst hv2); have H := hid (H.out.trans (bd_ok hx)); obtain ⟨hcw1, hfw1⟩ := gcell hg; have hzw1 := hg.size; (try simp only [World.size_alloc, World.size_setCell] at hzw1); have hPw1 := hs.lt; have hleww1 : w.heap.size ≤ w1.heap.size := (by omega); (try (have hltww1 : w.heap.size < w1.heap.size := (by omega))); have HG := gtrans (by repeat (first | (with_reducible exact HG) | (with_reducible apply grown_alloc) | (with_reducible apply grown_box) | ((with_reducible refine grown_set' ?_ ?_); rotate_left; omega))) hg; have HP := hs; have hGw1 := hg; have t1 := True.intro; (try clear hg hs))))
    )
  exact ret2 Tryz.results80 rfl (by repeat (first | (with_reducible apply Bx.put2) | (with_reducible apply Box.alloc) | ((with_reducible refine Box.set ?_ ?_); rotate_left; omega) | ((with_reducible refine Bx.new _ _ _ ?_); rfl) | (with_reducible apply Bx.alloc) | (with_reducible apply Bx.set) | ((with_reducible refine Bx.call hGw1 ?_ ?_); omega) | ((with_reducible refine Bx.call hGw2 ?_ ?_); omega) | ((with_reducible refine Bx.call hGw3 ?_ ?_); omega))) rfl (Rt.ok (H.out.trans rfl) rfl (by repeat (first | (with_reducible exact HP) | (with_reducible apply Pst.alloc) | ((with_reducible refine Pst.set ?_ ?_); rotate_left; omega))) (by repeat (first | (with_reducible exact HG) | (with_reducible apply grown_alloc) | (with_reducible apply grown_box) | ((with_reducible refine grown_set' ?_ ?_); rotate_left; omega))))
set_option maxHeartbeats 1000000 in
theorem param_any (w : World) (P D : Nat) (s : PS) (HP : Pst w P D s) : Calls Tryz.prog 86 #[.pointer (some ⟨P, 0, none⟩)] w (Rt RP P D w (paramP s)) := by
  have HG := World.grownBy.refl w (some P)
  have hPw := HP.lt
  have hD := HP.dw
  have hPD := HP.pd
  have t0 := True.intro
  have H := hid (show paramP s = bd small (fun nm => bd (want [58]) fun _ => bd kindP fun t => ret ⟨nm, t⟩) s from rfl)
  go_enter Tryz.func86, Tryz.ntmps86
  go_wp2_with (first
    | (have hno := t2; (go_at_call 84; (refine (kind_any _ _ _ _ (by repeat (first | (with_reducible exact HP) | (with_reducible apply Pst.alloc) | ((with_reducible refine Pst.set ?_ ?_); rotate_left; omega)))).mono ?_; intro e w3 hrt; rcases hrt.cases with ⟨f, hx, rfl, hg⟩ | ⟨ty, s3, v, hx, rfl, hv, hs, hg⟩; (focus (exact ⟨rfl, Rt.err (H.out.trans (bd_err hx)) (gtrans (by repeat (first | (with_reducible exact HG) | (with_reducible apply grown_alloc) | (with_reducible apply grown_box) | ((with_reducible refine grown_set' ?_ ?_); rotate_left; omega))) hg)⟩)); (have hv2 : v = .string (bs ty) := hv; subst hv2); have H := hid (H.out.trans (bd_ok hx)); obtain ⟨hcw3, hfw3⟩ := gcell hg; have hzw3 := hg.size; (try simp only [World.size_alloc, World.size_setCell] at hzw3); have hPw3 := hs.lt; have hleww3 : w.heap.size ≤ w3.heap.size := (by omega); (try (have hltww3 : w.heap.size < w3.heap.size := (by omega))); have hlew1w3 : w1.heap.size ≤ w3.heap.size := (by omega); (try (have hltw1w3 : w1.heap.size < w3.heap.size := (by omega))); have hlew2w3 : w2.heap.size ≤ w3.heap.size := (by omega); (try (have hltw2w3 : w2.heap.size < w3.heap.size := (by omega))); have HG := gtrans (by repeat (first | (with_reducible exact HG) | (with_reducible apply grown_alloc) | (with_reducible apply grown_box) | ((with_reducible refine grown_set' ?_ ?_); rotate_left; omega))) hg; have HP := hs; have hGw3 := hg; have t3 := True.intro; (try clear hg hs))))
    | (have hno := t1; (go_at_call 82; (refine (want_any _ _ _ _ _ (by repeat (first | (with_reducible exact HP) | (with_reducible apply Pst.alloc) | ((with_reducible refine Pst.set ?_ ?_); rotate_left; omega)))).mono ?_; intro e w2 hrt; rcases hrt.cases with ⟨f, hx, rfl, hg⟩ | ⟨b, s2, v, hx, rfl, hv, hs, hg⟩; (focus (exact ⟨rfl, Rt.err (H.out.trans (bd_err hx)) (gtrans (by repeat (first | (with_reducible exact HG) | (with_reducible apply grown_alloc) | (with_reducible apply grown_box) | ((with_reducible refine grown_set' ?_ ?_); rotate_left; omega))) hg)⟩)); (have hv2 : v = .tuple #[] := hv; subst hv2); have H := hid (H.out.trans (bd_ok hx)); obtain ⟨hcw2, hfw2⟩ := gcell hg; have hzw2 := hg.size; (try simp only [World.size_alloc, World.size_setCell] at hzw2); have hPw2 := hs.lt; have hleww2 : w.heap.size ≤ w2.heap.size := (by omega); (try (have hltww2 : w.heap.size < w2.heap.size := (by omega))); have hlew1w2 : w1.heap.size ≤ w2.heap.size := (by omega); (try (have hltw1w2 : w1.heap.size < w2.heap.size := (by omega))); have HG := gtrans (by repeat (first | (with_reducible exact HG) | (with_reducible apply grown_alloc) | (with_reducible apply grown_box) | ((with_reducible refine grown_set' ?_ ?_); rotate_left; omega))) hg; have HP := hs; have hGw2 := hg; have t2 := True.intro; (try clear hg hs))))
    | (have hno := t0; (go_at_call 81; (refine (small_any _ _ _ _ (by repeat (first | (with_reducible exact HP) | (with_reducible apply Pst.alloc) | ((with_reducible refine Pst.set ?_ ?_); rotate_left; omega)))).mono ?_; intro e w1 hrt; rcases hrt.cases with ⟨f, hx, rfl, hg⟩ | ⟨nm, s1, v, hx, rfl, hv, hs, hg⟩; (focus (exact ⟨rfl, Rt.err (H.out.trans (bd_err hx)) (gtrans (by repeat (first | (with_reducible exact HG) | (with_reducible apply grown_alloc) | (with_reducible apply grown_box) | ((with_reducible refine grown_set' ?_ ?_); rotate_left; omega))) hg)⟩)); (have hv2 : v = .string (bs nm) := hv; subst hv2); have H := hid (H.out.trans (bd_ok hx)); obtain ⟨hcw1, hfw1⟩ := gcell hg; have hzw1 := hg.size; (try simp only [World.size_alloc, World.size_setCell] at hzw1); have hPw1 := hs.lt; have hleww1 : w.heap.size ≤ w1.heap.size := (by omega); (try (have hltww1 : w.heap.size < w1.heap.size := (by omega))); have HG := gtrans (by repeat (first | (with_reducible exact HG) | (with_reducible apply grown_alloc) | (with_reducible apply grown_box) | ((with_reducible refine grown_set' ?_ ?_); rotate_left; omega))) hg; have HP := hs; have hGw1 := hg; have t1 := True.intro; (try clear hg hs))))
    )
  exact ret2 Tryz.results86 rfl (by repeat (first | (with_reducible apply Bx.put2) | (with_reducible apply Box.alloc) | ((with_reducible refine Box.set ?_ ?_); rotate_left; omega) | ((with_reducible refine Bx.new _ _ _ ?_); rfl) | (with_reducible apply Bx.alloc) | (with_reducible apply Bx.set) | ((with_reducible refine Bx.call hGw1 ?_ ?_); omega) | ((with_reducible refine Bx.call hGw2 ?_ ?_); omega) | ((with_reducible refine Bx.call hGw3 ?_ ?_); omega))) rfl (Rt.ok (H.out.trans rfl) rfl (by repeat (first | (with_reducible exact HP) | (with_reducible apply Pst.alloc) | ((with_reducible refine Pst.set ?_ ?_); rotate_left; omega))) (by repeat (first | (with_reducible exact HG) | (with_reducible apply grown_alloc) | (with_reducible apply grown_box) | ((with_reducible refine grown_set' ?_ ?_); rotate_left; omega))))
end Go.Proofs.YtkhjacflmggelaaGreatDoor

