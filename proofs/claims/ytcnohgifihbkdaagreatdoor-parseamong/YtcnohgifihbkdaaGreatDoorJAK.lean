/- The parser: expressions. -/
import Derived.Test.YtcnohgifihbkdaaGreatDoorJAJ
namespace Go.Proofs.YtcnohgifihbkdaaGreatDoor
open Go.RowKit Go.Deep Go.Shelf
set_option linter.unusedVariables false
set_option linter.unusedSimpArgs false
set_option maxRecDepth 100000
set_option maxHeartbeats 1000000 in
theorem one_any (w : World) (P D : Nat) (s : PS) (e : Pr PEx) (HP : Pst w P D s) (J : ∀ (V : World) (t : PS), Pst V P D t → w.grownBy V (some P) → Fed (e t) → Calls Tryz.prog 205 #[.pointer (some ⟨P, 0, none⟩)] V (Rt RE P D V (e t))) (HF : Fed (one e s)) : Calls Tryz.prog 202 #[.pointer (some ⟨P, 0, none⟩)] w (Rt XsR P D w (one e s)) := by
  have HG := World.grownBy.refl w (some P)
  have hPw := HP.lt
  have hD := HP.dw
  have hPD := HP.pd
  have t0 := True.intro
  have hmf : ∀ (fn : Fn) (first cap : Array Value) (w : World), (Instr.makeFunc fn first cap).run Tryz.prog w = .ok (.func fn first cap) w := fun _ _ _ _ => rfl
  have H := hid (show one e s = bd e (fun x => ret [x]) s from rfl)
  have J := hid J
  have HF := hid HF
  go_enter Tryz.func202, Tryz.ntmps202
  go_wp2_with (first
    | (have hno := t0; (go_at_call 205; (refine (J.out _ _ (by with_reducible repeat first | exact HP | apply pA | refine pS (by omega) ?_) (by with_reducible repeat first | exact HG | apply gA | apply gB | refine gS (by omega) ?_) (fun h => HF.out (H.out.trans (bd_err h)))).mono ?_; intro e w1 hrt; rcases hrt.go (W := w) (by with_reducible repeat first | exact HG | apply gA | apply gB | refine gS (by omega) ?_) with ⟨f, hx, rfl, hg⟩ | ⟨a, s1, v, hx, rfl, hv, HP, hGw1, HG, hcw1, hfw1, hzw1, hPw1⟩; exact ⟨rfl, Rt.err (H.out.trans (bd_err hx)) hg⟩; (obtain ⟨na, nn, nc, aa, an, ac, es, rfl, hN, hX, hA⟩ := hv.parts; have hE := hv); have H := hid (H.out.trans (bd_ok hx)); (try simp only [szA, szS] at hzw1); have hleww1 := le1 w w1 (by omega); (try have hltww1 := lt1 w w1 (by omega)); have t1 := True.intro)))
    )
  go_ret
  exact Rt.ok (H.out.trans rfl) (XsR.one hE (by rintro g ⟨q1, q2⟩; exact q2) (by rintro g ⟨q1, q2⟩; exact ⟨q1, by simp only [World.size_alloc]; omega⟩) ⟨by omega, by simp only [World.size_alloc]; omega⟩) (by with_reducible repeat first | exact HP | apply pA | refine pS (by omega) ?_) (by with_reducible repeat first | exact HG | apply gA | apply gB | refine gS (by omega) ?_)
set_option maxHeartbeats 1000000 in
theorem inBr_any (w : World) (P D : Nat) (s : PS) (e : Pr PEx) (HP : Pst w P D s) (J : ∀ (V : World) (t : PS), Pst V P D t → w.grownBy V (some P) → Fed (e t) → Calls Tryz.prog 205 #[.pointer (some ⟨P, 0, none⟩)] V (Rt RE P D V (e t))) (HF : Fed (inBr e s)) : Calls Tryz.prog 260 #[.pointer (some ⟨P, 0, none⟩)] w (Rt XsR P D w (inBr e s)) := by
  have HG := World.grownBy.refl w (some P)
  have hPw := HP.lt
  have hD := HP.dw
  have hPD := HP.pd
  have t0 := True.intro
  have hmf : ∀ (fn : Fn) (first cap : Array Value) (w : World), (Instr.makeFunc fn first cap).run Tryz.prog w = .ok (.func fn first cap) w := fun _ _ _ _ => rfl
  have K := hid (bt_one w P D s [40] [41] (one e) HP (fun V t hV hg hf => one_any V P D t e hV (fun X u hX hVX => J X u hX (gtrans hg hVX)) hf) HF)
  have H := hid (show inBr e s = bd (between [40] [41] (one e)) ret s by unfold inBr bd ret; cases between [40] [41] (one e) s <;> rfl)
  clear J HF
  go_enter Tryz.func260, Tryz.ntmps260
  go_wp2_with (first
    | (have hno := t0; (go_at_call 219; (refine (K.out).mono ?_; intro e w1 hrt; rcases hrt.go (W := w) (by with_reducible repeat first | exact HG | apply gA | apply gB | refine gS (by omega) ?_) with ⟨f, hx, rfl, hg⟩ | ⟨a, s1, v, hx, rfl, hv, HP, hGw1, HG, hcw1, hfw1, hzw1, hPw1⟩; exact ⟨rfl, Rt.err (H.out.trans (bd_err hx)) hg⟩; (obtain ⟨ax, mx, cx, rfl⟩ := hv.form; have hE := hv); have H := hid (H.out.trans (bd_ok hx)); (try simp only [szA, szS] at hzw1); have hleww1 := le1 w w1 (by omega); (try have hltww1 := lt1 w w1 (by omega)); have t1 := True.intro)))
    )
  go_ret
  exact Rt.ok (H.out.trans rfl) hE HP HG
set_option maxHeartbeats 1000000 in
theorem key_any (w : World) (P D : Nat) (s : PS) (e : Pr PEx) (HP : Pst w P D s) (J : ∀ (V : World) (t : PS), Pst V P D t → w.grownBy V (some P) → Fed (e t) → Calls Tryz.prog 205 #[.pointer (some ⟨P, 0, none⟩)] V (Rt RE P D V (e t))) (HF : Fed (keyP e s)) : Calls Tryz.prog 204 #[.pointer (some ⟨P, 0, none⟩)] w (Rt XsR P D w (keyP e s)) := by
  have HG := World.grownBy.refl w (some P)
  have hPw := HP.lt
  have hD := HP.dw
  have hPD := HP.pd
  have t0 := True.intro
  have hmf : ∀ (fn : Fn) (first cap : Array Value) (w : World), (Instr.makeFunc fn first cap).run Tryz.prog w = .ok (.func fn first cap) w := fun _ _ _ _ => rfl
  have K := hid (bt_one w P D s [91] [93] (one e) HP (fun V t hV hg hf => one_any V P D t e hV (fun X u hX hVX => J X u hX (gtrans hg hVX)) hf) HF)
  have H := hid (show keyP e s = bd (between [91] [93] (one e)) ret s by unfold keyP bd ret; cases between [91] [93] (one e) s <;> rfl)
  clear J HF
  go_enter Tryz.func204, Tryz.ntmps204
  go_wp2_with (first
    | (have hno := t0; (go_at_call 219; (refine (K.out).mono ?_; intro e w1 hrt; rcases hrt.go (W := w) (by with_reducible repeat first | exact HG | apply gA | apply gB | refine gS (by omega) ?_) with ⟨f, hx, rfl, hg⟩ | ⟨a, s1, v, hx, rfl, hv, HP, hGw1, HG, hcw1, hfw1, hzw1, hPw1⟩; exact ⟨rfl, Rt.err (H.out.trans (bd_err hx)) hg⟩; (obtain ⟨ax, mx, cx, rfl⟩ := hv.form; have hE := hv); have H := hid (H.out.trans (bd_ok hx)); (try simp only [szA, szS] at hzw1); have hleww1 := le1 w w1 (by omega); (try have hltww1 := lt1 w w1 (by omega)); have t1 := True.intro)))
    )
  go_ret
  exact Rt.ok (H.out.trans rfl) hE HP HG
set_option maxHeartbeats 1000000 in
theorem args_any (w : World) (P D n : Nat) (s : PS) (e : Pr PEx) (HP : Pst w P D s) (hn : n ≤ 10000) (J : ∀ (V : World) (t : PS), Pst V P D t → w.grownBy V (some P) → Fed (e t) → Calls Tryz.prog 205 #[.pointer (some ⟨P, 0, none⟩)] V (Rt RE P D V (e t))) (HF : Fed (argsP n e s)) : Calls Tryz.prog 222 #[.pointer (some ⟨P, 0, none⟩)] w (Rt XsR P D w (argsP n e s)) := by
  have HG := World.grownBy.refl w (some P)
  have hPw := HP.lt
  have hD := HP.dw
  have hPD := HP.pd
  have t0 := True.intro
  have hmf : ∀ (fn : Fn) (first cap : Array Value) (w : World), (Instr.makeFunc fn first cap).run Tryz.prog w = .ok (.func fn first cap) w := fun _ _ _ _ => rfl
  have K := hid (rowExprs_any w P D n s [40] [41] e HP hn J HF)
  have H := hid (show argsP n e s = bd (rowOrNone n [40] [41] e) ret s by unfold argsP bd ret; cases rowOrNone n [40] [41] e s <;> rfl)
  clear J HF
  go_enter Tryz.func222, Tryz.ntmps222
  go_wp2_with (first
    | (have hno := t0; (go_at_call 230; (refine (K.out).mono ?_; intro e w1 hrt; rcases hrt.go (W := w) (by with_reducible repeat first | exact HG | apply gA | apply gB | refine gS (by omega) ?_) with ⟨f, hx, rfl, hg⟩ | ⟨a, s1, v, hx, rfl, hv, HP, hGw1, HG, hcw1, hfw1, hzw1, hPw1⟩; exact ⟨rfl, Rt.err (H.out.trans (bd_err hx)) hg⟩; (obtain ⟨ax, mx, cx, rfl⟩ := hv.form; have hE := hv); have H := hid (H.out.trans (bd_ok hx)); (try simp only [szA, szS] at hzw1); have hleww1 := le1 w w1 (by omega); (try have hltww1 := lt1 w w1 (by omega)); have t1 := True.intro)))
    )
  go_ret
  exact Rt.ok (H.out.trans rfl) hE HP HG
theorem Bx.put9 {b : Nat} {x0 x1 x2 x3 x4 x5 x6 x7 x8 : Value} {T : TypeId} {w : World} (h : Bx 9 b T w) : Box b #[x0, x1, x2, x3, x4, x5, x6, x7, x8] T (((((((((w.setCell ⟨b, 0, none⟩ x0).setCell ⟨b, 1, none⟩ x1).setCell ⟨b, 2, none⟩ x2).setCell ⟨b, 3, none⟩ x3).setCell ⟨b, 4, none⟩ x4).setCell ⟨b, 5, none⟩ x5).setCell ⟨b, 6, none⟩ x6).setCell ⟨b, 7, none⟩ x7).setCell ⟨b, 8, none⟩ x8) := by
  obtain ⟨⟨l⟩, h1, h2⟩ := h
  match l, h1 with
  | [_, _, _, _, _, _, _, _, _], _ =>
    have h10 := h2.put (v := x0) 0
    simp only [List.setIfInBounds_toArray, List.set_cons_zero, List.set_cons_succ] at h10
    have h11 := h10.put (v := x1) 1
    simp only [List.setIfInBounds_toArray, List.set_cons_zero, List.set_cons_succ] at h11
    have h12 := h11.put (v := x2) 2
    simp only [List.setIfInBounds_toArray, List.set_cons_zero, List.set_cons_succ] at h12
    have h13 := h12.put (v := x3) 3
    simp only [List.setIfInBounds_toArray, List.set_cons_zero, List.set_cons_succ] at h13
    have h14 := h13.put (v := x4) 4
    simp only [List.setIfInBounds_toArray, List.set_cons_zero, List.set_cons_succ] at h14
    have h15 := h14.put (v := x5) 5
    simp only [List.setIfInBounds_toArray, List.set_cons_zero, List.set_cons_succ] at h15
    have h16 := h15.put (v := x6) 6
    simp only [List.setIfInBounds_toArray, List.set_cons_zero, List.set_cons_succ] at h16
    have h17 := h16.put (v := x7) 7
    simp only [List.setIfInBounds_toArray, List.set_cons_zero, List.set_cons_succ] at h17
    have h18 := h17.put (v := x8) 8
    simp only [List.setIfInBounds_toArray, List.set_cons_zero, List.set_cons_succ] at h18
    exact h18
theorem ret9 {fn : Func} {R : Ending → World → Prop} {a : Act} {W : World} {i b : Nat} {x0 x1 x2 x3 x4 x5 x6 x7 x8 : Value} (hres : fn.results = #[.cell i 250]) (hs : a.tmps[i]?.getD undef = .pointer (some ⟨b, 0, none⟩)) (hb : Box b #[x0, x1, x2, x3, x4, x5, x6, x7, x8] 250 W) (hd : a.defers = []) (hR : R (.returned (.agg #[x0, x1, x2, x3, x4, x5, x6, x7, x8])) W) : bodyPost Tryz.prog fn R .ret a W := by
  have q0 := hb.cell (i := 0) rfl
  have q1 := hb.cell (i := 1) rfl
  have q2 := hb.cell (i := 2) rfl
  have q3 := hb.cell (i := 3) rfl
  have q4 := hb.cell (i := 4) rfl
  have q5 := hb.cell (i := 5) rfl
  have q6 := hb.cell (i := 6) rfl
  have q7 := hb.cell (i := 7) rfl
  have q8 := hb.cell (i := 8) rfl
  exact bodyPost_ret (v := .agg #[x0, x1, x2, x3, x4, x5, x6, x7, x8]) (by simp [results, hres, go_sem, hs, q0, q1, q2, q3, q4, q5, q6, q7, q8]) hd hR
def RQ (w : World) (A : Nat → Prop) (v : Value) (p : Bsq × PEx) : Prop := ∃ (na : Option Addr) (nn nc : Nat) (aa : Option Addr) (an ac : Nat), v = .agg #[.string (bs p.1), .int .i64 p.2.kind, .int .i64 p.2.op, .int .i64 p.2.int, .string (bs p.2.text), .string (bs p.2.name), .slice na nn nc, .slice aa an ac, .int .i64 p.2.pos] ∧ RE w A (.agg #[.int .i64 p.2.kind, .int .i64 p.2.op, .int .i64 p.2.int, .string (bs p.2.text), .string (bs p.2.name), .slice na nn nc, .slice aa an ac, .int .i64 p.2.pos]) p.2
theorem RQ.mv {w w' : World} {A B : Nat → Prop} {v : Value} {p : Bsq × PEx} (h : RQ w A v p) (s : Same A w w') (i : ∀ g, A g → B g) : RQ w' B v p := by
  obtain ⟨na, nn, nc, aa, an, ac, h1, h2⟩ := h
  exact ⟨na, nn, nc, aa, an, ac, h1, h2.mv s i⟩
set_option maxHeartbeats 1000000 in
theorem part_any (w : World) (P D : Nat) (s : PS) (e : Pr PEx) (HP : Pst w P D s) (J : ∀ (V : World) (t : PS), Pst V P D t → w.grownBy V (some P) → Fed (e t) → Calls Tryz.prog 205 #[.pointer (some ⟨P, 0, none⟩)] V (Rt RE P D V (e t))) (HF : Fed (partP e s)) : Calls Tryz.prog 266 #[.pointer (some ⟨P, 0, none⟩)] w (Rt RQ P D w (partP e s)) := by
  have HG := World.grownBy.refl w (some P)
  have hPw := HP.lt
  have hD := HP.dw
  have hPD := HP.pd
  have t0 := True.intro
  have hmf : ∀ (fn : Fn) (first cap : Array Value) (w : World), (Instr.makeFunc fn first cap).run Tryz.prog w = .ok (.func fn first cap) w := fun _ _ _ _ => rfl
  have H := hid (show partP e s = bd small (fun nm => bd (want [58]) fun _ => bd e fun x => ret (nm, x)) s from rfl)
  have J := hid J
  have HF := hid HF
  go_enter Tryz.func266, Tryz.ntmps266
  go_wp2_with (first
    | (have hno := t2; (go_at_call 205; (refine (J.out _ _ (by with_reducible repeat first | exact HP | apply pA | refine pS (by omega) ?_) (by with_reducible repeat first | exact HG | apply gA | apply gB | refine gS (by omega) ?_) (fun h => HF.out (H.out.trans (bd_err h)))).mono ?_; intro e w3 hrt; rcases hrt.go (W := w) (by with_reducible repeat first | exact HG | apply gA | apply gB | refine gS (by omega) ?_) with ⟨f, hx, rfl, hg⟩ | ⟨a, s3, v, hx, rfl, hv, HP, hGw3, HG, hcw3, hfw3, hzw3, hPw3⟩; exact ⟨rfl, Rt.err (H.out.trans (bd_err hx)) hg⟩; (obtain ⟨na, nn, nc, aa, an, ac, es, rfl, hN, hX, hA⟩ := hv.parts; have hE := hv); have H := hid (H.out.trans (bd_ok hx)); (try simp only [szA, szS] at hzw3); have hleww3 := le1 w w3 (by omega); (try have hltww3 := lt1 w w3 (by omega)); have hlew1w3 := le1 w1 w3 (by omega); (try have hltw1w3 := lt1 w1 w3 (by omega)); have hlew2w3 := le1 w2 w3 (by omega); (try have hltw2w3 := lt1 w2 w3 (by omega)); have t3 := True.intro)))
    | (have hno := t1; (go_at_call 80; (refine (want_any _ _ _ _ _ (by with_reducible repeat first | exact HP | apply pA | refine pS (by omega) ?_)).mono ?_; intro e w2 hrt; rcases hrt.go (W := w) (by with_reducible repeat first | exact HG | apply gA | apply gB | refine gS (by omega) ?_) with ⟨f, hx, rfl, hg⟩ | ⟨u, s2, v, hx, rfl, hv, HP, hGw2, HG, hcw2, hfw2, hzw2, hPw2⟩; exact ⟨rfl, Rt.err (H.out.trans (bd_err hx)) hg⟩; (have hv2 : v = .tuple #[] := hv; subst hv2); have H := hid (H.out.trans (bd_ok hx)); (try simp only [szA, szS] at hzw2); have hleww2 := le1 w w2 (by omega); (try have hltww2 := lt1 w w2 (by omega)); have hlew1w2 := le1 w1 w2 (by omega); (try have hltw1w2 := lt1 w1 w2 (by omega)); have t2 := True.intro)))
    | (have hno := t0; (go_at_call 79; (refine (small_any _ _ _ _ (by with_reducible repeat first | exact HP | apply pA | refine pS (by omega) ?_)).mono ?_; intro e w1 hrt; rcases hrt.go (W := w) (by with_reducible repeat first | exact HG | apply gA | apply gB | refine gS (by omega) ?_) with ⟨f, hx, rfl, hg⟩ | ⟨nm, s1, v, hx, rfl, hv, HP, hGw1, HG, hcw1, hfw1, hzw1, hPw1⟩; exact ⟨rfl, Rt.err (H.out.trans (bd_err hx)) hg⟩; (have hv2 : v = .string (bs nm) := hv; subst hv2); have H := hid (H.out.trans (bd_ok hx)); (try simp only [szA, szS] at hzw1); have hleww1 := le1 w w1 (by omega); (try have hltww1 := lt1 w w1 (by omega)); have t1 := True.intro)))
    )
  refine ret9 Tryz.results266 rfl (by repeat (first | (with_reducible apply Bx.put9) | (with_reducible apply Box.alloc) | ((with_reducible refine Box.set ?_ ?_); rotate_left; omega) | ((with_reducible refine Bx.new _ _ _ ?_); rfl) | (with_reducible apply Bx.alloc) | (with_reducible apply Bx.set) | ((with_reducible refine Bx.call hGw1 ?_ ?_); omega) | ((with_reducible refine Bx.call hGw2 ?_ ?_); omega) | ((with_reducible refine Bx.call hGw3 ?_ ?_); omega))) rfl ?_
  refine Rt.ok (H.out.trans rfl) ?_ (by with_reducible repeat first | exact HP | apply pA | refine pS (by omega) ?_) (by with_reducible repeat first | exact HG | apply gA | apply gB | refine gS (by omega) ?_)
  refine ⟨na, nn, nc, aa, an, ac, rfl, ?_⟩
  refine RE.mv hE (show Same (fun g => w2.heap.size ≤ g ∧ g < w3.heap.size) w3 _ from ?_) ?_
  · exact (by repeat (first | (with_reducible exact Same.refl _ _) | ((with_reducible apply Same.alloc); rotate_left; (rintro g ⟨q1, q2⟩; (try simp only [szA, szS]); omega)) | ((with_reducible apply Same.set); rotate_left; (rintro ⟨q1, q2⟩; omega))))
  · exact (by rintro g ⟨q1, q2⟩; (try simp only [szA, szS] at q1 q2); exact ⟨by omega, by (try simp only [szA, szS]); omega⟩)
def PtR (w : World) (A : Nat → Prop) (v : Value) (l : List (Bsq × PEx)) : Prop := Lst 250 9 LQ w A v l
theorem PtR.mv {w w' : World} {A B : Nat → Prop} {v : Value} {l : List (Bsq × PEx)} (h : PtR w A v l) (s : Same A w w') (i : ∀ g, A g → B g) : PtR w' B v l := Lst.mv LQ_mv h s i
theorem PtR.form {w : World} {A : Nat → Prop} {v : Value} {l : List (Bsq × PEx)} (h : PtR w A v l) : ∃ a m c, v = .slice a m c := by
  obtain ⟨a, c, h⟩ := Lst.form h
  exact ⟨a, _, c, h⟩
theorem RQ.row {w : World} {A : Nat → Prop} {p : Bsq × PEx} {na : Option Addr} {nn nc : Nat} {aa : Option Addr} {an ac : Nat} (h : RE w A (.agg #[.int .i64 p.2.kind, .int .i64 p.2.op, .int .i64 p.2.int, .string (bs p.2.text), .string (bs p.2.name), .slice na nn nc, .slice aa an ac, .int .i64 p.2.pos]) p.2) : LQ w A #[.string (bs p.1), .int .i64 p.2.kind, .int .i64 p.2.op, .int .i64 p.2.int, .string (bs p.2.text), .string (bs p.2.name), .slice na nn nc, .slice aa an ac, .int .i64 p.2.pos].toList p := ⟨_, rfl, h.row⟩
set_option maxHeartbeats 4000000 in
theorem row_part (w : World) (P D n : Nat) (s : PS) (el : Pr (Bsq × PEx)) (HP : Pst w P D s) (hn : n ≤ 10000) (J : ∀ (V : World) (t : PS), Pst V P D t → w.grownBy V (some P) → Fed (el t) → Calls Tryz.prog 266 #[.pointer (some ⟨P, 0, none⟩)] V (Rt RQ P D V (el t))) (HF : Fed (rowL el n [] s)) : Calls Tryz.prog 270 #[.pointer (some ⟨P, 0, none⟩), .func (.func 266) #[.pointer (some ⟨P, 0, none⟩)] #[]] w (Rt PtR P D w (rowL el n [] s)) := by
  have HG := World.grownBy.refl w (some P)
  have hPw := HP.lt
  have hD := HP.dw
  have hPD := HP.pd
  have t0 := True.intro
  have J := hid J
  have HF := hid HF
  go_enter Tryz.func270, Tryz.ntmps270
  go_wp2
  go_loopg [5] n (fun g v wr => ∃ (l : List (Bsq × PEx)) (t : PS), l.length + g = n ∧ Lst 250 9 LQ wr (fun g => w.heap.size ≤ g ∧ g < wr.heap.size) v l ∧ rowL el n [] s = rowL el g l t ∧ Pst wr P D t ∧ w.grownBy wr (some P))
  case atStart => exact ⟨[], s, by simp, Lst.nil _ _ _ _ _, rfl, HP, HG⟩
  case round =>
    obtain ⟨l, t, hlg, HL, ho, HP, HG⟩ := hrel
    cases gk with
    | zero => exact absurd (ho.trans rfl) HF.out
    | succ g =>
      have hb12 : decide (l.length = 12) = ((l.length : Int) == 12) := by rw [Bool.eq_iff_iff]; simp; omega
      have H := hid (show rowL el n [] s = (bd el fun x => bd (maybe [44]) fun b => if b = true then rowL el g (l ++ [x]) else ret (l ++ [x])) { t with sur := ((l.length : Int) == 12) } by rw [← hb12]; exact ho)
      obtain ⟨a5, c5, hv5⟩ := HL.form
      subst hv5
      obtain ⟨g', off, nt, ct, hP', hg', c0, c1, c2, f0, f1, f2, hn', n0, n1, nct, u0, u1, u2⟩ := HP.open
      have HP := HP.sur ((l.length : Int) == 12)
      have hgz := HG.size
      have hPr : P < wr.heap.size := hP'
      have hlI : (l.length : Int) ≤ 10000 := by omega
      have hown : ∀ g, (Value.slice a5 l.length c5).ownBlock = some g → g < wr.heap.size := fun g e => by obtain ⟨rows, ⟨_, q⟩, _⟩ := HL; exact (q g e).2
      have HOW := hid hown
      have HLG := hid hlg
      have HLL := hid HL
      clear hn' hown hlg HL ho hb12
      go_wp2_with (first
        | (have hno := t2; (go_at_call 85; (refine (maybe_any _ _ _ _ _ (by with_reducible repeat first | exact HP | apply pA | refine pS (by omega) ?_)).mono ?_; intro e w4 hrt; rcases hrt.go (W := w) (by with_reducible repeat first | exact HG | apply gA | apply gB | refine gS (by omega) ?_) with ⟨f, hx, rfl, hg⟩ | ⟨b, s4, v, hx, rfl, hv, HP, hGw4, HG, hcw4, hfw4, hzw4, hPw4⟩; exact ⟨rfl, Rt.err (H.out.trans (bd_err hx)) hg⟩; (have hv2 : v = .bool b := hv; subst hv2); have H := hid (H.out.trans (bd_ok hx)); (try simp only [szA, szS] at hzw4); have hleww4 := le1 w w4 (by omega); (try have hltww4 := lt1 w w4 (by omega)); have hlewrw4 := le1 wr w4 (by omega); (try have hltwrw4 := lt1 wr w4 (by omega)); have hlew2w4 := le1 w2 w4 (by omega); (try have hltw2w4 := lt1 w2 w4 (by omega)); have hlew3w4 := le1 w3 w4 (by omega); (try have hltw3w4 := lt1 w3 w4 (by omega)); have t3 := True.intro; skip; cases b)))
        | (have hno := t1; (at_builtin; refine wpList_appL LQ_mv LQ_row Tryz.underlying247 infoPt rfl (by decide) (by decide) _ w2 _ rfl rfl _ _ rfl _ _ (by rfl) (by rfl) rfl w.heap.size l (HLL.out.mv LQ_mv (by repeat (first | (with_reducible exact Same.refl _ _) | ((with_reducible apply Same.alloc); rotate_left; (rintro g ⟨q1, q2⟩; (try simp only [szA, szS]); omega)) | ((with_reducible apply Same.set); rotate_left; (rintro ⟨q1, q2⟩; omega)) | ((with_reducible refine Same.call hGw2 ?_ ?_ ?_); rotate_left; (rintro g ⟨q1, q2⟩; (try simp only [szA, szS]); omega); (rintro ⟨q1, q2⟩; omega)))) (by rintro g ⟨q1, q2⟩; exact ⟨q1, by omega⟩)) _ a (RQ.row hE) (by rintro g ⟨q1, q2⟩; (try simp only [World.size_setCell] at q1); exact ⟨by omega, q2, fun e => by have := HOW.out g e; omega⟩) (by omega) (by omega) ?_; intro v3 w3 h1 h2 h3; have hz3 := h2.size; simp only [World.size_alloc] at hz3; have HP := (HP.alloc _).grown h2 (fun r e => by have := h3 r e; omega); have HG := grown_row (grown_alloc HG _) h2 h3; have HL3 := hid h1; have hP3 := HP.lt; have t2 := True.intro; clear h1 h2 h3))
        | (have hno := t0; (go_at_call 266; (refine (J.out _ _ (by with_reducible repeat first | exact HP | apply pA | refine pS (by omega) ?_) (by with_reducible repeat first | exact HG | apply gA | apply gB | refine gS (by omega) ?_) (fun h => HF.out (H.out.trans (bd_err h)))).mono ?_; intro e w2 hrt; rcases hrt.go (W := w) (by with_reducible repeat first | exact HG | apply gA | apply gB | refine gS (by omega) ?_) with ⟨f, hx, rfl, hg⟩ | ⟨a, s2, v, hx, rfl, hv, HP, hGw2, HG, hcw2, hfw2, hzw2, hPw2⟩; exact ⟨rfl, Rt.err (H.out.trans (bd_err hx)) hg⟩; (obtain ⟨na, nn, nc, aa, an, ac, rfl, hE⟩ := hv); have H := hid (H.out.trans (bd_ok hx)); (try simp only [szA, szS] at hzw2); have hleww2 := le1 w w2 (by omega); (try have hltww2 := lt1 w w2 (by omega)); have hlewrw2 := le1 wr w2 (by omega); (try have hltwrw2 := lt1 wr w2 (by omega)); have t1 := True.intro)))
        )
      · go_ret
        exact Rt.ok (H.out.trans rfl) (HL3.out.mv LQ_mv (by repeat (first | (with_reducible exact Same.refl _ _) | ((with_reducible apply Same.alloc); rotate_left; (rintro g ⟨q1, q2⟩; (try simp only [szA, szS]); omega)) | ((with_reducible apply Same.set); rotate_left; (rintro ⟨q1, q2⟩; omega)) | ((with_reducible refine Same.call hGw4 ?_ ?_ ?_); rotate_left; (rintro g ⟨q1, q2⟩; (try simp only [szA, szS]); omega); (rintro ⟨q1, q2⟩; omega)))) (by rintro g ⟨q1, q2⟩; exact ⟨q1, by omega⟩)) HP HG
      · go_roundg g
        case measure => omega
        exact ⟨l ++ [a], s4, by rw [List.length_append]; have := HLG.out; simp; omega, HL3.out.mv LQ_mv (by repeat (first | (with_reducible exact Same.refl _ _) | ((with_reducible apply Same.alloc); rotate_left; (rintro g ⟨q1, q2⟩; (try simp only [szA, szS]); omega)) | ((with_reducible apply Same.set); rotate_left; (rintro ⟨q1, q2⟩; omega)) | ((with_reducible refine Same.call hGw4 ?_ ?_ ?_); rotate_left; (rintro g ⟨q1, q2⟩; (try simp only [szA, szS]); omega); (rintro ⟨q1, q2⟩; omega)))) (by rintro g ⟨q1, q2⟩; exact ⟨q1, by omega⟩), H.out.trans rfl, HP, HG⟩
set_option maxHeartbeats 1000000 in
theorem bt_part (w : World) (P D : Nat) (s : PS) (f t : Bsq) (inner : Pr (List (Bsq × PEx))) (b1 b2 b3 : Nat) (HP : Pst w P D s) (J : ∀ (V : World) (t' : PS), Pst V P D t' → w.grownBy V (some P) → Fed (inner t') → Calls Tryz.prog 269 #[.pointer (some ⟨b1, 0, none⟩), .pointer (some ⟨b2, 0, none⟩)] V (Rt PtR P D V (inner t'))) (HF : Fed (between f t inner s)) : Calls Tryz.prog 268 #[.pointer (some ⟨P, 0, none⟩), .string (bs f), .string (bs t), .func (.func 269) #[] #[.pointer (some ⟨b1, 0, none⟩), .pointer (some ⟨b2, 0, none⟩)]] w (Rt PtR P D w (between f t inner s)) := by
  have HG := World.grownBy.refl w (some P)
  have hPw := HP.lt
  have hD := HP.dw
  have hPD := HP.pd
  have t0 := True.intro
  have J := hid J
  have HF := hid HF
  have KI := hid (fun (V : World) (hV : Pst V P D s) => is_any V P D s f hV)
  by_cases hq : isS f s = true
  · have H := hid (show between f t inner s = bd enter (fun _ => bd inner fun x => bd (want t) fun _ => bd leave fun _ => ret x) s by unfold between; rw [if_pos hq])
    have HK := isS_k hq
    simp only [hq] at KI
    go_enter Tryz.func268, Tryz.ntmps268
    go_wp2_with (first
      | (have hno := t4; (go_at_call 151; (refine (leave_any _ _ _ _ (by with_reducible repeat first | exact HP | apply pA | refine pS (by omega) ?_)).mono ?_; intro e w5 hrt; rcases hrt.go (W := w) (by with_reducible repeat first | exact HG | apply gA | apply gB | refine gS (by omega) ?_) with ⟨f, hx, rfl, hg⟩ | ⟨u2, s5, v, hx, rfl, hv, HP, hGw5, HG, hcw5, hfw5, hzw5, hPw5⟩; exact ⟨rfl, Rt.err (H.out.trans (bd_err hx)) hg⟩; (have hv2 : v = .tuple #[] := hv; subst hv2); have H := hid (H.out.trans (bd_ok hx)); (try simp only [szA, szS] at hzw5); have hleww5 := le1 w w5 (by omega); (try have hltww5 := lt1 w w5 (by omega)); have hlew1w5 := le1 w1 w5 (by omega); (try have hltw1w5 := lt1 w1 w5 (by omega)); have hlew2w5 := le1 w2 w5 (by omega); (try have hltw2w5 := lt1 w2 w5 (by omega)); have hlew3w5 := le1 w3 w5 (by omega); (try have hltw3w5 := lt1 w3 w5 (by omega)); have hlew4w5 := le1 w4 w5 (by omega); (try have hltw4w5 := lt1 w4 w5 (by omega)); have t5 := True.intro)))
      | (have hno := t3; (go_at_call 80; (refine (want_any _ _ _ _ _ (by with_reducible repeat first | exact HP | apply pA | refine pS (by omega) ?_)).mono ?_; intro e w4 hrt; rcases hrt.go (W := w) (by with_reducible repeat first | exact HG | apply gA | apply gB | refine gS (by omega) ?_) with ⟨f, hx, rfl, hg⟩ | ⟨u, s4, v, hx, rfl, hv, HP, hGw4, HG, hcw4, hfw4, hzw4, hPw4⟩; exact ⟨rfl, Rt.err (H.out.trans (bd_err hx)) hg⟩; (have hv2 : v = .tuple #[] := hv; subst hv2); have H := hid (H.out.trans (bd_ok hx)); (try simp only [szA, szS] at hzw4); have hleww4 := le1 w w4 (by omega); (try have hltww4 := lt1 w w4 (by omega)); have hlew1w4 := le1 w1 w4 (by omega); (try have hltw1w4 := lt1 w1 w4 (by omega)); have hlew2w4 := le1 w2 w4 (by omega); (try have hltw2w4 := lt1 w2 w4 (by omega)); have hlew3w4 := le1 w3 w4 (by omega); (try have hltw3w4 := lt1 w3 w4 (by omega)); have t4 := True.intro)))
      | (have hno := t2; (go_at_call 269; (refine (J.out _ _ (by with_reducible repeat first | exact HP | apply pA | refine pS (by omega) ?_) (by with_reducible repeat first | exact HG | apply gA | apply gB | refine gS (by omega) ?_) (fun h => HF.out (H.out.trans (bd_err h)))).mono ?_; intro e w3 hrt; rcases hrt.go (W := w) (by with_reducible repeat first | exact HG | apply gA | apply gB | refine gS (by omega) ?_) with ⟨f, hx, rfl, hg⟩ | ⟨a, s3, v, hx, rfl, hv, HP, hGw3, HG, hcw3, hfw3, hzw3, hPw3⟩; exact ⟨rfl, Rt.err (H.out.trans (bd_err hx)) hg⟩; (obtain ⟨ax, mx, cx, rfl⟩ := hv.form; have hE := hv); have H := hid (H.out.trans (bd_ok hx)); (try simp only [szA, szS] at hzw3); have hleww3 := le1 w w3 (by omega); (try have hltww3 := lt1 w w3 (by omega)); have hlew1w3 := le1 w1 w3 (by omega); (try have hltw1w3 := lt1 w1 w3 (by omega)); have hlew2w3 := le1 w2 w3 (by omega); (try have hltw2w3 := lt1 w2 w3 (by omega)); have t3 := True.intro)))
      | (have hno := t1; (go_at_call 150; (refine (enter_any _ _ _ _ (by with_reducible repeat first | exact HP | apply pA | refine pS (by omega) ?_) HK).mono ?_; intro e w2 hrt; rcases hrt.go (W := w) (by with_reducible repeat first | exact HG | apply gA | apply gB | refine gS (by omega) ?_) with ⟨f, hx, rfl, hg⟩ | ⟨k, s2, v, hx, rfl, hv, HP, hGw2, HG, hcw2, hfw2, hzw2, hPw2⟩; exact ⟨rfl, Rt.err (H.out.trans (bd_err hx)) hg⟩; (have hv2 : v = tokV k := hv; subst hv2; unfold tokV); have H := hid (H.out.trans (bd_ok hx)); (try simp only [szA, szS] at hzw2); have hleww2 := le1 w w2 (by omega); (try have hltww2 := lt1 w w2 (by omega)); have hlew1w2 := le1 w1 w2 (by omega); (try have hltw1w2 := lt1 w1 w2 (by omega)); have t2 := True.intro)))
      | (have hno := t0; (go_at_call 42; (refine (KI.out _ (by with_reducible repeat first | exact HP | apply pA | refine pS (by omega) ?_)).mono ?_; rintro e w1 ⟨rfl, hb⟩; have hg := bgrown hb (some P); have hs := Pst.below (by with_reducible repeat first | exact HP | apply pA | refine pS (by omega) ?_) hb; obtain ⟨hcw1, hfw1⟩ := gcell hg; have hzw1 := hg.size; (try simp only [szA, szS] at hzw1); have hPw1 := hs.lt; have hleww1 := le1 w w1 (by omega); (try have hltww1 := lt1 w w1 (by omega)); have HG := gtrans (by with_reducible repeat first | exact HG | apply gA | apply gB | refine gS (by omega) ?_) hg; have HP := hs; have hGw1 := hg; have t1 := True.intro; (try clear hg hs))))
      )
    go_ret
    refine Rt.ok (H.out.trans rfl) ?_ ?_ ?_
    · refine PtR.mv hE (show Same (fun g => w2.heap.size ≤ g ∧ g < w3.heap.size) w3 _ from ?_) ?_
      · exact (by repeat (first | (with_reducible exact Same.refl _ _) | ((with_reducible apply Same.alloc); rotate_left; (rintro g ⟨q1, q2⟩; (try simp only [szA, szS]); omega)) | ((with_reducible apply Same.set); rotate_left; (rintro ⟨q1, q2⟩; omega)) | ((with_reducible refine Same.call hGw4 ?_ ?_ ?_); rotate_left; (rintro g ⟨q1, q2⟩; (try simp only [szA, szS]); omega); (rintro ⟨q1, q2⟩; omega)) | ((with_reducible refine Same.call hGw5 ?_ ?_ ?_); rotate_left; (rintro g ⟨q1, q2⟩; (try simp only [szA, szS]); omega); (rintro ⟨q1, q2⟩; omega))))
      · exact (by rintro g ⟨q1, q2⟩; (try simp only [szA, szS] at q1 q2); exact ⟨by omega, by (try simp only [szA, szS]); omega⟩)
    · exact (by with_reducible repeat first | exact HP | apply pA | refine pS (by omega) ?_)
    · exact (by with_reducible repeat first | exact HG | apply gA | apply gB | refine gS (by omega) ?_)
  · have hq : isS f s = false := by simpa using hq
    have H := hid (show between f t inner s = wrong s by unfold between; rw [if_neg (by rw [hq]; decide)])
    simp only [hq] at KI
    go_enter Tryz.func268, Tryz.ntmps268
    go_wp2_with (first
      | (have hno := t1; (go_at_call 48; (refine (wrong_any _ _ _ _ (by with_reducible repeat first | exact HP | apply pA | refine pS (by omega) ?_)).mono ?_; rintro e w2 ⟨rfl, hb⟩; have hg := bgrown hb (some P); have hs := Pst.below (by with_reducible repeat first | exact HP | apply pA | refine pS (by omega) ?_) hb; obtain ⟨hcw2, hfw2⟩ := gcell hg; have hzw2 := hg.size; (try simp only [szA, szS] at hzw2); have hPw2 := hs.lt; have hleww2 := le1 w w2 (by omega); (try have hltww2 := lt1 w w2 (by omega)); have hlew1w2 := le1 w1 w2 (by omega); (try have hltw1w2 := lt1 w1 w2 (by omega)); have HG := gtrans (by with_reducible repeat first | exact HG | apply gA | apply gB | refine gS (by omega) ?_) hg; have HP := hs; have hGw2 := hg; have t2 := True.intro; (try clear hg hs))))
      | (have hno := t0; (go_at_call 42; (refine (KI.out _ (by with_reducible repeat first | exact HP | apply pA | refine pS (by omega) ?_)).mono ?_; rintro e w1 ⟨rfl, hb⟩; have hg := bgrown hb (some P); have hs := Pst.below (by with_reducible repeat first | exact HP | apply pA | refine pS (by omega) ?_) hb; obtain ⟨hcw1, hfw1⟩ := gcell hg; have hzw1 := hg.size; (try simp only [szA, szS] at hzw1); have hPw1 := hs.lt; have hleww1 := le1 w w1 (by omega); (try have hltww1 := lt1 w w1 (by omega)); have HG := gtrans (by with_reducible repeat first | exact HG | apply gA | apply gB | refine gS (by omega) ?_) hg; have HP := hs; have hGw1 := hg; have t1 := True.intro; (try clear hg hs))))
      )
    exact ⟨rfl, Rt.err (H.out.trans rfl) (by with_reducible repeat first | exact HG | apply gA | apply gB | refine gS (by omega) ?_)⟩
set_option maxHeartbeats 1000000 in
theorem cl_part (w : World) (P D n : Nat) (s : PS) (el : Pr (Bsq × PEx)) (b1 b2 : Nat) (HP : Pst w P D s) (hn : n ≤ 10000) (h1 : w.cell? ⟨b1, 0, none⟩ = some (.pointer (some ⟨P, 0, none⟩))) (h2 : w.cell? ⟨b2, 0, none⟩ = some (.func (.func 266) #[.pointer (some ⟨P, 0, none⟩)] #[])) (J : ∀ (V : World) (t : PS), Pst V P D t → w.grownBy V (some P) → Fed (el t) → Calls Tryz.prog 266 #[.pointer (some ⟨P, 0, none⟩)] V (Rt RQ P D V (el t))) (HF : Fed (rowL el n [] s)) : Calls Tryz.prog 269 #[.pointer (some ⟨b1, 0, none⟩), .pointer (some ⟨b2, 0, none⟩)] w (Rt PtR P D w (rowL el n [] s)) := by
  have HG := World.grownBy.refl w (some P)
  have hPw := HP.lt
  have hD := HP.dw
  have hPD := HP.pd
  have t0 := True.intro
  have K := hid (row_part w P D n s el HP hn J HF)
  have H := hid (show rowL el n [] s = bd (rowL el n []) ret s by unfold bd ret; cases rowL el n [] s <;> rfl)
  clear J
  go_enter Tryz.func269, Tryz.ntmps269
  go_wp2_with (first
    | (have hno := t0; (go_at_call 270; (refine (K.out).mono ?_; intro e w1 hrt; rcases hrt.go (W := w) (by with_reducible repeat first | exact HG | apply gA | apply gB | refine gS (by omega) ?_) with ⟨f, hx, rfl, hg⟩ | ⟨a, s1, v, hx, rfl, hv, HP, hGw1, HG, hcw1, hfw1, hzw1, hPw1⟩; exact ⟨rfl, Rt.err (H.out.trans (bd_err hx)) hg⟩; (obtain ⟨ax, mx, cx, rfl⟩ := hv.form; have hE := hv); have H := hid (H.out.trans (bd_ok hx)); (try simp only [szA, szS] at hzw1); have hleww1 := le1 w w1 (by omega); (try have hltww1 := lt1 w w1 (by omega)); have t1 := True.intro)))
    )
  go_ret
  exact Rt.ok (H.out.trans rfl) hE HP HG
set_option maxHeartbeats 1000000 in
theorem rowParts_any (w : World) (P D n : Nat) (s : PS) (f t : Bsq) (el : Pr (Bsq × PEx)) (HP : Pst w P D s) (hn : n ≤ 10000) (J : ∀ (V : World) (t : PS), Pst V P D t → w.grownBy V (some P) → Fed (el t) → Calls Tryz.prog 266 #[.pointer (some ⟨P, 0, none⟩)] V (Rt RQ P D V (el t))) (HF : Fed (rowBetween n f t el s)) : Calls Tryz.prog 265 #[.pointer (some ⟨P, 0, none⟩), .string (bs f), .string (bs t), .func (.func 266) #[.pointer (some ⟨P, 0, none⟩)] #[]] w (Rt PtR P D w (rowBetween n f t el s)) := by
  have HG := World.grownBy.refl w (some P)
  have hPw := HP.lt
  have hD := HP.dw
  have hPD := HP.pd
  have t0 := True.intro
  have hmf : ∀ (fn : Fn) (first cap : Array Value) (w : World), (Instr.makeFunc fn first cap).run Tryz.prog w = .ok (.func fn first cap) w := fun _ _ _ _ => rfl
  obtain ⟨W, hW⟩ : ∃ W, W = (w.alloc (.cells #[.pointer (some ⟨P, 0, none⟩)] 99)).alloc (.cells #[.func (.func 266) #[.pointer (some ⟨P, 0, none⟩)] #[]] 251) := ⟨_, rfl⟩
  have hb1 : Box w.heap.size #[.pointer (some ⟨P, 0, none⟩)] 99 W := by rw [hW]; exact (Box.new w _ _).alloc _
  have hb2 : Box (w.heap.size + 1) #[.func (.func 266) #[.pointer (some ⟨P, 0, none⟩)] #[]] 251 W := by rw [hW]; have := Box.new (w.alloc (.cells #[.pointer (some ⟨P, 0, none⟩)] 99)) #[.func (.func 266) #[.pointer (some ⟨P, 0, none⟩)] #[]] 251; rw [World.size_alloc] at this; exact this
  have HPW : Pst W P D s := by rw [hW]; exact (HP.alloc _).alloc _
  have HGW : w.grownBy W (some P) := by rw [hW]; exact grown_alloc (World.grownBy_alloc w _ _) _
  have K := hid (bt_part W P D s f t (rowL el n []) w.heap.size (w.heap.size + 1) 0 HPW (fun V t hV hg hf => cl_part V P D n t el w.heap.size (w.heap.size + 1) hV hn ((hb1.call hg (by omega)).cell rfl) ((hb2.call hg (by omega)).cell rfl) (fun X u hX hVX hu => J X u hX (gtrans HGW (gtrans hg hVX)) hu) hf) HF)
  have H := hid (show rowBetween n f t el s = bd (between f t (rowL el n [])) ret s by unfold rowBetween bd ret; cases between f t (rowL el n []) s <;> rfl)
  have k1 := hb1.cell (i := 0) rfl
  have k2 := hb2.cell (i := 0) rfl
  clear J HF hb1 hb2 k1 k2
  subst hW
  have HP := HPW
  have HG := HGW
  go_enter Tryz.func265, Tryz.ntmps265
  go_wp2_with ((have hno := t0; (go_at_call 268; (refine (K.out).mono ?_; intro e w1 hrt; rcases hrt.go (W := w) (by with_reducible repeat first | exact HG | apply gA | apply gB | refine gS (by omega) ?_) with ⟨f, hx, rfl, hg⟩ | ⟨a, s1, v, hx, rfl, hv, HP, hGw1, HG, hcw1, hfw1, hzw1, hPw1⟩; exact ⟨rfl, Rt.err (H.out.trans (bd_err hx)) hg⟩; (obtain ⟨ax, mx, cx, rfl⟩ := hv.form; have hE := hv); have H := hid (H.out.trans (bd_ok hx)); (try simp only [szA, szS] at hzw1); have t1 := True.intro))))
  go_ret
  refine Rt.ok (H.out.trans rfl) ?_ HP HG
  exact PtR.mv hE (Same.refl _ _) (by rintro g ⟨q1, q2⟩; have := HGW.size; (try simp only [World.size_alloc] at q1 this); exact ⟨by omega, q2⟩)
end Go.Proofs.YtcnohgifihbkdaaGreatDoor

