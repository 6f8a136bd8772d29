/- The parser: rows between signs, by closures. -/
import Derived.Test.YtcnohgifihbkdaaGreatDoorJAH
import Derived.Deep.RegionHeld3
namespace Go.Proofs.YtcnohgifihbkdaaGreatDoor
open Go.RowKit Go.Deep Go.Shelf
set_option linter.unusedVariables false
set_option linter.unusedSimpArgs false
set_option maxRecDepth 100000
def orNone {α : Type} (n : Nat) (q : Bsq) (el : Pr α) : Pr (List α) := fun s => if isS q s = true then .ok ([], s) else rowL el n [] s
set_option maxHeartbeats 1000000 in
theorem cl_field (w : World) (P D n : Nat) (s : PS) (el : Pr PPm) (b1 b2 : Nat) (HP : Pst w P D s) (hn : n ≤ 10000) (h1 : w.cell? ⟨b1, 0, none⟩ = some (.pointer (some ⟨P, 0, none⟩))) (h2 : w.cell? ⟨b2, 0, none⟩ = some (.func (.func 78) #[.pointer (some ⟨P, 0, none⟩)] #[])) (J : ∀ (V : World) (t : PS), Pst V P D t → w.grownBy V (some P) → Fed (el t) → Calls Tryz.prog 78 #[.pointer (some ⟨P, 0, none⟩)] V (Rt RP P D V (el t))) (HF : Fed (rowL el n [] s)) : Calls Tryz.prog 110 #[.pointer (some ⟨b1, 0, none⟩), .pointer (some ⟨b2, 0, none⟩)] w (Rt PmR P D w (rowL el n [] s)) := by
  have HG := World.grownBy.refl w (some P)
  have hPw := HP.lt
  have hD := HP.dw
  have hPD := HP.pd
  have t0 := True.intro
  have K := hid (row_field w P D n s el HP hn J HF)
  have H := hid (show rowL el n [] s = bd (rowL el n []) ret s by unfold bd ret; cases rowL el n [] s <;> rfl)
  clear J
  go_enter Tryz.func110, Tryz.ntmps110
  go_wp2_with (first
    | (have hno := t0; (go_at_call 111; (refine (K.out).mono ?_; intro e w1 hrt; rcases hrt.go (W := w) (by with_reducible repeat first | exact HG | apply gA | apply gB | refine gS (by omega) ?_) with ⟨f, hx, rfl, hg⟩ | ⟨a, s1, v, hx, rfl, hv, HP, hGw1, HG, hcw1, hfw1, hzw1, hPw1⟩; exact ⟨rfl, Rt.err (H.out.trans (bd_err hx)) hg⟩; (obtain ⟨ax, mx, cx, rfl⟩ := hv.form; have hE := hv); have H := hid (H.out.trans (bd_ok hx)); (try simp only [szA, szS] at hzw1); have hleww1 := le1 w w1 (by omega); (try have hltww1 := lt1 w w1 (by omega)); have t1 := True.intro)))
    )
  go_ret
  exact Rt.ok (H.out.trans rfl) hE HP HG
set_option maxHeartbeats 1000000 in
theorem cl_param (w : World) (P D n : Nat) (s : PS) (el : Pr PPm) (q : Bsq) (b1 b2 b3 : Nat) (HP : Pst w P D s) (hn : n ≤ 10000) (hb1 : P < b1) (hb2 : P < b3) (l1 : b1 < w.heap.size) (l3 : b3 < w.heap.size) (h1 : w.cell? ⟨b1, 0, none⟩ = some (.pointer (some ⟨P, 0, none⟩))) (h2 : w.cell? ⟨b2, 0, none⟩ = some (.string (bs q))) (h3 : w.cell? ⟨b3, 0, none⟩ = some (.func (.func 84) #[.pointer (some ⟨P, 0, none⟩)] #[])) (J : ∀ (V : World) (t : PS), Pst V P D t → w.grownBy V (some P) → Fed (el t) → Calls Tryz.prog 84 #[.pointer (some ⟨P, 0, none⟩)] V (Rt RP P D V (el t))) (HF : Fed (orNone n q el s)) : Calls Tryz.prog 114 #[.pointer (some ⟨b1, 0, none⟩), .pointer (some ⟨b2, 0, none⟩), .pointer (some ⟨b3, 0, none⟩)] w (Rt PmR P D w (orNone n q el s)) := by
  have HG := World.grownBy.refl w (some P)
  have hPw := HP.lt
  have hD := HP.dw
  have hPD := HP.pd
  have t0 := True.intro
  have KI := hid (fun (V : World) (hV : Pst V P D s) => is_any V P D s q hV)
  by_cases hq : isS q s = true
  · have H := hid (show orNone n q el s = .ok ([], s) from if_pos hq)
    simp only [hq] at KI
    clear J HF hq
    go_enter Tryz.func114, Tryz.ntmps114
    go_wp2_with (first
      | (have hno := t0; (go_at_call 42; (refine (KI.out _ (by with_reducible repeat first | exact HP | apply pA | refine pS (by omega) ?_)).mono ?_; rintro e w1 ⟨rfl, hb⟩; have hg := bgrown hb (some P); have hs := Pst.below (by with_reducible repeat first | exact HP | apply pA | refine pS (by omega) ?_) hb; obtain ⟨hcw1, hfw1⟩ := gcell hg; have hzw1 := hg.size; (try simp only [szA, szS] at hzw1); have hPw1 := hs.lt; have hleww1 := le1 w w1 (by omega); (try have hltww1 := lt1 w w1 (by omega)); have HG := gtrans (by with_reducible repeat first | exact HG | apply gA | apply gB | refine gS (by omega) ?_) hg; have HP := hs; have hGw1 := hg; have t1 := True.intro; (try clear hg hs))))
      )
    go_ret
    exact Rt.ok H.out (Rws.nil _ _ _ _) HP HG
  · have hq2 : isS q s = false := by simpa using hq
    have H := hid (show orNone n q el s = bd (rowL el n []) ret s from (if_neg hq).trans (by unfold bd ret; cases rowL el n [] s <;> rfl))
    have HF2 : Fed (rowL el n [] s) := fun h => HF ((if_neg hq).trans h)
    simp only [hq2] at KI
    have K := hid (fun (V : World) (hV : Pst V P D s) (hg : w.grownBy V (some P)) => row_param V P D n s el hV hn (fun X t hX hVX => J X t hX (gtrans hg hVX)) HF2)
    clear J HF HF2 hq hq2
    go_enter Tryz.func114, Tryz.ntmps114
    go_wp2_with (first
      | (have hno := t1; (go_at_call 111; (refine (K.out _ (by with_reducible repeat first | exact HP | apply pA | refine pS (by omega) ?_) (by with_reducible repeat first | exact HG | apply gA | apply gB | refine gS (by omega) ?_)).mono ?_; intro e w2 hrt; rcases hrt.go (W := w) (by with_reducible repeat first | exact HG | apply gA | apply gB | refine gS (by omega) ?_) with ⟨f, hx, rfl, hg⟩ | ⟨a, s1, v, hx, rfl, hv, HP, hGw2, HG, hcw2, hfw2, hzw2, hPw2⟩; exact ⟨rfl, Rt.err (H.out.trans (bd_err hx)) hg⟩; (obtain ⟨ax, mx, cx, rfl⟩ := hv.form; have hE := hv); have H := hid (H.out.trans (bd_ok hx)); (try simp only [szA, szS] at hzw2); have hleww2 := le1 w w2 (by omega); (try have hltww2 := lt1 w w2 (by omega)); have hlew1w2 := le1 w1 w2 (by omega); (try have hltw1w2 := lt1 w1 w2 (by omega)); have t2 := True.intro)))
      | (have hno := t0; (go_at_call 42; (refine (KI.out _ (by with_reducible repeat first | exact HP | apply pA | refine pS (by omega) ?_)).mono ?_; rintro e w1 ⟨rfl, hb⟩; have hg := bgrown hb (some P); have hs := Pst.below (by with_reducible repeat first | exact HP | apply pA | refine pS (by omega) ?_) hb; obtain ⟨hcw1, hfw1⟩ := gcell hg; have hzw1 := hg.size; (try simp only [szA, szS] at hzw1); have hPw1 := hs.lt; have hleww1 := le1 w w1 (by omega); (try have hltww1 := lt1 w w1 (by omega)); have HG := gtrans (by with_reducible repeat first | exact HG | apply gA | apply gB | refine gS (by omega) ?_) hg; have HP := hs; have hGw1 := hg; have t1 := True.intro; (try clear hg hs))))
      )
    go_ret
    refine Rt.ok (H.out.trans rfl) ?_ HP HG
    refine Rws.mv hE (show Same (fun g => w1.heap.size ≤ g ∧ g < w2.heap.size) w2 _ from Same.refl _ _) ?_
    exact (by rintro g ⟨q1, q2⟩; (try simp only [szA, szS] at q1 q2); exact ⟨by omega, by (try simp only [szA, szS]); omega⟩)
set_option maxHeartbeats 1000000 in
theorem cl_expr (w : World) (P D n : Nat) (s : PS) (el : Pr PEx) (q : Bsq) (b1 b2 b3 : Nat) (HP : Pst w P D s) (hn : n ≤ 10000) (hb1 : P < b1) (hb2 : P < b3) (l1 : b1 < w.heap.size) (l3 : b3 < w.heap.size) (h1 : w.cell? ⟨b1, 0, none⟩ = some (.pointer (some ⟨P, 0, none⟩))) (h2 : w.cell? ⟨b2, 0, none⟩ = some (.string (bs q))) (h3 : w.cell? ⟨b3, 0, none⟩ = some (.func (.func 205) #[.pointer (some ⟨P, 0, none⟩)] #[])) (J : ∀ (V : World) (t : PS), Pst V P D t → w.grownBy V (some P) → Fed (el t) → Calls Tryz.prog 205 #[.pointer (some ⟨P, 0, none⟩)] V (Rt RE P D V (el t))) (HF : Fed (orNone n q el s)) : Calls Tryz.prog 235 #[.pointer (some ⟨b1, 0, none⟩), .pointer (some ⟨b2, 0, none⟩), .pointer (some ⟨b3, 0, none⟩)] w (Rt XsR P D w (orNone n q el s)) := by
  have HG := World.grownBy.refl w (some P)
  have hPw := HP.lt
  have hD := HP.dw
  have hPD := HP.pd
  have t0 := True.intro
  have KI := hid (fun (V : World) (hV : Pst V P D s) => is_any V P D s q hV)
  by_cases hq : isS q s = true
  · have H := hid (show orNone n q el s = .ok ([], s) from if_pos hq)
    simp only [hq] at KI
    clear J HF hq
    go_enter Tryz.func235, Tryz.ntmps235
    go_wp2_with (first
      | (have hno := t0; (go_at_call 42; (refine (KI.out _ (by with_reducible repeat first | exact HP | apply pA | refine pS (by omega) ?_)).mono ?_; rintro e w1 ⟨rfl, hb⟩; have hg := bgrown hb (some P); have hs := Pst.below (by with_reducible repeat first | exact HP | apply pA | refine pS (by omega) ?_) hb; obtain ⟨hcw1, hfw1⟩ := gcell hg; have hzw1 := hg.size; (try simp only [szA, szS] at hzw1); have hPw1 := hs.lt; have hleww1 := le1 w w1 (by omega); (try have hltww1 := lt1 w w1 (by omega)); have HG := gtrans (by with_reducible repeat first | exact HG | apply gA | apply gB | refine gS (by omega) ?_) hg; have HP := hs; have hGw1 := hg; have t1 := True.intro; (try clear hg hs))))
      )
    go_ret
    exact Rt.ok H.out (XsR.nil _ _) HP HG
  · have hq2 : isS q s = false := by simpa using hq
    have H := hid (show orNone n q el s = bd (rowL el n []) ret s from (if_neg hq).trans (by unfold bd ret; cases rowL el n [] s <;> rfl))
    have HF2 : Fed (rowL el n [] s) := fun h => HF ((if_neg hq).trans h)
    simp only [hq2] at KI
    have K := hid (fun (V : World) (hV : Pst V P D s) (hg : w.grownBy V (some P)) => row_expr V P D n s el hV hn (fun X t hX hVX => J X t hX (gtrans hg hVX)) HF2)
    clear J HF HF2 hq hq2
    go_enter Tryz.func235, Tryz.ntmps235
    go_wp2_with (first
      | (have hno := t1; (go_at_call 236; (refine (K.out _ (by with_reducible repeat first | exact HP | apply pA | refine pS (by omega) ?_) (by with_reducible repeat first | exact HG | apply gA | apply gB | refine gS (by omega) ?_)).mono ?_; intro e w2 hrt; rcases hrt.go (W := w) (by with_reducible repeat first | exact HG | apply gA | apply gB | refine gS (by omega) ?_) with ⟨f, hx, rfl, hg⟩ | ⟨a, s1, v, hx, rfl, hv, HP, hGw2, HG, hcw2, hfw2, hzw2, hPw2⟩; exact ⟨rfl, Rt.err (H.out.trans (bd_err hx)) hg⟩; (obtain ⟨ax, mx, cx, rfl⟩ := hv.form; have hE := hv); have H := hid (H.out.trans (bd_ok hx)); (try simp only [szA, szS] at hzw2); have hleww2 := le1 w w2 (by omega); (try have hltww2 := lt1 w w2 (by omega)); have hlew1w2 := le1 w1 w2 (by omega); (try have hltw1w2 := lt1 w1 w2 (by omega)); have t2 := True.intro)))
      | (have hno := t0; (go_at_call 42; (refine (KI.out _ (by with_reducible repeat first | exact HP | apply pA | refine pS (by omega) ?_)).mono ?_; rintro e w1 ⟨rfl, hb⟩; have hg := bgrown hb (some P); have hs := Pst.below (by with_reducible repeat first | exact HP | apply pA | refine pS (by omega) ?_) hb; obtain ⟨hcw1, hfw1⟩ := gcell hg; have hzw1 := hg.size; (try simp only [szA, szS] at hzw1); have hPw1 := hs.lt; have hleww1 := le1 w w1 (by omega); (try have hltww1 := lt1 w w1 (by omega)); have HG := gtrans (by with_reducible repeat first | exact HG | apply gA | apply gB | refine gS (by omega) ?_) hg; have HP := hs; have hGw1 := hg; have t1 := True.intro; (try clear hg hs))))
      )
    go_ret
    refine Rt.ok (H.out.trans rfl) ?_ HP HG
    refine XsR.mv hE (show Same (fun g => w1.heap.size ≤ g ∧ g < w2.heap.size) w2 _ from Same.refl _ _) ?_
    exact (by rintro g ⟨q1, q2⟩; (try simp only [szA, szS] at q1 q2); exact ⟨by omega, by (try simp only [szA, szS]); omega⟩)
set_option maxHeartbeats 1000000 in
theorem rowFields_any (w : World) (P D n : Nat) (s : PS) (f t : Bsq) (el : Pr PPm) (HP : Pst w P D s) (hn : n ≤ 10000) (J : ∀ (V : World) (t : PS), Pst V P D t → w.grownBy V (some P) → Fed (el t) → Calls Tryz.prog 78 #[.pointer (some ⟨P, 0, none⟩)] V (Rt RP P D V (el t))) (HF : Fed (rowBetween n f t el s)) : Calls Tryz.prog 77 #[.pointer (some ⟨P, 0, none⟩), .string (bs f), .string (bs t), .func (.func 78) #[.pointer (some ⟨P, 0, none⟩)] #[]] w (Rt PmR P D w (rowBetween n f t el s)) := by
  have HG := World.grownBy.refl w (some P)
  have hPw := HP.lt
  have hD := HP.dw
  have hPD := HP.pd
  have t0 := True.intro
  have hmf : ∀ (fn : Fn) (first cap : Array Value) (w : World), (Instr.makeFunc fn first cap).run Tryz.prog w = .ok (.func fn first cap) w := fun _ _ _ _ => rfl
  obtain ⟨W, hW⟩ : ∃ W, W = (w.alloc (.cells #[.pointer (some ⟨P, 0, none⟩)] 99)).alloc (.cells #[.func (.func 78) #[.pointer (some ⟨P, 0, none⟩)] #[]] 127) := ⟨_, rfl⟩
  have hb1 : Box w.heap.size #[.pointer (some ⟨P, 0, none⟩)] 99 W := by rw [hW]; exact (Box.new w _ _).alloc _
  have hb2 : Box (w.heap.size + 1) #[.func (.func 78) #[.pointer (some ⟨P, 0, none⟩)] #[]] 127 W := by rw [hW]; have := Box.new (w.alloc (.cells #[.pointer (some ⟨P, 0, none⟩)] 99)) #[.func (.func 78) #[.pointer (some ⟨P, 0, none⟩)] #[]] 127; rw [World.size_alloc] at this; exact this
  have HPW : Pst W P D s := by rw [hW]; exact (HP.alloc _).alloc _
  have HGW : w.grownBy W (some P) := by rw [hW]; exact grown_alloc (World.grownBy_alloc w _ _) _
  have K := hid (bt_pm_row W P D s f t (rowL el n []) w.heap.size (w.heap.size + 1) 0 HPW (fun V t hV hg hf => cl_field V P D n t el w.heap.size (w.heap.size + 1) hV hn ((hb1.call hg (by omega)).cell rfl) ((hb2.call hg (by omega)).cell rfl) (fun X u hX hVX hu => J X u hX (gtrans HGW (gtrans hg hVX)) hu) hf) HF)
  have H := hid (show rowBetween n f t el s = bd (between f t (rowL el n [])) ret s by unfold rowBetween bd ret; cases between f t (rowL el n []) s <;> rfl)
  have k1 := hb1.cell (i := 0) rfl
  have k2 := hb2.cell (i := 0) rfl
  clear J HF hb1 hb2 k1 k2
  subst hW
  have HP := HPW
  have HG := HGW
  go_enter Tryz.func77, Tryz.ntmps77
  go_wp2_with ((have hno := t0; (go_at_call 109; (refine (K.out).mono ?_; intro e w1 hrt; rcases hrt.go (W := w) (by with_reducible repeat first | exact HG | apply gA | apply gB | refine gS (by omega) ?_) with ⟨f, hx, rfl, hg⟩ | ⟨a, s1, v, hx, rfl, hv, HP, hGw1, HG, hcw1, hfw1, hzw1, hPw1⟩; exact ⟨rfl, Rt.err (H.out.trans (bd_err hx)) hg⟩; (obtain ⟨ax, mx, cx, rfl⟩ := hv.form; have hE := hv); have H := hid (H.out.trans (bd_ok hx)); (try simp only [szA, szS] at hzw1); have t1 := True.intro))))
  go_ret
  refine Rt.ok (H.out.trans rfl) ?_ HP HG
  exact Rws.mv hE (Same.refl _ _) (by rintro g ⟨q1, q2⟩; have := HGW.size; (try simp only [World.size_alloc] at q1 this); exact ⟨by omega, q2⟩)
set_option maxHeartbeats 1000000 in
theorem rowParams_any (w : World) (P D n : Nat) (s : PS) (f t : Bsq) (el : Pr PPm) (HP : Pst w P D s) (hn : n ≤ 10000) (J : ∀ (V : World) (t : PS), Pst V P D t → w.grownBy V (some P) → Fed (el t) → Calls Tryz.prog 84 #[.pointer (some ⟨P, 0, none⟩)] V (Rt RP P D V (el t))) (HF : Fed (rowOrNone n f t el s)) : Calls Tryz.prog 83 #[.pointer (some ⟨P, 0, none⟩), .string (bs f), .string (bs t), .func (.func 84) #[.pointer (some ⟨P, 0, none⟩)] #[]] w (Rt PmR P D w (rowOrNone n f t el s)) := by
  have HG := World.grownBy.refl w (some P)
  have hPw := HP.lt
  have hD := HP.dw
  have hPD := HP.pd
  have t0 := True.intro
  have hmf : ∀ (fn : Fn) (first cap : Array Value) (w : World), (Instr.makeFunc fn first cap).run Tryz.prog w = .ok (.func fn first cap) w := fun _ _ _ _ => rfl
  obtain ⟨W, hW⟩ : ∃ W, W = ((w.alloc (.cells #[.pointer (some ⟨P, 0, none⟩)] 99)).alloc (.cells #[.string (bs t)] 9)).alloc (.cells #[.func (.func 84) #[.pointer (some ⟨P, 0, none⟩)] #[]] 127) := ⟨_, rfl⟩
  have hb1 : Box w.heap.size #[.pointer (some ⟨P, 0, none⟩)] 99 W := by rw [hW]; exact ((Box.new w _ _).alloc _).alloc _
  have hb2 : Box (w.heap.size + 1) #[.string (bs t)] 9 W := by rw [hW]; have := Box.new (w.alloc (.cells #[.pointer (some ⟨P, 0, none⟩)] 99)) #[.string (bs t)] 9; rw [World.size_alloc] at this; exact this.alloc _
  have hb3 : Box (w.heap.size + 1 + 1) #[.func (.func 84) #[.pointer (some ⟨P, 0, none⟩)] #[]] 127 W := by rw [hW]; have := Box.new ((w.alloc (.cells #[.pointer (some ⟨P, 0, none⟩)] 99)).alloc (.cells #[.string (bs t)] 9)) #[.func (.func 84) #[.pointer (some ⟨P, 0, none⟩)] #[]] 127; rw [World.size_alloc, World.size_alloc] at this; exact this
  have HPW : Pst W P D s := by rw [hW]; exact ((HP.alloc _).alloc _).alloc _
  have HGW : w.grownBy W (some P) := by rw [hW]; exact grown_alloc (grown_alloc (World.grownBy_alloc w _ _) _) _
  have K := hid (bt_pm_none W P D s f t (orNone n t el) w.heap.size (w.heap.size + 1) (w.heap.size + 1 + 1) HPW (fun V u hV hg hf => cl_param V P D n u el t w.heap.size (w.heap.size + 1) (w.heap.size + 1 + 1) hV hn (by omega) (by omega) ((hb1.call hg (by omega)).lt) ((hb3.call hg (by omega)).lt) ((hb1.call hg (by omega)).cell rfl) ((hb2.call hg (by omega)).cell rfl) ((hb3.call hg (by omega)).cell rfl) (fun X u hX hVX hu => J X u hX (gtrans HGW (gtrans hg hVX)) hu) hf) HF)
  have H := hid (show rowOrNone n f t el s = bd (between f t (orNone n t el)) ret s by rw [show rowOrNone n f t el = between f t (orNone n t el) from rfl]; unfold bd ret; cases between f t (orNone n t el) s <;> rfl)
  have k1 := hb1.cell (i := 0) rfl
  have k2 := hb2.cell (i := 0) rfl
  have k3 := hb3.cell (i := 0) rfl
  clear J HF hb1 hb2 hb3 k1 k2 k3
  subst hW
  have HP := HPW
  have HG := HGW
  go_enter Tryz.func83, Tryz.ntmps83
  go_wp2_with ((have hno := t0; (go_at_call 109; (refine (K.out).mono ?_; intro e w1 hrt; rcases hrt.go (W := w) (by with_reducible repeat first | exact HG | apply gA | apply gB | refine gS (by omega) ?_) with ⟨f, hx, rfl, hg⟩ | ⟨a, s1, v, hx, rfl, hv, HP, hGw1, HG, hcw1, hfw1, hzw1, hPw1⟩; exact ⟨rfl, Rt.err (H.out.trans (bd_err hx)) hg⟩; (obtain ⟨ax, mx, cx, rfl⟩ := hv.form; have hE := hv); have H := hid (H.out.trans (bd_ok hx)); (try simp only [szA, szS] at hzw1); have t1 := True.intro))))
  go_ret
  refine Rt.ok (H.out.trans rfl) ?_ HP HG
  exact Rws.mv hE (Same.refl _ _) (by rintro g ⟨q1, q2⟩; have := HGW.size; (try simp only [World.size_alloc] at q1 this); exact ⟨by omega, q2⟩)
set_option maxHeartbeats 1000000 in
theorem rowExprs_any (w : World) (P D n : Nat) (s : PS) (f t : Bsq) (el : Pr PEx) (HP : Pst w P D s) (hn : n ≤ 10000) (J : ∀ (V : World) (t : PS), Pst V P D t → w.grownBy V (some P) → Fed (el t) → Calls Tryz.prog 205 #[.pointer (some ⟨P, 0, none⟩)] V (Rt RE P D V (el t))) (HF : Fed (rowOrNone n f t el s)) : Calls Tryz.prog 230 #[.pointer (some ⟨P, 0, none⟩), .string (bs f), .string (bs t), .func (.func 205) #[.pointer (some ⟨P, 0, none⟩)] #[]] w (Rt XsR P D w (rowOrNone n f t el s)) := by
  have HG := World.grownBy.refl w (some P)
  have hPw := HP.lt
  have hD := HP.dw
  have hPD := HP.pd
  have t0 := True.intro
  have hmf : ∀ (fn : Fn) (first cap : Array Value) (w : World), (Instr.makeFunc fn first cap).run Tryz.prog w = .ok (.func fn first cap) w := fun _ _ _ _ => rfl
  obtain ⟨W, hW⟩ : ∃ W, W = ((w.alloc (.cells #[.pointer (some ⟨P, 0, none⟩)] 99)).alloc (.cells #[.string (bs t)] 9)).alloc (.cells #[.func (.func 205) #[.pointer (some ⟨P, 0, none⟩)] #[]] 131) := ⟨_, rfl⟩
  have hb1 : Box w.heap.size #[.pointer (some ⟨P, 0, none⟩)] 99 W := by rw [hW]; exact ((Box.new w _ _).alloc _).alloc _
  have hb2 : Box (w.heap.size + 1) #[.string (bs t)] 9 W := by rw [hW]; have := Box.new (w.alloc (.cells #[.pointer (some ⟨P, 0, none⟩)] 99)) #[.string (bs t)] 9; rw [World.size_alloc] at this; exact this.alloc _
  have hb3 : Box (w.heap.size + 1 + 1) #[.func (.func 205) #[.pointer (some ⟨P, 0, none⟩)] #[]] 131 W := by rw [hW]; have := Box.new ((w.alloc (.cells #[.pointer (some ⟨P, 0, none⟩)] 99)).alloc (.cells #[.string (bs t)] 9)) #[.func (.func 205) #[.pointer (some ⟨P, 0, none⟩)] #[]] 131; rw [World.size_alloc, World.size_alloc] at this; exact this
  have HPW : Pst W P D s := by rw [hW]; exact ((HP.alloc _).alloc _).alloc _
  have HGW : w.grownBy W (some P) := by rw [hW]; exact grown_alloc (grown_alloc (World.grownBy_alloc w _ _) _) _
  have K := hid (bt_none W P D s f t (orNone n t el) w.heap.size (w.heap.size + 1) (w.heap.size + 1 + 1) HPW (fun V u hV hg hf => cl_expr V P D n u el t w.heap.size (w.heap.size + 1) (w.heap.size + 1 + 1) hV hn (by omega) (by omega) ((hb1.call hg (by omega)).lt) ((hb3.call hg (by omega)).lt) ((hb1.call hg (by omega)).cell rfl) ((hb2.call hg (by omega)).cell rfl) ((hb3.call hg (by omega)).cell rfl) (fun X u hX hVX hu => J X u hX (gtrans HGW (gtrans hg hVX)) hu) hf) HF)
  have H := hid (show rowOrNone n f t el s = bd (between f t (orNone n t el)) ret s by rw [show rowOrNone n f t el = between f t (orNone n t el) from rfl]; unfold bd ret; cases between f t (orNone n t el) s <;> rfl)
  have k1 := hb1.cell (i := 0) rfl
  have k2 := hb2.cell (i := 0) rfl
  have k3 := hb3.cell (i := 0) rfl
  clear J HF hb1 hb2 hb3 k1 k2 k3
  subst hW
  have HP := HPW
  have HG := HGW
  go_enter Tryz.func230, Tryz.ntmps230
  go_wp2_with ((have hno := t0; (go_at_call 219; (refine (K.out).mono ?_; intro e w1 hrt; rcases hrt.go (W := w) (by with_reducible repeat first | exact HG | apply gA | apply gB | refine gS (by omega) ?_) with ⟨f, hx, rfl, hg⟩ | ⟨a, s1, v, hx, rfl, hv, HP, hGw1, HG, hcw1, hfw1, hzw1, hPw1⟩; exact ⟨rfl, Rt.err (H.out.trans (bd_err hx)) hg⟩; (obtain ⟨ax, mx, cx, rfl⟩ := hv.form; have hE := hv); have H := hid (H.out.trans (bd_ok hx)); (try simp only [szA, szS] at hzw1); have t1 := True.intro))))
  go_ret
  refine Rt.ok (H.out.trans rfl) ?_ HP HG
  exact XsR.mv hE (Same.refl _ _) (by rintro g ⟨q1, q2⟩; have := HGW.size; (try simp only [World.size_alloc] at q1 this); exact ⟨by omega, q2⟩)
end Go.Proofs.YtcnohgifihbkdaaGreatDoor

namespace Go.Proofs.YtcnohgifihbkdaaGreatDoor
open Go.RowKit Go.Deep Go.Shelf
set_option linter.unusedVariables false
set_option linter.unusedSimpArgs false
set_option maxRecDepth 100000
theorem KR.two {E : TypeId} {k : Nat} (w : World) (r r2 : List Value) (hr : r.length = k) (hr2 : r2.length = k) (h1 : ∀ u ∈ r, u.oneCell' = true) (h2 : ∀ u ∈ r2, u.oneCell' = true) : KR E k (w.alloc (.cells (r ++ r2).toArray E)) w.heap.size (.slice (some ⟨w.heap.size, 0, none⟩) 2 2) [r, r2] := by
  refine ⟨⟨by simp [hr, hr2]; omega, .inr ⟨w.heap.size, 2, (r ++ r2).toArray, rfl, Nat.le_refl _, heap_alloc_new w _, Nat.le_refl _, by unfold maxLen; omega, by simp [hr, hr2]; omega, ?_⟩⟩, ⟨fun x hx => by simp at hx; rcases hx with rfl | rfl <;> assumption, fun x hx => by simp at hx; rcases hx with rfl | rfl <;> assumption⟩⟩
  have e1 : (r ++ r2).toArray.toList = r ++ r2 := rfl
  rw [e1, List.take_of_length_le (by simp [hr, hr2]; omega)]
  simp
theorem XsR.two {w : World} {A B : Nat → Prop} {c1 c2 : List Value} {e1 e2 : PEx} (h1 : LX w A c1 e1) (h2 : LX w A c2 e2) (hA : ∀ g, A g → g < w.heap.size) (hAB : ∀ g, A g → B g) (hB : B w.heap.size) : XsR (w.alloc (.cells (c1 ++ c2).toArray 45)) B (.slice (some ⟨w.heap.size, 0, none⟩) 2 2) [e1, e2] := by
  obtain ⟨n, h1⟩ := h1
  obtain ⟨m, h2⟩ := h2
  obtain ⟨q1, q2⟩ := h1.row
  obtain ⟨q3, q4⟩ := h2.row
  have s : Same A w (w.alloc (.cells (c1 ++ c2).toArray 45)) := (Same.refl _ _).alloc hA
  exact ⟨max n m, [c1, c2], ⟨(KR.two w c1 c2 q1 q3 q2 q4).lower (Nat.zero_le _), fun g e => by cases e; exact hB⟩, (All2.one ((Er.mv n h1 s hAB).le (Nat.le_max_left _ _))).app (All2.one ((Er.mv m h2 s hAB).le (Nat.le_max_right _ _)))⟩
set_option maxHeartbeats 1000000 in
theorem opOf_any (w : World) (q : Bsq) : Calls Tryz.prog 232 #[.string (bs q)] w fun e w' => e = .returned (.tuple #[.int .i64 (opOf q).1, .int .i64 (opOf q).2]) ∧ w' = w := by
  by_cases h0 : q = [111, 114]
  · subst h0
    go_enter Tryz.func232, Tryz.ntmps232
    go_wp2
    go_ret2
    exact ⟨rfl, rfl⟩
  have k0 : (q == [111, 114]) = false := by simp [h0]
  by_cases h1 : q = [97, 110, 100]
  · subst h1
    go_enter Tryz.func232, Tryz.ntmps232
    go_wp2
    go_ret2
    exact ⟨rfl, rfl⟩
  have k1 : (q == [97, 110, 100]) = false := by simp [h1]
  by_cases h2 : q = [61, 61]
  · subst h2
    go_enter Tryz.func232, Tryz.ntmps232
    go_wp2
    go_ret2
    exact ⟨rfl, rfl⟩
  have k2 : (q == [61, 61]) = false := by simp [h2]
  by_cases h3 : q = [33, 61]
  · subst h3
    go_enter Tryz.func232, Tryz.ntmps232
    go_wp2
    go_ret2
    exact ⟨rfl, rfl⟩
  have k3 : (q == [33, 61]) = false := by simp [h3]
  by_cases h4 : q = [60]
  · subst h4
    go_enter Tryz.func232, Tryz.ntmps232
    go_wp2
    go_ret2
    exact ⟨rfl, rfl⟩
  have k4 : (q == [60]) = false := by simp [h4]
  by_cases h5 : q = [60, 61]
  · subst h5
    go_enter Tryz.func232, Tryz.ntmps232
    go_wp2
    go_ret2
    exact ⟨rfl, rfl⟩
  have k5 : (q == [60, 61]) = false := by simp [h5]
  by_cases h6 : q = [62]
  · subst h6
    go_enter Tryz.func232, Tryz.ntmps232
    go_wp2
    go_ret2
    exact ⟨rfl, rfl⟩
  have k6 : (q == [62]) = false := by simp [h6]
  by_cases h7 : q = [62, 61]
  · subst h7
    go_enter Tryz.func232, Tryz.ntmps232
    go_wp2
    go_ret2
    exact ⟨rfl, rfl⟩
  have k7 : (q == [62, 61]) = false := by simp [h7]
  by_cases h8 : q = [43]
  · subst h8
    go_enter Tryz.func232, Tryz.ntmps232
    go_wp2
    go_ret2
    exact ⟨rfl, rfl⟩
  have k8 : (q == [43]) = false := by simp [h8]
  by_cases h9 : q = [45]
  · subst h9
    go_enter Tryz.func232, Tryz.ntmps232
    go_wp2
    go_ret2
    exact ⟨rfl, rfl⟩
  have k9 : (q == [45]) = false := by simp [h9]
  by_cases h10 : q = [43, 37]
  · subst h10
    go_enter Tryz.func232, Tryz.ntmps232
    go_wp2
    go_ret2
    exact ⟨rfl, rfl⟩
  have k10 : (q == [43, 37]) = false := by simp [h10]
  by_cases h11 : q = [45, 37]
  · subst h11
    go_enter Tryz.func232, Tryz.ntmps232
    go_wp2
    go_ret2
    exact ⟨rfl, rfl⟩
  have k11 : (q == [45, 37]) = false := by simp [h11]
  by_cases h12 : q = [38]
  · subst h12
    go_enter Tryz.func232, Tryz.ntmps232
    go_wp2
    go_ret2
    exact ⟨rfl, rfl⟩
  have k12 : (q == [38]) = false := by simp [h12]
  by_cases h13 : q = [42]
  · subst h13
    go_enter Tryz.func232, Tryz.ntmps232
    go_wp2
    go_ret2
    exact ⟨rfl, rfl⟩
  have k13 : (q == [42]) = false := by simp [h13]
  by_cases h14 : q = [42, 37]
  · subst h14
    go_enter Tryz.func232, Tryz.ntmps232
    go_wp2
    go_ret2
    exact ⟨rfl, rfl⟩
  have k14 : (q == [42, 37]) = false := by simp [h14]
  by_cases h15 : q = [47]
  · subst h15
    go_enter Tryz.func232, Tryz.ntmps232
    go_wp2
    go_ret2
    exact ⟨rfl, rfl⟩
  have k15 : (q == [47]) = false := by simp [h15]
  by_cases h16 : q = [37]
  · subst h16
    go_enter Tryz.func232, Tryz.ntmps232
    go_wp2
    go_ret2
    exact ⟨rfl, rfl⟩
  have k16 : (q == [37]) = false := by simp [h16]
  have e0 : opOf q = (0, 0) := by unfold opOf; simp [h0, h1, h2, h3, h4, h5, h6, h7, h8, h9, h10, h11, h12, h13, h14, h15, h16]
  rw [e0]
  clear e0
  go_enter Tryz.func232, Tryz.ntmps232
  go_wp2
  go_ret2
  exact ⟨rfl, rfl⟩
set_option maxHeartbeats 1000000 in
theorem binary_any (w : World) (op : Int) (e1 e2 : PEx) (A : Nat → Prop) (v1 v2 : Value) (h1 : RE w A v1 e1) (h2 : RE w A v2 e2) (hA : ∀ g, A g → g < w.heap.size) : Calls Tryz.prog 228 #[.int .i64 op, v1, v2] w fun e w' => ∃ v, e = .returned v ∧ RE w' (fun g => A g ∨ (w.heap.size ≤ g ∧ g < w'.heap.size)) v (binary op e1 e2) ∧ Below w.heap.size w w' := by
  obtain ⟨na, nn, nc, aa, an, ac, es, rfl, _⟩ := h1.parts
  obtain ⟨na2, nn2, nc2, aa2, an2, ac2, es2, rfl, _⟩ := h2.parts
  have H1 := hid h1
  have H2 := hid h2
  clear h1 h2
  go_enter Tryz.func228, Tryz.ntmps228
  go_wp2
  have x1 := H1.out.row
  have x2 := H2.out.row
  obtain ⟨W, hW⟩ : ∃ W, W = ((w.alloc (.cells #[.int .i64 e1.kind, .int .i64 e1.op, .int .i64 e1.int, .string (bs e1.text), .string (bs e1.name), .slice na nn nc, .slice aa an ac, .int .i64 e1.pos] 45)).alloc (.cells #[.int .i64 e2.kind, .int .i64 e2.op, .int .i64 e2.int, .string (bs e2.text), .string (bs e2.name), .slice na2 nn2 nc2, .slice aa2 an2 ac2, .int .i64 e2.pos] 45)).alloc (.cells #[.int .i64 6, .int .i64 op, .int .i64 0, .string ⟨#[]⟩, .string ⟨#[]⟩, .slice none 0 0, .slice (some ⟨w.heap.size + 1 + 1 + 1, 0, none⟩) 2 2, .int .i64 e1.pos] 45) := ⟨_, rfl⟩
  have hWs : W.heap.size = w.heap.size + 1 + 1 + 1 := by rw [hW]; simp only [World.size_alloc]
  have sW : Same A w W := by rw [hW]; exact (((Same.refl _ _).alloc hA).alloc (fun g hg => by have := hA g hg; simp only [World.size_alloc]; omega)).alloc (fun g hg => by have := hA g hg; simp only [World.size_alloc]; omega)
  have xs := XsR.two (w := W) (A := A) (B := fun g => A g ∨ (w.heap.size ≤ g ∧ g < w.heap.size + 1 + 1 + 1 + 1)) (LX_mv _ _ _ _ _ _ x1 sW fun g h => h) (LX_mv _ _ _ _ _ _ x2 sW fun g h => h) (fun g hg => by have := hA g hg; omega) (fun g hg => .inl hg) (.inr ⟨by omega, by omega⟩)
  rw [hWs, hW] at xs
  have bx0 := Box.new ((w.alloc (.cells #[.int .i64 e1.kind, .int .i64 e1.op, .int .i64 e1.int, .string (bs e1.text), .string (bs e1.name), .slice na nn nc, .slice aa an ac, .int .i64 e1.pos] 45)).alloc (.cells #[.int .i64 e2.kind, .int .i64 e2.op, .int .i64 e2.int, .string (bs e2.text), .string (bs e2.name), .slice na2 nn2 nc2, .slice aa2 an2 ac2, .int .i64 e2.pos] 45)) #[.int .i64 6, .int .i64 op, .int .i64 0, .string ⟨#[]⟩, .string ⟨#[]⟩, .slice none 0 0, .slice (some ⟨w.heap.size + 1 + 1 + 1, 0, none⟩) 2 2, .int .i64 e1.pos] 45
  simp only [World.size_alloc] at bx0
  refine ret8 Tryz.results228 rfl (bx0.alloc _) rfl ⟨_, rfl, RE.mk (e := binary op e1 e2) (es := [e1, e2]) (Rws.nil _ _ _ _) ?_ rfl, ?_⟩
  · exact xs.mv (Same.refl _ _) (fun g hg => hg.imp id fun h => ⟨h.1, by simp only [World.size_alloc]; exact h.2⟩)
  · exact ((((Below.refl _ _).alloc (Nat.le_refl _) _).alloc (by simp) _).alloc (by simp; omega) _).alloc (by simp; omega) _
end Go.Proofs.YtcnohgifihbkdaaGreatDoor

namespace Go.Proofs.YtcnohgifihbkdaaGreatDoor
open Go
set_option linter.unusedVariables false
section
variable {P : Program} {ops : Array Oper} {Q : Exit → Act → World → Prop} {md : Region.Mode} {S : World → Prop} {L : Nat}
/- Whatever order is picked; S holds behind every operation but number L. -/
def wpAnyI (P : Program) (md : Region.Mode) (ops : Array Oper) (Q : Exit → Act → World → Prop) (L : Nat) (S : World → Prop) : Nat → Array Bool → Act → World → Prop
  | 0, listed, a, w => Region.ready md ops listed = [] ∧ Q .normal a w
  | fuel + 1, listed, a, w =>
    (Region.ready md ops listed = [] → Q .normal a w) ∧
    ∀ i ∈ Region.ready md ops listed, wpOp P ops Q i (fun a' w' => (i = L ∨ S w') ∧ wpAnyI P md ops Q L S fuel (listed.setIfInBounds i true) a' w') a w
theorem wpAny_of_I : ∀ (fuel : Nat) (listed : Array Bool) (a : Act) (w : World), wpAnyI P md ops Q L S fuel listed a w → wpAny P md ops Q fuel listed a w
  | 0, _, _, _, h => h
  | fuel + 1, _, _, _, h => ⟨h.1, fun i hi => wpOp_mono (fun a' w' h' => wpAny_of_I fuel _ a' w' h'.2) (h.2 i hi)⟩
/- A row of operations, each waiting for the one ahead of it, none of them done. -/
def chainOk (md : Region.Mode) (ops : Array Oper) (listed : Array Bool) : List Nat → Bool
  | [] => false
  | c :: r => !listed.getD c true && (match r with
    | [] => true
    | d :: _ => ((ops[d]?).map (fun o => o.after.any fun e => Region.binds md e && e.on == c)).getD false && chainOk md ops listed r)
theorem chainOk_ne {listed : Array Bool} {j : Nat} : ∀ {c : Nat} {r : List Nat}, chainOk md ops listed (c :: r) = true → j ∈ Region.ready md ops listed → j ∉ r
  | c, [], _, _ => by simp
  | c, d :: r, h, hj => by
    unfold chainOk at h
    simp only [Bool.and_eq_true, Bool.not_eq_true'] at h
    obtain ⟨h0, h1, h2⟩ := h
    intro hm
    rcases List.mem_cons.1 hm with rfl | hm
    · obtain ⟨_, o, ho, hall⟩ := mem_ready.1 hj
      rw [ho] at h1
      simp only [Option.map_some, Option.getD_some, Array.any_eq_true] at h1
      obtain ⟨q, hq, he⟩ := h1
      simp only [Bool.and_eq_true, beq_iff_eq] at he
      have h3 := hall _ (Array.getElem_mem hq) he.1
      rw [he.2] at h3
      rcases Nat.lt_or_ge c listed.size with h' | h'
      · simp [h'] at h0 h3; rw [h0] at h3; cases h3
      · simp [Array.getElem?_eq_none h'] at h0
    · exact chainOk_ne h2 hj hm
theorem chainOk_set {listed : Array Bool} {j : Nat} : ∀ {l : List Nat}, chainOk md ops listed l = true → j ∉ l → chainOk md ops (listed.setIfInBounds j true) l = true
  | [], h, _ => h
  | [c], h, hj => by
    unfold chainOk at h ⊢
    rw [getD_set_ne true (by intro e; exact hj (by rw [e]; exact List.mem_cons_self ..))]
    exact h
  | c :: d :: r, h, hj => by
    unfold chainOk at h ⊢
    simp only [Bool.and_eq_true] at h ⊢
    rw [getD_set_ne true (by intro e; exact hj (by rw [e]; exact List.mem_cons_self ..))]
    exact ⟨h.1, h.2.1, chainOk_set h.2.2 (fun hm => hj (List.mem_cons_of_mem _ hm))⟩
theorem wpAnyI_first {i : Nat} {oi : Oper} {v : Value} {r : List Nat} (hi : ops[i]? = some oi) (hsel : ∀ (j : Nat) (o : Oper) cs b, ops[j]? = some o → o.op ≠ .select cs b)
    (hQ : ∀ c a w, Q (.panic c) (a.put oi.dst v) w → Q (.panic c) a w) (hLr : L ∈ r) :
    ∀ (fuel : Nat) (listed : Array Bool) (a : Act) (w : World),
      (∀ j oj, ops[j]? = some oj → j ≠ i → listed.getD j true = false → (∀ e ∈ oj.after, Region.binds md e = true → e.on ≠ i) → oi.apart ops oj = true) →
      i ∈ Region.ready md ops listed → chainOk md ops listed (i :: r) = true → YieldsIf P ops S oi v a → S w →
      wpAnyI P md ops Q L S fuel (listed.setIfInBounds i true) (a.put oi.dst v) w → wpAnyI P md ops Q L S (fuel + 1) listed a w := by
  intro fuel
  induction fuel with
  | zero =>
    intro listed a w _ hr _ hy hS H
    refine ⟨fun h => (by rw [h] at hr; cases hr), fun j hj => ?_⟩
    by_cases hji : j = i
    · subst hji; exact hy.wpOp hi hS ⟨.inr hS, H⟩
    · have := ready_mono hj hji
      rw [H.1] at this
      cases this
  | succ fuel ih =>
    intro listed a w hfree hr hch hy hS H
    refine ⟨fun h => (by rw [h] at hr; cases hr), fun j hj => ?_⟩
    by_cases hji : j = i
    · subst hji; exact hy.wpOp hi hS ⟨.inr hS, H⟩
    · have h1 := H.2 j (ready_mono hj hji)
      obtain ⟨hjun, oj, hoj, hall⟩ := mem_ready.1 hj
      have hnot : ∀ e ∈ oj.after, Region.binds md e = true → e.on ≠ i := fun e he hb heq => by
        have h1 := hall e he hb
        have h0 := (mem_ready.1 hr).1
        rw [heq] at h1
        rcases Nat.lt_or_ge i listed.size with h' | h'
        · simp [h'] at h0 h1; rw [h0] at h1; cases h1
        · simp [Array.getElem?_eq_none h'] at h1
      have hjr : j ∉ r := chainOk_ne hch hj
      have hjL : j ≠ L := fun e => hjr (by rw [e]; exact hLr)
      have h2 := wpOp_putIf hoj (hfree j oj hoj hji hjun hnot) (fun cs b => hsel i oi cs b hi) (fun cs b => hsel j oj cs b hoj) hQ hy h1
      have hfree' : ∀ k ok, ops[k]? = some ok → k ≠ i → (listed.setIfInBounds j true).getD k true = false →
          (∀ e ∈ ok.after, Region.binds md e = true → e.on ≠ i) → oi.apart ops ok = true := fun k ok hk hki hun hno => by
        refine hfree k ok hk hki ?_ hno
        by_cases hjk : j = k
        · subst hjk; exact hjun
        · rw [getD_set_ne true hjk] at hun; exact hun
      refine wpOp_mono (fun a' w' h3 => ⟨h3.2.1, ih (listed.setIfInBounds j true) a' w' hfree' (ready_mono hr (Ne.symm hji)) (chainOk_set hch (fun hm => (List.mem_cons.1 hm).elim hji hjr)) h3.1 (h3.2.1.resolve_left hjL) ?_⟩) h2
      rw [Array.setIfInBounds_comm _ _ hji]
      exact h3.2.2
theorem wpAnyI_take {i : Nat} {oi : Oper} {v : Value} {fuel : Nat} {listed : Array Bool} {a : Act} {w : World} (r : List Nat) (hi : ops[i]? = some oi)
    (hs : Region.noSelect ops = true) (hf : Region.free md ops listed i = true) (hr : (Region.ready md ops listed).contains i = true) (hc : (chainOk md ops listed (i :: r) && r.contains L) = true)
    (hQ : ∀ c a w, Q (.panic c) (a.put oi.dst v) w → Q (.panic c) a w) (hy : YieldsIf P ops S oi v a) (hS : S w)
    (h : wpAnyI P md ops Q L S fuel (listed.setIfInBounds i true) (a.put oi.dst v) w) : wpAnyI P md ops Q L S (fuel + 1) listed a w := by
  simp only [Bool.and_eq_true] at hc
  exact wpAnyI_first hi (Region.noSelect_spec hs) hQ (by simpa using hc.2) fuel listed a w (Region.free_spec hi hf) (by simpa using hr) hc.1 hy hS h
/- One operation alone may come up, and it is not the last. -/
theorem wpAnyI_one {i : Nat} {o : Oper} {fuel : Nat} {listed : Array Bool} {a : Act} {w : World} (hr : Region.ready md ops listed = [i]) (ho : ops[i]? = some o)
    (h : ∀ K' : Act → World → Prop, Shut (∀ a w, S w → (S w → wpAnyI P md ops Q L S fuel (listed.setIfInBounds i true) a w) → K' a w) → if Region.wanted o (yielded ops a.tmps) = true then Oper.wp P o a w K' Q else K' (a.put o.dst undef) w) :
    wpAnyI P md ops Q L S (fuel + 1) listed a w :=
  ⟨fun h0 => (by rw [hr] at h0; cases h0), fun j hj => by
    rw [hr] at hj
    have hji : j = i := by simpa using hj
    subst hji
    exact wpOp_step ho (fun K' hK => h K' (fun a w hS hW => hK a w ⟨.inr hS, hW hS⟩))⟩
/- The last operation. -/
theorem wpAnyI_last {o : Oper} {fuel : Nat} {listed : Array Bool} {a : Act} {w : World} (hr : Region.ready md ops listed = [L]) (ho : ops[L]? = some o) (he : Region.ready md ops (listed.setIfInBounds L true) = [])
    (h : ∀ K' : Act → World → Prop, Shut (∀ a w, Q .normal a w → K' a w) → if Region.wanted o (yielded ops a.tmps) = true then Oper.wp P o a w K' Q else K' (a.put o.dst undef) w) :
    wpAnyI P md ops Q L S (fuel + 1) listed a w :=
  ⟨fun h0 => (by rw [hr] at h0; cases h0), fun j hj => by
    rw [hr] at hj
    have hji : j = L := by simpa using hj
    subst hji
    refine wpOp_step ho (fun K' hK => h K' (fun a w hq => hK a w ⟨.inl rfl, ?_⟩))
    cases fuel with
    | zero => exact ⟨he, hq⟩
    | succ f => exact ⟨fun _ => hq, by rw [he]; simp⟩⟩
theorem wp_region_I {id : Nat} {a : Act} {w : World} (L : Nat) (S : World → Prop) (hm : P.follows .mixedOrders = true) (hS : S w.drew)
    (h : S w.drew → wpAnyI P .any ops Q L S ops.size (Array.replicate ops.size false) a w.drew) : (Code.region id ops true).wp P Q a w :=
  wp_region_any hm (wpAny_of_I _ _ _ _ (h hS))
end
end Go.Proofs.YtcnohgifihbkdaaGreatDoor

