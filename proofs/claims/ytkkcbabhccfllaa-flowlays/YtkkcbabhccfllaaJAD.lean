/- Flags of rows that are the same; known. -/
import Derived.Test.YtkkcbabhccfllaaJAC
namespace Go.Proofs.Ytkkcbabhccfllaa
open Go.RowKit Go.Deep Go.Shelf
set_option linter.unusedVariables false
set_option linter.unusedSimpArgs false
def TRd (w : World) (a : Option Addr) (l : List Bool) : Prop := ∀ (j : Nat) (x : Bool), l[j]? = some x → ∃ b off, a = some ⟨b, off, none⟩ ∧ w.cell? ⟨b, off + j, none⟩ = some (.bool x)
set_option maxRecDepth 100000 in
set_option maxHeartbeats 1000000 in
theorem flags_true (w : World) (a1 a2 : Option Addr) (n c1 c2 : Nat) (l : List Bool) (hn : n = l.length) (hnb : n ≤ 1000000) (h1 : TRd w a1 l) (h2 : TRd w a2 l) : Calls Try.prog 12 #[.slice a1 n c1, .slice a2 n c2] w fun e w' => e = .returned (.bool true) ∧ Below w.heap.size w w' := by
  have hnI : (n : Int) ≤ 1000000 := by omega
  have HN := hid hn
  have H1 := hid h1
  have H2 := hid h2
  clear hn h1 h2
  go_enter Try.func12, Try.ntmps12
  go_wp2
  go_loopg [5] n (fun g x wr => ∃ j : Nat, j + g = n ∧ x = .int .i64 (j : Int) ∧ Below w.heap.size w wr)
  case atStart => exact ⟨0, by omega, rfl, Below.refl _ _⟩
  case round =>
    obtain ⟨j, hj, rfl, hb⟩ := hrel
    cases gk with
    | zero =>
      have hjn : j = n := by omega
      subst hjn
      have HB := hid hb
      clear hb
      go_wp2
      go_ret
      exact ⟨rfl, HB.out⟩
    | succ g =>
      obtain ⟨x, hx⟩ : ∃ x, l[j]? = some x := ⟨l[j]'(by have := HN.out; omega), List.getElem?_eq_getElem _⟩
      obtain ⟨b1, o1, rfl, q1⟩ := H1.out j x hx
      obtain ⟨b2, o2, rfl, q2⟩ := H2.out j x hx
      have r1 := belowCell q1 (Nat.le_refl _) hb
      have r2 := belowCell q2 (Nat.le_refl _) hb
      have hjI : (j : Int) < (n : Int) := by omega
      have hj0 : (0 : Int) ≤ (j : Int) := by omega
      have HB := hid hb
      clear q1 q2 hx hb
      go_wp2
      go_region_held3 (fun v => v.cell? ⟨b1, o1 + j, none⟩ = some (.bool x) ∧ v.cell? ⟨b2, o2 + j, none⟩ = some (.bool x)) (first | go_keep) (fail)
      go_wp2
      go_roundg g
      case measure => omega
      exact ⟨j + 1, by omega, by go_num, HB.out.drew⟩
/- The law's own blocks. -/
def kB : List Blk := [⟨none, 0, 0, 38, 0, 1, 0, []⟩, ⟨none, 0, 0, 40, -1, 0, 0, []⟩]
theorem kB_isG : isG kB = true := by kernel_rfl
theorem kB_lay : layB kB = [⟨40, 0, -1, 0, 0⟩] := by kernel_rfl
theorem kB_len : (layA 0 kB).length ≤ 100000 := of_decide_eq_true (by kernel_rfl)
theorem kB_rch : Rch (blkW kB) 1 := .step .zero (by show 1 ∈ [1]; simp)
theorem kB_rd {w : World} {X : Nat} (h : w.heap[X]? = some (.cells #[.slice none 0 0, .int .i64 38, .int .i64 0, .int .i64 1, .int .i64 0, .slice none 0 0, .int .i64 40, .int .i64 (-1), .int .i64 0, .int .i64 0] 47 (0, 0))) : BRd w (some ⟨X, 0, none⟩) kB := by
  have q := cellOf h
  refine ⟨fun j x hx => ?_, fun x hx => ?_⟩
  · cases j with
    | zero =>
      have : x = ⟨none, 0, 0, 38, 0, 1, 0, []⟩ := by simpa [kB] using hx.symm
      subst this
      refine ⟨X, 0, rfl, fun i hi => ?_⟩
      rcases (show i = 0 ∨ i = 1 ∨ i = 2 ∨ i = 3 ∨ i = 4 by omega) with rfl | rfl | rfl | rfl | rfl
      · exact q 0
      · exact q 1
      · exact q 2
      · exact q 3
      · exact q 4
    | succ j =>
      cases j with
      | zero =>
        have : x = ⟨none, 0, 0, 40, -1, 0, 0, []⟩ := by simpa [kB] using hx.symm
        subst this
        refine ⟨X, 0, rfl, fun i hi => ?_⟩
        rcases (show i = 0 ∨ i = 1 ∨ i = 2 ∨ i = 3 ∨ i = 4 by omega) with rfl | rfl | rfl | rfl | rfl
        · exact q 5
        · exact q 6
        · exact q 7
        · exact q 8
        · exact q 9
      | succ j => simp [kB] at hx
  · have : x.ops = [] ∧ x.on = 0 := by
      rcases List.mem_cons.1 hx with rfl | hx
      · exact ⟨rfl, rfl⟩
      · obtain rfl : x = _ := by simpa using hx
        exact ⟨rfl, rfl⟩
    exact ⟨by rw [this.1, this.2]; rfl, by omega, by rw [this.1]; intro j y hy; simp at hy⟩
theorem kB_nil : ∀ b ∈ kB, b.oa = none → b.oc = 0 := by
  intro x hx _
  rcases List.mem_cons.1 hx with rfl | hx
  · rfl
  · obtain rfl : x = _ := by simpa using hx
    rfl
set_option maxRecDepth 100000 in
set_option maxHeartbeats 2000000 in
theorem known_any (w : World) : Calls Try.prog 6 #[] w fun e w' => e = .returned (.bool true) ∧ Below w.heap.size w w' := by
  obtain ⟨X, hX⟩ : ∃ X, X = w.heap.size := ⟨_, rfl⟩
  obtain ⟨W0, hW0⟩ : ∃ W0, W0 = w.alloc (.cells #[.slice none 0 0, .int .i64 38, .int .i64 0, .int .i64 1, .int .i64 0, .slice none 0 0, .int .i64 40, .int .i64 (-1), .int .i64 0, .int .i64 0] 47) := ⟨_, rfl⟩
  obtain ⟨W1, hW1⟩ : ∃ W1, W1 = W0.alloc (.cells #[.int .i64 0, .slice (some ⟨X, 0, none⟩) 2 2] 24) := ⟨_, rfl⟩
  have z0 : W0.heap.size = X + 1 := by rw [hW0, hX]; simp
  have b0 : Below w.heap.size w W0 := by rw [hW0]; exact (Below.refl _ _).alloc (Nat.le_refl _) _
  have b1 : Below W0.heap.size W0 W1 := by rw [hW1]; exact (Below.refl _ _).alloc (Nat.le_refl _) _
  have m0 : W1.heap[X]? = some (.cells #[.slice none 0 0, .int .i64 38, .int .i64 0, .int .i64 1, .int .i64 0, .slice none 0 0, .int .i64 40, .int .i64 (-1), .int .i64 0, .int .i64 0] 47 (0, 0)) := (b1.block X (by omega)).trans (by rw [hW0, hX]; exact heap_alloc_new _ _)
  have m1 : W1.heap[X + 1]? = some (.cells #[.int .i64 0, .slice (some ⟨X, 0, none⟩) 2 2] 24 (0, 0)) := by rw [← z0, hW1]; exact heap_alloc_new _ _
  have hr := kB_rd m0
  have bw1 : Below w.heap.size w W1 := b0.trans (b1.mono b0.size)
  have K1 := hid (fn_any W1 0 (some ⟨X, 0, none⟩) 2 2 kB rfl (by omega) hr kB_nil kB_len)
  have K2 := hid (fun (v : World) (hv : Below W1.heap.size W1 v) => reached_any v 0 (some ⟨X, 0, none⟩) 2 2 kB rfl (by omega) (hr.below hv))
  have CB := hid (fun (v : World) (hv : Below W1.heap.size W1 v) => (⟨cellOf ((hv.block (X + 1) (lt_of_heap m1)).trans m1) 0, cellOf ((hv.block (X + 1) (lt_of_heap m1)).trans m1) 1⟩ : v.cell? ⟨X + 1, 0, none⟩ = some (.int .i64 0) ∧ v.cell? ⟨X + 1, 1, none⟩ = some (.slice (some ⟨X, 0, none⟩) 2 2)))
  obtain ⟨x0, x1⟩ := CB.out W1 (Below.refl _ _)
  have HB1 := hid bw1
  clear z0 b0 b1 m0 m1 hr bw1
  go_enter Try.func6, Try.ntmps6
  go_upto_region 2 with fail
  rw [← hX, ← hW0, ← hW1]
  clear hX hW0 hW1
  go_upto_region 3 with (go_at_call 8; (refine (Hid.out K1).mono ?_; rintro e w2 ⟨hb2, (⟨_, v2, rfl, ho2⟩ | ⟨hf, _⟩)⟩; rotate_left; (rw [kB_isG] at hf; cases hf); rw [kB_lay] at ho2; obtain ⟨_, g2, c2, rfl⟩ : _ ∧ ∃ g c, v2 = .slice (some ⟨g, 0, none⟩) 1 c := (by { obtain ⟨a', m', c', e', _, _, _⟩ := ho2.rdm; subst e'; obtain ⟨h1, g', h2, _⟩ := ho2.some (by simp); subst h2; subst h1; exact ⟨trivial, g', c', rfl⟩ }); have HO2 := hid ho2; have HB2 := hid hb2; clear ho2 hb2 x0 x1))
  obtain ⟨Y, hY⟩ : ∃ Y, Y = w2.heap.size := ⟨_, rfl⟩
  obtain ⟨W3, hW3⟩ : ∃ W3, W3 = w2.alloc (.cells #[.int .i64 0, .slice (some ⟨g2, 0, none⟩) 1 c2] 29) := ⟨_, rfl⟩
  have b3 : Below w2.heap.size w2 W3 := by rw [hW3]; exact (Below.refl _ _).alloc (Nat.le_refl _) _
  have m3 : W3.heap[Y]? = some (.cells #[.int .i64 0, .slice (some ⟨g2, 0, none⟩) 1 c2] 29 (0, 0)) := by rw [hW3, hY]; exact heap_alloc_new _ _
  have b13 : Below W1.heap.size W1 W3 := HB2.out.trans (b3.mono HB2.out.size)
  have HO3 := hid (HO2.out.below (Nat.le_refl _) b3)
  have K3 := hid (K2.out W3 b13)
  obtain ⟨y0, y1⟩ := CB.out W3 b13
  have RB := hid (fun (v : World) (hv : Below W3.heap.size W3 v) => (by
    have h := (hv.block Y (lt_of_heap m3)).trans m3
    obtain ⟨b', off', e', hc⟩ := (HO3.out.below (Nat.le_refl _) hv).ord 0 _ rfl
    cases e'
    exact ⟨cellOf h 0, cellOf h 1, by have := hc 0 (by omega); simpa [Opx.cs] using this⟩ : v.cell? ⟨Y, 0, none⟩ = some (.int .i64 0) ∧ v.cell? ⟨Y, 1, none⟩ = some (.slice (some ⟨g2, 0, none⟩) 1 c2) ∧ v.cell? ⟨g2, 0, none⟩ = some (.int .i64 40)))
  have HB3 := hid (HB1.out.trans (b13.mono HB1.out.size))
  rw [← hY, ← hW3]
  clear hY hW3 b3 m3 b13 K1 K2 HO2 HO3 HB2 CB
  go_wp2_with (go_at_call 10; (refine (Hid.out K3).mono ?_; rintro e w4 ⟨hb4, (⟨_, P, b4, rfl, _, hm4, hP⟩ | ⟨hf, _⟩)⟩; rotate_left; (rw [kB_isG] at hf; cases hf); obtain ⟨r0, r1, r2⟩ := RB.out w4 hb4; have r3 := cellOf hm4 1; rw [mk_get (by omega), decide_eq_true ((hP 1 (by omega)).2 kB_rch)] at r3; have HB4 := hid (HB3.out.trans (hb4.mono HB3.out.size)); clear hb4 hm4 hP y0 y1))
  go_ret
  exact ⟨rfl, HB4.out⟩
end Go.Proofs.Ytkkcbabhccfllaa

namespace Go.Proofs.Ytkkcbabhccfllaa
open Go.RowKit Go.Deep Go.Shelf
set_option linter.unusedVariables false
set_option linter.unusedSimpArgs false
set_option maxRecDepth 100000 in
set_option maxHeartbeats 2000000 in
theorem isBlock_any (w : World) (oa : Option Addr) (on oc : Nat) (en ba tt el : Int) (ops : List Opx) (hn : on = ops.length) (hnb : on ≤ 1000000) (hr : ORd w oa ops) (n : Nat) : Calls Try.prog 30 #[.agg #[.slice oa on oc, .int .i64 en, .int .i64 ba, .int .i64 tt, .int .i64 el], .int .i64 (n : Int)] w fun e w' => e = .returned (.bool (okBk n ⟨oa, on, oc, en, ba, tt, el, ops⟩)) ∧ Below w.heap.size w w' := by
  obtain ⟨X, hX⟩ : ∃ X, X = w.heap.size := ⟨_, rfl⟩
  obtain ⟨W0, hW0⟩ : ∃ W0, W0 = w.alloc (.cells #[.slice oa on oc, .int .i64 en, .int .i64 ba, .int .i64 tt, .int .i64 el] 47) := ⟨_, rfl⟩
  have bw0 : Below w.heap.size w W0 := by rw [hW0]; exact (Below.refl _ _).alloc (Nat.le_refl _) _
  have m0 : W0.heap[X]? = some (.cells #[.slice oa on oc, .int .i64 en, .int .i64 ba, .int .i64 tt, .int .i64 el] 47 (0, 0)) := by rw [hW0, hX]; exact heap_alloc_new _ _
  have x0 := cellOf m0 0
  have x1 := cellOf m0 1
  have x2 := cellOf m0 2
  have x3 := cellOf m0 3
  have x4 := cellOf m0 4
  simp only [List.getElem?_toArray, List.getElem?_cons_zero, List.getElem?_cons_succ] at x0 x1 x2 x3 x4
  have HR := hid (hr.below bw0)
  have HB0 := hid bw0
  have HN := hid hn
  have hnI : (on : Int) ≤ 1000000 := by omega
  have eok : okBk n ⟨oa, on, oc, en, ba, tt, el, ops⟩ = (endE en ba tt el && wthB (n : Int) (tgE en tt el) && strB ops) := rfl
  have EOK := hid eok
  clear bw0 m0 hr hn eok
  go_enter Try.func30, Try.ntmps30
  go_upto_region 1 with fail
  rw [← hX, ← hW0]
  clear hX hW0
  go_wp2
  go_loopg [5] on (fun g x wr => ∃ j : Nat, j + g = on ∧ x = .int .i64 (j : Int) ∧ strB (ops.take j) = true ∧ wr = W0)
  case atStart => exact ⟨0, by omega, rfl, by simp [strB], rfl⟩
  case round =>
    obtain ⟨j, hj, rfl, hp, rfl⟩ := hrel
    cases gk with
    | zero =>
      have hjn : j = on := by omega
      subst hjn
      have hst : strB ops = true := by
        rw [HN.out, List.take_of_length_le (Nat.le_refl _)] at hp
        exact hp
      have EK : Hid (okBk n ⟨oa, j, oc, en, ba, tt, el, ops⟩ = (endE en ba tt el && wthB (n : Int) (tgE en tt el))) := hid (by rw [EOK.out, hst, Bool.and_true])
      clear hp hst EOK
      by_cases e38 : en = 38
      · subst e38
        by_cases p1 : 0 ≤ tt
        · by_cases p2 : tt < (n : Int)
          · by_cases p3 : ba = 0
            · by_cases p4 : el = 0
              · have HO : Hid (okBk n ⟨oa, j, oc, 38, ba, tt, el, ops⟩ = true) := hid (by rw [EK.out]; simp [endE, tgE, wthB, p1, p2, p3, p4])
                have bp3 : (ba == 0) = true := by simpa using p3
                clear p3
                have bp4 : (el == 0) = true := by simpa using p4
                clear p4
                go_wp2
                go_ret
                exact ⟨by rw [HO.out]; rfl, HB0.out⟩
              · have HO : Hid (okBk n ⟨oa, j, oc, 38, ba, tt, el, ops⟩ = false) := hid (by rw [EK.out]; simp [endE, tgE, wthB, p1, p2, p3, p4])
                have bp3 : (ba == 0) = true := by simpa using p3
                clear p3
                have bp4 : (el == 0) = false := by simpa using p4
                clear p4
                go_wp2
                go_ret
                exact ⟨by rw [HO.out]; rfl, HB0.out⟩
            · have HO : Hid (okBk n ⟨oa, j, oc, 38, ba, tt, el, ops⟩ = false) := hid (by rw [EK.out]; simp [endE, tgE, wthB, p1, p2, p3])
              have bp3 : (ba == 0) = false := by simpa using p3
              clear p3
              go_wp2
              go_ret
              exact ⟨by rw [HO.out]; rfl, HB0.out⟩
          · have HO : Hid (okBk n ⟨oa, j, oc, 38, ba, tt, el, ops⟩ = false) := hid (by rw [EK.out]; simp [endE, tgE, wthB, p1, p2])
            go_wp2
            go_ret
            exact ⟨by rw [HO.out]; rfl, HB0.out⟩
        · have HO : Hid (okBk n ⟨oa, j, oc, 38, ba, tt, el, ops⟩ = false) := hid (by rw [EK.out]; simp [endE, tgE, wthB, p1])
          go_wp2
          go_ret
          exact ⟨by rw [HO.out]; rfl, HB0.out⟩
      · have g38 : (en == 38) = false := by simpa using e38
        by_cases e39 : en = 39
        · subst e39
          by_cases p1 : 0 ≤ tt
          · by_cases p2 : tt < (n : Int)
            · by_cases p3 : 0 ≤ el
              · by_cases p4 : el < (n : Int)
                · by_cases p5 : 0 ≤ ba
                  · have HO : Hid (okBk n ⟨oa, j, oc, 39, ba, tt, el, ops⟩ = true) := hid (by rw [EK.out]; simp [endE, tgE, wthB, p1, p2, p3, p4, p5])
                    go_wp2
                    go_ret
                    exact ⟨by rw [HO.out]; rfl, HB0.out⟩
                  · have HO : Hid (okBk n ⟨oa, j, oc, 39, ba, tt, el, ops⟩ = false) := hid (by rw [EK.out]; simp [endE, tgE, wthB, p1, p2, p3, p4, p5])
                    go_wp2
                    go_ret
                    exact ⟨by rw [HO.out]; rfl, HB0.out⟩
                · have HO : Hid (okBk n ⟨oa, j, oc, 39, ba, tt, el, ops⟩ = false) := hid (by rw [EK.out]; simp [endE, tgE, wthB, p1, p2, p3, p4])
                  go_wp2
                  go_ret
                  exact ⟨by rw [HO.out]; rfl, HB0.out⟩
              · have HO : Hid (okBk n ⟨oa, j, oc, 39, ba, tt, el, ops⟩ = false) := hid (by rw [EK.out]; simp [endE, tgE, wthB, p1, p2, p3])
                go_wp2
                go_ret
                exact ⟨by rw [HO.out]; rfl, HB0.out⟩
            · have HO : Hid (okBk n ⟨oa, j, oc, 39, ba, tt, el, ops⟩ = false) := hid (by rw [EK.out]; simp [endE, tgE, wthB, p1, p2])
              go_wp2
              go_ret
              exact ⟨by rw [HO.out]; rfl, HB0.out⟩
          · have HO : Hid (okBk n ⟨oa, j, oc, 39, ba, tt, el, ops⟩ = false) := hid (by rw [EK.out]; simp [endE, tgE, wthB, p1])
            go_wp2
            go_ret
            exact ⟨by rw [HO.out]; rfl, HB0.out⟩
        · have g39 : (en == 39) = false := by simpa using e39
          by_cases e40 : en = 40
          · subst e40
            by_cases t1 : 0 ≤ tt ∧ tt < (n : Int)
            · obtain ⟨t2, t3⟩ := t1
              by_cases p1 : -1 ≤ ba
              · by_cases p2 : tt = 0
                · by_cases p3 : el = 0
                  · have HO : Hid (okBk n ⟨oa, j, oc, 40, ba, tt, el, ops⟩ = true) := hid (by rw [EK.out]; simp [endE, tgE, wthB, p1, p2, p3])
                    have bp2 : (tt == 0) = true := by simpa using p2
                    clear p2
                    have bp3 : (el == 0) = true := by simpa using p3
                    clear p3
                    go_wp2
                    go_ret
                    exact ⟨by rw [HO.out]; rfl, HB0.out⟩
                  · have HO : Hid (okBk n ⟨oa, j, oc, 40, ba, tt, el, ops⟩ = false) := hid (by rw [EK.out]; simp [endE, tgE, wthB, p1, p2, p3])
                    have bp2 : (tt == 0) = true := by simpa using p2
                    clear p2
                    have bp3 : (el == 0) = false := by simpa using p3
                    clear p3
                    go_wp2
                    go_ret
                    exact ⟨by rw [HO.out]; rfl, HB0.out⟩
                · have HO : Hid (okBk n ⟨oa, j, oc, 40, ba, tt, el, ops⟩ = false) := hid (by rw [EK.out]; simp [endE, tgE, wthB, p1, p2])
                  have bp2 : (tt == 0) = false := by simpa using p2
                  clear p2
                  go_wp2
                  go_ret
                  exact ⟨by rw [HO.out]; rfl, HB0.out⟩
              · have HO : Hid (okBk n ⟨oa, j, oc, 40, ba, tt, el, ops⟩ = false) := hid (by rw [EK.out]; simp [endE, tgE, wthB, p1])
                go_wp2
                go_ret
                exact ⟨by rw [HO.out]; rfl, HB0.out⟩
            · by_cases t2 : 0 ≤ tt
              · have t3 : ¬ tt < (n : Int) := fun h => t1 ⟨t2, h⟩
                clear t1
                by_cases p1 : -1 ≤ ba
                · by_cases p2 : tt = 0
                  · by_cases p3 : el = 0
                    · have HO : Hid (okBk n ⟨oa, j, oc, 40, ba, tt, el, ops⟩ = true) := hid (by rw [EK.out]; simp [endE, tgE, wthB, p1, p2, p3])
                      have bp2 : (tt == 0) = true := by simpa using p2
                      clear p2
                      have bp3 : (el == 0) = true := by simpa using p3
                      clear p3
                      go_wp2
                      go_ret
                      exact ⟨by rw [HO.out]; rfl, HB0.out⟩
                    · have HO : Hid (okBk n ⟨oa, j, oc, 40, ba, tt, el, ops⟩ = false) := hid (by rw [EK.out]; simp [endE, tgE, wthB, p1, p2, p3])
                      have bp2 : (tt == 0) = true := by simpa using p2
                      clear p2
                      have bp3 : (el == 0) = false := by simpa using p3
                      clear p3
                      go_wp2
                      go_ret
                      exact ⟨by rw [HO.out]; rfl, HB0.out⟩
                  · have HO : Hid (okBk n ⟨oa, j, oc, 40, ba, tt, el, ops⟩ = false) := hid (by rw [EK.out]; simp [endE, tgE, wthB, p1, p2])
                    have bp2 : (tt == 0) = false := by simpa using p2
                    clear p2
                    go_wp2
                    go_ret
                    exact ⟨by rw [HO.out]; rfl, HB0.out⟩
                · have HO : Hid (okBk n ⟨oa, j, oc, 40, ba, tt, el, ops⟩ = false) := hid (by rw [EK.out]; simp [endE, tgE, wthB, p1])
                  go_wp2
                  go_ret
                  exact ⟨by rw [HO.out]; rfl, HB0.out⟩
              · clear t1
                by_cases p1 : -1 ≤ ba
                · by_cases p2 : tt = 0
                  · by_cases p3 : el = 0
                    · have HO : Hid (okBk n ⟨oa, j, oc, 40, ba, tt, el, ops⟩ = true) := hid (by rw [EK.out]; simp [endE, tgE, wthB, p1, p2, p3])
                      have bp2 : (tt == 0) = true := by simpa using p2
                      clear p2
                      have bp3 : (el == 0) = true := by simpa using p3
                      clear p3
                      go_wp2
                      go_ret
                      exact ⟨by rw [HO.out]; rfl, HB0.out⟩
                    · have HO : Hid (okBk n ⟨oa, j, oc, 40, ba, tt, el, ops⟩ = false) := hid (by rw [EK.out]; simp [endE, tgE, wthB, p1, p2, p3])
                      have bp2 : (tt == 0) = true := by simpa using p2
                      clear p2
                      have bp3 : (el == 0) = false := by simpa using p3
                      clear p3
                      go_wp2
                      go_ret
                      exact ⟨by rw [HO.out]; rfl, HB0.out⟩
                  · have HO : Hid (okBk n ⟨oa, j, oc, 40, ba, tt, el, ops⟩ = false) := hid (by rw [EK.out]; simp [endE, tgE, wthB, p1, p2])
                    have bp2 : (tt == 0) = false := by simpa using p2
                    clear p2
                    go_wp2
                    go_ret
                    exact ⟨by rw [HO.out]; rfl, HB0.out⟩
                · have HO : Hid (okBk n ⟨oa, j, oc, 40, ba, tt, el, ops⟩ = false) := hid (by rw [EK.out]; simp [endE, tgE, wthB, p1])
                  go_wp2
                  go_ret
                  exact ⟨by rw [HO.out]; rfl, HB0.out⟩
          · have g40 : (en == 40) = false := by simpa using e40
            have HO : Hid (okBk n ⟨oa, j, oc, en, ba, tt, el, ops⟩ = false) := hid (by rw [EK.out]; simp [endE, e38, e39, e40])
            by_cases t2 : 0 ≤ tt
            · by_cases t3 : tt < (n : Int)
              · go_wp2
                go_ret
                exact ⟨by rw [HO.out]; rfl, HB0.out⟩
              · go_wp2
                go_ret
                exact ⟨by rw [HO.out]; rfl, HB0.out⟩
            · go_wp2
              go_ret
              exact ⟨by rw [HO.out]; rfl, HB0.out⟩
    | succ g =>
      obtain ⟨o, ho⟩ : ∃ o, ops[j]? = some o := ⟨ops[j]'(by have := HN.out; omega), List.getElem?_eq_getElem _⟩
      obtain ⟨b, off, rfl, hc⟩ := HR.out j o ho
      have ht : ops.take (j + 1) = ops.take j ++ [o] := by rw [List.take_add_one, ho]; rfl
      have hno : strO o = false → strB ops = false := fun h => by
        refine Bool.eq_false_iff.2 fun hk => ?_
        have := List.all_eq_true.1 hk o (List.mem_of_getElem? ho)
        rw [h] at this; cases this
      obtain ⟨c0, od, oa', ob, ok⟩ := o
      have e0 := hc 0 (by omega)
      simp only [Opx.cs, List.getElem?_toArray, List.getElem?_cons_zero, List.getElem?_cons_succ, Nat.add_zero] at e0
      have hjI : (j : Int) < (on : Int) := by omega
      have hj0 : (0 : Int) ≤ (j : Int) := by omega
      have HP := hid hp
      have HT := hid ht
      rcases (show c0 = 38 ∨ c0 = 39 ∨ c0 = 40 ∨ (¬ c0 = 38 ∧ ¬ c0 = 39 ∧ ¬ c0 = 40) by omega) with h | h | h | ⟨h1, h2, h3⟩
      · subst h
        have HO : Hid (okBk n ⟨some ⟨b, off, none⟩, on, oc, en, ba, tt, el, ops⟩ = false) := hid (by rw [EOK.out, hno (by simp [strO, jmpB])]; simp)
        clear hp ht hno hc ho EOK
        go_wp2
        go_ret
        exact ⟨by rw [HO.out]; rfl, HB0.out⟩
      · subst h
        have HO : Hid (okBk n ⟨some ⟨b, off, none⟩, on, oc, en, ba, tt, el, ops⟩ = false) := hid (by rw [EOK.out, hno (by simp [strO, jmpB])]; simp)
        clear hp ht hno hc ho EOK
        go_wp2
        go_ret
        exact ⟨by rw [HO.out]; rfl, HB0.out⟩
      · subst h
        have HO : Hid (okBk n ⟨some ⟨b, off, none⟩, on, oc, en, ba, tt, el, ops⟩ = false) := hid (by rw [EOK.out, hno (by simp [strO, jmpB])]; simp)
        clear hp ht hno hc ho EOK
        go_wp2
        go_ret
        exact ⟨by rw [HO.out]; rfl, HB0.out⟩
      · have g1 : (c0 == 38) = false := by simpa using h1
        have g2 : (c0 == 39) = false := by simpa using h2
        have g3 : (c0 == 40) = false := by simpa using h3
        have HO : Hid (strO ⟨c0, od, oa', ob, ok⟩ = true) := hid (by simp [strO, jmpB, h1, h2, h3])
        clear hp ht hno hc ho
        go_wp2
        go_roundg g
        case measure => omega
        exact ⟨j + 1, by omega, by go_num, by rw [HT.out]; unfold strB; rw [List.all_append]; have := HP.out; unfold strB at this; rw [this]; simp [HO.out], rfl⟩
end Go.Proofs.Ytkkcbabhccfllaa

namespace Go.Proofs.Ytkkcbabhccfllaa
open Go.RowKit Go.Deep Go.Shelf
set_option linter.unusedVariables false
set_option linter.unusedSimpArgs false
set_option maxRecDepth 100000 in
set_option maxHeartbeats 1000000 in
theorem refIsGraph_any (w : World) (regs : Int) (a : Option Addr) (n c : Nat) (bs : List Blk) (hn : n = bs.length) (hnb : n ≤ 1000000) (hr : BRd w a bs) : Calls Try.prog 17 #[.agg #[.int .i64 regs, .slice a n c]] w fun e w' => e = .returned (.bool (isG bs)) ∧ Below w.heap.size w w' := by
  obtain ⟨X, hX⟩ : ∃ X, X = w.heap.size := ⟨_, rfl⟩
  obtain ⟨W0, hW0⟩ : ∃ W0, W0 = w.alloc (.cells #[.int .i64 regs, .slice a n c] 24) := ⟨_, rfl⟩
  have bw0 : Below w.heap.size w W0 := by rw [hW0]; exact (Below.refl _ _).alloc (Nat.le_refl _) _
  have m0 : W0.heap[X]? = some (.cells #[.int .i64 regs, .slice a n c] 24 (0, 0)) := by rw [hW0, hX]; exact heap_alloc_new _ _
  have x1 := cellOf m0 1
  simp only [List.getElem?_toArray, List.getElem?_cons_zero, List.getElem?_cons_succ] at x1
  have CB := hid (fun (v : World) (hv : Below W0.heap.size W0 v) => (cellOf ((hv.block X (lt_of_heap m0)).trans m0) 1 : v.cell? ⟨X, 1, none⟩ = some (.slice a n c)))
  have hnI : (n : Int) ≤ 1000000 := by omega
  have hn0 : (0 : Int) ≤ (n : Int) := by omega
  have HN := hid hn
  have HR := hid (hr.below bw0)
  have HB0 := hid bw0
  clear hn hr bw0 m0
  by_cases hz : n = 0
  · subst hz
    have HO : Hid (isG bs = false) := hid (by unfold isG; rw [← HN.out]; rfl)
    go_enter Try.func17, Try.ntmps17
    go_upto_region 1 with fail
    rw [← hX, ← hW0]
    clear hW0 hX
    go_wp2
    go_ret
    exact ⟨by rw [HO.out]; rfl, HB0.out⟩
  · have hzb : ¬ (n : Int) < 1 := by omega
    by_cases hbig : 2000 < n
    · have hbI : (2000 : Int) < (n : Int) := by omega
      have HO : Hid (isG bs = false) := hid (by unfold isG; rw [← HN.out, decide_eq_false (by omega : ¬ n ≤ 2000)]; simp)
      go_enter Try.func17, Try.ntmps17
      go_upto_region 1 with fail
      rw [← hX, ← hW0]
      clear hW0 hX
      go_wp2
      go_ret
      exact ⟨by rw [HO.out]; rfl, HB0.out⟩
    · have hbI : ¬ (2000 : Int) < (n : Int) := by omega
      go_enter Try.func17, Try.ntmps17
      go_upto_region 1 with fail
      rw [← hX, ← hW0]
      clear hW0 hX
      go_wp2
      go_loopg [4] n (fun g x wr => ∃ j : Nat, j + g = n ∧ x = .int .i64 (j : Int) ∧ (bs.take j).all (okBk n) = true ∧ Below W0.heap.size W0 wr)
      case atStart => exact ⟨0, by omega, rfl, by simp, Below.refl _ _⟩
      case round =>
        obtain ⟨j, hj, rfl, hp, hb⟩ := hrel
        cases gk with
        | zero =>
          have hjn : j = n := by omega
          subst hjn
          have HP : Hid (isG bs = true) := hid (by
            rw [HN.out, List.take_of_length_le (Nat.le_refl _)] at hp
            unfold isG
            rw [hp, ← HN.out]; simp; omega)
          have HB := hid (HB0.out.trans (hb.mono HB0.out.size))
          clear hp hb
          go_wp2
          go_ret
          exact ⟨by rw [HP.out]; rfl, HB.out⟩
        | succ g =>
          obtain ⟨o, ho⟩ : ∃ o, bs[j]? = some o := ⟨bs[j]'(by have := HN.out; omega), List.getElem?_eq_getElem _⟩
          have hrb := HR.out.below hb
          obtain ⟨b, off, rfl, hc⟩ := hrb.c j o ho
          have hbk := hrb.e o (List.mem_of_getElem? ho)
          have ht : bs.take (j + 1) = bs.take j ++ [o] := by rw [List.take_add_one, ho]; rfl
          have hno : okBk n o = false → isG bs = false := fun h => by
            refine Bool.eq_false_iff.2 fun hk => ?_
            unfold isG at hk
            simp only [Bool.and_eq_true] at hk
            have := List.all_eq_true.1 hk.2 o (List.mem_of_getElem? ho)
            rw [← HN.out, h] at this; cases this
          obtain ⟨oa, on, oc, en, ba, tt, el, ops⟩ := o
          have c0 := hc 0 (by omega)
          have c1 := hc 1 (by omega)
          have c2 := hc 2 (by omega)
          have c3 := hc 3 (by omega)
          have c4 := hc 4 (by omega)
          simp only [Blk.cs, List.getElem?_toArray, List.getElem?_cons_zero, List.getElem?_cons_succ, Nat.add_zero] at c0 c1 c2 c3 c4
          have hjI : (j : Int) < (n : Int) := by omega
          have hj0 : (0 : Int) ≤ (j : Int) := by omega
          have hon : on = ops.length := hbk.n
          have honb : on ≤ 10000 := hbk.nb
          have y1 := CB.out wr hb
          have K1 := hid (isBlock_any wr oa on oc en ba tt el ops hon (by omega) hbk.r n)
          have HP := hid hp
          have HT := hid ht
          have HNO := hid hno
          have HB := hid hb
          clear hp ht hno hc ho hb hrb hbk hon x1
          cases h1 : okBk n ⟨oa, on, oc, en, ba, tt, el, ops⟩ with
          | false =>
            rw [h1] at K1
            have HO := hid (HNO.out h1)
            clear h1
            go_wp2_with (go_at_call 30; (refine (Hid.out K1).mono ?_; rintro e w1 ⟨rfl, hb1⟩; have HB1 := hid (HB.out.trans (hb1.mono HB.out.size)); clear hb1))
            go_ret
            exact ⟨by rw [HO.out]; rfl, HB0.out.trans (HB1.out.mono HB0.out.size)⟩
          | true =>
            rw [h1] at K1
            have HO := hid h1
            clear h1
            go_wp2_with (go_at_call 30; (refine (Hid.out K1).mono ?_; rintro e w1 ⟨rfl, hb1⟩; have HB1 := hid (HB.out.trans (hb1.mono HB.out.size)); clear hb1))
            go_roundg g
            case measure => omega
            exact ⟨j + 1, by omega, by go_num, by rw [HT.out, List.all_append, HP.out]; simp [HO.out], HB1.out⟩
end Go.Proofs.Ytkkcbabhccfllaa

namespace Go.Proofs.Ytkkcbabhccfllaa
open Go.RowKit Go.Deep Go.Shelf
set_option linter.unusedVariables false
set_option linter.unusedSimpArgs false
def szE (en tt el : Int) (i : Nat) : Nat := if en = 38 then (if tt = (i : Int) + 1 then 0 else 1) else if en = 39 then (if el = (i : Int) + 1 then 1 else 2) else 1
theorem szE_eq {n i : Nat} {b : Blk} (h : okBk n b = true) : szE b.en b.tt b.el i = (enB b i).length := by
  have he : endE b.en b.a b.tt b.el = true := by
    unfold okBk at h
    simp only [Bool.and_eq_true] at h
    exact h.1.1
  have lp : ∀ x y : Int, (lpO x y).length = if x = y then 0 else 1 := by intro x y; unfold lpO; split <;> rfl
  by_cases h1 : b.en = 38
  · have e1 : enB b i = lpO b.tt ((i : Int) + 1) := by unfold enB enO; rw [if_neg (by omega), if_neg (by omega)]
    rw [e1, lp]; unfold szE; rw [if_pos h1]
  · by_cases h2 : b.en = 39
    · have e1 : enB b i = ⟨39, 0, b.a, 0, b.tt⟩ :: lpO b.el ((i : Int) + 1) := by unfold enB enO; rw [if_pos h2]
      rw [e1, List.length_cons, lp]; unfold szE; rw [if_neg h1, if_pos h2]
      split <;> rfl
    · have h3 : b.en = 40 := by
        refine Classical.byContradiction fun h3 => ?_
        unfold endE at he
        rw [if_neg h1, if_neg h2, if_neg h3] at he
        cases he
      have e1 : enB b i = [⟨40, 0, b.a, 0, 0⟩] := by unfold enB enO; rw [if_neg h2, if_pos h3]
      rw [e1]; unfold szE; rw [if_neg h1, if_neg h2]; rfl
set_option maxRecDepth 100000 in
set_option maxHeartbeats 1000000 in
theorem size_any (w : World) (oa : Option Addr) (on oc : Nat) (en ba tt el : Int) (i : Nat) (hi : i ≤ 1000000) (hon : on ≤ 1000000) : Calls Try.prog 18 #[.agg #[.slice oa on oc, .int .i64 en, .int .i64 ba, .int .i64 tt, .int .i64 el], .int .i64 (i : Int)] w fun e w' => e = .returned (.int .i64 ((on : Int) + (szE en tt el i : Int))) ∧ Below w.heap.size w w' := by
  obtain ⟨X, hX⟩ : ∃ X, X = w.heap.size := ⟨_, rfl⟩
  obtain ⟨W0, hW0⟩ : ∃ W0, W0 = w.alloc (.cells #[.slice oa on oc, .int .i64 en, .int .i64 ba, .int .i64 tt, .int .i64 el] 47) := ⟨_, rfl⟩
  have bw0 : Below w.heap.size w W0 := by rw [hW0]; exact (Below.refl _ _).alloc (Nat.le_refl _) _
  have m0 : W0.heap[X]? = some (.cells #[.slice oa on oc, .int .i64 en, .int .i64 ba, .int .i64 tt, .int .i64 el] 47 (0, 0)) := by rw [hW0, hX]; exact heap_alloc_new _ _
  have x0 := cellOf m0 0
  have x1 := cellOf m0 1
  have x3 := cellOf m0 3
  have x4 := cellOf m0 4
  simp only [List.getElem?_toArray, List.getElem?_cons_zero, List.getElem?_cons_succ] at x0 x1 x3 x4
  have HB0 := hid bw0
  have hiI : (i : Int) ≤ 1000000 := by omega
  have hi0 : (0 : Int) ≤ (i : Int) := by omega
  have hoI : (on : Int) ≤ 1000000 := by omega
  have ho0 : (0 : Int) ≤ (on : Int) := by omega
  clear bw0 m0
  by_cases h1 : en = 38
  · subst h1
    by_cases h2 : tt = (i : Int) + 1
    · have HF : Hid (szE 38 tt el i = 0) := hid (by unfold szE; rw [if_pos rfl, if_pos h2])
      have g2 : (tt != (i : Int) + 1) = false := by simp [h2]
      clear h2
      go_enter Try.func18, Try.ntmps18
      go_upto_region 1 with fail
      rw [← hX, ← hW0]
      clear hX hW0
      go_wp2
      go_ret
      exact ⟨by rw [HF.out]; simp, HB0.out⟩
    · have HF : Hid (szE 38 tt el i = 1) := hid (by unfold szE; rw [if_pos rfl, if_neg h2])
      have g2 : (tt != (i : Int) + 1) = true := by simpa using h2
      go_enter Try.func18, Try.ntmps18
      go_upto_region 1 with fail
      rw [← hX, ← hW0]
      clear hX hW0
      go_wp2
      go_ret
      exact ⟨by rw [HF.out]; simp, HB0.out⟩
  · have g1 : (en == 38) = false := by simpa using h1
    by_cases h3 : en = 39
    · subst h3
      by_cases h2 : el = (i : Int) + 1
      · have HF : Hid (szE 39 tt el i = 1) := hid (by unfold szE; rw [if_neg (by decide), if_pos rfl, if_pos h2])
        have g2 : (el != (i : Int) + 1) = false := by simp [h2]
        clear h2
        go_enter Try.func18, Try.ntmps18
        go_upto_region 1 with fail
        rw [← hX, ← hW0]
        clear hX hW0
        go_wp2
        go_ret
        exact ⟨by rw [HF.out]; simp, HB0.out⟩
      · have HF : Hid (szE 39 tt el i = 2) := hid (by unfold szE; rw [if_neg (by decide), if_pos rfl, if_neg h2])
        have g2 : (el != (i : Int) + 1) = true := by simpa using h2
        go_enter Try.func18, Try.ntmps18
        go_upto_region 1 with fail
        rw [← hX, ← hW0]
        clear hX hW0
        go_wp2
        go_ret
        exact ⟨by rw [HF.out]; simp; try omega, HB0.out⟩
    · have g3 : (en == 39) = false := by simpa using h3
      have HF : Hid (szE en tt el i = 1) := hid (by unfold szE; rw [if_neg h1, if_neg h3])
      go_enter Try.func18, Try.ntmps18
      go_upto_region 1 with fail
      rw [← hX, ← hW0]
      clear hX hW0
      go_wp2
      go_ret
      exact ⟨by rw [HF.out]; simp, HB0.out⟩
/- The box of what is made, the box of the block. -/
structure RX (W9 : World) (FB X : Nat) (regs : Int) (xc : Array Value) (a : Option Addr) (m c : Nat) (L : List Opx) (wr : World) : Prop where
  b : Below FB W9 wr
  f : wr.heap[FB]? = some (.cells #[.int .i64 regs, .slice a m c] 29 (0, 0))
  o : OpR wr (FB + 1) (.slice a m c) L
  x : wr.heap[X]? = some (.cells xc 47 (0, 0))
  xn : Value.ownBlock (.slice a m c) ≠ some X
  fx : FB < X
theorem RX.app {W9 : World} {FB X : Nat} {regs : Int} {xc : Array Value} {a : Option Addr} {m c : Nat} {L L2 : List Opx} {wr wa w2 : World} (h : RX W9 FB X regs xc a m c L wr) (hb : Below wr.heap.size wr wa) {a2 : Option Addr} {m2 c2 : Nat} (ho : OpR w2 (FB + 1) (.slice a2 m2 c2) L2) (hg : wa.grownBy w2 (Value.ownBlock (.slice a m c))) (hn : Value.ownBlock (.slice a2 m2 c2) = Value.ownBlock (.slice a m c) ∨ Value.ownBlock (.slice a2 m2 c2) = some wa.heap.size) : RX W9 FB X regs xc a2 m2 c2 L2 (w2.setCell ⟨FB, 1, none⟩ (.slice a2 m2 c2)) ∧ w2.heap[FB]? = some (.cells #[.int .i64 regs, .slice a m c] 29 (0, 0)) := by
  have hfl := lt_of_heap h.f
  have hxl := lt_of_heap h.x
  have hsz := hb.size
  have k : Below (FB + 1) wa w2 := grown_below (h.o.below (Nat.le_refl _) hb) hg (by omega)
  have k1 : Below (FB + 1) wr w2 := (hb.mono (by omega)).trans k
  have hf2 : w2.heap[FB]? = some (.cells #[.int .i64 regs, .slice a m c] 29 (0, 0)) := (k1.block FB (by omega)).trans h.f
  refine ⟨⟨(h.b.trans (k1.mono (by omega))).setCell (p := ⟨FB, 1, none⟩) (Nat.le_refl _) _, heap_set_at hf2 1 _, ho.keep (fun g e => Below.heap_setCell _ _ _ _ (by have := (ho.own e).1; show g ≠ FB; omega)), ?_, ?_, h.fx⟩, hf2⟩
  · refine (Below.heap_setCell _ _ _ _ (by have := h.fx; show X ≠ FB; omega)).trans ?_
    exact (hg.block X (by omega) (fun e => h.xn e.symm)).trans ((hb.block X hxl).trans h.x)
  · intro e
    rcases hn with hn | hn
    · exact h.xn (hn.symm.trans e)
    · rw [hn] at e; cases e; omega
end Go.Proofs.Ytkkcbabhccfllaa

namespace Go.Proofs.Ytkkcbabhccfllaa
open Go.RowKit Go.Deep Go.Shelf
set_option linter.unusedVariables false
set_option linter.unusedSimpArgs false
def bgs (bs : List Blk) (j : Nat) : List Int := (List.range j).map fun i => (bg bs i : Int)
theorem bgs_succ (bs : List Blk) (j : Nat) : bgs bs (j + 1) = bgs bs j ++ [(bg bs j : Int)] := by
  unfold bgs; rw [List.range_succ, List.map_append]; rfl
theorem bgs_get {bs : List Blk} {j k : Nat} (h : k < j) : (bgs bs j)[k]? = some (bg bs k : Int) := by
  unfold bgs; simp [h]
theorem bg_succ {bs : List Blk} {j n : Nat} {b : Blk} (h : bs[j]? = some b) (hok : okBk n b = true) : bg bs (j + 1) = bg bs j + (b.ops.length + szE b.en b.tt b.el j) := by
  unfold bg
  rw [lay_take h, List.length_append, List.length_append, szE_eq (i := j) hok]; omega
theorem bg_le (bs : List Blk) (j : Nat) : bg bs j ≤ (layA 0 bs).length := lay_pre bs j
theorem szE_le (en tt el : Int) (i : Nat) : szE en tt el i ≤ 2 := by
  unfold szE; repeat' split
  all_goals omega
theorem fix_str (bs : List Blk) {ops : List Opx} (h : strB ops = true) : ops.map (fixO bs) = ops := by
  have : ∀ o ∈ ops, fixO bs o = o := by
    intro o ho
    have := List.all_eq_true.1 h o ho
    unfold strO at this
    unfold fixO
    cases hj : jmpB o with
    | false => rw [if_neg (by simp)]
    | true => rw [hj] at this; simp at this
  rw [List.map_congr_left this, List.map_id']
def layF (bs : List Blk) (j : Nat) : List Opx := (layA 0 (bs.take j)).map (fixO bs)
theorem layF_len (bs : List Blk) (j : Nat) : (layF bs j).length ≤ (layA 0 bs).length := by
  unfold layF; rw [List.length_map]; exact lay_pre bs j
theorem layF_end {bs : List Blk} {n : Nat} (h : n = bs.length) : layF bs n = layB bs := by
  unfold layF layB; rw [h, List.take_of_length_le (Nat.le_refl _)]
theorem layF_succ {bs : List Blk} {j n : Nat} {b : Blk} (h : bs[j]? = some b) (hok : okBk n b = true) : layF bs (j + 1) = layF bs j ++ b.ops ++ (enB b j).map (fixO bs) := by
  have hs : strB b.ops = true := by
    unfold okBk at hok
    simp only [Bool.and_eq_true] at hok
    exact hok.2
  unfold layF
  rw [lay_take h, List.map_append, List.map_append, fix_str bs hs]
def jpO (k : Int) : Opx := ⟨38, 0, 0, 0, k⟩
def unO (a k : Int) : Opx := ⟨39, 0, a, 0, k⟩
def rtO (a : Int) : Opx := ⟨40, 0, a, 0, 0⟩
theorem fix_lp (bs : List Blk) (kt : Nat) (nx : Int) : (lpO (kt : Int) nx).map (fixO bs) = if (kt : Int) = nx then [] else [jpO (bg bs kt)] := by
  unfold lpO
  split
  · rfl
  · simp [fixO, jmpB, jpO]
theorem fix_38 (bs : List Blk) {b : Blk} {j kt : Nat} (h : b.en = 38) (ht : b.tt = (kt : Int)) : (enB b j).map (fixO bs) = if (kt : Int) = (j : Int) + 1 then [] else [jpO (bg bs kt)] := by
  have e1 : enB b j = lpO b.tt ((j : Int) + 1) := by unfold enB enO; rw [if_neg (by omega), if_neg (by omega)]
  rw [e1, ht, fix_lp]
theorem fix_39 (bs : List Blk) {b : Blk} {j kt ke : Nat} (h : b.en = 39) (ht : b.tt = (kt : Int)) (he : b.el = (ke : Int)) : (enB b j).map (fixO bs) = unO b.a (bg bs kt) :: if (ke : Int) = (j : Int) + 1 then [] else [jpO (bg bs ke)] := by
  have e1 : enB b j = ⟨39, 0, b.a, 0, b.tt⟩ :: lpO b.el ((j : Int) + 1) := by unfold enB enO; rw [if_pos h]
  rw [e1, List.map_cons, he, fix_lp, ht]
  simp [fixO, jmpB, unO]
theorem fix_40 (bs : List Blk) {b : Blk} {j : Nat} (h : b.en = 40) : (enB b j).map (fixO bs) = [rtO b.a] := by
  have e1 : enB b j = [⟨40, 0, b.a, 0, 0⟩] := by unfold enB enO; rw [if_neg (by omega), if_pos h]
  rw [e1]; simp [fixO, jmpB, rtO]
/- Between two rounds. -/
structure FX (W9 : World) (FB : Nat) (regs : Int) (a : Option Addr) (m c : Nat) (L : List Opx) (wr : World) : Prop where
  b : Below FB W9 wr
  f : wr.heap[FB]? = some (.cells #[.int .i64 regs, .slice a m c] 29 (0, 0))
  o : OpR wr (FB + 1) (.slice a m c) L
theorem FX.box {W9 : World} {FB : Nat} {regs : Int} {a : Option Addr} {m c : Nat} {L : List Opx} {wr : World} (h : FX W9 FB regs a m c L wr) (xc : Array Value) : RX W9 FB wr.heap.size regs xc a m c L (wr.alloc (.cells xc 47)) := by
  have hf := lt_of_heap h.f
  have k : Below wr.heap.size wr (wr.alloc (.cells xc 47)) := (Below.refl _ _).alloc (Nat.le_refl _) _
  exact ⟨h.b.trans (k.mono (by omega)), (k.block _ hf).trans h.f, h.o.below (Nat.le_refl _) k, heap_alloc_new _ _, fun e => by have := (h.o.own e).2; omega, hf⟩
theorem RX.fx' {W9 : World} {FB X : Nat} {regs : Int} {xc : Array Value} {a : Option Addr} {m c : Nat} {L : List Opx} {wr : World} (h : RX W9 FB X regs xc a m c L wr) : FX W9 FB regs a m c L wr := ⟨h.b, h.f, h.o⟩
theorem RX.drew {W9 : World} {FB X : Nat} {regs : Int} {xc : Array Value} {a : Option Addr} {m c : Nat} {L : List Opx} {wr : World} (h : RX W9 FB X regs xc a m c L wr) : RX W9 FB X regs xc a m c L wr.drew :=
  ⟨h.b.drew, h.f, h.o.keep (fun _ _ => rfl), h.x, h.xn, h.fx⟩
/- A row of one is laid, then put at the end. -/
theorem RX.one {W9 : World} {FB X : Nat} {regs : Int} {xc : Array Value} {a : Option Addr} {m c : Nat} {L : List Opx} {wr : World} (h : RX W9 FB X regs xc a m c L wr) (o : Opx) : RX W9 FB X regs xc a m c L (wr.alloc (.cells o.cs 36)) ∧ ORd (wr.alloc (.cells o.cs 36)) (some ⟨wr.heap.size, 0, none⟩) [o] := by
  have hf := lt_of_heap h.f
  have hx := lt_of_heap h.x
  have k : Below wr.heap.size wr (wr.alloc (.cells o.cs 36)) := (Below.refl _ _).alloc (Nat.le_refl _) _
  exact ⟨⟨h.b.trans (k.mono (by omega)), (k.block _ hf).trans h.f, h.o.below (Nat.le_refl _) k, (k.block _ hx).trans h.x, h.xn, h.fx⟩, (OpR.one wr o).ord⟩
theorem RX.add {W9 : World} {FB X : Nat} {regs : Int} {xc : Array Value} {a : Option Addr} {m c : Nat} {L L2 : List Opx} {wr w2 : World} (h : RX W9 FB X regs xc a m c L wr) {a2 : Option Addr} {m2 c2 : Nat} (ho : OpR w2 (FB + 1) (.slice a2 m2 c2) L2) (hg : wr.grownBy w2 (Value.ownBlock (.slice a m c))) (hn : Value.ownBlock (.slice a2 m2 c2) = Value.ownBlock (.slice a m c) ∨ Value.ownBlock (.slice a2 m2 c2) = some wr.heap.size) : RX W9 FB X regs xc a2 m2 c2 L2 (w2.setCell ⟨FB, 1, none⟩ (.slice a2 m2 c2)) ∧ w2.heap[FB]? = some (.cells #[.int .i64 regs, .slice a m c] 29 (0, 0)) ∧ w2.heap[X]? = some (.cells xc 47 (0, 0)) ∧ Below FB W9 w2 := by
  have hf := lt_of_heap h.f
  have hx := lt_of_heap h.x
  obtain ⟨h1, h2⟩ := h.app (Below.refl _ _) ho hg hn
  exact ⟨h1, h2, (hg.block X hx (fun e => h.xn e.symm)).trans h.x, h.b.trans ((grown_below h.o hg (by omega)).mono (by omega))⟩
end Go.Proofs.Ytkkcbabhccfllaa

