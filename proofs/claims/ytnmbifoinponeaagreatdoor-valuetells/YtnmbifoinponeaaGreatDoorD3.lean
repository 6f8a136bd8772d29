/- The document's side: prints. -/
import Derived.Test.YtnmbifoinponeaaGreatDoorC3
namespace Go.Proofs.YtnmbifoinponeaaGreatDoor
open Go.RowKit Go.Deep Go.Shelf
set_option linter.unusedVariables false
set_option linter.unusedSimpArgs false

theorem fb_true : Lib.formatBool true = [116, 114, 117, 101] := by decide
theorem fb_false : Lib.formatBool false = [102, 97, 108, 115, 101] := by decide
theorem box_cells (w : World) (c1 : Array Value) (t : TypeId) {wr : World} (h : Below (w.heap.size + 1) (w.alloc (.cells c1 t)) wr) : wr.heap[w.heap.size]? = some (.cells c1 t (0, 0)) := by
  rw [h.block _ (by omega)]; exact heap_alloc_new w _
def preR (rc : Int) : Bs := [35] ++ Lib.itoa rc ++ [123]
theorem list_itoB (n : Int) : (itoB n).data.toList = Lib.itoa n := rfl
set_option maxRecDepth 100000 in
set_option maxHeartbeats 2000000 in
theorem refPrint_step (k : Nat) (ih : ∀ (w : World) (t : VT k), Rds k w t → Tx k t → Calls Tryz.prog 14 #[(hdT k t).v] w fun e w' => e = .returned (.string (ofB (prT k t))) ∧ Below w.heap.size w w') (hbk : bnd (k + 1) ≤ 140737488355328) (w : World) (t : VT (k + 1)) (hR : Rds (k + 1) w t) (hX : Tx (k + 1) t) :
    Calls Tryz.prog 14 #[(hdT (k + 1) t).v] w fun e w' => e = .returned (.string (ofB (prT (k + 1) t))) ∧ Below w.heap.size w w' := by
  obtain ⟨⟨kind, int, text, rc, a, n, cap⟩, us⟩ := t
  obtain ⟨hin, hn, hle, hv, hu⟩ := hR
  obtain ⟨htx, hxu⟩ := hX
  simp only at hn hle hv hu htx hxu
  have hi0 : -9223372036854775808 ≤ int := hin.i0
  have hi1 : int ≤ 9223372036854775807 := hin.i1
  have hr0 : -9223372036854775808 ≤ rc := hin.r0
  have hr1 : rc ≤ 9223372036854775807 := hin.r1
  have hP : prT (k + 1) (⟨kind, int, text, rc, a, n, cap⟩, us) = prH ⟨kind, int, text, rc, a, n, cap⟩ (us.map (prT k)) := rfl
  obtain ⟨P, hPd⟩ : ∃ P, P = ofB (prT (k + 1) (⟨kind, int, text, rc, a, n, cap⟩, us)) := ⟨_, rfl⟩
  rw [← hPd]
  rw [hP] at hPd
  unfold prH at hPd
  simp only at hPd
  simp only [hdT, Hd.v]
  have hB0 : Below w.heap.size w (w.alloc (.cells #[.int .i64 kind, .int .i64 int, .string text, .int .i64 rc, .slice a n cap] 31)) := (Below.refl _ _).alloc (Nat.le_refl _) _
  have HB0 := hid hB0
  clear hP hin hB0
  by_cases h1 : kind = 1
  · subst h1
    rw [if_pos rfl] at hPd
    have hP2 : P = itoB int := hPd
    have c := hid (fun w => refDigits int hi0 hi1 w)
    rw [← hP2] at c
    clear hP2 hPd ih hv hu hxu hn
    go_enter Tryz.func14, Tryz.ntmps14
    go_wp2_with (go_at_call 37; (refine (c.out _).mono ?_; rintro e w2 ⟨rfl, hb2⟩))
    go_ret
    exact ⟨rfl, HB0.out.trans (hb2.mono HB0.out.size)⟩
  · by_cases h2 : kind = 2
    · subst h2
      rw [if_neg (by decide), if_pos rfl, quoL_eq] at hPd
      have hP2 : P = ofB (quoB text.data.toList) := hPd
      have c := hid (fun w => refQuote text htx w)
      rw [← hP2] at c
      clear hP2 hPd ih hv hu hxu hn
      go_enter Tryz.func14, Tryz.ntmps14
      go_wp2_with (go_at_call 38; (refine (c.out _).mono ?_; rintro e w2 ⟨rfl, hb2⟩))
      go_ret
      exact ⟨rfl, HB0.out.trans (hb2.mono HB0.out.size)⟩
    · by_cases h3 : kind = 3
      · subst h3
        rw [if_neg (by decide), if_neg (by decide), if_pos rfl] at hPd
        have HPd := hid hPd
        clear hPd ih hv hu hxu hn
        by_cases hi : int = 1
        · subst hi
          go_enter Tryz.func14, Tryz.ntmps14
          go_wp2
          go_ret
          refine ⟨?_, HB0.out⟩
          rw [HPd.out, show ((1 : Int) == 1) = true from rfl, fb_true]
          rfl
        · have hi2 : (int == 1) = false := by simpa using hi
          go_enter Tryz.func14, Tryz.ntmps14
          go_wp2
          go_ret
          refine ⟨?_, HB0.out⟩
          rw [HPd.out, hi2, fb_false]
          rfl
      · by_cases h4 : kind = 4
        · subst h4
          rw [if_neg (by decide), if_neg (by decide), if_neg (by decide), if_pos rfl] at hPd
          have HPd : Hid (P = ofB (preR rc ++ joinC (us.map (prT k)) ++ [125])) := hid hPd
          have c := hid (fun w => refDigits rc hr0 hr1 w)
          have hil := Lib.itoa_length_le rc hr0 hr1
          obtain ⟨q1, q2, rq1, rq2, eq2, zq2⟩ := around ⟨#[35]⟩ (itoB rc) ⟨#[123]⟩ (Lib.itoa rc) rfl (by have e1 : (⟨#[35]⟩ : ByteArray).size = 1 := rfl; have e2 : (⟨#[123]⟩ : ByteArray).size = 1 := rfl; omega)
          have hq2 : q2 = ofB (preR rc ++ joinC ((us.map (prT k)).take 0)) := eq_ofB (by rw [eq2]; simp [preR, joinC])
          have Hq2 := hid hq2
          have hple : (preR rc).length ≤ 23 := by unfold preR; simp; omega
          have hpk : ∀ u ∈ us, (prT k u).length ≤ bnd k := fun u hu' => prT_len k w u (hu u hu') (hxu u hu')
          have HL : Hid (∀ i, i ≤ us.length → (preR rc ++ joinC ((us.map (prT k)).take i)).length ≤ 23 + i * (bnd k + 2)) := hid (fun i hi => by
            have := joinC_len (bnd k) ((us.map (prT k)).take i) (fun x hx => by
              have hx2 := List.mem_of_mem_take hx
              rw [List.mem_map] at hx2
              obtain ⟨u, hu', rfl⟩ := hx2
              exact hpk u hu')
            rw [List.length_take, List.length_map, Nat.min_eq_left hi] at this
            rw [List.length_append]; omega)
          have HBK : Hid (3000000 + 1000 * (bnd k + 2) ≤ 140737488355328) := hid hbk
          have HV := hid hv
          have HUu := hid hu
          have HXu := hid hxu
          have Hn := hid hn
          have Hpk := hid hpk
          have hle' : (n : Int) ≤ 1000 := by omega
          have IH := hid ih
          clear hPd hv hu hxu hn hpk hil hple hq2 eq2 zq2 ih hbk
          obtain ⟨D, hD⟩ : ∃ D, D = itoB rc := ⟨_, rfl⟩
          rw [← hD] at rq1 c
          clear hD
          go_enter Tryz.func14, Tryz.ntmps14
          go_wp2_with (go_at_call 37; (refine (c.out _).mono ?_; rintro e w2 ⟨rfl, hb2⟩))
          go_loopg [3, 4] n (fun g ss ii wr => ∃ i : Nat, i + g = n ∧ ss = .string (ofB (preR rc ++ joinC ((us.map (prT k)).take i))) ∧ ii = .int .i64 (i : Int) ∧ Below (w.heap.size + 1) (w.alloc (.cells #[.int .i64 4, .int .i64 int, .string text, .int .i64 rc, .slice a n cap] 31)) wr)
          case atStart => exact ⟨0, by omega, by rw [Hq2.out], rfl, by have := hb2; rw [World.size_alloc] at this; exact this⟩
          case round =>
            obtain ⟨i, hi, rfl, rfl, hbr⟩ := hrel
            have p1 := box_cells w _ 31 hbr
            have s4 := cellOf p1 4
            simp only [List.getElem?_toArray, List.getElem?_cons_zero, List.getElem?_cons_succ] at s4
            have hbw : Below w.heap.size w wr := HB0.out.trans (hbr.mono (by omega))
            have Hbw := hid hbw
            have Hbr := hid hbr
            have Hi := hid hi
            have hll := HL.out i (by rw [← Hn.out]; omega)
            have hmul : i * (bnd k + 2) ≤ 1000 * (bnd k + 2) := Nat.mul_le_mul_right _ (by omega)
            have hbk := HBK.out
            cases gk with
            | zero =>
              have hin : i = n := by omega
              subst hin
              obtain ⟨q5, r5, e5, z5⟩ := cat_any (ofB (preR rc ++ joinC ((us.map (prT k)).take i))) ⟨#[125]⟩ (by rw [ofB_size]; have e2 : (⟨#[125]⟩ : ByteArray).size = 1 := rfl; omega)
              have hq5 : q5 = P := by
                rw [HPd.out]
                refine eq_ofB ?_
                rw [e5, ofB_list, List.take_of_length_le (by rw [List.length_map, ← Hn.out]; exact Nat.le_refl _)]
              obtain ⟨S0, hS0⟩ : ∃ z, z = ofB (preR rc ++ joinC ((us.map (prT k)).take i)) := ⟨_, rfl⟩
              rw [← hS0] at r5 ⊢
              have Hq5 := hid hq5
              clear hi hbr hbw p1 hll hmul hbk e5 z5 hq5 hS0
              go_wp2
              go_ret
              exact ⟨by rw [← Hq5.out]; rfl, Hbw.out⟩
            | succ g =>
              have hlt0 : i < n := by omega
              have hlt : (i : Int) < (n : Int) := by omega
              obtain ⟨u, hu⟩ : ∃ u, us[i]? = some u := ⟨us[i]'(by rw [← Hn.out]; exact hlt0), List.getElem?_eq_getElem _⟩
              have hur := HUu.out u (List.mem_of_getElem? hu)
              have hux := HXu.out u (List.mem_of_getElem? hu)
              have hul := Hpk.out u (List.mem_of_getElem? hu)
              have K := IH.out wr u (Rds.below k hur (Nat.le_refl _) hbw) hux
              obtain ⟨b1, o1, ea, d1⟩ := (HV.out.below (Nat.le_refl _) hbw) i (hdT k u) (by rw [List.getElem?_map, hu]; rfl)
              subst ea
              have hsn : joinC ((us.map (prT k)).take (i + 1)) = joinC ((us.map (prT k)).take i) ++ (if i = 0 then prT k u else 44 :: 32 :: prT k u) := by
                rw [List.take_add_one, List.getElem?_map, hu, Option.map_some, Option.toList_some, joinC_snoc, List.length_take, List.length_map, Nat.min_eq_left (by rw [← Hn.out]; omega)]
              have hmul2 : (i + 1) * (bnd k + 2) ≤ 1000 * (bnd k + 2) := Nat.mul_le_mul_right _ (by omega)
              rw [Nat.add_mul, Nat.one_mul] at hmul2
              obtain ⟨M, hM⟩ : ∃ M, M = prT k u := ⟨_, rfl⟩
              rw [← hM] at K hsn hul
              generalize hdT k u = f at *
              obtain ⟨fk, fi, ft, fr, fa, fn, fc⟩ := f
              have x0 := d1 0 (by omega)
              have x1 := d1 1 (by omega)
              have x2 := d1 2 (by omega)
              have x3 := d1 3 (by omega)
              have x4 := d1 4 (by omega)
              simp only [Hd.cs, List.getElem?_cons_zero, List.getElem?_cons_succ, Nat.add_zero] at x0 x1 x2 x3 x4
              simp only [Hd.v] at K
              by_cases h0 : i = 0
              · have h0' : ¬ (0 : Int) < (i : Int) := by omega
                rw [if_pos h0] at hsn
                obtain ⟨q5, r5, e5, z5⟩ := cat_any (ofB (preR rc ++ joinC ((us.map (prT k)).take i))) (ofB M) (by rw [ofB_size, ofB_size]; omega)
                have hq5 : q5 = ofB (preR rc ++ joinC ((us.map (prT k)).take (i + 1))) := eq_ofB (by rw [e5, ofB_list, ofB_list, hsn, List.append_assoc])
                obtain ⟨S0, hS0⟩ : ∃ z, z = ofB (preR rc ++ joinC ((us.map (prT k)).take i)) := ⟨_, rfl⟩
                obtain ⟨y, hy⟩ : ∃ z, z = ofB M := ⟨_, rfl⟩
                rw [← hS0] at r5 ⊢
                rw [← hy] at r5 K
                have Hq5 := hid hq5
                clear hi hbr hbw p1 hll hmul hbk e5 z5 hq5 hS0 hy hsn hul hM d1 hu hur hux hmul2 h0
                clear HBK HL HPd IH HV HUu HXu Hpk Hq2 c rq1 rq2
                go_wp2_with (go_at_call 14; (refine K.mono ?_; rintro e w5 ⟨rfl, hb5⟩))
                go_roundg g
                case measure => omega
                case rel => exact ⟨i + 1, by have := Hi.out; omega, by rw [Hq5.out], by go_num, Hbr.out.trans (hb5.mono (by have := Hbr.out.size; simp at this; exact this))⟩
              · have h0' : (0 : Int) < (i : Int) := by omega
                rw [if_neg h0] at hsn
                obtain ⟨q4, r4, e4, z4⟩ := cat_any (ofB (preR rc ++ joinC ((us.map (prT k)).take i))) ⟨#[44, 32]⟩ (by rw [ofB_size]; have e2 : (⟨#[44, 32]⟩ : ByteArray).size = 2 := rfl; omega)
                obtain ⟨q5, r5, e5, z5⟩ := cat_any q4 (ofB M) (by rw [z4, ofB_size, ofB_size]; have e2 : (⟨#[44, 32]⟩ : ByteArray).size = 2 := rfl; omega)
                have hq5 : q5 = ofB (preR rc ++ joinC ((us.map (prT k)).take (i + 1))) := eq_ofB (by rw [e5, e4, ofB_list, ofB_list, hsn]; simp)
                obtain ⟨S0, hS0⟩ : ∃ z, z = ofB (preR rc ++ joinC ((us.map (prT k)).take i)) := ⟨_, rfl⟩
                obtain ⟨y, hy⟩ : ∃ z, z = ofB M := ⟨_, rfl⟩
                rw [← hS0] at r4 ⊢
                rw [← hy] at r5 K
                have Hq5 := hid hq5
                clear hi hbr hbw p1 hll hmul hbk e4 z4 e5 z5 hq5 hS0 hy hsn hul hM d1 hu hur hux hmul2 h0
                clear HBK HL HPd IH HV HUu HXu Hpk Hq2 c rq1 rq2
                go_wp2_with (go_at_call 14; (refine K.mono ?_; rintro e w5 ⟨rfl, hb5⟩))
                go_roundg g
                case measure => omega
                case rel => exact ⟨i + 1, by have := Hi.out; omega, by rw [Hq5.out], by go_num, Hbr.out.trans (hb5.mono (by have := Hbr.out.size; simp at this; exact this))⟩
        · have e1 : (kind == 1) = false := by simpa using h1
          have e2 : (kind == 2) = false := by simpa using h2
          have e3 : (kind == 3) = false := by simpa using h3
          have e4 : (kind == 4) = false := by simpa using h4
          rw [if_neg h1, if_neg h2, if_neg h3, if_neg h4] at hPd
          have HPd := hid hPd
          clear hPd ih hv hu hxu hn
          go_enter Tryz.func14, Tryz.ntmps14
          go_wp2
          go_ret
          exact ⟨by rw [HPd.out]; rfl, HB0.out⟩
theorem bnd_mono (k : Nat) : bnd k ≤ bnd (k + 1) := by simp only [bnd]; omega
theorem refPrint : ∀ (k : Nat) (w : World) (t : VT k), bnd k ≤ 140737488355328 → Rds k w t → Tx k t → Calls Tryz.prog 14 #[(hdT k t).v] w fun e w' => e = .returned (.string (ofB (prT k t))) ∧ Below w.heap.size w w'
  | 0, _, _, _, h, _ => h.elim
  | k + 1, w, t, hb, h, hx => refPrint_step k (fun w t => refPrint k w t (Nat.le_trans (bnd_mono k) hb)) hb w t h hx
end Go.Proofs.YtnmbifoinponeaaGreatDoor
