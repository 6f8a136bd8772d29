/- windlassref4.at: the walk. -/
import Derived.Test.YtenfgahedbeekaaK2
import Derived.Deep.CutBlock
import Derived.Deep.DeepCutAuto
namespace Go.Proofs.Ytenfgahedbeekaa
open Go.RowKit Go.Deep Go.Shelf
set_option linter.unusedVariables false
set_option linter.unusedSimpArgs false

set_option maxRecDepth 100000 in
set_option maxHeartbeats 2000000 in
theorem refAt_any (k : Nat) (w : World) (sa : Option Addr) (sn sc : Nat) (ms : List (Sl × Rw k)) (hd : StR k w sa sn ms) (m : Int) (kt : VT k) (hk : Rds k w kt) :
    Calls Try.prog 42 #[.agg #[.slice sa sn sc], .int .i64 m, (hdT k kt).v] w fun e w' => e = .returned (.tuple #[.int .i64 ((placeR (fun p => cmpT k p.1 kt) (rowAt ms m)).1 : Int), .bool (placeR (fun p => cmpT k p.1 kt) (rowAt ms m)).2]) ∧ Below w.heap.size w w' := by
  have D := hid hd
  have Hn := hid hd.n1
  have hle := hd.n2
  have hle2 : (sn : Int) ≤ 1000 := by omega
  have hle0 : (0 : Int) ≤ (sn : Int) := by omega
  have DK := hid hk
  clear hd hk
  obtain ⟨hkt, ehkt⟩ : ∃ h, h = hdT k kt := ⟨_, rfl⟩
  have Ekt := hid ehkt
  rw [← ehkt]
  clear ehkt
  obtain ⟨kk, ki, kx, kr, ka, kn, kc⟩ := hkt
  simp only [Hd.v]
  obtain ⟨W0, hW0⟩ : ∃ W0, W0 = (w.alloc (.cells #[.slice sa sn sc] 27)).alloc (.cells #[.int .i64 kk, .int .i64 ki, .string kx, .int .i64 kr, .slice ka kn kc] 31) := ⟨_, rfl⟩
  have q1 : W0.heap[w.heap.size]? = some (.cells #[.slice sa sn sc] 27 (0, 0)) := by rw [hW0]; exact (Below.heap_alloc _ _ _ (by simp)).trans (heap_alloc_new w _)
  have q2 : W0.heap[w.heap.size + 1]? = some (.cells #[.int .i64 kk, .int .i64 ki, .string kx, .int .i64 kr, .slice ka kn kc] 31 (0, 0)) := by
    have := heap_alloc_new (w.alloc (.cells #[.slice sa sn sc] 27)) (.cells #[.int .i64 kk, .int .i64 ki, .string kx, .int .i64 kr, .slice ka kn kc] 31)
    rw [World.size_alloc] at this
    rw [hW0]; exact this
  have hb0 : Below w.heap.size w W0 := by rw [hW0]; exact boxes2 _ _ _ _ _
  have FX : Hid (∀ w2 : World, Below W0.heap.size W0 w2 → (w2.cell? ⟨w.heap.size + 1, 0, none⟩ = some (.int .i64 kk) ∧ w2.cell? ⟨w.heap.size + 1, 1, none⟩ = some (.int .i64 ki) ∧ w2.cell? ⟨w.heap.size + 1, 2, none⟩ = some (.string kx) ∧ w2.cell? ⟨w.heap.size + 1, 3, none⟩ = some (.int .i64 kr) ∧ w2.cell? ⟨w.heap.size + 1, 4, none⟩ = some (.slice ka kn kc)) ∧ Below w.heap.size w w2) := hid (fun w2 hb => by
    have by' := (hb.block _ (Array.getElem?_eq_some_iff.1 q2).1).trans q2
    exact ⟨⟨cellOf by' 0, cellOf by' 1, cellOf by' 2, cellOf by' 3, cellOf by' 4⟩, hb0.trans (hb.mono hb0.size)⟩)
  have c0 : W0.cell? ⟨w.heap.size, 0, none⟩ = some (.slice sa sn sc) := cellOf q1 0
  have HB0 := hid hb0
  clear q1 q2 hb0
  cases hh : hasB sn m with
  | false =>
    rw [rowAt_no Hn.out hh]
    by_cases hm0 : m < 0
    · go_enter Try.func42, Try.ntmps42
      go_upto_region 1 with fail
      rw [← hW0]
      clear hW0
      go_wp2
      exact bodyPost_ret (v := .tuple #[.int .i64 0, .bool false]) (by simp [results, Try.results42, go_sem]) rfl ⟨rfl, HB0.out⟩
    · have hm1 : (sn : Int) ≤ m := by
        have : ¬ (0 ≤ m ∧ m < (sn : Int)) := by simpa [hasB] using hh
        omega
      go_enter Try.func42, Try.ntmps42
      go_upto_region 1 with fail
      rw [← hW0]
      clear hW0
      go_wp2
      exact bodyPost_ret (v := .tuple #[.int .i64 0, .bool false]) (by simp [results, Try.results42, go_sem]) rfl ⟨rfl, HB0.out⟩
  | true =>
    have hm : 0 ≤ m ∧ m < (sn : Int) := by simpa [hasB] using hh
    obtain ⟨i0, rfl⟩ : ∃ i0 : Nat, m = (i0 : Int) := ⟨m.toNat, by omega⟩
    have hi0 := hm.1
    have hi1 := hm.2
    have hi2 : ¬ (i0 : Int) < 0 := by omega
    have hi3 : ¬ (sn : Int) ≤ (i0 : Int) := by omega
    obtain ⟨p, hp⟩ : ∃ p, ms[i0]? = some p := ⟨ms[i0]'(by rw [← Hn.out]; omega), List.getElem?_eq_getElem _⟩
    rw [rowAt_yes hp]
    obtain ⟨b, off, ea, dc⟩ := D.out.rd i0 p.1 (by rw [List.getElem?_map, hp]; rfl)
    subst ea
    have hel := (D.out.el p (List.mem_of_getElem? hp)).1
    obtain ⟨⟨ma, mn, mc⟩, mr⟩ := p
    simp only [Sl.v] at dc
    simp only at hel ⊢
    have dc0 : W0.cell? ⟨b, off + i0, none⟩ = some (.slice ma mn mc) := (HB0.out.cell (p := ⟨b, off + i0, none⟩) (World.block_lt_of_cell? w _ dc)).trans dc
    have Hmn := hid hel.n1
    have hmn2 := hel.n2
    have hmn3 : (mn : Int) ≤ 1000 := by omega
    have hmn0 : (0 : Int) ≤ (mn : Int) := by omega
    have Hel := hid hel
    obtain ⟨res, hres⟩ : ∃ res, res = placeR (fun p => cmpT k p.1 kt) mr := ⟨_, rfl⟩
    rw [← hres]
    have Hres := hid hres
    have KC : Hid (∀ (q : VT k × VT k), q ∈ mr → ∀ (w1 : World), Below w.heap.size w w1 → Calls Try.prog 48 #[(hdT k q.1).v, (hdT k kt).v] w1 fun e w' => e = .returned (.int .i64 (cmpT k q.1 kt)) ∧ Below w1.heap.size w1 w') := hid (fun q hq w1 hb => refCmp k w1 q.1 kt (((Hel.out.below (Nat.le_refl _) hb).el q hq).1) (Rds.below k DK.out (Nat.le_refl _) hb))
    have KS : Hid (∀ (q : VT k × VT k), q ∈ mr → ∀ (w1 : World), Below w.heap.size w w1 → Calls Try.prog 23 #[(hdT k q.1).v, (hdT k kt).v] w1 fun e w' => e = .returned (.bool (cmpT k q.1 kt == 0)) ∧ Below w1.heap.size w1 w') := hid (fun q hq w1 hb => refSame k w1 q.1 kt (((Hel.out.below (Nat.le_refl _) hb).el q hq).1) (Rds.below k DK.out (Nat.le_refl _) hb))
    rw [← Ekt.out] at KC KS
    simp only [Hd.v] at KC KS
    clear dc hp hel hh hm hres D DK
    go_enter Try.func42, Try.ntmps42
    go_upto_region 1 with fail
    rw [← hW0]
    clear hW0
    go_wp2
    clear dc0 c0
    go_loopg [9] mn (fun g v9 wr => ∃ i : Nat, i + g = mn ∧ v9 = .int .i64 (i : Int) ∧ Below W0.heap.size W0 wr ∧ ∀ (j : Nat) (q : VT k × VT k), j < i → mr[j]? = some q → cmpT k q.1 kt < 0)
    case atStart => exact ⟨0, by omega, rfl, Below.refl _ _, fun j q hj => absurd hj (by omega)⟩
    case round =>
      obtain ⟨i, hi', rfl, hbr, hlo⟩ := hrel
      have Hi := hid hi'
      have Hbr := hid hbr
      have Hlo := hid hlo
      cases gk with
      | zero =>
        have hin : i = mn := by omega
        subst hin
        have hval : res = (i, false) := by
          rw [Hres.out, Hmn.out]
          refine place_end _ _ (fun j hj => ?_)
          have := hlo j mr[j] (by rw [Hmn.out]; exact hj) (List.getElem?_eq_getElem hj)
          have h1 : ¬ cmpT k mr[j].1 kt = 0 := by omega
          have h2 : ¬ cmpT k mr[j].1 kt = 1 := by omega
          simp [plQ, h1, h2]
        have Hval := hid hval
        have hni : decide ((i : Int) < (i : Int)) = false := by simp
        clear hi' hbr hlo hval
        have hbd : ∀ m n, Below w.heap.size w ((wr.drewN m).drewN n) := fun m n => (FX.out wr Hbr.out).2.trans ⟨rfl, rfl, rfl, Nat.le_refl _, fun _ _ => rfl⟩
        have HBD := hid hbd
        clear hbd
        go_wp2
        go_quiet (fail)
        go_wp2
        go_quiet (fail)
        go_wp2
        rw [Hval.out]
        exact bodyPost_ret (v := .tuple #[.int .i64 (i : Int), .bool false]) (by simp [results, Try.results42, go_sem]) rfl ⟨rfl, HBD.out _ _⟩
      | succ gi =>
        have hlt0 : i < mn := by omega
        have hlt : (i : Int) < (mn : Int) := by omega
        have hi00 : (0 : Int) ≤ (i : Int) := by omega
        have hltd : decide ((i : Int) < (mn : Int)) = true := decide_eq_true hlt
        obtain ⟨q, hq⟩ : ∃ q, mr[i]? = some q := ⟨mr[i]'(by rw [← Hmn.out]; exact hlt0), List.getElem?_eq_getElem _⟩
        obtain ⟨⟨s0, s1, s2, s3, s4⟩, hbw⟩ := FX.out wr hbr
        obtain ⟨b1, o1, ea, dh⟩ := (Hel.out.below (Nat.le_refl _) hbw).rd i (enT k q) (by rw [List.getElem?_map, hq]; rfl)
        subst ea
        have d0 := dh 0 (by omega)
        have d1 := dh 1 (by omega)
        have d2 := dh 2 (by omega)
        have d3 := dh 3 (by omega)
        have d4 := dh 4 (by omega)
        simp only [En.cs, enT, List.getElem?_cons_zero, List.getElem?_cons_succ, Nat.add_zero] at d0 d1 d2 d3 d4
        have C48 := hid (fun (w1 : World) (hb : Below w.heap.size w w1) => KC.out q (List.mem_of_getElem? hq) w1 hb)
        have C23 := hid (fun (w1 : World) (hb : Below w.heap.size w w1) => KS.out q (List.mem_of_getElem? hq) w1 hb)
        have hbnd := cmpT_bnd k q.1 kt
        have Hq := hid hq
        obtain ⟨c, hc⟩ : ∃ c, c = cmpT k q.1 kt := ⟨_, rfl⟩
        rw [← hc] at C48 C23 hbnd
        have Hc := hid hc
        generalize hdT k q.1 = hq1 at *
        obtain ⟨yk, yi, yt, yr, ya, yn, yc⟩ := hq1
        simp only at C48 C23 d0 d1 d2 d3 d4
        have Hbw := hid hbw
        have SE : Hid (∀ W' : World, Below wr.heap.size wr W' → ((W'.cell? ⟨w.heap.size + 1, 0, none⟩ = some (.int .i64 kk) ∧ W'.cell? ⟨w.heap.size + 1, 1, none⟩ = some (.int .i64 ki) ∧ W'.cell? ⟨w.heap.size + 1, 2, none⟩ = some (.string kx) ∧ W'.cell? ⟨w.heap.size + 1, 3, none⟩ = some (.int .i64 kr) ∧ W'.cell? ⟨w.heap.size + 1, 4, none⟩ = some (.slice ka kn kc)) ∧ W'.cell? ⟨b1, o1 + i * 10, none⟩ = some (.int .i64 yk) ∧ W'.cell? ⟨b1, o1 + i * 10 + 1, none⟩ = some (.int .i64 yi) ∧ W'.cell? ⟨b1, o1 + i * 10 + 2, none⟩ = some (.string yt) ∧ W'.cell? ⟨b1, o1 + i * 10 + 3, none⟩ = some (.int .i64 yr) ∧ W'.cell? ⟨b1, o1 + i * 10 + 4, none⟩ = some (.slice ya yn yc)) ∧ Below w.heap.size w W' ∧ Below W0.heap.size W0 W') := hid (fun W' hb => by
          have hl : ∀ (p : Addr) (v : Value), wr.cell? p = some v → W'.cell? p = some v := fun p v h => (hb.cell (World.block_lt_of_cell? wr p h)).trans h
          exact ⟨⟨⟨hl _ _ s0, hl _ _ s1, hl _ _ s2, hl _ _ s3, hl _ _ s4⟩, hl _ _ d0, hl _ _ d1, hl _ _ d2, hl _ _ d3, hl _ _ d4⟩, hbw.trans (hb.mono hbw.size), hbr.trans (hb.mono hbr.size)⟩)
        have R0 := hid ((Below.refl wr.heap.size wr).drew)
        clear hi' hbr hlo dh hq hbw hc
        by_cases hcn : c < 0
        · have hcd : decide (c < 0) = true := decide_eq_true hcn
          go_wp2
          go_region_held3 (fun W' => (W'.cell? ⟨w.heap.size + 1, 0, none⟩ = some (.int .i64 kk) ∧ W'.cell? ⟨w.heap.size + 1, 1, none⟩ = some (.int .i64 ki) ∧ W'.cell? ⟨w.heap.size + 1, 2, none⟩ = some (.string kx) ∧ W'.cell? ⟨w.heap.size + 1, 3, none⟩ = some (.int .i64 kr) ∧ W'.cell? ⟨w.heap.size + 1, 4, none⟩ = some (.slice ka kn kc)) ∧ W'.cell? ⟨b1, o1 + i * 10, none⟩ = some (.int .i64 yk) ∧ W'.cell? ⟨b1, o1 + i * 10 + 1, none⟩ = some (.int .i64 yi) ∧ W'.cell? ⟨b1, o1 + i * 10 + 2, none⟩ = some (.string yt) ∧ W'.cell? ⟨b1, o1 + i * 10 + 3, none⟩ = some (.int .i64 yr) ∧ W'.cell? ⟨b1, o1 + i * 10 + 4, none⟩ = some (.slice ya yn yc)) (first | exact (SE.out _ R1.out).1 | exact (SE.out _ R0.out).1 | go_keep) ((go_at_call 48; (refine (C48.out _ (SE.out _ R0.out).2.1).mono ?_; rintro e w8 ⟨rfl, hb8⟩; have R1 := hid (R0.out.trans (hb8.mono R0.out.size)); clear hb8)))
          go_wp2
          go_roundg gi
          case measure => have := Hi.out; omega
          case rel =>
            refine ⟨i + 1, by have := Hi.out; omega, by go_num, (SE.out _ R1.out).2.2, fun j q' hj hq' => ?_⟩
            rcases Nat.lt_or_ge j i with h1 | h1
            · exact Hlo.out j q' h1 hq'
            · have : j = i := by omega
              subst this
              rw [Hq.out] at hq'
              cases hq'
              rw [← Hc.out]; exact hcn
        · have hcd : decide (c < 0) = false := decide_eq_false hcn
          have hval : res = (i, c == 0) := by
            have hil : i < mr.length := by rw [← Hmn.out]; exact hlt0
            have hqi : mr[i] = q := by have := Hq.out; rw [List.getElem?_eq_getElem hil] at this; cases this; rfl
            have g1 : ∀ (j : Nat) (hj : j < i), plQ (fun p : VT k × VT k => cmpT k p.1 kt) (mr[j]'(by omega)) = false := fun j hj => by
              have := Hlo.out j (mr[j]'(by omega)) hj (List.getElem?_eq_getElem _)
              have h1 : ¬ cmpT k (mr[j]'(by omega)).1 kt = 0 := by omega
              have h2 : ¬ cmpT k (mr[j]'(by omega)).1 kt = 1 := by omega
              simp [plQ, h1, h2]
            have g2 : plQ (fun p : VT k × VT k => cmpT k p.1 kt) mr[i] = true := by
              rw [hqi]
              show (cmpT k q.1 kt == 0 || cmpT k q.1 kt == 1) = true
              rw [← Hc.out]
              rcases hbnd with h | h | h
              · omega
              · simp [h]
              · simp [h]
            rw [Hres.out, place_at _ mr i hil g1 g2, hqi, Hc.out]
          have Hval := hid hval
          clear hval hbnd
          go_wp2
          go_region_held3 (fun W' => (W'.cell? ⟨w.heap.size + 1, 0, none⟩ = some (.int .i64 kk) ∧ W'.cell? ⟨w.heap.size + 1, 1, none⟩ = some (.int .i64 ki) ∧ W'.cell? ⟨w.heap.size + 1, 2, none⟩ = some (.string kx) ∧ W'.cell? ⟨w.heap.size + 1, 3, none⟩ = some (.int .i64 kr) ∧ W'.cell? ⟨w.heap.size + 1, 4, none⟩ = some (.slice ka kn kc)) ∧ W'.cell? ⟨b1, o1 + i * 10, none⟩ = some (.int .i64 yk) ∧ W'.cell? ⟨b1, o1 + i * 10 + 1, none⟩ = some (.int .i64 yi) ∧ W'.cell? ⟨b1, o1 + i * 10 + 2, none⟩ = some (.string yt) ∧ W'.cell? ⟨b1, o1 + i * 10 + 3, none⟩ = some (.int .i64 yr) ∧ W'.cell? ⟨b1, o1 + i * 10 + 4, none⟩ = some (.slice ya yn yc)) (first | exact (SE.out _ R1.out).1 | exact (SE.out _ R0.out).1 | go_keep) ((go_at_call 48; (refine (C48.out _ (SE.out _ R0.out).2.1).mono ?_; rintro e w8 ⟨rfl, hb8⟩; have R1 := hid (R0.out.trans (hb8.mono R0.out.size)); clear hb8)))
          have R1d := hid R1.out.drew
          obtain ⟨⟨⟨t0, t1, t2, t3, t4⟩, t5, t6, t7, t8, t9⟩, _, _⟩ := SE.out _ R1.out
          go_wp2
          go_region_held3 (fun W' => (W'.cell? ⟨w.heap.size + 1, 0, none⟩ = some (.int .i64 kk) ∧ W'.cell? ⟨w.heap.size + 1, 1, none⟩ = some (.int .i64 ki) ∧ W'.cell? ⟨w.heap.size + 1, 2, none⟩ = some (.string kx) ∧ W'.cell? ⟨w.heap.size + 1, 3, none⟩ = some (.int .i64 kr) ∧ W'.cell? ⟨w.heap.size + 1, 4, none⟩ = some (.slice ka kn kc)) ∧ W'.cell? ⟨b1, o1 + i * 10, none⟩ = some (.int .i64 yk) ∧ W'.cell? ⟨b1, o1 + i * 10 + 1, none⟩ = some (.int .i64 yi) ∧ W'.cell? ⟨b1, o1 + i * 10 + 2, none⟩ = some (.string yt) ∧ W'.cell? ⟨b1, o1 + i * 10 + 3, none⟩ = some (.int .i64 yr) ∧ W'.cell? ⟨b1, o1 + i * 10 + 4, none⟩ = some (.slice ya yn yc)) (first | exact (SE.out _ R2.out).1 | exact (SE.out _ R1d.out).1 | go_keep) ((go_at_call 23; (refine (C23.out _ (SE.out _ R1d.out).2.1).mono ?_; rintro e w9 ⟨rfl, hb9⟩; have R2 := hid (R1d.out.trans (hb9.mono R1d.out.size)); clear hb9)))
          go_wp2
          rw [Hval.out]
          exact bodyPost_ret (v := .tuple #[.int .i64 (i : Int), .bool (c == 0)]) (by simp [results, Try.results42, go_sem]) rfl ⟨rfl, (SE.out _ R2.out).2.1⟩
end Go.Proofs.Ytenfgahedbeekaa
