/- The document's side: Same of two states of the same contents. -/
import Derived.Test.YtenfgahedbeekaaV2
namespace Go.Proofs.Ytenfgahedbeekaa
open Go.RowKit Go.Deep Go.Shelf
set_option linter.unusedVariables false
set_option linter.unusedSimpArgs false

set_option maxRecDepth 100000 in
set_option maxHeartbeats 2000000 in
theorem refStSame_yes (k : Nat) (w : World) (a : Option Addr) (n cap : Nat) (ps : List (Sl × Rw k)) (b : Option Addr) (m cap2 : Nat) (qs : List (Sl × Rw k)) (hp : StR k w a n ps) (hq : StR k w b m qs) (hy : stB k ps qs = true) :
    Calls Try.prog 14 #[.agg #[.slice a n cap], .agg #[.slice b m cap2]] w fun e w' => e = .returned (.bool true) ∧ Below w.heap.size w w' := by
  have hb := boxes2 w #[.slice a n cap] #[.slice b m cap2] 27 27
  have P := hid hp
  have Q := hid hq
  have Hn := hid hp.n1
  have Hm := hid hq.n1
  have hn2 := hp.n2
  have hm2 := hq.n2
  have hn3 : (n : Int) ≤ 1000 := by omega
  have hm3 : (m : Int) ≤ 1000 := by omega
  have HB := hid hb
  have n1 := heap_alloc_new w (.cells #[.slice a n cap] 27)
  have n2 := heap_alloc_new (w.alloc (.cells #[.slice a n cap] 27)) (.cells #[.slice b m cap2] 27)
  simp only [World.size_alloc] at n2
  obtain ⟨W0, hW0⟩ : ∃ W0, W0 = (w.alloc (.cells #[.slice a n cap] 27)).alloc (.cells #[.slice b m cap2] 27) := ⟨_, rfl⟩
  have q1 : W0.heap[w.heap.size]? = some (.cells #[.slice a n cap] 27 (0, 0)) := by rw [hW0]; exact (Below.heap_alloc _ _ _ (Array.getElem?_eq_some_iff.1 n1).1).trans n1
  have q2 : W0.heap[w.heap.size + 1]? = some (.cells #[.slice b m cap2] 27 (0, 0)) := by rw [hW0]; exact n2
  have hz0 : W0.heap.size = w.heap.size + 2 := by rw [hW0]; simp
  rw [← hW0] at HB
  have FX : Hid (∀ w2 : World, Below W0.heap.size W0 w2 → w2.cell? ⟨w.heap.size, 0, none⟩ = some (.slice a n cap) ∧ w2.cell? ⟨w.heap.size + 1, 0, none⟩ = some (.slice b m cap2) ∧ Below w.heap.size w w2) := hid (fun w2 hb => by
    have bx := (hb.block _ (Array.getElem?_eq_some_iff.1 q1).1).trans q1
    have bz := (hb.block _ (Array.getElem?_eq_some_iff.1 q2).1).trans q2
    exact ⟨cellOf bx 0, cellOf bz 0, HB.out.trans (hb.mono HB.out.size)⟩)
  have TR : Hid (∀ {Z x y : World}, Below Z.heap.size Z x → Below x.heap.size x y → Below Z.heap.size Z y) := hid (fun h1 h2 => h1.trans (h2.mono h1.size))
  obtain ⟨c0, c1, _⟩ := FX.out W0 (Below.refl _ _)
  clear hp hq hb n1 n2 q1 q2 hz0
  obtain ⟨res, hres⟩ : ∃ res, res = stB k ps qs := ⟨_, rfl⟩
  rw [← hres] at hy
  have HT := hid hy
  have Hres := hid hres
  clear hres hy
  by_cases hnm : n = m
  · subst hnm
    go_enter Try.func14, Try.ntmps14
    go_upto_region 1 with fail
    rw [← hW0]
    clear hW0
    go_wp2
    go_loopg [5] n (fun g ii wr => ∃ i : Nat, i + g = n ∧ ii = .int .i64 (i : Int) ∧ Below W0.heap.size W0 wr ∧ res = stB k (ps.drop i) (qs.drop i))
    case atStart => exact ⟨0, by omega, rfl, Below.refl _ _, by simpa using Hres.out⟩
    case round =>
      obtain ⟨i, hi', rfl, hbr, hrs⟩ := hrel
      have Hbr := hid hbr
      have Hrs := hid hrs
      obtain ⟨s0, s1, hbw⟩ := FX.out wr hbr
      have Hbw := hid hbw
      cases gk with
      | zero =>
        have hin : i = n := by omega
        subst hin
        clear hi' hbr hrs hbw
        go_wp2
        go_ret
        refine ⟨?_, Hbw.out⟩
        rfl
      | succ gi =>
        have hlt0 : i < n := by omega
        have hlt : (i : Int) < (n : Int) := by omega
        have hi00 : (0 : Int) ≤ (i : Int) := by omega
        obtain ⟨p, hp⟩ : ∃ p, ps[i]? = some p := ⟨ps[i]'(by rw [← Hn.out]; exact hlt0), List.getElem?_eq_getElem _⟩
        obtain ⟨q, hq⟩ : ∃ q, qs[i]? = some q := ⟨qs[i]'(by rw [← Hm.out]; exact hlt0), List.getElem?_eq_getElem _⟩
        have hP := P.out
        have hQ := Q.out
        obtain ⟨B1, O1, ea, s2⟩ := (hP.below (Nat.le_refl _) hbw).rd i p.1 (by rw [List.getElem?_map, hp]; rfl)
        subst ea
        obtain ⟨B2, O2, ea, s3⟩ := (hQ.below (Nat.le_refl _) hbw).rd i q.1 (by rw [List.getElem?_map, hq]; rfl)
        subst ea
        have p1 := (hP.el p (List.mem_of_getElem? hp)).1
        have q1 := (hQ.el q (List.mem_of_getElem? hq)).1
        have Hst := hid (stB_drop hp hq)
        obtain ⟨⟨ya, yn, yc⟩, yr⟩ := p
        obtain ⟨⟨za, zn, zc⟩, zr⟩ := q
        simp only [Sl.v] at s2 s3
        simp only at p1 q1 Hst
        have HP := hid p1
        have HQ := hid q1
        have Hyn := hid p1.n1
        have Hzn := hid q1.n1
        have hyn2 := p1.n2
        have hzn2 := q1.n2
        have hyn3 : (yn : Int) ≤ 1000 := by omega
        have hzn3 : (zn : Int) ≤ 1000 := by omega
        have Hi := hid hi'
        have FY : Hid (∀ w2 : World, Below W0.heap.size W0 w2 → w2.cell? ⟨B1, O1 + i, none⟩ = some (.slice ya yn yc) ∧ w2.cell? ⟨B2, O2 + i, none⟩ = some (.slice za zn zc)) := hid (fun w2 hb => by
          obtain ⟨_, _, hb2⟩ := FX.out w2 hb
          obtain ⟨x1, x2, e1, e2⟩ := (P.out.below (Nat.le_refl _) hb2).rd i ⟨ya, yn, yc⟩ (by rw [List.getElem?_map, hp]; rfl)
          cases e1
          obtain ⟨x3, x4, e1, e3⟩ := (Q.out.below (Nat.le_refl _) hb2).rd i ⟨za, zn, zc⟩ (by rw [List.getElem?_map, hq]; rfl)
          cases e1
          exact ⟨e2, e3⟩)
        clear hbr hrs hi' hp hq hP hQ p1 q1 hbw P Q
        by_cases hyz : yn = zn
        · subst hyz
          go_wp2
          go_quiet (fail)
          go_wp2
          clear s0 s1 s2 s3
          go_loopg [6] yn (fun g2 jj wr2 => ∃ j : Nat, j + g2 = yn ∧ jj = .int .i64 (j : Int) ∧ Below W0.heap.size W0 wr2 ∧ rowB k yr zr = rowB k (yr.drop j) (zr.drop j))
          case atStart => exact ⟨0, by omega, rfl, Hbr.out.trans ⟨rfl, rfl, rfl, Nat.le_refl _, fun _ _ => rfl⟩, rfl⟩
          case round =>
            obtain ⟨j, hj', rfl, hbr2, hrs2⟩ := hrel
            have Hbr2 := hid hbr2
            have Hrs2 := hid hrs2
            have Hj := hid hj'
            obtain ⟨s0, s1, hbw⟩ := FX.out _ hbr2
            obtain ⟨s2, s3⟩ := FY.out _ hbr2
            cases gk with
            | zero =>
              have hin : j = yn := by omega
              subst hin
              clear hj' hbr2 hrs2 hbw
              go_wp2
              go_roundg gi
              case measure => omega
              case rel =>
                refine ⟨i + 1, by have := Hi.out; omega, by go_num, Hbr2.out, ?_⟩
                rw [Hrs.out, Hst.out, Hrs2.out, List.drop_of_length_le (by rw [← Hyn.out]; exact Nat.le_refl _), List.drop_of_length_le (by rw [← Hzn.out]; exact Nat.le_refl _)]; rfl
            | succ gj =>
              have hjl0 : j < yn := by omega
              have hjl : (j : Int) < (yn : Int) := by omega
              have hj00 : (0 : Int) ≤ (j : Int) := by omega
              obtain ⟨p, hp⟩ : ∃ p, yr[j]? = some p := ⟨yr[j]'(by rw [← Hyn.out]; exact hjl0), List.getElem?_eq_getElem _⟩
              obtain ⟨q, hq⟩ : ∃ q, zr[j]? = some q := ⟨zr[j]'(by rw [← Hzn.out]; exact hjl0), List.getElem?_eq_getElem _⟩
              obtain ⟨b3, o3, ea, dh⟩ := (HP.out.below (Nat.le_refl _) hbw).rd j (enT k p) (by rw [List.getElem?_map, hp]; rfl)
              subst ea
              obtain ⟨b4, o4, ea, gh⟩ := (HQ.out.below (Nat.le_refl _) hbw).rd j (enT k q) (by rw [List.getElem?_map, hq]; rfl)
              subst ea
              have d0 := dh 0 (by omega)
              have f0 := gh 0 (by omega)
              have d1 := dh 1 (by omega)
              have f1 := gh 1 (by omega)
              have d2 := dh 2 (by omega)
              have f2 := gh 2 (by omega)
              have d3 := dh 3 (by omega)
              have f3 := gh 3 (by omega)
              have d4 := dh 4 (by omega)
              have f4 := gh 4 (by omega)
              have d5 := dh 5 (by omega)
              have f5 := gh 5 (by omega)
              have d6 := dh 6 (by omega)
              have f6 := gh 6 (by omega)
              have d7 := dh 7 (by omega)
              have f7 := gh 7 (by omega)
              have d8 := dh 8 (by omega)
              have f8 := gh 8 (by omega)
              have d9 := dh 9 (by omega)
              have f9 := gh 9 (by omega)
              simp only [En.cs, enT, List.getElem?_cons_zero, List.getElem?_cons_succ, Nat.add_zero] at d0 d1 d2 d3 d4 d5 d6 d7 d8 d9 f0 f1 f2 f3 f4 f5 f6 f7 f8 f9
              have Hst2 := hid (rowB_drop hp hq)
              have CK := hid (fun (w1 : World) (hb : Below w.heap.size w w1) => refSame k w1 p.1 q.1 (((HP.out.below (Nat.le_refl _) hb).el p (List.mem_of_getElem? hp)).1) (((HQ.out.below (Nat.le_refl _) hb).el q (List.mem_of_getElem? hq)).1))
              have CV := hid (fun (w1 : World) (hb : Below w.heap.size w w1) => refSame k w1 p.2 q.2 (((HP.out.below (Nat.le_refl _) hb).el p (List.mem_of_getElem? hp)).2) (((HQ.out.below (Nat.le_refl _) hb).el q (List.mem_of_getElem? hq)).2))
              unfold entB at Hst2
              obtain ⟨E1, hE1⟩ : ∃ E, E = (cmpT k p.1 q.1 == 0) := ⟨_, rfl⟩
              obtain ⟨E2, hE2⟩ : ∃ E, E = (cmpT k p.2 q.2 == 0) := ⟨_, rfl⟩
              rw [← hE1] at CK Hst2
              rw [← hE2] at CV Hst2
              clear hE1 hE2
              generalize hdT k p.1 = h1 at *
              generalize hdT k p.2 = h2 at *
              generalize hdT k q.1 = h3 at *
              generalize hdT k q.2 = h4 at *
              obtain ⟨xk, xi, xt, xr, xa, xn, xc⟩ := h1
              obtain ⟨gk2, gi2, gt2, gr2, ga2, gn2, gc2⟩ := h2
              obtain ⟨uk, ui, ut, ur, ua, un, uc⟩ := h3
              obtain ⟨vk, vi, vt, vr, va, vn, vc⟩ := h4
              simp only [Hd.v] at CK CV d0 d1 d2 d3 d4 d5 d6 d7 d8 d9 f0 f1 f2 f3 f4 f5 f6 f7 f8 f9
              have SE : Hid (∀ W' : World, Below wr.heap.size wr W' → (W'.cell? ⟨w.heap.size, 0, none⟩ = some (.slice (some ⟨B1, O1, none⟩) n cap) ∧ W'.cell? ⟨w.heap.size + 1, 0, none⟩ = some (.slice (some ⟨B2, O2, none⟩) n cap2) ∧ W'.cell? ⟨B1, O1 + i, none⟩ = some (.slice (some ⟨b3, o3, none⟩) yn yc) ∧ W'.cell? ⟨B2, O2 + i, none⟩ = some (.slice (some ⟨b4, o4, none⟩) yn zc) ∧ W'.cell? ⟨b3, o3 + j * 10, none⟩ = some (.int .i64 xk) ∧ W'.cell? ⟨b3, o3 + j * 10 + 1, none⟩ = some (.int .i64 xi) ∧ W'.cell? ⟨b3, o3 + j * 10 + 2, none⟩ = some (.string xt) ∧ W'.cell? ⟨b3, o3 + j * 10 + 3, none⟩ = some (.int .i64 xr) ∧ W'.cell? ⟨b3, o3 + j * 10 + 4, none⟩ = some (.slice xa xn xc) ∧ W'.cell? ⟨b3, o3 + j * 10 + 5, none⟩ = some (.int .i64 gk2) ∧ W'.cell? ⟨b3, o3 + j * 10 + 6, none⟩ = some (.int .i64 gi2) ∧ W'.cell? ⟨b3, o3 + j * 10 + 7, none⟩ = some (.string gt2) ∧ W'.cell? ⟨b3, o3 + j * 10 + 8, none⟩ = some (.int .i64 gr2) ∧ W'.cell? ⟨b3, o3 + j * 10 + 9, none⟩ = some (.slice ga2 gn2 gc2) ∧ W'.cell? ⟨b4, o4 + j * 10, none⟩ = some (.int .i64 uk) ∧ W'.cell? ⟨b4, o4 + j * 10 + 1, none⟩ = some (.int .i64 ui) ∧ W'.cell? ⟨b4, o4 + j * 10 + 2, none⟩ = some (.string ut) ∧ W'.cell? ⟨b4, o4 + j * 10 + 3, none⟩ = some (.int .i64 ur) ∧ W'.cell? ⟨b4, o4 + j * 10 + 4, none⟩ = some (.slice ua un uc) ∧ W'.cell? ⟨b4, o4 + j * 10 + 5, none⟩ = some (.int .i64 vk) ∧ W'.cell? ⟨b4, o4 + j * 10 + 6, none⟩ = some (.int .i64 vi) ∧ W'.cell? ⟨b4, o4 + j * 10 + 7, none⟩ = some (.string vt) ∧ W'.cell? ⟨b4, o4 + j * 10 + 8, none⟩ = some (.int .i64 vr) ∧ W'.cell? ⟨b4, o4 + j * 10 + 9, none⟩ = some (.slice va vn vc)) ∧ Below w.heap.size w W' ∧ Below W0.heap.size W0 W') := hid (fun W' hb => by
                have hl : ∀ (p : Addr) (v : Value), wr.cell? p = some v → W'.cell? p = some v := fun p v h => (hb.cell (World.block_lt_of_cell? wr p h)).trans h
                exact ⟨⟨hl _ _ s0, hl _ _ s1, hl _ _ s2, hl _ _ s3, hl _ _ d0, hl _ _ d1, hl _ _ d2, hl _ _ d3, hl _ _ d4, hl _ _ d5, hl _ _ d6, hl _ _ d7, hl _ _ d8, hl _ _ d9, hl _ _ f0, hl _ _ f1, hl _ _ f2, hl _ _ f3, hl _ _ f4, hl _ _ f5, hl _ _ f6, hl _ _ f7, hl _ _ f8, hl _ _ f9⟩, hbw.trans (hb.mono hbw.size), hbr2.trans (hb.mono hbr2.size)⟩)
              have R0 := hid ((Below.refl wr.heap.size wr).drew)
              clear hj' hbr2 hrs2 hbw dh gh hp hq
              cases E1 with
              | false =>
                exfalso
                have : res = false := by rw [Hrs.out, Hst.out, Hrs2.out, Hst2.out]; rfl
                rw [HT.out] at this
                cases this
              | true =>
                cases E2 with
                | false =>
                  exfalso
                  have : res = false := by rw [Hrs.out, Hst.out, Hrs2.out, Hst2.out]; rfl
                  rw [HT.out] at this
                  cases this
                | true =>
                  go_wp2
                  go_region_held3 (fun W' => W'.cell? ⟨w.heap.size, 0, none⟩ = some (.slice (some ⟨B1, O1, none⟩) n cap) ∧ W'.cell? ⟨w.heap.size + 1, 0, none⟩ = some (.slice (some ⟨B2, O2, none⟩) n cap2) ∧ W'.cell? ⟨B1, O1 + i, none⟩ = some (.slice (some ⟨b3, o3, none⟩) yn yc) ∧ W'.cell? ⟨B2, O2 + i, none⟩ = some (.slice (some ⟨b4, o4, none⟩) yn zc) ∧ W'.cell? ⟨b3, o3 + j * 10, none⟩ = some (.int .i64 xk) ∧ W'.cell? ⟨b3, o3 + j * 10 + 1, none⟩ = some (.int .i64 xi) ∧ W'.cell? ⟨b3, o3 + j * 10 + 2, none⟩ = some (.string xt) ∧ W'.cell? ⟨b3, o3 + j * 10 + 3, none⟩ = some (.int .i64 xr) ∧ W'.cell? ⟨b3, o3 + j * 10 + 4, none⟩ = some (.slice xa xn xc) ∧ W'.cell? ⟨b3, o3 + j * 10 + 5, none⟩ = some (.int .i64 gk2) ∧ W'.cell? ⟨b3, o3 + j * 10 + 6, none⟩ = some (.int .i64 gi2) ∧ W'.cell? ⟨b3, o3 + j * 10 + 7, none⟩ = some (.string gt2) ∧ W'.cell? ⟨b3, o3 + j * 10 + 8, none⟩ = some (.int .i64 gr2) ∧ W'.cell? ⟨b3, o3 + j * 10 + 9, none⟩ = some (.slice ga2 gn2 gc2) ∧ W'.cell? ⟨b4, o4 + j * 10, none⟩ = some (.int .i64 uk) ∧ W'.cell? ⟨b4, o4 + j * 10 + 1, none⟩ = some (.int .i64 ui) ∧ W'.cell? ⟨b4, o4 + j * 10 + 2, none⟩ = some (.string ut) ∧ W'.cell? ⟨b4, o4 + j * 10 + 3, none⟩ = some (.int .i64 ur) ∧ W'.cell? ⟨b4, o4 + j * 10 + 4, none⟩ = some (.slice ua un uc) ∧ W'.cell? ⟨b4, o4 + j * 10 + 5, none⟩ = some (.int .i64 vk) ∧ W'.cell? ⟨b4, o4 + j * 10 + 6, none⟩ = some (.int .i64 vi) ∧ W'.cell? ⟨b4, o4 + j * 10 + 7, none⟩ = some (.string vt) ∧ W'.cell? ⟨b4, o4 + j * 10 + 8, none⟩ = some (.int .i64 vr) ∧ W'.cell? ⟨b4, o4 + j * 10 + 9, none⟩ = some (.slice va vn vc)) (first | exact (SE.out _ R2.out).1 | exact (SE.out _ R1.out).1 | exact (SE.out _ R0.out).1 | go_keep) ((first | (go_at_call 23; (refine (CK.out _ (SE.out _ R0.out).2.1).mono ?_; rintro e w8 ⟨rfl, hb8⟩; have R1 := hid (R0.out.trans (hb8.mono R0.out.size)); clear hb8)) | (go_at_call 23; (refine (CV.out _ (SE.out _ R1.out).2.1).mono ?_; rintro e w9 ⟨rfl, hb9⟩; have R2 := hid (R1.out.trans (hb9.mono R1.out.size)); clear hb9))))
                  go_wp2
                  go_roundg gj
                  case measure => omega
                  case rel => exact ⟨j + 1, by have := Hj.out; omega, by go_num, (SE.out _ R2.out).2.2, by rw [Hrs2.out, Hst2.out]; rfl⟩
        · have hyz' : ¬ (yn : Int) = (zn : Int) := by omega
          have hyzb : ((yn : Int) == (zn : Int)) = false := by simpa using hyz'
          have HF : Hid (res = false) := hid (by rw [Hrs.out, Hst.out, rowB_len k yr zr (by rw [← Hyn.out, ← Hzn.out]; exact hyz)]; rfl)
          exfalso
          have := HF.out
          rw [HT.out] at this
          cases this
  · exfalso
    have : res = false := by rw [Hres.out]; exact stB_len k ps qs (by rw [← Hn.out, ← Hm.out]; exact hnm)
    rw [HT.out] at this
    cases this
end Go.Proofs.Ytenfgahedbeekaa
