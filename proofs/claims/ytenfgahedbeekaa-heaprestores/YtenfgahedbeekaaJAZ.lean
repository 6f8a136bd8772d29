/- The document's side: Same of any two states. -/
import Derived.Test.YtenfgahedbeekaaJAY
namespace Go.Proofs.Ytenfgahedbeekaa
open Go.RowKit Go.Deep Go.Shelf
set_option linter.unusedVariables false
set_option linter.unusedSimpArgs false

set_option maxRecDepth 100000 in
set_option maxHeartbeats 2000000 in
theorem refStSame_any (k : Nat) (w : World) (a : Option Addr) (n cap : Nat) (ps : List (Sl × Rw k)) (b : Option Addr) (m cap2 : Nat) (qs : List (Sl × Rw k)) (hp : StR k w a n ps) (hq : StR k w b m qs) :
    Calls Try.prog 14 #[.agg #[.slice a n cap], .agg #[.slice b m cap2]] w fun e w' => e = .returned (.bool (stB k ps qs)) ∧ Below w.heap.size w w' := by
  have hb := boxes2 w #[.slice a n cap] #[.slice b m cap2] 27 27
  have P := hid hp
  have Q := hid hq
  have Hn := hid hp.n1
  have Hm := hid hq.n1
  have hn2 := hp.n2
  have hm2 := hq.n2
  have hn3 : (n : Int) ≤ 1000 := by omega
  have hm3 : (m : Int) ≤ 1000 := by omega
  have HB := hid hb
  have n1 := heap_alloc_new w (.cells #[.slice a n cap] 27)
  have n2 := heap_alloc_new (w.alloc (.cells #[.slice a n cap] 27)) (.cells #[.slice b m cap2] 27)
  simp only [World.size_alloc] at n2
  obtain ⟨W0, hW0⟩ : ∃ W0, W0 = (w.alloc (.cells #[.slice a n cap] 27)).alloc (.cells #[.slice b m cap2] 27) := ⟨_, rfl⟩
  have q1 : W0.heap[w.heap.size]? = some (.cells #[.slice a n cap] 27 (0, 0)) := by rw [hW0]; exact (Below.heap_alloc _ _ _ (Array.getElem?_eq_some_iff.1 n1).1).trans n1
  have q2 : W0.heap[w.heap.size + 1]? = some (.cells #[.slice b m cap2] 27 (0, 0)) := by rw [hW0]; exact n2
  have hz0 : W0.heap.size = w.heap.size + 2 := by rw [hW0]; simp
  rw [← hW0] at HB
  have FX : Hid (∀ w2 : World, Below W0.heap.size W0 w2 → w2.cell? ⟨w.heap.size, 0, none⟩ = some (.slice a n cap) ∧ w2.cell? ⟨w.heap.size + 1, 0, none⟩ = some (.slice b m cap2) ∧ Below w.heap.size w w2) := hid (fun w2 hb => by
    have bx := (hb.block _ (Array.getElem?_eq_some_iff.1 q1).1).trans q1
    have bz := (hb.block _ (Array.getElem?_eq_some_iff.1 q2).1).trans q2
    exact ⟨cellOf bx 0, cellOf bz 0, HB.out.trans (hb.mono HB.out.size)⟩)
  have TR : Hid (∀ {Z x y : World}, Below Z.heap.size Z x → Below x.heap.size x y → Below Z.heap.size Z y) := hid (fun h1 h2 => h1.trans (h2.mono h1.size))
  obtain ⟨c0, c1, _⟩ := FX.out W0 (Below.refl _ _)
  clear hp hq hb n1 n2 q1 q2 hz0
  obtain ⟨res, hres⟩ : ∃ res, res = stB k ps qs := ⟨_, rfl⟩
  rw [← hres]
  have Hres := hid hres
  clear hres
  by_cases hnm : n = m
  · subst hnm
    go_enter Try.func14, Try.ntmps14
    go_upto_region 1 with fail
    rw [← hW0]
    clear hW0
    go_wp2
    go_loopg [5] n (fun g ii wr => ∃ i : Nat, i + g = n ∧ ii = .int .i64 (i : Int) ∧ Below W0.heap.size W0 wr ∧ res = stB k (ps.drop i) (qs.drop i))
    case atStart => exact ⟨0, by omega, rfl, Below.refl _ _, by simpa using Hres.out⟩
    case round =>
      obtain ⟨i, hi', rfl, hbr, hrs⟩ := hrel
      have Hbr := hid hbr
      have Hrs := hid hrs
      obtain ⟨s0, s1, hbw⟩ := FX.out wr hbr
      have Hbw := hid hbw
      cases gk with
      | zero =>
        have hin : i = n := by omega
        subst hin
        clear hi' hbr hrs hbw
        go_wp2
        go_ret
        refine ⟨?_, Hbw.out⟩
        rw [Hrs.out, List.drop_of_length_le (by rw [← Hn.out]; exact Nat.le_refl _), List.drop_of_length_le (by rw [← Hm.out]; exact Nat.le_refl _)]; rfl
      | succ gi =>
        have hlt0 : i < n := by omega
        have hlt : (i : Int) < (n : Int) := by omega
        have hi00 : (0 : Int) ≤ (i : Int) := by omega
        obtain ⟨p, hp⟩ : ∃ p, ps[i]? = some p := ⟨ps[i]'(by rw [← Hn.out]; exact hlt0), List.getElem?_eq_getElem _⟩
        obtain ⟨q, hq⟩ : ∃ q, qs[i]? = some q := ⟨qs[i]'(by rw [← Hm.out]; exact hlt0), List.getElem?_eq_getElem _⟩
        have hP := P.out
        have hQ := Q.out
        obtain ⟨B1, O1, ea, s2⟩ := (hP.below (Nat.le_refl _) hbw).rd i p.1 (by rw [List.getElem?_map, hp]; rfl)
        subst ea
        obtain ⟨B2, O2, ea, s3⟩ := (hQ.below (Nat.le_refl _) hbw).rd i q.1 (by rw [List.getElem?_map, hq]; rfl)
        subst ea
        have p1 := (hP.el p (List.mem_of_getElem? hp)).1
        have q1 := (hQ.el q (List.mem_of_getElem? hq)).1
        have Hst := hid (stB_drop hp hq)
        obtain ⟨⟨ya, yn, yc⟩, yr⟩ := p
        obtain ⟨⟨za, zn, zc⟩, zr⟩ := q
        simp only [Sl.v] at s2 s3
        simp only at p1 q1 Hst
        have HP := hid p1
        have HQ := hid q1
        have Hyn := hid p1.n1
        have Hzn := hid q1.n1
        have hyn2 := p1.n2
        have hzn2 := q1.n2
        have hyn3 : (yn : Int) ≤ 1000 := by omega
        have hzn3 : (zn : Int) ≤ 1000 := by omega
        have Hi := hid hi'
        have FY : Hid (∀ w2 : World, Below W0.heap.size W0 w2 → w2.cell? ⟨B1, O1 + i, none⟩ = some (.slice ya yn yc) ∧ w2.cell? ⟨B2, O2 + i, none⟩ = some (.slice za zn zc)) := hid (fun w2 hb => by
          obtain ⟨_, _, hb2⟩ := FX.out w2 hb
          obtain ⟨x1, x2, e1, e2⟩ := (P.out.below (Nat.le_refl _) hb2).rd i ⟨ya, yn, yc⟩ (by rw [List.getElem?_map, hp]; rfl)
          cases e1
          obtain ⟨x3, x4, e1, e3⟩ := (Q.out.below (Nat.le_refl _) hb2).rd i ⟨za, zn, zc⟩ (by rw [List.getElem?_map, hq]; rfl)
          cases e1
          exact ⟨e2, e3⟩)
        clear hbr hrs hi' hp hq hP hQ p1 q1 hbw P Q
        by_cases hyz : yn = zn
        · subst hyz
          go_wp2
          go_quiet (fail)
          go_wp2
          clear s0 s1 s2 s3
          go_loopg [6] yn (fun g2 jj wr2 => ∃ j : Nat, j + g2 = yn ∧ jj = .int .i64 (j : Int) ∧ Below W0.heap.size W0 wr2 ∧ rowB k yr zr = rowB k (yr.drop j) (zr.drop j))
          case atStart => exact ⟨0, by omega, rfl, Hbr.out.trans ⟨rfl, rfl, rfl, Nat.le_refl _, fun _ _ => rfl⟩, rfl⟩
          case round =>
            obtain ⟨j, hj', rfl, hbr2, hrs2⟩ := hrel
            have Hbr2 := hid hbr2
            have Hrs2 := hid hrs2
            have Hj := hid hj'
            obtain ⟨s0, s1, hbw⟩ := FX.out _ hbr2
            obtain ⟨s2, s3⟩ := FY.out _ hbr2
            cases gk with
            | zero =>
              have hin : j = yn := by omega
              subst hin
              clear hj' hbr2 hrs2 hbw
              go_wp2
              go_roundg gi
              case measure => omega
              case rel =>
                refine ⟨i + 1, by have := Hi.out; omega, by go_num, Hbr2.out, ?_⟩
                rw [Hrs.out, Hst.out, Hrs2.out, List.drop_of_length_le (by rw [← Hyn.out]; exact Nat.le_refl _), List.drop_of_length_le (by rw [← Hzn.out]; exact Nat.le_refl _)]; rfl
            | succ gj =>
              have hjl0 : j < yn := by omega
              have hjl : (j : Int) < (yn : Int) := by omega
              have hj00 : (0 : Int) ≤ (j : Int) := by omega
              obtain ⟨p, hp⟩ : ∃ p, yr[j]? = some p := ⟨yr[j]'(by rw [← Hyn.out]; exact hjl0), List.getElem?_eq_getElem _⟩
              obtain ⟨q, hq⟩ : ∃ q, zr[j]? = some q := ⟨zr[j]'(by rw [← Hzn.out]; exact hjl0), List.getElem?_eq_getElem _⟩
              obtain ⟨b3, o3, ea, dh⟩ := (HP.out.below (Nat.le_refl _) hbw).rd j (enT k p) (by rw [List.getElem?_map, hp]; rfl)
              subst ea
              obtain ⟨b4, o4, ea, gh⟩ := (HQ.out.below (Nat.le_refl _) hbw).rd j (enT k q) (by rw [List.getElem?_map, hq]; rfl)
              subst ea
              have d0 := dh 0 (by omega)
              have f0 := gh 0 (by omega)
              have d1 := dh 1 (by omega)
              have f1 := gh 1 (by omega)
              have d2 := dh 2 (by omega)
              have f2 := gh 2 (by omega)
              have d3 := dh 3 (by omega)
              have f3 := gh 3 (by omega)
              have d4 := dh 4 (by omega)
              have f4 := gh 4 (by omega)
              have d5 := dh 5 (by omega)
              have f5 := gh 5 (by omega)
              have d6 := dh 6 (by omega)
              have f6 := gh 6 (by omega)
              have d7 := dh 7 (by omega)
              have f7 := gh 7 (by omega)
              have d8 := dh 8 (by omega)
              have f8 := gh 8 (by omega)
              have d9 := dh 9 (by omega)
              have f9 := gh 9 (by omega)
              simp only [En.cs, enT, List.getElem?_cons_zero, List.getElem?_cons_succ, Nat.add_zero] at d0 d1 d2 d3 d4 d5 d6 d7 d8 d9 f0 f1 f2 f3 f4 f5 f6 f7 f8 f9
              have Hst2 := hid (rowB_drop hp hq)
              have CK := hid (fun (w1 : World) (hb : Below w.heap.size w w1) => refSame k w1 p.1 q.1 (((HP.out.below (Nat.le_refl _) hb).el p (List.mem_of_getElem? hp)).1) (((HQ.out.below (Nat.le_refl _) hb).el q (List.mem_of_getElem? hq)).1))
              have CV := hid (fun (w1 : World) (hb : Below w.heap.size w w1) => refSame k w1 p.2 q.2 (((HP.out.below (Nat.le_refl _) hb).el p (List.mem_of_getElem? hp)).2) (((HQ.out.below (Nat.le_refl _) hb).el q (List.mem_of_getElem? hq)).2))
              unfold entB at Hst2
              obtain ⟨E1, hE1⟩ : ∃ E, E = (cmpT k p.1 q.1 == 0) := ⟨_, rfl⟩
              obtain ⟨E2, hE2⟩ : ∃ E, E = (cmpT k p.2 q.2 == 0) := ⟨_, rfl⟩
              rw [← hE1] at CK Hst2
              rw [← hE2] at CV Hst2
              clear hE1 hE2
              generalize hdT k p.1 = h1 at *
              generalize hdT k p.2 = h2 at *
              generalize hdT k q.1 = h3 at *
              generalize hdT k q.2 = h4 at *
              obtain ⟨xk, xi, xt, xr, xa, xn, xc⟩ := h1
              obtain ⟨gk2, gi2, gt2, gr2, ga2, gn2, gc2⟩ := h2
              obtain ⟨uk, ui, ut, ur, ua, un, uc⟩ := h3
              obtain ⟨vk, vi, vt, vr, va, vn, vc⟩ := h4
              simp only [Hd.v] at CK CV d0 d1 d2 d3 d4 d5 d6 d7 d8 d9 f0 f1 f2 f3 f4 f5 f6 f7 f8 f9
              have SE : Hid (∀ W' : World, Below wr.heap.size wr W' → (W'.cell? ⟨w.heap.size, 0, none⟩ = some (.slice (some ⟨B1, O1, none⟩) n cap) ∧ W'.cell? ⟨w.heap.size + 1, 0, none⟩ = some (.slice (some ⟨B2, O2, none⟩) n cap2) ∧ W'.cell? ⟨B1, O1 + i, none⟩ = some (.slice (some ⟨b3, o3, none⟩) yn yc) ∧ W'.cell? ⟨B2, O2 + i, none⟩ = some (.slice (some ⟨b4, o4, none⟩) yn zc) ∧ W'.cell? ⟨b3, o3 + j * 10, none⟩ = some (.int .i64 xk) ∧ W'.cell? ⟨b3, o3 + j * 10 + 1, none⟩ = some (.int .i64 xi) ∧ W'.cell? ⟨b3, o3 + j * 10 + 2, none⟩ = some (.string xt) ∧ W'.cell? ⟨b3, o3 + j * 10 + 3, none⟩ = some (.int .i64 xr) ∧ W'.cell? ⟨b3, o3 + j * 10 + 4, none⟩ = some (.slice xa xn xc) ∧ W'.cell? ⟨b3, o3 + j * 10 + 5, none⟩ = some (.int .i64 gk2) ∧ W'.cell? ⟨b3, o3 + j * 10 + 6, none⟩ = some (.int .i64 gi2) ∧ W'.cell? ⟨b3, o3 + j * 10 + 7, none⟩ = some (.string gt2) ∧ W'.cell? ⟨b3, o3 + j * 10 + 8, none⟩ = some (.int .i64 gr2) ∧ W'.cell? ⟨b3, o3 + j * 10 + 9, none⟩ = some (.slice ga2 gn2 gc2) ∧ W'.cell? ⟨b4, o4 + j * 10, none⟩ = some (.int .i64 uk) ∧ W'.cell? ⟨b4, o4 + j * 10 + 1, none⟩ = some (.int .i64 ui) ∧ W'.cell? ⟨b4, o4 + j * 10 + 2, none⟩ = some (.string ut) ∧ W'.cell? ⟨b4, o4 + j * 10 + 3, none⟩ = some (.int .i64 ur) ∧ W'.cell? ⟨b4, o4 + j * 10 + 4, none⟩ = some (.slice ua un uc) ∧ W'.cell? ⟨b4, o4 + j * 10 + 5, none⟩ = some (.int .i64 vk) ∧ W'.cell? ⟨b4, o4 + j * 10 + 6, none⟩ = some (.int .i64 vi) ∧ W'.cell? ⟨b4, o4 + j * 10 + 7, none⟩ = some (.string vt) ∧ W'.cell? ⟨b4, o4 + j * 10 + 8, none⟩ = some (.int .i64 vr) ∧ W'.cell? ⟨b4, o4 + j * 10 + 9, none⟩ = some (.slice va vn vc)) ∧ Below w.heap.size w W' ∧ Below W0.heap.size W0 W') := hid (fun W' hb => by
                have hl : ∀ (p : Addr) (v : Value), wr.cell? p = some v → W'.cell? p = some v := fun p v h => (hb.cell (World.block_lt_of_cell? wr p h)).trans h
                exact ⟨⟨hl _ _ s0, hl _ _ s1, hl _ _ s2, hl _ _ s3, hl _ _ d0, hl _ _ d1, hl _ _ d2, hl _ _ d3, hl _ _ d4, hl _ _ d5, hl _ _ d6, hl _ _ d7, hl _ _ d8, hl _ _ d9, hl _ _ f0, hl _ _ f1, hl _ _ f2, hl _ _ f3, hl _ _ f4, hl _ _ f5, hl _ _ f6, hl _ _ f7, hl _ _ f8, hl _ _ f9⟩, hbw.trans (hb.mono hbw.size), hbr2.trans (hb.mono hbr2.size)⟩)
              have R0 := hid ((Below.refl wr.heap.size wr).drew)
              clear hj' hbr2 hrs2 hbw dh gh hp hq
              cases E1 with
              | false =>
                have HF : Hid (res = false) := hid (by rw [Hrs.out, Hst.out, Hrs2.out, Hst2.out]; rfl)
                go_wp2
                refine wp_region_held_drew (S := fun W' => W'.cell? ⟨w.heap.size, 0, none⟩ = some (.slice (some ⟨B1, O1, none⟩) n cap) ∧ W'.cell? ⟨w.heap.size + 1, 0, none⟩ = some (.slice (some ⟨B2, O2, none⟩) n cap2) ∧ W'.cell? ⟨B1, O1 + i, none⟩ = some (.slice (some ⟨b3, o3, none⟩) yn yc) ∧ W'.cell? ⟨B2, O2 + i, none⟩ = some (.slice (some ⟨b4, o4, none⟩) yn zc) ∧ W'.cell? ⟨b3, o3 + j * 10, none⟩ = some (.int .i64 xk) ∧ W'.cell? ⟨b3, o3 + j * 10 + 1, none⟩ = some (.int .i64 xi) ∧ W'.cell? ⟨b3, o3 + j * 10 + 2, none⟩ = some (.string xt) ∧ W'.cell? ⟨b3, o3 + j * 10 + 3, none⟩ = some (.int .i64 xr) ∧ W'.cell? ⟨b3, o3 + j * 10 + 4, none⟩ = some (.slice xa xn xc) ∧ W'.cell? ⟨b3, o3 + j * 10 + 5, none⟩ = some (.int .i64 gk2) ∧ W'.cell? ⟨b3, o3 + j * 10 + 6, none⟩ = some (.int .i64 gi2) ∧ W'.cell? ⟨b3, o3 + j * 10 + 7, none⟩ = some (.string gt2) ∧ W'.cell? ⟨b3, o3 + j * 10 + 8, none⟩ = some (.int .i64 gr2) ∧ W'.cell? ⟨b3, o3 + j * 10 + 9, none⟩ = some (.slice ga2 gn2 gc2) ∧ W'.cell? ⟨b4, o4 + j * 10, none⟩ = some (.int .i64 uk) ∧ W'.cell? ⟨b4, o4 + j * 10 + 1, none⟩ = some (.int .i64 ui) ∧ W'.cell? ⟨b4, o4 + j * 10 + 2, none⟩ = some (.string ut) ∧ W'.cell? ⟨b4, o4 + j * 10 + 3, none⟩ = some (.int .i64 ur) ∧ W'.cell? ⟨b4, o4 + j * 10 + 4, none⟩ = some (.slice ua un uc) ∧ W'.cell? ⟨b4, o4 + j * 10 + 5, none⟩ = some (.int .i64 vk) ∧ W'.cell? ⟨b4, o4 + j * 10 + 6, none⟩ = some (.int .i64 vi) ∧ W'.cell? ⟨b4, o4 + j * 10 + 7, none⟩ = some (.string vt) ∧ W'.cell? ⟨b4, o4 + j * 10 + 8, none⟩ = some (.int .i64 vr) ∧ W'.cell? ⟨b4, o4 + j * 10 + 9, none⟩ = some (.slice va vn vc)) (by kernel_rfl) (SE.out _ R0.out).1 (fun hHeld => ?_)
                refine wpAnyH_take (i := 0) (oi := { dst := some 44, op := Op.fieldAddr 27 (Operand.tmp 2) 0, type := 0, pos := "windlassref4.go:186", after := #[], guard := none }) (v := .pointer (some ⟨w.heap.size, 0, none⟩)) rfl (by kernel_rfl) (by kernel_rfl) (by kernel_rfl) (fun _ _ _ h => h) (Or.inl ⟨by rfl, ?_⟩) (by assumption) ?_
                · intro w hSw; (try dsimp only at hSw); go_simp
                try simp only [Act.put, List.setIfInBounds_toArray, List.set_cons_zero, List.set_cons_succ]
                refine wpAnyH_take (i := 1) (oi := { dst := some 45, op := Op.load 25 (Operand.tmp 44), type := 25, pos := "windlassref4.go:186", after := #[{ on := 0, ground := Ground.data }], guard := none }) (v := .slice (some ⟨B1, O1, none⟩) n cap) rfl (by kernel_rfl) (by kernel_rfl) (by kernel_rfl) (fun _ _ _ h => h) (Or.inl ⟨by rfl, ?_⟩) (by assumption) ?_
                · intro w hSw; (try dsimp only at hSw); go_simp
                try simp only [Act.put, List.setIfInBounds_toArray, List.set_cons_zero, List.set_cons_succ]
                refine wpAnyH_take (i := 2) (oi := { dst := some 46, op := Op.move (Operand.tmp 5), type := 3, pos := "windlassref4.go:186", after := #[], guard := none }) (v := .int .i64 (i : Int)) rfl (by kernel_rfl) (by kernel_rfl) (by kernel_rfl) (fun _ _ _ h => h) (Or.inl ⟨by rfl, ?_⟩) (by assumption) ?_
                · intro w hSw; (try dsimp only at hSw); go_simp
                try simp only [Act.put, List.setIfInBounds_toArray, List.set_cons_zero, List.set_cons_succ]
                refine wpAnyH_take (i := 3) (oi := { dst := some 47, op := Op.indexAddr 25 (Operand.tmp 45) (Operand.tmp 46), type := 0, pos := "windlassref4.go:186", after := #[{ on := 1, ground := Ground.data }, { on := 2, ground := Ground.data }], guard := none }) (v := .pointer (some ⟨B1, O1 + i, none⟩)) rfl (by kernel_rfl) (by kernel_rfl) (by kernel_rfl) (fun _ _ _ h => h) (Or.inl ⟨by rfl, ?_⟩) (by assumption) ?_
                · intro w hSw; (try dsimp only at hSw); go_simp
                try simp only [Act.put, List.setIfInBounds_toArray, List.set_cons_zero, List.set_cons_succ]
                refine wpAnyH_take (i := 4) (oi := { dst := some 48, op := Op.load 70 (Operand.tmp 47), type := 70, pos := "windlassref4.go:186", after := #[{ on := 3, ground := Ground.data }], guard := none }) (v := .slice (some ⟨b3, o3, none⟩) yn yc) rfl (by kernel_rfl) (by kernel_rfl) (by kernel_rfl) (fun _ _ _ h => h) (Or.inl ⟨by rfl, ?_⟩) (by assumption) ?_
                · intro w hSw; (try dsimp only at hSw); go_simp
                try simp only [Act.put, List.setIfInBounds_toArray, List.set_cons_zero, List.set_cons_succ]
                refine wpAnyH_take (i := 5) (oi := { dst := some 49, op := Op.move (Operand.tmp 6), type := 3, pos := "windlassref4.go:186", after := #[], guard := none }) (v := .int .i64 (j : Int)) rfl (by kernel_rfl) (by kernel_rfl) (by kernel_rfl) (fun _ _ _ h => h) (Or.inl ⟨by rfl, ?_⟩) (by assumption) ?_
                · intro w hSw; (try dsimp only at hSw); go_simp
                try simp only [Act.put, List.setIfInBounds_toArray, List.set_cons_zero, List.set_cons_succ]
                refine wpAnyH_take (i := 6) (oi := { dst := some 50, op := Op.indexAddr 70 (Operand.tmp 48) (Operand.tmp 49), type := 0, pos := "windlassref4.go:186", after := #[{ on := 4, ground := Ground.data }, { on := 5, ground := Ground.data }], guard := none }) (v := .pointer (some ⟨b3, o3 + j * 10, none⟩)) rfl (by kernel_rfl) (by kernel_rfl) (by kernel_rfl) (fun _ _ _ h => h) (Or.inl ⟨by rfl, ?_⟩) (by assumption) ?_
                · intro w hSw; (try dsimp only at hSw); go_simp
                try simp only [Act.put, List.setIfInBounds_toArray, List.set_cons_zero, List.set_cons_succ]
                refine wpAnyH_take (i := 7) (oi := { dst := some 51, op := Op.fieldAddr 81 (Operand.tmp 50) 0, type := 0, pos := "windlassref4.go:186", after := #[{ on := 6, ground := Ground.data }], guard := none }) (v := .pointer (some ⟨b3, o3 + j * 10, none⟩)) rfl (by kernel_rfl) (by kernel_rfl) (by kernel_rfl) (fun _ _ _ h => h) (Or.inl ⟨by rfl, ?_⟩) (by assumption) ?_
                · intro w hSw; (try dsimp only at hSw); go_simp
                try simp only [Act.put, List.setIfInBounds_toArray, List.set_cons_zero, List.set_cons_succ]
                refine wpAnyH_take (i := 8) (oi := { dst := some 52, op := Op.load 31 (Operand.tmp 51), type := 31, pos := "windlassref4.go:186", after := #[{ on := 7, ground := Ground.data }], guard := none }) (v := .agg #[.int .i64 xk, .int .i64 xi, .string xt, .int .i64 xr, .slice xa xn xc]) rfl (by kernel_rfl) (by kernel_rfl) (by kernel_rfl) (fun _ _ _ h => h) (Or.inl ⟨by rfl, ?_⟩) (by assumption) ?_
                · intro w hSw; (try dsimp only at hSw); go_simp
                try simp only [Act.put, List.setIfInBounds_toArray, List.set_cons_zero, List.set_cons_succ]
                refine wpAnyH_take (i := 9) (oi := { dst := some 53, op := Op.fieldAddr 27 (Operand.tmp 3) 0, type := 0, pos := "windlassref4.go:186", after := #[], guard := none }) (v := .pointer (some ⟨w.heap.size + 1, 0, none⟩)) rfl (by kernel_rfl) (by kernel_rfl) (by kernel_rfl) (fun _ _ _ h => h) (Or.inl ⟨by rfl, ?_⟩) (by assumption) ?_
                · intro w hSw; (try dsimp only at hSw); go_simp
                try simp only [Act.put, List.setIfInBounds_toArray, List.set_cons_zero, List.set_cons_succ]
                refine wpAnyH_take (i := 10) (oi := { dst := some 54, op := Op.load 25 (Operand.tmp 53), type := 25, pos := "windlassref4.go:186", after := #[{ on := 9, ground := Ground.data }], guard := none }) (v := .slice (some ⟨B2, O2, none⟩) n cap2) rfl (by kernel_rfl) (by kernel_rfl) (by kernel_rfl) (fun _ _ _ h => h) (Or.inl ⟨by rfl, ?_⟩) (by assumption) ?_
                · intro w hSw; (try dsimp only at hSw); go_simp
                try simp only [Act.put, List.setIfInBounds_toArray, List.set_cons_zero, List.set_cons_succ]
                refine wpAnyH_take (i := 11) (oi := { dst := some 55, op := Op.move (Operand.tmp 5), type := 3, pos := "windlassref4.go:186", after := #[], guard := none }) (v := .int .i64 (i : Int)) rfl (by kernel_rfl) (by kernel_rfl) (by kernel_rfl) (fun _ _ _ h => h) (Or.inl ⟨by rfl, ?_⟩) (by assumption) ?_
                · intro w hSw; (try dsimp only at hSw); go_simp
                try simp only [Act.put, List.setIfInBounds_toArray, List.set_cons_zero, List.set_cons_succ]
                refine wpAnyH_take (i := 12) (oi := { dst := some 56, op := Op.indexAddr 25 (Operand.tmp 54) (Operand.tmp 55), type := 0, pos := "windlassref4.go:186", after := #[{ on := 10, ground := Ground.data }, { on := 11, ground := Ground.data }], guard := none }) (v := .pointer (some ⟨B2, O2 + i, none⟩)) rfl (by kernel_rfl) (by kernel_rfl) (by kernel_rfl) (fun _ _ _ h => h) (Or.inl ⟨by rfl, ?_⟩) (by assumption) ?_
                · intro w hSw; (try dsimp only at hSw); go_simp
                try simp only [Act.put, List.setIfInBounds_toArray, List.set_cons_zero, List.set_cons_succ]
                refine wpAnyH_take (i := 13) (oi := { dst := some 57, op := Op.load 70 (Operand.tmp 56), type := 70, pos := "windlassref4.go:186", after := #[{ on := 12, ground := Ground.data }], guard := none }) (v := .slice (some ⟨b4, o4, none⟩) yn zc) rfl (by kernel_rfl) (by kernel_rfl) (by kernel_rfl) (fun _ _ _ h => h) (Or.inl ⟨by rfl, ?_⟩) (by assumption) ?_
                · intro w hSw; (try dsimp only at hSw); go_simp
                try simp only [Act.put, List.setIfInBounds_toArray, List.set_cons_zero, List.set_cons_succ]
                refine wpAnyH_take (i := 14) (oi := { dst := some 58, op := Op.move (Operand.tmp 6), type := 3, pos := "windlassref4.go:186", after := #[], guard := none }) (v := .int .i64 (j : Int)) rfl (by kernel_rfl) (by kernel_rfl) (by kernel_rfl) (fun _ _ _ h => h) (Or.inl ⟨by rfl, ?_⟩) (by assumption) ?_
                · intro w hSw; (try dsimp only at hSw); go_simp
                try simp only [Act.put, List.setIfInBounds_toArray, List.set_cons_zero, List.set_cons_succ]
                refine wpAnyH_take (i := 15) (oi := { dst := some 59, op := Op.indexAddr 70 (Operand.tmp 57) (Operand.tmp 58), type := 0, pos := "windlassref4.go:186", after := #[{ on := 13, ground := Ground.data }, { on := 14, ground := Ground.data }], guard := none }) (v := .pointer (some ⟨b4, o4 + j * 10, none⟩)) rfl (by kernel_rfl) (by kernel_rfl) (by kernel_rfl) (fun _ _ _ h => h) (Or.inl ⟨by rfl, ?_⟩) (by assumption) ?_
                · intro w hSw; (try dsimp only at hSw); go_simp
                try simp only [Act.put, List.setIfInBounds_toArray, List.set_cons_zero, List.set_cons_succ]
                refine wpAnyH_take (i := 16) (oi := { dst := some 60, op := Op.fieldAddr 81 (Operand.tmp 59) 0, type := 0, pos := "windlassref4.go:186", after := #[{ on := 15, ground := Ground.data }], guard := none }) (v := .pointer (some ⟨b4, o4 + j * 10, none⟩)) rfl (by kernel_rfl) (by kernel_rfl) (by kernel_rfl) (fun _ _ _ h => h) (Or.inl ⟨by rfl, ?_⟩) (by assumption) ?_
                · intro w hSw; (try dsimp only at hSw); go_simp
                try simp only [Act.put, List.setIfInBounds_toArray, List.set_cons_zero, List.set_cons_succ]
                refine wpAnyH_take (i := 17) (oi := { dst := some 61, op := Op.load 31 (Operand.tmp 60), type := 31, pos := "windlassref4.go:186", after := #[{ on := 16, ground := Ground.data }], guard := none }) (v := .agg #[.int .i64 uk, .int .i64 ui, .string ut, .int .i64 ur, .slice ua un uc]) rfl (by kernel_rfl) (by kernel_rfl) (by kernel_rfl) (fun _ _ _ h => h) (Or.inl ⟨by rfl, ?_⟩) (by assumption) ?_
                · intro w hSw; (try dsimp only at hSw); go_simp
                try simp only [Act.put, List.setIfInBounds_toArray, List.set_cons_zero, List.set_cons_succ]
                refine wpAnyH_ready (rs := [18]) (by kernel_rfl) (by simp) ?_
                refine AllReadyH.cons (o := { dst := some 62, op := Op.call { callee := Callee.value (Operand.func 23), args := #[Operand.tmp 52, Operand.tmp 61], argTypes := #[31, 31] }, type := 4, pos := "windlassref4.go:186", after := #[{ on := 8, ground := Ground.data }, { on := 17, ground := Ground.data }], guard := none }) rfl (fun K hK => ?_) AllReadyH.nil
                go_simp
                refine (CK.out _ (SE.out _ R0.out).2.1).mono ?_
                rintro e w1 ⟨rfl, hb1⟩
                have R1 := hid (TR.out R0.out hb1)
                clear hb1
                go_wp2_with fail
                refine hK.out _ _ ((SE.out _ R1.out).1) (fun hHeldN => ?_)
                clear hK K hHeld
                have hHeld := hHeldN
                clear hHeldN
                try simp only [Act.put, List.setIfInBounds_toArray, List.set_cons_zero, List.set_cons_succ]
                refine wpAnyH_take (i := 19) (oi := { dst := some 63, op := Op.unOp UnOp.not 4 (Operand.tmp 62), type := 4, pos := "windlassref4.go:186", after := #[{ on := 18, ground := Ground.data }], guard := none }) (v := .bool true) rfl (by kernel_rfl) (by kernel_rfl) (by kernel_rfl) (fun _ _ _ h => h) (Or.inl ⟨by rfl, ?_⟩) (by assumption) ?_
                · intro w hSw; (try dsimp only at hSw); go_simp
                try simp only [Act.put, List.setIfInBounds_toArray, List.set_cons_zero, List.set_cons_succ]
                refine wpAnyH_take (i := 20) (oi := { dst := some 64, op := Op.move (Operand.tmp 63), type := 4, pos := "windlassref4.go:186", after := #[{ on := 19, ground := Ground.data }, { on := 18, ground := Ground.chain }], guard := none }) (v := .bool true) rfl (by kernel_rfl) (by kernel_rfl) (by kernel_rfl) (fun _ _ _ h => h) (Or.inl ⟨by rfl, ?_⟩) (by assumption) ?_
                · intro w hSw; (try dsimp only at hSw); go_simp
                try simp only [Act.put, List.setIfInBounds_toArray, List.set_cons_zero, List.set_cons_succ]
                refine wpAnyH_take (i := 21) (oi := { dst := some 65, op := Op.fieldAddr 27 (Operand.tmp 2) 0, type := 0, pos := "windlassref4.go:186", after := #[{ on := 20, ground := Ground.guard }], guard := some (20, false) }) (v := undef) rfl (by kernel_rfl) (by kernel_rfl) (by kernel_rfl) (fun _ _ _ h => h) (Or.inr ⟨by rfl, rfl⟩) (by assumption) ?_
                try simp only [Act.put, List.setIfInBounds_toArray, List.set_cons_zero, List.set_cons_succ]
                refine wpAnyH_take (i := 22) (oi := { dst := some 66, op := Op.load 25 (Operand.tmp 65), type := 25, pos := "windlassref4.go:186", after := #[{ on := 21, ground := Ground.data }, { on := 20, ground := Ground.guard }], guard := some (20, false) }) (v := undef) rfl (by kernel_rfl) (by kernel_rfl) (by kernel_rfl) (fun _ _ _ h => h) (Or.inr ⟨by rfl, rfl⟩) (by assumption) ?_
                try simp only [Act.put, List.setIfInBounds_toArray, List.set_cons_zero, List.set_cons_succ]
                refine wpAnyH_take (i := 23) (oi := { dst := some 67, op := Op.move (Operand.tmp 5), type := 3, pos := "windlassref4.go:186", after := #[{ on := 20, ground := Ground.guard }], guard := some (20, false) }) (v := undef) rfl (by kernel_rfl) (by kernel_rfl) (by kernel_rfl) (fun _ _ _ h => h) (Or.inr ⟨by rfl, rfl⟩) (by assumption) ?_
                try simp only [Act.put, List.setIfInBounds_toArray, List.set_cons_zero, List.set_cons_succ]
                refine wpAnyH_take (i := 24) (oi := { dst := some 68, op := Op.indexAddr 25 (Operand.tmp 66) (Operand.tmp 67), type := 0, pos := "windlassref4.go:186", after := #[{ on := 22, ground := Ground.data }, { on := 23, ground := Ground.data }, { on := 20, ground := Ground.guard }], guard := some (20, false) }) (v := undef) rfl (by kernel_rfl) (by kernel_rfl) (by kernel_rfl) (fun _ _ _ h => h) (Or.inr ⟨by rfl, rfl⟩) (by assumption) ?_
                try simp only [Act.put, List.setIfInBounds_toArray, List.set_cons_zero, List.set_cons_succ]
                refine wpAnyH_take (i := 25) (oi := { dst := some 69, op := Op.load 70 (Operand.tmp 68), type := 70, pos := "windlassref4.go:186", after := #[{ on := 24, ground := Ground.data }, { on := 20, ground := Ground.guard }], guard := some (20, false) }) (v := undef) rfl (by kernel_rfl) (by kernel_rfl) (by kernel_rfl) (fun _ _ _ h => h) (Or.inr ⟨by rfl, rfl⟩) (by assumption) ?_
                try simp only [Act.put, List.setIfInBounds_toArray, List.set_cons_zero, List.set_cons_succ]
                refine wpAnyH_take (i := 26) (oi := { dst := some 70, op := Op.move (Operand.tmp 6), type := 3, pos := "windlassref4.go:186", after := #[{ on := 20, ground := Ground.guard }], guard := some (20, false) }) (v := undef) rfl (by kernel_rfl) (by kernel_rfl) (by kernel_rfl) (fun _ _ _ h => h) (Or.inr ⟨by rfl, rfl⟩) (by assumption) ?_
                try simp only [Act.put, List.setIfInBounds_toArray, List.set_cons_zero, List.set_cons_succ]
                refine wpAnyH_take (i := 27) (oi := { dst := some 71, op := Op.indexAddr 70 (Operand.tmp 69) (Operand.tmp 70), type := 0, pos := "windlassref4.go:186", after := #[{ on := 25, ground := Ground.data }, { on := 26, ground := Ground.data }, { on := 20, ground := Ground.guard }], guard := some (20, false) }) (v := undef) rfl (by kernel_rfl) (by kernel_rfl) (by kernel_rfl) (fun _ _ _ h => h) (Or.inr ⟨by rfl, rfl⟩) (by assumption) ?_
                try simp only [Act.put, List.setIfInBounds_toArray, List.set_cons_zero, List.set_cons_succ]
                refine wpAnyH_take (i := 28) (oi := { dst := some 72, op := Op.fieldAddr 81 (Operand.tmp 71) 1, type := 0, pos := "windlassref4.go:186", after := #[{ on := 27, ground := Ground.data }, { on := 20, ground := Ground.guard }], guard := some (20, false) }) (v := undef) rfl (by kernel_rfl) (by kernel_rfl) (by kernel_rfl) (fun _ _ _ h => h) (Or.inr ⟨by rfl, rfl⟩) (by assumption) ?_
                try simp only [Act.put, List.setIfInBounds_toArray, List.set_cons_zero, List.set_cons_succ]
                refine wpAnyH_take (i := 29) (oi := { dst := some 73, op := Op.load 31 (Operand.tmp 72), type := 31, pos := "windlassref4.go:186", after := #[{ on := 28, ground := Ground.data }, { on := 20, ground := Ground.guard }], guard := some (20, false) }) (v := undef) rfl (by kernel_rfl) (by kernel_rfl) (by kernel_rfl) (fun _ _ _ h => h) (Or.inr ⟨by rfl, rfl⟩) (by assumption) ?_
                try simp only [Act.put, List.setIfInBounds_toArray, List.set_cons_zero, List.set_cons_succ]
                refine wpAnyH_take (i := 30) (oi := { dst := some 74, op := Op.fieldAddr 27 (Operand.tmp 3) 0, type := 0, pos := "windlassref4.go:186", after := #[{ on := 20, ground := Ground.guard }], guard := some (20, false) }) (v := undef) rfl (by kernel_rfl) (by kernel_rfl) (by kernel_rfl) (fun _ _ _ h => h) (Or.inr ⟨by rfl, rfl⟩) (by assumption) ?_
                try simp only [Act.put, List.setIfInBounds_toArray, List.set_cons_zero, List.set_cons_succ]
                refine wpAnyH_take (i := 31) (oi := { dst := some 75, op := Op.load 25 (Operand.tmp 74), type := 25, pos := "windlassref4.go:186", after := #[{ on := 30, ground := Ground.data }, { on := 20, ground := Ground.guard }], guard := some (20, false) }) (v := undef) rfl (by kernel_rfl) (by kernel_rfl) (by kernel_rfl) (fun _ _ _ h => h) (Or.inr ⟨by rfl, rfl⟩) (by assumption) ?_
                try simp only [Act.put, List.setIfInBounds_toArray, List.set_cons_zero, List.set_cons_succ]
                refine wpAnyH_take (i := 32) (oi := { dst := some 76, op := Op.move (Operand.tmp 5), type := 3, pos := "windlassref4.go:186", after := #[{ on := 20, ground := Ground.guard }], guard := some (20, false) }) (v := undef) rfl (by kernel_rfl) (by kernel_rfl) (by kernel_rfl) (fun _ _ _ h => h) (Or.inr ⟨by rfl, rfl⟩) (by assumption) ?_
                try simp only [Act.put, List.setIfInBounds_toArray, List.set_cons_zero, List.set_cons_succ]
                refine wpAnyH_take (i := 33) (oi := { dst := some 77, op := Op.indexAddr 25 (Operand.tmp 75) (Operand.tmp 76), type := 0, pos := "windlassref4.go:186", after := #[{ on := 31, ground := Ground.data }, { on := 32, ground := Ground.data }, { on := 20, ground := Ground.guard }], guard := some (20, false) }) (v := undef) rfl (by kernel_rfl) (by kernel_rfl) (by kernel_rfl) (fun _ _ _ h => h) (Or.inr ⟨by rfl, rfl⟩) (by assumption) ?_
                try simp only [Act.put, List.setIfInBounds_toArray, List.set_cons_zero, List.set_cons_succ]
                refine wpAnyH_take (i := 34) (oi := { dst := some 78, op := Op.load 70 (Operand.tmp 77), type := 70, pos := "windlassref4.go:186", after := #[{ on := 33, ground := Ground.data }, { on := 20, ground := Ground.guard }], guard := some (20, false) }) (v := undef) rfl (by kernel_rfl) (by kernel_rfl) (by kernel_rfl) (fun _ _ _ h => h) (Or.inr ⟨by rfl, rfl⟩) (by assumption) ?_
                try simp only [Act.put, List.setIfInBounds_toArray, List.set_cons_zero, List.set_cons_succ]
                refine wpAnyH_take (i := 35) (oi := { dst := some 79, op := Op.move (Operand.tmp 6), type := 3, pos := "windlassref4.go:186", after := #[{ on := 20, ground := Ground.guard }], guard := some (20, false) }) (v := undef) rfl (by kernel_rfl) (by kernel_rfl) (by kernel_rfl) (fun _ _ _ h => h) (Or.inr ⟨by rfl, rfl⟩) (by assumption) ?_
                try simp only [Act.put, List.setIfInBounds_toArray, List.set_cons_zero, List.set_cons_succ]
                refine wpAnyH_take (i := 36) (oi := { dst := some 80, op := Op.indexAddr 70 (Operand.tmp 78) (Operand.tmp 79), type := 0, pos := "windlassref4.go:186", after := #[{ on := 34, ground := Ground.data }, { on := 35, ground := Ground.data }, { on := 20, ground := Ground.guard }], guard := some (20, false) }) (v := undef) rfl (by kernel_rfl) (by kernel_rfl) (by kernel_rfl) (fun _ _ _ h => h) (Or.inr ⟨by rfl, rfl⟩) (by assumption) ?_
                try simp only [Act.put, List.setIfInBounds_toArray, List.set_cons_zero, List.set_cons_succ]
                refine wpAnyH_take (i := 37) (oi := { dst := some 81, op := Op.fieldAddr 81 (Operand.tmp 80) 1, type := 0, pos := "windlassref4.go:186", after := #[{ on := 36, ground := Ground.data }, { on := 20, ground := Ground.guard }], guard := some (20, false) }) (v := undef) rfl (by kernel_rfl) (by kernel_rfl) (by kernel_rfl) (fun _ _ _ h => h) (Or.inr ⟨by rfl, rfl⟩) (by assumption) ?_
                try simp only [Act.put, List.setIfInBounds_toArray, List.set_cons_zero, List.set_cons_succ]
                refine wpAnyH_take (i := 38) (oi := { dst := some 82, op := Op.load 31 (Operand.tmp 81), type := 31, pos := "windlassref4.go:186", after := #[{ on := 37, ground := Ground.data }, { on := 20, ground := Ground.guard }], guard := some (20, false) }) (v := undef) rfl (by kernel_rfl) (by kernel_rfl) (by kernel_rfl) (fun _ _ _ h => h) (Or.inr ⟨by rfl, rfl⟩) (by assumption) ?_
                try simp only [Act.put, List.setIfInBounds_toArray, List.set_cons_zero, List.set_cons_succ]
                refine wpAnyH_take (i := 39) (oi := { dst := some 83, op := Op.call { callee := Callee.value (Operand.func 23), args := #[Operand.tmp 73, Operand.tmp 82], argTypes := #[31, 31] }, type := 4, pos := "windlassref4.go:186", after := #[{ on := 29, ground := Ground.data }, { on := 38, ground := Ground.data }, { on := 20, ground := Ground.chain }, { on := 20, ground := Ground.guard }], guard := some (20, false) }) (v := undef) rfl (by kernel_rfl) (by kernel_rfl) (by kernel_rfl) (fun _ _ _ h => h) (Or.inr ⟨by rfl, rfl⟩) (by assumption) ?_
                try simp only [Act.put, List.setIfInBounds_toArray, List.set_cons_zero, List.set_cons_succ]
                refine wpAnyH_take (i := 40) (oi := { dst := some 84, op := Op.unOp UnOp.not 4 (Operand.tmp 83), type := 4, pos := "windlassref4.go:186", after := #[{ on := 39, ground := Ground.data }, { on := 20, ground := Ground.guard }], guard := some (20, false) }) (v := undef) rfl (by kernel_rfl) (by kernel_rfl) (by kernel_rfl) (fun _ _ _ h => h) (Or.inr ⟨by rfl, rfl⟩) (by assumption) ?_
                try simp only [Act.put, List.setIfInBounds_toArray, List.set_cons_zero, List.set_cons_succ]
                refine wpAnyH_take (i := 41) (oi := { dst := some 85, op := Op.pick (Operand.tmp 64) (Operand.const (Value.bool true)) (Operand.tmp 84), type := 4, pos := "windlassref4.go:186", after := #[{ on := 20, ground := Ground.data }, { on := 40, ground := Ground.data }], guard := none }) (v := .bool true) rfl (by kernel_rfl) (by kernel_rfl) (by kernel_rfl) (fun _ _ _ h => h) (Or.inl ⟨by rfl, ?_⟩) (by assumption) ?_
                · intro w hSw; (try dsimp only at hSw); go_simp
                try simp only [Act.put, List.setIfInBounds_toArray, List.set_cons_zero, List.set_cons_succ]
                refine wpAnyH_done (by kernel_rfl) ?_ _
                go_wp2
                go_ret
                exact ⟨by rw [HF.out]; rfl, (SE.out _ R1.out).2.1⟩
              | true =>
                cases E2 with
                | false =>
                  have HF : Hid (res = false) := hid (by rw [Hrs.out, Hst.out, Hrs2.out, Hst2.out]; rfl)
                  go_wp2
                  go_region_held3 (fun W' => W'.cell? ⟨w.heap.size, 0, none⟩ = some (.slice (some ⟨B1, O1, none⟩) n cap) ∧ W'.cell? ⟨w.heap.size + 1, 0, none⟩ = some (.slice (some ⟨B2, O2, none⟩) n cap2) ∧ W'.cell? ⟨B1, O1 + i, none⟩ = some (.slice (some ⟨b3, o3, none⟩) yn yc) ∧ W'.cell? ⟨B2, O2 + i, none⟩ = some (.slice (some ⟨b4, o4, none⟩) yn zc) ∧ W'.cell? ⟨b3, o3 + j * 10, none⟩ = some (.int .i64 xk) ∧ W'.cell? ⟨b3, o3 + j * 10 + 1, none⟩ = some (.int .i64 xi) ∧ W'.cell? ⟨b3, o3 + j * 10 + 2, none⟩ = some (.string xt) ∧ W'.cell? ⟨b3, o3 + j * 10 + 3, none⟩ = some (.int .i64 xr) ∧ W'.cell? ⟨b3, o3 + j * 10 + 4, none⟩ = some (.slice xa xn xc) ∧ W'.cell? ⟨b3, o3 + j * 10 + 5, none⟩ = some (.int .i64 gk2) ∧ W'.cell? ⟨b3, o3 + j * 10 + 6, none⟩ = some (.int .i64 gi2) ∧ W'.cell? ⟨b3, o3 + j * 10 + 7, none⟩ = some (.string gt2) ∧ W'.cell? ⟨b3, o3 + j * 10 + 8, none⟩ = some (.int .i64 gr2) ∧ W'.cell? ⟨b3, o3 + j * 10 + 9, none⟩ = some (.slice ga2 gn2 gc2) ∧ W'.cell? ⟨b4, o4 + j * 10, none⟩ = some (.int .i64 uk) ∧ W'.cell? ⟨b4, o4 + j * 10 + 1, none⟩ = some (.int .i64 ui) ∧ W'.cell? ⟨b4, o4 + j * 10 + 2, none⟩ = some (.string ut) ∧ W'.cell? ⟨b4, o4 + j * 10 + 3, none⟩ = some (.int .i64 ur) ∧ W'.cell? ⟨b4, o4 + j * 10 + 4, none⟩ = some (.slice ua un uc) ∧ W'.cell? ⟨b4, o4 + j * 10 + 5, none⟩ = some (.int .i64 vk) ∧ W'.cell? ⟨b4, o4 + j * 10 + 6, none⟩ = some (.int .i64 vi) ∧ W'.cell? ⟨b4, o4 + j * 10 + 7, none⟩ = some (.string vt) ∧ W'.cell? ⟨b4, o4 + j * 10 + 8, none⟩ = some (.int .i64 vr) ∧ W'.cell? ⟨b4, o4 + j * 10 + 9, none⟩ = some (.slice va vn vc)) (first | exact (SE.out _ R2.out).1 | exact (SE.out _ R1.out).1 | exact (SE.out _ R0.out).1 | go_keep) ((first | (go_at_call 23; (refine (CK.out _ (SE.out _ R0.out).2.1).mono ?_; rintro e w8 ⟨rfl, hb8⟩; have R1 := hid (R0.out.trans (hb8.mono R0.out.size)); clear hb8)) | (go_at_call 23; (refine (CV.out _ (SE.out _ R1.out).2.1).mono ?_; rintro e w9 ⟨rfl, hb9⟩; have R2 := hid (R1.out.trans (hb9.mono R1.out.size)); clear hb9))))
                  go_wp2
                  go_ret
                  exact ⟨by rw [HF.out]; rfl, (SE.out _ R2.out).2.1⟩
                | true =>
                  go_wp2
                  go_region_held3 (fun W' => W'.cell? ⟨w.heap.size, 0, none⟩ = some (.slice (some ⟨B1, O1, none⟩) n cap) ∧ W'.cell? ⟨w.heap.size + 1, 0, none⟩ = some (.slice (some ⟨B2, O2, none⟩) n cap2) ∧ W'.cell? ⟨B1, O1 + i, none⟩ = some (.slice (some ⟨b3, o3, none⟩) yn yc) ∧ W'.cell? ⟨B2, O2 + i, none⟩ = some (.slice (some ⟨b4, o4, none⟩) yn zc) ∧ W'.cell? ⟨b3, o3 + j * 10, none⟩ = some (.int .i64 xk) ∧ W'.cell? ⟨b3, o3 + j * 10 + 1, none⟩ = some (.int .i64 xi) ∧ W'.cell? ⟨b3, o3 + j * 10 + 2, none⟩ = some (.string xt) ∧ W'.cell? ⟨b3, o3 + j * 10 + 3, none⟩ = some (.int .i64 xr) ∧ W'.cell? ⟨b3, o3 + j * 10 + 4, none⟩ = some (.slice xa xn xc) ∧ W'.cell? ⟨b3, o3 + j * 10 + 5, none⟩ = some (.int .i64 gk2) ∧ W'.cell? ⟨b3, o3 + j * 10 + 6, none⟩ = some (.int .i64 gi2) ∧ W'.cell? ⟨b3, o3 + j * 10 + 7, none⟩ = some (.string gt2) ∧ W'.cell? ⟨b3, o3 + j * 10 + 8, none⟩ = some (.int .i64 gr2) ∧ W'.cell? ⟨b3, o3 + j * 10 + 9, none⟩ = some (.slice ga2 gn2 gc2) ∧ W'.cell? ⟨b4, o4 + j * 10, none⟩ = some (.int .i64 uk) ∧ W'.cell? ⟨b4, o4 + j * 10 + 1, none⟩ = some (.int .i64 ui) ∧ W'.cell? ⟨b4, o4 + j * 10 + 2, none⟩ = some (.string ut) ∧ W'.cell? ⟨b4, o4 + j * 10 + 3, none⟩ = some (.int .i64 ur) ∧ W'.cell? ⟨b4, o4 + j * 10 + 4, none⟩ = some (.slice ua un uc) ∧ W'.cell? ⟨b4, o4 + j * 10 + 5, none⟩ = some (.int .i64 vk) ∧ W'.cell? ⟨b4, o4 + j * 10 + 6, none⟩ = some (.int .i64 vi) ∧ W'.cell? ⟨b4, o4 + j * 10 + 7, none⟩ = some (.string vt) ∧ W'.cell? ⟨b4, o4 + j * 10 + 8, none⟩ = some (.int .i64 vr) ∧ W'.cell? ⟨b4, o4 + j * 10 + 9, none⟩ = some (.slice va vn vc)) (first | exact (SE.out _ R2.out).1 | exact (SE.out _ R1.out).1 | exact (SE.out _ R0.out).1 | go_keep) ((first | (go_at_call 23; (refine (CK.out _ (SE.out _ R0.out).2.1).mono ?_; rintro e w8 ⟨rfl, hb8⟩; have R1 := hid (R0.out.trans (hb8.mono R0.out.size)); clear hb8)) | (go_at_call 23; (refine (CV.out _ (SE.out _ R1.out).2.1).mono ?_; rintro e w9 ⟨rfl, hb9⟩; have R2 := hid (R1.out.trans (hb9.mono R1.out.size)); clear hb9))))
                  go_wp2
                  go_roundg gj
                  case measure => omega
                  case rel => exact ⟨j + 1, by have := Hj.out; omega, by go_num, (SE.out _ R2.out).2.2, by rw [Hrs2.out, Hst2.out]; rfl⟩
        · have hyz' : ¬ (yn : Int) = (zn : Int) := by omega
          have hyzb : ((yn : Int) == (zn : Int)) = false := by simpa using hyz'
          have HF : Hid (res = false) := hid (by rw [Hrs.out, Hst.out, rowB_len k yr zr (by rw [← Hyn.out, ← Hzn.out]; exact hyz)]; rfl)
          go_wp2
          go_quiet (fail)
          go_wp2
          go_ret
          refine ⟨by rw [HF.out]; rfl, Hbw.out.trans ⟨rfl, rfl, rfl, Nat.le_refl _, fun _ _ => rfl⟩⟩
  · have HF : Hid (res = false) := hid (by rw [Hres.out]; exact stB_len k ps qs (by rw [← Hn.out, ← Hm.out]; exact hnm))
    have hnm' : ¬ (n : Int) = (m : Int) := by omega
    have hnmb : ((n : Int) == (m : Int)) = false := by simpa using hnm'
    have hnm2 : ((n : Int) != (m : Int)) = true := by simp [hnm']
    go_enter Try.func14, Try.ntmps14
    go_upto_region 1 with fail
    rw [← hW0]
    clear hW0
    go_wp2
    go_ret
    exact ⟨by rw [HF.out]; rfl, HB.out⟩
end Go.Proofs.Ytenfgahedbeekaa

namespace Go.Proofs.Ytenfgahedbeekaa
open Go.ChangeShapes Go.WideShapes Go.ChangeAt Go.RowKit Go.Deep
set_option linter.unusedVariables false
set_option linter.unusedSimpArgs false

theorem cells28 : Try.prog.cellsOf 73 = 2 := by kernel_rfl
theorem cells46 : Try.prog.cellsOf 95 = 3 := by kernel_rfl
theorem cells79 : Try.prog.cellsOf 75 = 5 := by kernel_rfl
theorem cells48 : Try.prog.cellsOf 97 = 4 := by kernel_rfl
theorem cells43 : Try.prog.cellsOf 92 = 1 := by kernel_rfl
theorem cells44 : Try.prog.cellsOf 93 = 1 := by kernel_rfl
theorem cells22 : Try.prog.cellsOf 46 = 1 := by kernel_rfl
theorem cells23 : Try.prog.cellsOf 47 = 1 := by kernel_rfl
theorem cells24 : Try.prog.cellsOf 48 = 1 := by kernel_rfl
theorem cells26 : Try.prog.cellsOf 50 = 4 := by kernel_rfl

section
variable {H : Type} {enc : TypeId × Value → H} {W : World}

def TrdT (enc : TypeId × Value → H) (W : World) (T : TypeId) (cs : List Value) : Prop := ∃ fuel x, DataW.trod enc Try.prog W 0 (fun _ => true) true fuel T cs = some x

set_option maxRecDepth 100000 in
theorem rows_of {T E : TypeId} {k : Nat} (hT : Try.prog.underlying T = some (.slice E)) (hk : Try.prog.cellsOf E = k) (k0 : 0 < k) {a0 : Option Addr} {len cap : Nat} (h : TrdT enc W T [.slice a0 len cap]) :
    ∃ rows : List (List Value), rows.length = len ∧ CRd W a0 k rows ∧ (∀ r ∈ rows, r.length = k ∧ TrdT enc W E r) ∧ len ≤ 9223372036854775807 ∧ len ≤ cap := by
  obtain ⟨fuel, x, hf⟩ := h
  rcases open_slice hT hf with ⟨hcs, _⟩ | ⟨a, l, c, m, n, D, Pl, hcs, _, hl, hm', hm, _, hx⟩
  · simp at hcs
    obtain ⟨rfl, rfl, rfl⟩ := hcs
    exact ⟨[], rfl, fun j x hx => by simp at hx, fun h hh => by simp at hh, by omega, by omega⟩
  · simp at hcs
    obtain ⟨rfl, rfl, rfl⟩ := hcs
    simp at hm
    subst hm
    have hs : ∀ j, j < len → ∃ r : List Value, (∃ b off, some a = some ⟨b, off, none⟩ ∧ b < W.heap.size ∧ ∀ i, i < k → W.cell? ⟨b, off + j * k + i, none⟩ = r[i]?) ∧ r.length = k ∧ TrdT enc W E r := by
      intro j hj
      obtain ⟨cs, h1, h2⟩ := hx j (by omega)
      rw [hk] at h1
      obtain ⟨_, h3, h4⟩ := World.cells?_some h1
      obtain ⟨b, off, spot⟩ := a
      have hc0 : cs[0]? = some (cs[0]'(by omega)) := by rw [List.getElem?_eq_getElem]
      have hcell := (h4 0 k0).trans hc0
      have hspot : spot = none := by
        obtain ⟨cs', h1', h2'⟩ := hx 0 (by omega)
        rw [hk] at h1'
        obtain ⟨_, h3', h4'⟩ := World.cells?_some h1'
        have := World.cell?_spot ((h4' 0 k0).trans (show cs'[0]? = some (cs'[0]'(by omega)) by rw [List.getElem?_eq_getElem]))
        simpa [Addr.add] using this
      subst hspot
      have hb : b < W.heap.size := by
        have := World.block_lt_of_cell? W _ hcell
        simpa [Addr.add_lit] using this
      refine ⟨cs, ⟨b, off, rfl, hb, fun i hi => ?_⟩, h3, _, _, h2⟩
      have := h4 i hi
      simp only [Addr.add_lit] at this
      exact this
    refine ⟨(List.range len).map (fun j => if hj : j < len then Classical.choose (hs j hj) else []), by simp, ?_, ?_, by unfold maxLen at hm'; omega, by omega⟩
    · intro j h hjh
      simp only [List.getElem?_map, Option.map_eq_some_iff] at hjh
      obtain ⟨j', hj', rfl⟩ := hjh
      have hj : j < len := by have := (List.getElem?_eq_some_iff.1 hj').1; simpa using this
      have : j' = j := by simpa [hj] using hj'.symm
      subst this
      simp only [hj, dif_pos]
      exact (Classical.choose_spec (hs j' hj)).1
    · intro h hh
      simp only [List.mem_map, List.mem_range] at hh
      obtain ⟨j, hj, rfl⟩ := hh
      simp only [hj, dif_pos]
      exact (Classical.choose_spec (hs j hj)).2

theorem str_of {c : Value} (h : TrdT enc W 9 [c]) : ∃ s, c = .string s ∧ s.size ≤ 9223372036854775807 := by
  obtain ⟨fuel, x, hf⟩ := h
  obtain ⟨s, e, _, w⟩ := DataW.trod_string Try.underlying9 hf
  simp at e
  exact ⟨s, e, by unfold maxLen at w; omega⟩
theorem int_of {c : Value} (h : TrdT enc W 3 [c]) : ∃ n, c = .int .i64 n := by
  obtain ⟨fuel, x, hf⟩ := h
  obtain ⟨n, e, _, w⟩ := DataW.trod_int Try.underlying3 hf
  simp at e
  exact ⟨n, e⟩
set_option maxRecDepth 100000 in
theorem slice_of {T E : TypeId} (hT : Try.prog.underlying T = some (.slice E)) {c : Value} (h : TrdT enc W T [c]) : ∃ a n cap, c = .slice a n cap := by
  obtain ⟨fuel, x, hf⟩ := h
  rcases open_slice hT hf with ⟨hcs, _⟩ | ⟨a, l, c, m, n', D, Pl, hcs, _, hl, hm', hm, _, hx⟩
  · simp at hcs; exact ⟨_, _, _, hcs⟩
  · simp at hcs; exact ⟨_, _, _, hcs⟩
set_option maxRecDepth 100000 in
theorem type_of {cs : List Value} (hl : cs.length = 2) (h : TrdT enc W 73 cs) : ∃ k r, cs = [.int .i64 k, .int .i64 r] := by
  obtain ⟨fuel, x, hf⟩ := h
  obtain ⟨xs, n, _, rfl, _, hlen, hf⟩ := DataW.trod_struct Try.underlying73 hf
  match cs, hl with
  | [c0, c1], _ =>
    match xs, hlen with
    | [y0, y1], _ =>
      have h0 := hf 0 _ rfl
      have h1 := hf 1 _ rfl
      simp [cells3] at h0 h1
      obtain ⟨k, rfl⟩ := int_of ⟨_, _, h0⟩
      obtain ⟨r, rfl⟩ := int_of ⟨_, _, h1⟩
      exact ⟨k, r, rfl⟩

/- Rows out of their elements. -/
theorem list_of {α β : Type} {R : α → β → Prop} : ∀ (l : List α), (∀ a ∈ l, ∃ b, R a b) → ∃ m : List β, m.length = l.length ∧ ∀ (j : Nat) (a : α), l[j]? = some a → ∃ b, m[j]? = some b ∧ R a b
  | [], _ => ⟨[], rfl, fun j a e => by simp at e⟩
  | a :: l, h => by
    obtain ⟨b, hb⟩ := h a (by simp)
    obtain ⟨m, hm, hr⟩ := list_of l (fun x hx => h x (by simp [hx]))
    refine ⟨b :: m, by simp [hm], fun j x e => ?_⟩
    cases j with
    | zero => simp at e; subst e; exact ⟨b, rfl, hb⟩
    | succ j => simp at e; exact hr j x e
theorem at_of {α β : Type} {l : List α} {m : List β} (h : m.length = l.length) {j : Nat} {b : β} (e : m[j]? = some b) : ∃ a, l[j]? = some a := by
  have := (List.getElem?_eq_some_iff.1 e).1
  exact ⟨l[j]'(by omega), by rw [List.getElem?_eq_getElem]⟩

theorem srd_of {a : Option Addr} {n cap : Nat} (h : TrdT enc W 92 [.slice a n cap]) : ∃ ss : List ByteArray, n = ss.length ∧ n ≤ cap ∧ n ≤ 9223372036854775807 ∧ SRd W a ss := by
  obtain ⟨rows, hl, hrd, hel, hn, hc⟩ := rows_of Try.underlying92 cells9 (by omega) h
  obtain ⟨ss, hm, hr⟩ := list_of (R := fun r (s : ByteArray) => r = [.string s] ∧ s.size ≤ 9223372036854775807) rows (fun r hr => by
    obtain ⟨h1, h2⟩ := hel r hr
    match r, h1 with
    | [c], _ =>
      obtain ⟨s, rfl, hs⟩ := str_of h2
      exact ⟨s, rfl, hs⟩)
  refine ⟨ss, by omega, hc, hn, fun j s e => ?_⟩
  obtain ⟨r, hrr⟩ := at_of hm e
  obtain ⟨s', e', rfl, hz⟩ := hr j r hrr
  rw [e] at e'; cases e'
  obtain ⟨b, off, rfl, _, hcell⟩ := hrd j _ hrr
  have := hcell 0 (by omega)
  simp only [Nat.mul_one, Nat.add_zero, List.getElem?_cons_zero] at this
  exact ⟨hz, b, off, rfl, this⟩
theorem trd_of {a : Option Addr} {n cap : Nat} (h : TrdT enc W 93 [.slice a n cap]) : ∃ ts : List TyP, n = ts.length ∧ n ≤ 9223372036854775807 ∧ TRd W a ts := by
  obtain ⟨rows, hl, hrd, hel, hn, hc⟩ := rows_of Try.underlying93 cells28 (by omega) h
  obtain ⟨ts, hm, hr⟩ := list_of (R := fun r (t : TyP) => r = [.int .i64 t.1, .int .i64 t.2]) rows (fun r hr => by
    obtain ⟨h1, h2⟩ := hel r hr
    obtain ⟨k, q, rfl⟩ := type_of h1 h2
    exact ⟨(k, q), rfl⟩)
  refine ⟨ts, by omega, hn, fun j t e => ?_⟩
  obtain ⟨r, hrr⟩ := at_of hm e
  obtain ⟨t', e', rfl⟩ := hr j r hrr
  rw [e] at e'; cases e'
  obtain ⟨b, off, rfl, _, hcell⟩ := hrd j _ hrr
  have h0 := hcell 0 (by omega)
  have h1 := hcell 1 (by omega)
  simp only [Nat.add_zero, List.getElem?_cons_zero, List.getElem?_cons_succ] at h0 h1
  exact ⟨b, off, rfl, h0, h1⟩
set_option maxRecDepth 100000 in
theorem rec_of {cs : List Value} (hl : cs.length = 3) (h : TrdT enc W 95 cs) : ∃ p : RH × Rc, cs = p.1.cs ∧ RcRd W p.1 p.2 := by
  obtain ⟨fuel, x, hf⟩ := h
  obtain ⟨xs, n, _, rfl, _, hlen, hf⟩ := DataW.trod_struct Try.underlying95 hf
  match cs, hl with
  | [c0, c1, c2], _ =>
    match xs, hlen with
    | [y0, y1, y2], _ =>
      have h0 := hf 0 _ rfl
      have h1 := hf 1 _ rfl
      have h2 := hf 2 _ rfl
      simp [cells9, cells43, cells44] at h0 h1 h2
      obtain ⟨nm, rfl, hs⟩ := str_of ⟨_, _, h0⟩
      obtain ⟨fa, fn, fc, rfl⟩ := slice_of Try.underlying92 ⟨_, _, h1⟩
      obtain ⟨ta, tn, tc, rfl⟩ := slice_of Try.underlying93 ⟨_, _, h2⟩
      obtain ⟨ss, e1, e2, e3, e4⟩ := srd_of ⟨_, _, h1⟩
      obtain ⟨ts, q1, q2, q3⟩ := trd_of ⟨_, _, h2⟩
      exact ⟨(⟨nm, fa, fn, fc, ta, tn, tc⟩, ⟨nm, ss, ts⟩), rfl, rfl, hs, e1, e2, e3, e4, q1, q2, q3⟩
set_option maxRecDepth 100000 in
theorem map_of {cs : List Value} (hl : cs.length = 5) (h : TrdT enc W 75 cs) : ∃ m : Mp, cs = m.cs ∧ m.name.size ≤ 9223372036854775807 := by
  obtain ⟨fuel, x, hf⟩ := h
  obtain ⟨xs, n, _, rfl, _, hlen, hf⟩ := DataW.trod_struct Try.underlying75 hf
  match cs, hl with
  | [c0, c1, c2, c3, c4], _ =>
    match xs, hlen with
    | [y0, y1, y2], _ =>
      have h0 := hf 0 _ rfl
      have h1 := hf 1 _ rfl
      have h2 := hf 2 _ rfl
      simp [cells9, cells28] at h0 h1 h2
      obtain ⟨nm, rfl, hs⟩ := str_of ⟨_, _, h0⟩
      obtain ⟨k1, r1, e1⟩ := type_of rfl ⟨_, _, h1⟩
      obtain ⟨k2, r2, e2⟩ := type_of rfl ⟨_, _, h2⟩
      cases e1
      cases e2
      exact ⟨⟨nm, (k1, r1), (k2, r2)⟩, rfl, hs⟩
set_option maxRecDepth 100000 in
theorem sig_of {cs : List Value} (hl : cs.length = 4) (h : TrdT enc W 97 cs) : ∃ p : GH × Sg, cs = p.1.cs ∧ SgRd W p.1 p.2 := by
  obtain ⟨fuel, x, hf⟩ := h
  obtain ⟨xs, n, _, rfl, _, hlen, hf⟩ := DataW.trod_struct Try.underlying97 hf
  match cs, hl with
  | [c0, c1, c2, c3], _ =>
    match xs, hlen with
    | [y0, y1, y2], _ =>
      have h0 := hf 0 _ rfl
      have h1 := hf 1 _ rfl
      have h2 := hf 2 _ rfl
      simp [cells9, cells44, cells28] at h0 h1 h2
      obtain ⟨nm, rfl, hs⟩ := str_of ⟨_, _, h0⟩
      obtain ⟨pa, pn, pc, rfl⟩ := slice_of Try.underlying93 ⟨_, _, h1⟩
      obtain ⟨ts, q1, q2, q3⟩ := trd_of ⟨_, _, h1⟩
      obtain ⟨k, r, e1⟩ := type_of rfl ⟨_, _, h2⟩
      cases e1
      exact ⟨(⟨nm, pa, pn, pc, k, r⟩, ⟨nm, ts, (k, r)⟩), rfl, rfl, hs, q1, q2, q3, rfl⟩
theorem crd_map {α : Type} {a : Option Addr} {k : Nat} {rows : List (List Value)} {l : List α} (f : α → List Value) (h : CRd W a k rows) (hm : l.length = rows.length) (hr : ∀ (j : Nat) (r : List Value), rows[j]? = some r → ∃ x, l[j]? = some x ∧ r = f x) : CRd W a k (l.map f) := by
  intro j r e
  simp only [List.getElem?_map, Option.map_eq_some_iff] at e
  obtain ⟨x, hx, rfl⟩ := e
  obtain ⟨r, hrr⟩ := at_of hm hx
  obtain ⟨x', e', rfl⟩ := hr j r hrr
  rw [hx] at e'; cases e'
  exact h j _ hrr
theorem rrd_of {a : Option Addr} {n cap : Nat} (h : TrdT enc W 46 [.slice a n cap]) : ∃ rs, RRd W a n rs := by
  obtain ⟨rows, hl, hrd, hel, hn, hc⟩ := rows_of Try.underlying46 cells46 (by omega) h
  obtain ⟨ps, hm, hr⟩ := list_of (R := fun r (p : RH × Rc) => r = p.1.cs ∧ RcRd W p.1 p.2) rows (fun r hr => rec_of (hel r hr).1 (hel r hr).2)
  refine ⟨ps, by omega, hn, crd_map (fun p => p.1.cs) hrd hm (fun j r e => by obtain ⟨x, h1, h2, _⟩ := hr j r e; exact ⟨x, h1, h2⟩), fun p hp => ?_⟩
  obtain ⟨j, hj⟩ := List.getElem?_of_mem hp
  obtain ⟨r, hrr⟩ := at_of hm hj
  obtain ⟨x, h1, _, h3⟩ := hr j r hrr
  rw [hj] at h1; cases h1; exact h3
theorem mrd_of {a : Option Addr} {n cap : Nat} (h : TrdT enc W 47 [.slice a n cap]) : ∃ ms, MapRd W a n ms := by
  obtain ⟨rows, hl, hrd, hel, hn, hc⟩ := rows_of Try.underlying47 cells79 (by omega) h
  obtain ⟨ps, hm, hr⟩ := list_of (R := fun r (p : Mp) => r = p.cs ∧ p.name.size ≤ 9223372036854775807) rows (fun r hr => map_of (hel r hr).1 (hel r hr).2)
  refine ⟨ps, by omega, hn, crd_map Mp.cs hrd hm (fun j r e => by obtain ⟨x, h1, h2, _⟩ := hr j r e; exact ⟨x, h1, h2⟩), fun p hp => ?_⟩
  obtain ⟨j, hj⟩ := List.getElem?_of_mem hp
  obtain ⟨r, hrr⟩ := at_of hm hj
  obtain ⟨x, h1, _, h3⟩ := hr j r hrr
  rw [hj] at h1; cases h1; exact h3
theorem grd_of {a : Option Addr} {n cap : Nat} (h : TrdT enc W 48 [.slice a n cap]) : ∃ gs, GRd W a n gs := by
  obtain ⟨rows, hl, hrd, hel, hn, hc⟩ := rows_of Try.underlying48 cells48 (by omega) h
  obtain ⟨ps, hm, hr⟩ := list_of (R := fun r (p : GH × Sg) => r = p.1.cs ∧ SgRd W p.1 p.2) rows (fun r hr => sig_of (hel r hr).1 (hel r hr).2)
  refine ⟨ps, by omega, hn, crd_map (fun p => p.1.cs) hrd hm (fun j r e => by obtain ⟨x, h1, h2, _⟩ := hr j r e; exact ⟨x, h1, h2⟩), fun p hp => ?_⟩
  obtain ⟨j, hj⟩ := List.getElem?_of_mem hp
  obtain ⟨r, hrr⟩ := at_of hm hj
  obtain ⟨x, h1, _, h3⟩ := hr j r hrr
  rw [hj] at h1; cases h1; exact h3
set_option maxRecDepth 100000 in
theorem prog_of {cs : List Value} (hl : cs.length = 4) (h : TrdT enc W 50 cs) : ∃ (g : PH) (p : Pg), cs.toArray = #[.slice g.ra g.rn g.rc, .slice g.ma g.mn g.mc, .slice g.fa g.fn g.fc, .slice g.ea g.en g.ec] ∧ PRd W g p := by
  obtain ⟨fuel, x, hf⟩ := h
  obtain ⟨xs, n, _, rfl, _, hlen, hf⟩ := DataW.trod_struct Try.underlying50 hf
  match cs, hl with
  | [c0, c1, c2, c3], _ =>
    match xs, hlen with
    | [y0, y1, y2, y3], _ =>
      have h0 := hf 0 _ rfl
      have h1 := hf 1 _ rfl
      have h2 := hf 2 _ rfl
      have h3 := hf 3 _ rfl
      simp [cells22, cells23, cells24] at h0 h1 h2 h3
      obtain ⟨ra, rn, rc, rfl⟩ := slice_of Try.underlying46 ⟨_, _, h0⟩
      obtain ⟨ma, mn, mc, rfl⟩ := slice_of Try.underlying47 ⟨_, _, h1⟩
      obtain ⟨fa, fn, fc, rfl⟩ := slice_of Try.underlying48 ⟨_, _, h2⟩
      obtain ⟨ea, en, ec, rfl⟩ := slice_of Try.underlying48 ⟨_, _, h3⟩
      obtain ⟨rs, hr⟩ := rrd_of ⟨_, _, h0⟩
      obtain ⟨ms, hm⟩ := mrd_of ⟨_, _, h1⟩
      obtain ⟨gs, hg⟩ := grd_of ⟨_, _, h2⟩
      obtain ⟨es, he⟩ := grd_of ⟨_, _, h3⟩
      exact ⟨⟨ra, rn, rc, ma, mn, mc, fa, fn, fc, ea, en, ec⟩, ⟨rs, ms, gs, es⟩, rfl, hr, hm, hg, he⟩
set_option maxRecDepth 100000 in
theorem prog_arg {v : Value} {base : Nat} {d : DataW H} {p : List MemPlace} (hv : Value.okWide Try.prog W .any base 50 v) (h : DataW.Trod enc Try.prog W 0 (fun _ => true) true 50 v d p) : ∃ (g : PH) (q : Pg), v = g.v ∧ PRd W g q := by
  obtain ⟨cs, rfl, hs⟩ := okWide_struct Try.underlying50 hv
  obtain ⟨m, hm⟩ := h
  have hlen : cs.toList.length = 4 := by
    have hm' := hm
    obtain ⟨xs, n, _, _, hl, _, _⟩ := DataW.trod_struct Try.underlying50 hm'
    rw [cells26] at hl; exact hl
  obtain ⟨g, q, e, hp⟩ := prog_of (cs := cs.toList) hlen ⟨_, _, hm⟩
  refine ⟨g, q, ?_, hp⟩
  have : cs = #[.slice g.ra g.rn g.rc, .slice g.ma g.mn g.mc, .slice g.fa g.fn g.fc, .slice g.ea g.en g.ec] := by rw [← e]
  rw [this]; rfl
end
end Go.Proofs.Ytenfgahedbeekaa

