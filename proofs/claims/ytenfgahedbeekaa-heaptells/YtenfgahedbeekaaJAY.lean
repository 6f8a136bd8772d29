/- Entries copied within a row; an entry written. -/
import Derived.Test.YtenfgahedbeekaaJAX
import Derived.Laws.IdiomCopy
namespace Go.Proofs.Ytenfgahedbeekaa
open Go.RowKit Go.Deep Go.Shelf
set_option linter.unusedVariables false
set_option linter.unusedSimpArgs false

theorem run_copyE (w : World) (ty : TypeId) (b o dLen dCap : Nat) (a : Addr) (sLen sCap n : Nat) (cs : List Value) (hn : n = Nat.min sLen dLen) (hl : cs.length = n * 10)
    (hsrc : ∀ j v, cs[j]? = some v → w.cell? (a.add j) = some v) (hc : ∀ j, j < cs.length → (w.cell? ⟨b, o + j, none⟩).isSome = true) (hf : ∀ j, j < cs.length → w.frozen? ⟨b, o + j, none⟩ = false) (h1 : ∀ v ∈ cs, v.oneCell' = true) :
    (Builtin.copy_ #[70, 70] ty #[.slice (some ⟨b, o, none⟩) dLen dCap, .slice (some a) sLen sCap]).run Try.prog w = .ok (goInt n) (w.setCells b o cs) := by
  have hld := run_loadCells_list (P := Try.prog) w a cs hsrc
  have hst := run_storeCells_cells (P := Try.prog) b o cs 0 w (by simpa using hc) (by simpa using hf) h1
  obtain ⟨i0, hi, hz0, hz1, hz2⟩ := info_parts info81
  subst hn
  rw [hl] at hld
  simp [Builtin.copy_, run_underlying Try.underlying70, Builtin.lenOf, Builtin.firstCells, sizeOf, typeInfo, hi, hz1, hld, hst]
theorem setCells_heap (b : Nat) : ∀ (vs : List Value) (o : Nat) (w : World) (x : Nat), x ≠ b → (w.setCells b o vs).heap[x]? = w.heap[x]?
  | [], _, _, _, _ => rfl
  | v :: r, o, w, x, h => by rw [World.setCells, setCells_heap b r (o + 1) _ x h, Below.heap_setCell _ _ _ _ h]
theorem setCells_size (b : Nat) : ∀ (vs : List Value) (o : Nat) (w : World), (w.setCells b o vs).heap.size = w.heap.size
  | [], _, _ => rfl
  | v :: r, o, w => by rw [World.setCells, setCells_size b r (o + 1)]; simp [World.setCell]
theorem setCells_below (b : Nat) {B : Nat} {w0 : World} (hB : B ≤ b) : ∀ (vs : List Value) (o : Nat) (w : World), Below B w0 w → Below B w0 (w.setCells b o vs)
  | [], _, _, h => h
  | v :: r, o, w, h => by rw [World.setCells]; exact setCells_below b hB r (o + 1) _ (h.setCell (p := ⟨b, o, none⟩) hB _)
/- Behind the copy: the entries from d on stand one further. -/
theorem ERd.shift {w : World} {g : Nat} {es : List En} (z : En) (d : Nat) (hd : d ≤ es.length) (h : ERd w (some ⟨g, 0, none⟩) (es ++ [z])) :
    ERd (w.setCells g ((d + 1) * 10) (ee (es.drop d))) (some ⟨g, 0, none⟩) ((es ++ [z]).take (d + 1) ++ es.drop d) := by
  have hcell : ∀ (j : Nat) (y : En), (es ++ [z])[j]? = some y → ∀ t, t < 10 → w.cell? ⟨g, j * 10 + t, none⟩ = y.cs[t]? := fun j y hy t ht => by
    obtain ⟨b, off, e, hc⟩ := h j y hy
    cases e
    have := hc t ht
    rw [Nat.zero_add] at this
    exact this
  have hlen : (ee (es.drop d)).length = (es.length - d) * 10 := by rw [ee_length, List.length_drop]
  have hsome : ∀ (y : En) (t : Nat), t < 10 → (y.cs[t]?).isSome = true := fun y t ht => by
    have : y.cs.length = 10 := rfl
    rw [List.getElem?_eq_getElem (by omega)]; rfl
  have hin : ∀ j, j < (ee (es.drop d)).length → (w.cell? ⟨g, (d + 1) * 10 + j, none⟩).isSome = true := fun j hj => by
    rw [hlen] at hj
    have hq : d + 1 + j / 10 < (es ++ [z]).length := by rw [List.length_append]; simp; omega
    have := hcell (d + 1 + j / 10) (es ++ [z])[d + 1 + j / 10] (List.getElem?_eq_getElem hq) (j % 10) (by omega)
    rw [show (d + 1) * 10 + j = (d + 1 + j / 10) * 10 + j % 10 from by omega, this]
    exact hsome _ _ (by omega)
  intro j y hy
  refine ⟨g, 0, rfl, fun t ht => ?_⟩
  rw [Nat.zero_add]
  have hl1 : ((es ++ [z]).take (d + 1)).length = d + 1 := by rw [List.length_take, List.length_append]; simp; omega
  rcases Nat.lt_or_ge j (d + 1) with hj | hj
  · rw [List.getElem?_append_left (by omega), List.getElem?_take, if_pos hj] at hy
    rw [World.cell?_setCells_out g _ _ _ _ (fun _ _ => .inl (by show j * 10 + t < (d + 1) * 10; omega))]
    exact hcell j y hy t ht
  · rw [List.getElem?_append_right (by omega), hl1] at hy
    have hjl := (List.getElem?_eq_some_iff.1 hy).1
    rw [List.length_drop] at hjl
    have hlt : (j - (d + 1)) * 10 + t < (ee (es.drop d)).length := by rw [hlen]; omega
    have h1 := World.cell?_setCells_in g (ee (es.drop d)) ((d + 1) * 10) w hin ((j - (d + 1)) * 10 + t) hlt
    rw [show (d + 1) * 10 + ((j - (d + 1)) * 10 + t) = j * 10 + t from by omega] at h1
    rw [h1, ← ee_at (es.drop d) (j - (d + 1)) y hy t ht, List.getElem?_eq_getElem hlt]
/- An entry written. -/
theorem ERd.set10 {w : World} {g : Nat} {es : List En} (h : ERd w (some ⟨g, 0, none⟩) es) (i : Nat) (hi : i < es.length) (x y : Hd) : ERd (five (five w g (i * 10) x) g (i * 10 + 5) y) (some ⟨g, 0, none⟩) (es.set i ⟨x, y⟩) := by
  have hcell : ∀ (j : Nat) (z : En), es[j]? = some z → ∀ t, t < 10 → w.cell? ⟨g, j * 10 + t, none⟩ = z.cs[t]? := fun j z hz t ht => by
    obtain ⟨b, off, e, hc⟩ := h j z hz
    cases e
    have := hc t ht
    rw [Nat.zero_add] at this
    exact this
  have hsome : ∀ t, t < 10 → (w.cell? ⟨g, i * 10 + t, none⟩).isSome = true := fun t ht => by
    rw [hcell i es[i] (List.getElem?_eq_getElem hi) t ht]
    have : (es[i]).cs.length = 10 := rfl
    rw [List.getElem?_eq_getElem (by omega)]; rfl
  have hsome2 : ∀ t, t < 5 → ((five w g (i * 10) x).cell? ⟨g, i * 10 + 5 + t, none⟩).isSome = true := fun t ht => by
    rw [five_cell_out _ _ _ _ _ (fun _ => .inr (by show i * 10 + 5 ≤ i * 10 + 5 + t; omega)), show i * 10 + 5 + t = i * 10 + (5 + t) from by omega]
    exact hsome (5 + t) (by omega)
  intro j z hz
  refine ⟨g, 0, rfl, fun t ht => ?_⟩
  rw [Nat.zero_add]
  by_cases hj : i = j
  · subst hj
    rw [List.getElem?_set_self hi] at hz
    cases hz
    rcases Nat.lt_or_ge t 5 with h5 | h5
    · rw [five_cell_out _ _ _ _ _ (fun _ => .inl (by show i * 10 + t < i * 10 + 5; omega)), five_cell_in w g (i * 10) x (fun a ha => hsome a (by omega)) t h5]
      clear hsome hsome2 hcell h ht
      rcases t with _ | _ | _ | _ | _ | t
      · rfl
      · rfl
      · rfl
      · rfl
      · rfl
      · omega
    · obtain ⟨u, rfl⟩ : ∃ u, t = 5 + u := ⟨t - 5, by omega⟩
      rw [show i * 10 + (5 + u) = i * 10 + 5 + u from by omega, five_cell_in _ g (i * 10 + 5) y hsome2 u (by omega)]
      have hu5 : u < 5 := by omega
      clear hsome hsome2 hcell h ht h5
      rcases u with _ | _ | _ | _ | _ | u
      · rfl
      · rfl
      · rfl
      · rfl
      · rfl
      · omega
  · rw [List.getElem?_set_ne hj] at hz
    rw [five_cell_out _ _ _ _ _ (fun _ => by show j * 10 + t < i * 10 + 5 ∨ i * 10 + 5 + 5 ≤ j * 10 + t; omega), five_cell_out _ _ _ _ _ (fun _ => by show j * 10 + t < i * 10 ∨ i * 10 + 5 ≤ j * 10 + t; omega), hcell j z hz t ht]
end Go.Proofs.Ytenfgahedbeekaa

namespace Go.Proofs.Ytenfgahedbeekaa
open Go.RowKit Go.Deep Go.Shelf
set_option linter.unusedVariables false
set_option linter.unusedSimpArgs false

set_option maxRecDepth 100000 in
set_option maxHeartbeats 2000000 in
theorem refStSame_any (k : Nat) (w : World) (a : Option Addr) (n cap : Nat) (ps : List (Sl × Rw k)) (b : Option Addr) (m cap2 : Nat) (qs : List (Sl × Rw k)) (hp : StR k w a n ps) (hq : StR k w b m qs) :
    Calls Try.prog 14 #[.agg #[.slice a n cap], .agg #[.slice b m cap2]] w fun e w' => e = .returned (.bool (stB k ps qs)) ∧ Below w.heap.size w w' := by
  have hb := boxes2 w #[.slice a n cap] #[.slice b m cap2] 27 27
  have P := hid hp
  have Q := hid hq
  have Hn := hid hp.n1
  have Hm := hid hq.n1
  have hn2 := hp.n2
  have hm2 := hq.n2
  have hn3 : (n : Int) ≤ 1000 := by omega
  have hm3 : (m : Int) ≤ 1000 := by omega
  have HB := hid hb
  have n1 := heap_alloc_new w (.cells #[.slice a n cap] 27)
  have n2 := heap_alloc_new (w.alloc (.cells #[.slice a n cap] 27)) (.cells #[.slice b m cap2] 27)
  simp only [World.size_alloc] at n2
  obtain ⟨W0, hW0⟩ : ∃ W0, W0 = (w.alloc (.cells #[.slice a n cap] 27)).alloc (.cells #[.slice b m cap2] 27) := ⟨_, rfl⟩
  have q1 : W0.heap[w.heap.size]? = some (.cells #[.slice a n cap] 27 (0, 0)) := by rw [hW0]; exact (Below.heap_alloc _ _ _ (Array.getElem?_eq_some_iff.1 n1).1).trans n1
  have q2 : W0.heap[w.heap.size + 1]? = some (.cells #[.slice b m cap2] 27 (0, 0)) := by rw [hW0]; exact n2
  have hz0 : W0.heap.size = w.heap.size + 2 := by rw [hW0]; simp
  rw [← hW0] at HB
  have FX : Hid (∀ w2 : World, Below W0.heap.size W0 w2 → w2.cell? ⟨w.heap.size, 0, none⟩ = some (.slice a n cap) ∧ w2.cell? ⟨w.heap.size + 1, 0, none⟩ = some (.slice b m cap2) ∧ Below w.heap.size w w2) := hid (fun w2 hb => by
    have bx := (hb.block _ (Array.getElem?_eq_some_iff.1 q1).1).trans q1
    have bz := (hb.block _ (Array.getElem?_eq_some_iff.1 q2).1).trans q2
    exact ⟨cellOf bx 0, cellOf bz 0, HB.out.trans (hb.mono HB.out.size)⟩)
  have TR : Hid (∀ {Z x y : World}, Below Z.heap.size Z x → Below x.heap.size x y → Below Z.heap.size Z y) := hid (fun h1 h2 => h1.trans (h2.mono h1.size))
  obtain ⟨c0, c1, _⟩ := FX.out W0 (Below.refl _ _)
  clear hp hq hb n1 n2 q1 q2 hz0
  obtain ⟨res, hres⟩ : ∃ res, res = stB k ps qs := ⟨_, rfl⟩
  rw [← hres]
  have Hres := hid hres
  clear hres
  by_cases hnm : n = m
  · subst hnm
    go_enter Try.func14, Try.ntmps14
    go_upto_region 1 with fail
    rw [← hW0]
    clear hW0
    go_wp2
    go_loopg [5] n (fun g ii wr => ∃ i : Nat, i + g = n ∧ ii = .int .i64 (i : Int) ∧ Below W0.heap.size W0 wr ∧ res = stB k (ps.drop i) (qs.drop i))
    case atStart => exact ⟨0, by omega, rfl, Below.refl _ _, by simpa using Hres.out⟩
    case round =>
      obtain ⟨i, hi', rfl, hbr, hrs⟩ := hrel
      have Hbr := hid hbr
      have Hrs := hid hrs
      obtain ⟨s0, s1, hbw⟩ := FX.out wr hbr
      have Hbw := hid hbw
      cases gk with
      | zero =>
        have hin : i = n := by omega
        subst hin
        clear hi' hbr hrs hbw
        go_wp2
        go_ret
        refine ⟨?_, Hbw.out⟩
        rw [Hrs.out, List.drop_of_length_le (by rw [← Hn.out]; exact Nat.le_refl _), List.drop_of_length_le (by rw [← Hm.out]; exact Nat.le_refl _)]; rfl
      | succ gi =>
        have hlt0 : i < n := by omega
        have hlt : (i : Int) < (n : Int) := by omega
        have hi00 : (0 : Int) ≤ (i : Int) := by omega
        obtain ⟨p, hp⟩ : ∃ p, ps[i]? = some p := ⟨ps[i]'(by rw [← Hn.out]; exact hlt0), List.getElem?_eq_getElem _⟩
        obtain ⟨q, hq⟩ : ∃ q, qs[i]? = some q := ⟨qs[i]'(by rw [← Hm.out]; exact hlt0), List.getElem?_eq_getElem _⟩
        have hP := P.out
        have hQ := Q.out
        obtain ⟨B1, O1, ea, s2⟩ := (hP.below (Nat.le_refl _) hbw).rd i p.1 (by rw [List.getElem?_map, hp]; rfl)
        subst ea
        obtain ⟨B2, O2, ea, s3⟩ := (hQ.below (Nat.le_refl _) hbw).rd i q.1 (by rw [List.getElem?_map, hq]; rfl)
        subst ea
        have p1 := (hP.el p (List.mem_of_getElem? hp)).1
        have q1 := (hQ.el q (List.mem_of_getElem? hq)).1
        have Hst := hid (stB_drop hp hq)
        obtain ⟨⟨ya, yn, yc⟩, yr⟩ := p
        obtain ⟨⟨za, zn, zc⟩, zr⟩ := q
        simp only [Sl.v] at s2 s3
        simp only at p1 q1 Hst
        have HP := hid p1
        have HQ := hid q1
        have Hyn := hid p1.n1
        have Hzn := hid q1.n1
        have hyn2 := p1.n2
        have hzn2 := q1.n2
        have hyn3 : (yn : Int) ≤ 1000 := by omega
        have hzn3 : (zn : Int) ≤ 1000 := by omega
        have Hi := hid hi'
        have FY : Hid (∀ w2 : World, Below W0.heap.size W0 w2 → w2.cell? ⟨B1, O1 + i, none⟩ = some (.slice ya yn yc) ∧ w2.cell? ⟨B2, O2 + i, none⟩ = some (.slice za zn zc)) := hid (fun w2 hb => by
          obtain ⟨_, _, hb2⟩ := FX.out w2 hb
          obtain ⟨x1, x2, e1, e2⟩ := (P.out.below (Nat.le_refl _) hb2).rd i ⟨ya, yn, yc⟩ (by rw [List.getElem?_map, hp]; rfl)
          cases e1
          obtain ⟨x3, x4, e1, e3⟩ := (Q.out.below (Nat.le_refl _) hb2).rd i ⟨za, zn, zc⟩ (by rw [List.getElem?_map, hq]; rfl)
          cases e1
          exact ⟨e2, e3⟩)
        clear hbr hrs hi' hp hq hP hQ p1 q1 hbw P Q
        by_cases hyz : yn = zn
        · subst hyz
          go_wp2
          go_quiet (fail)
          go_wp2
          clear s0 s1 s2 s3
          go_loopg [6] yn (fun g2 jj wr2 => ∃ j : Nat, j + g2 = yn ∧ jj = .int .i64 (j : Int) ∧ Below W0.heap.size W0 wr2 ∧ rowB k yr zr = rowB k (yr.drop j) (zr.drop j))
          case atStart => exact ⟨0, by omega, rfl, Hbr.out.trans ⟨rfl, rfl, rfl, Nat.le_refl _, fun _ _ => rfl⟩, rfl⟩
          case round =>
            obtain ⟨j, hj', rfl, hbr2, hrs2⟩ := hrel
            have Hbr2 := hid hbr2
            have Hrs2 := hid hrs2
            have Hj := hid hj'
            obtain ⟨s0, s1, hbw⟩ := FX.out _ hbr2
            obtain ⟨s2, s3⟩ := FY.out _ hbr2
            cases gk with
            | zero =>
              have hin : j = yn := by omega
              subst hin
              clear hj' hbr2 hrs2 hbw
              go_wp2
              go_roundg gi
              case measure => omega
              case rel =>
                refine ⟨i + 1, by have := Hi.out; omega, by go_num, Hbr2.out, ?_⟩
                rw [Hrs.out, Hst.out, Hrs2.out, List.drop_of_length_le (by rw [← Hyn.out]; exact Nat.le_refl _), List.drop_of_length_le (by rw [← Hzn.out]; exact Nat.le_refl _)]; rfl
            | succ gj =>
              have hjl0 : j < yn := by omega
              have hjl : (j : Int) < (yn : Int) := by omega
              have hj00 : (0 : Int) ≤ (j : Int) := by omega
              obtain ⟨p, hp⟩ : ∃ p, yr[j]? = some p := ⟨yr[j]'(by rw [← Hyn.out]; exact hjl0), List.getElem?_eq_getElem _⟩
              obtain ⟨q, hq⟩ : ∃ q, zr[j]? = some q := ⟨zr[j]'(by rw [← Hzn.out]; exact hjl0), List.getElem?_eq_getElem _⟩
              obtain ⟨b3, o3, ea, dh⟩ := (HP.out.below (Nat.le_refl _) hbw).rd j (enT k p) (by rw [List.getElem?_map, hp]; rfl)
              subst ea
              obtain ⟨b4, o4, ea, gh⟩ := (HQ.out.below (Nat.le_refl _) hbw).rd j (enT k q) (by rw [List.getElem?_map, hq]; rfl)
              subst ea
              have d0 := dh 0 (by omega)
              have f0 := gh 0 (by omega)
              have d1 := dh 1 (by omega)
              have f1 := gh 1 (by omega)
              have d2 := dh 2 (by omega)
              have f2 := gh 2 (by omega)
              have d3 := dh 3 (by omega)
              have f3 := gh 3 (by omega)
              have d4 := dh 4 (by omega)
              have f4 := gh 4 (by omega)
              have d5 := dh 5 (by omega)
              have f5 := gh 5 (by omega)
              have d6 := dh 6 (by omega)
              have f6 := gh 6 (by omega)
              have d7 := dh 7 (by omega)
              have f7 := gh 7 (by omega)
              have d8 := dh 8 (by omega)
              have f8 := gh 8 (by omega)
              have d9 := dh 9 (by omega)
              have f9 := gh 9 (by omega)
              simp only [En.cs, enT, List.getElem?_cons_zero, List.getElem?_cons_succ, Nat.add_zero] at d0 d1 d2 d3 d4 d5 d6 d7 d8 d9 f0 f1 f2 f3 f4 f5 f6 f7 f8 f9
              have Hst2 := hid (rowB_drop hp hq)
              have CK := hid (fun (w1 : World) (hb : Below w.heap.size w w1) => refSame k w1 p.1 q.1 (((HP.out.below (Nat.le_refl _) hb).el p (List.mem_of_getElem? hp)).1) (((HQ.out.below (Nat.le_refl _) hb).el q (List.mem_of_getElem? hq)).1))
              have CV := hid (fun (w1 : World) (hb : Below w.heap.size w w1) => refSame k w1 p.2 q.2 (((HP.out.below (Nat.le_refl _) hb).el p (List.mem_of_getElem? hp)).2) (((HQ.out.below (Nat.le_refl _) hb).el q (List.mem_of_getElem? hq)).2))
              unfold entB at Hst2
              obtain ⟨E1, hE1⟩ : ∃ E, E = (cmpT k p.1 q.1 == 0) := ⟨_, rfl⟩
              obtain ⟨E2, hE2⟩ : ∃ E, E = (cmpT k p.2 q.2 == 0) := ⟨_, rfl⟩
              rw [← hE1] at CK Hst2
              rw [← hE2] at CV Hst2
              clear hE1 hE2
              generalize hdT k p.1 = h1 at *
              generalize hdT k p.2 = h2 at *
              generalize hdT k q.1 = h3 at *
              generalize hdT k q.2 = h4 at *
              obtain ⟨xk, xi, xt, xr, xa, xn, xc⟩ := h1
              obtain ⟨gk2, gi2, gt2, gr2, ga2, gn2, gc2⟩ := h2
              obtain ⟨uk, ui, ut, ur, ua, un, uc⟩ := h3
              obtain ⟨vk, vi, vt, vr, va, vn, vc⟩ := h4
              simp only [Hd.v] at CK CV d0 d1 d2 d3 d4 d5 d6 d7 d8 d9 f0 f1 f2 f3 f4 f5 f6 f7 f8 f9
              have SE : Hid (∀ W' : World, Below wr.heap.size wr W' → (W'.cell? ⟨w.heap.size, 0, none⟩ = some (.slice (some ⟨B1, O1, none⟩) n cap) ∧ W'.cell? ⟨w.heap.size + 1, 0, none⟩ = some (.slice (some ⟨B2, O2, none⟩) n cap2) ∧ W'.cell? ⟨B1, O1 + i, none⟩ = some (.slice (some ⟨b3, o3, none⟩) yn yc) ∧ W'.cell? ⟨B2, O2 + i, none⟩ = some (.slice (some ⟨b4, o4, none⟩) yn zc) ∧ W'.cell? ⟨b3, o3 + j * 10, none⟩ = some (.int .i64 xk) ∧ W'.cell? ⟨b3, o3 + j * 10 + 1, none⟩ = some (.int .i64 xi) ∧ W'.cell? ⟨b3, o3 + j * 10 + 2, none⟩ = some (.string xt) ∧ W'.cell? ⟨b3, o3 + j * 10 + 3, none⟩ = some (.int .i64 xr) ∧ W'.cell? ⟨b3, o3 + j * 10 + 4, none⟩ = some (.slice xa xn xc) ∧ W'.cell? ⟨b3, o3 + j * 10 + 5, none⟩ = some (.int .i64 gk2) ∧ W'.cell? ⟨b3, o3 + j * 10 + 6, none⟩ = some (.int .i64 gi2) ∧ W'.cell? ⟨b3, o3 + j * 10 + 7, none⟩ = some (.string gt2) ∧ W'.cell? ⟨b3, o3 + j * 10 + 8, none⟩ = some (.int .i64 gr2) ∧ W'.cell? ⟨b3, o3 + j * 10 + 9, none⟩ = some (.slice ga2 gn2 gc2) ∧ W'.cell? ⟨b4, o4 + j * 10, none⟩ = some (.int .i64 uk) ∧ W'.cell? ⟨b4, o4 + j * 10 + 1, none⟩ = some (.int .i64 ui) ∧ W'.cell? ⟨b4, o4 + j * 10 + 2, none⟩ = some (.string ut) ∧ W'.cell? ⟨b4, o4 + j * 10 + 3, none⟩ = some (.int .i64 ur) ∧ W'.cell? ⟨b4, o4 + j * 10 + 4, none⟩ = some (.slice ua un uc) ∧ W'.cell? ⟨b4, o4 + j * 10 + 5, none⟩ = some (.int .i64 vk) ∧ W'.cell? ⟨b4, o4 + j * 10 + 6, none⟩ = some (.int .i64 vi) ∧ W'.cell? ⟨b4, o4 + j * 10 + 7, none⟩ = some (.string vt) ∧ W'.cell? ⟨b4, o4 + j * 10 + 8, none⟩ = some (.int .i64 vr) ∧ W'.cell? ⟨b4, o4 + j * 10 + 9, none⟩ = some (.slice va vn vc)) ∧ Below w.heap.size w W' ∧ Below W0.heap.size W0 W') := hid (fun W' hb => by
                have hl : ∀ (p : Addr) (v : Value), wr.cell? p = some v → W'.cell? p = some v := fun p v h => (hb.cell (World.block_lt_of_cell? wr p h)).trans h
                exact ⟨⟨hl _ _ s0, hl _ _ s1, hl _ _ s2, hl _ _ s3, hl _ _ d0, hl _ _ d1, hl _ _ d2, hl _ _ d3, hl _ _ d4, hl _ _ d5, hl _ _ d6, hl _ _ d7, hl _ _ d8, hl _ _ d9, hl _ _ f0, hl _ _ f1, hl _ _ f2, hl _ _ f3, hl _ _ f4, hl _ _ f5, hl _ _ f6, hl _ _ f7, hl _ _ f8, hl _ _ f9⟩, hbw.trans (hb.mono hbw.size), hbr2.trans (hb.mono hbr2.size)⟩)
              have R0 := hid ((Below.refl wr.heap.size wr).drew)
              clear hj' hbr2 hrs2 hbw dh gh hp hq
              cases E1 with
              | false =>
                have HF : Hid (res = false) := hid (by rw [Hrs.out, Hst.out, Hrs2.out, Hst2.out]; rfl)
                go_wp2
                refine wp_region_held_drew (S := fun W' => W'.cell? ⟨w.heap.size, 0, none⟩ = some (.slice (some ⟨B1, O1, none⟩) n cap) ∧ W'.cell? ⟨w.heap.size + 1, 0, none⟩ = some (.slice (some ⟨B2, O2, none⟩) n cap2) ∧ W'.cell? ⟨B1, O1 + i, none⟩ = some (.slice (some ⟨b3, o3, none⟩) yn yc) ∧ W'.cell? ⟨B2, O2 + i, none⟩ = some (.slice (some ⟨b4, o4, none⟩) yn zc) ∧ W'.cell? ⟨b3, o3 + j * 10, none⟩ = some (.int .i64 xk) ∧ W'.cell? ⟨b3, o3 + j * 10 + 1, none⟩ = some (.int .i64 xi) ∧ W'.cell? ⟨b3, o3 + j * 10 + 2, none⟩ = some (.string xt) ∧ W'.cell? ⟨b3, o3 + j * 10 + 3, none⟩ = some (.int .i64 xr) ∧ W'.cell? ⟨b3, o3 + j * 10 + 4, none⟩ = some (.slice xa xn xc) ∧ W'.cell? ⟨b3, o3 + j * 10 + 5, none⟩ = some (.int .i64 gk2) ∧ W'.cell? ⟨b3, o3 + j * 10 + 6, none⟩ = some (.int .i64 gi2) ∧ W'.cell? ⟨b3, o3 + j * 10 + 7, none⟩ = some (.string gt2) ∧ W'.cell? ⟨b3, o3 + j * 10 + 8, none⟩ = some (.int .i64 gr2) ∧ W'.cell? ⟨b3, o3 + j * 10 + 9, none⟩ = some (.slice ga2 gn2 gc2) ∧ W'.cell? ⟨b4, o4 + j * 10, none⟩ = some (.int .i64 uk) ∧ W'.cell? ⟨b4, o4 + j * 10 + 1, none⟩ = some (.int .i64 ui) ∧ W'.cell? ⟨b4, o4 + j * 10 + 2, none⟩ = some (.string ut) ∧ W'.cell? ⟨b4, o4 + j * 10 + 3, none⟩ = some (.int .i64 ur) ∧ W'.cell? ⟨b4, o4 + j * 10 + 4, none⟩ = some (.slice ua un uc) ∧ W'.cell? ⟨b4, o4 + j * 10 + 5, none⟩ = some (.int .i64 vk) ∧ W'.cell? ⟨b4, o4 + j * 10 + 6, none⟩ = some (.int .i64 vi) ∧ W'.cell? ⟨b4, o4 + j * 10 + 7, none⟩ = some (.string vt) ∧ W'.cell? ⟨b4, o4 + j * 10 + 8, none⟩ = some (.int .i64 vr) ∧ W'.cell? ⟨b4, o4 + j * 10 + 9, none⟩ = some (.slice va vn vc)) (by kernel_rfl) (SE.out _ R0.out).1 (fun hHeld => ?_)
                refine wpAnyH_take (i := 0) (oi := { dst := some 44, op := Op.fieldAddr 27 (Operand.tmp 2) 0, type := 0, pos := "windlassref4.go:186", after := #[], guard := none }) (v := .pointer (some ⟨w.heap.size, 0, none⟩)) rfl (by kernel_rfl) (by kernel_rfl) (by kernel_rfl) (fun _ _ _ h => h) (Or.inl ⟨by rfl, ?_⟩) (by assumption) ?_
                · intro w hSw; (try dsimp only at hSw); go_simp
                try simp only [Act.put, List.setIfInBounds_toArray, List.set_cons_zero, List.set_cons_succ]
                refine wpAnyH_take (i := 1) (oi := { dst := some 45, op := Op.load 25 (Operand.tmp 44), type := 25, pos := "windlassref4.go:186", after := #[{ on := 0, ground := Ground.data }], guard := none }) (v := .slice (some ⟨B1, O1, none⟩) n cap) rfl (by kernel_rfl) (by kernel_rfl) (by kernel_rfl) (fun _ _ _ h => h) (Or.inl ⟨by rfl, ?_⟩) (by assumption) ?_
                · intro w hSw; (try dsimp only at hSw); go_simp
                try simp only [Act.put, List.setIfInBounds_toArray, List.set_cons_zero, List.set_cons_succ]
                refine wpAnyH_take (i := 2) (oi := { dst := some 46, op := Op.move (Operand.tmp 5), type := 3, pos := "windlassref4.go:186", after := #[], guard := none }) (v := .int .i64 (i : Int)) rfl (by kernel_rfl) (by kernel_rfl) (by kernel_rfl) (fun _ _ _ h => h) (Or.inl ⟨by rfl, ?_⟩) (by assumption) ?_
                · intro w hSw; (try dsimp only at hSw); go_simp
                try simp only [Act.put, List.setIfInBounds_toArray, List.set_cons_zero, List.set_cons_succ]
                refine wpAnyH_take (i := 3) (oi := { dst := some 47, op := Op.indexAddr 25 (Operand.tmp 45) (Operand.tmp 46), type := 0, pos := "windlassref4.go:186", after := #[{ on := 1, ground := Ground.data }, { on := 2, ground := Ground.data }], guard := none }) (v := .pointer (some ⟨B1, O1 + i, none⟩)) rfl (by kernel_rfl) (by kernel_rfl) (by kernel_rfl) (fun _ _ _ h => h) (Or.inl ⟨by rfl, ?_⟩) (by assumption) ?_
                · intro w hSw; (try dsimp only at hSw); go_simp
                try simp only [Act.put, List.setIfInBounds_toArray, List.set_cons_zero, List.set_cons_succ]
                refine wpAnyH_take (i := 4) (oi := { dst := some 48, op := Op.load 70 (Operand.tmp 47), type := 70, pos := "windlassref4.go:186", after := #[{ on := 3, ground := Ground.data }], guard := none }) (v := .slice (some ⟨b3, o3, none⟩) yn yc) rfl (by kernel_rfl) (by kernel_rfl) (by kernel_rfl) (fun _ _ _ h => h) (Or.inl ⟨by rfl, ?_⟩) (by assumption) ?_
                · intro w hSw; (try dsimp only at hSw); go_simp
                try simp only [Act.put, List.setIfInBounds_toArray, List.set_cons_zero, List.set_cons_succ]
                refine wpAnyH_take (i := 5) (oi := { dst := some 49, op := Op.move (Operand.tmp 6), type := 3, pos := "windlassref4.go:186", after := #[], guard := none }) (v := .int .i64 (j : Int)) rfl (by kernel_rfl) (by kernel_rfl) (by kernel_rfl) (fun _ _ _ h => h) (Or.inl ⟨by rfl, ?_⟩) (by assumption) ?_
                · intro w hSw; (try dsimp only at hSw); go_simp
                try simp only [Act.put, List.setIfInBounds_toArray, List.set_cons_zero, List.set_cons_succ]
                refine wpAnyH_take (i := 6) (oi := { dst := some 50, op := Op.indexAddr 70 (Operand.tmp 48) (Operand.tmp 49), type := 0, pos := "windlassref4.go:186", after := #[{ on := 4, ground := Ground.data }, { on := 5, ground := Ground.data }], guard := none }) (v := .pointer (some ⟨b3, o3 + j * 10, none⟩)) rfl (by kernel_rfl) (by kernel_rfl) (by kernel_rfl) (fun _ _ _ h => h) (Or.inl ⟨by rfl, ?_⟩) (by assumption) ?_
                · intro w hSw; (try dsimp only at hSw); go_simp
                try simp only [Act.put, List.setIfInBounds_toArray, List.set_cons_zero, List.set_cons_succ]
                refine wpAnyH_take (i := 7) (oi := { dst := some 51, op := Op.fieldAddr 81 (Operand.tmp 50) 0, type := 0, pos := "windlassref4.go:186", after := #[{ on := 6, ground := Ground.data }], guard := none }) (v := .pointer (some ⟨b3, o3 + j * 10, none⟩)) rfl (by kernel_rfl) (by kernel_rfl) (by kernel_rfl) (fun _ _ _ h => h) (Or.inl ⟨by rfl, ?_⟩) (by assumption) ?_
                · intro w hSw; (try dsimp only at hSw); go_simp
                try simp only [Act.put, List.setIfInBounds_toArray, List.set_cons_zero, List.set_cons_succ]
                refine wpAnyH_take (i := 8) (oi := { dst := some 52, op := Op.load 31 (Operand.tmp 51), type := 31, pos := "windlassref4.go:186", after := #[{ on := 7, ground := Ground.data }], guard := none }) (v := .agg #[.int .i64 xk, .int .i64 xi, .string xt, .int .i64 xr, .slice xa xn xc]) rfl (by kernel_rfl) (by kernel_rfl) (by kernel_rfl) (fun _ _ _ h => h) (Or.inl ⟨by rfl, ?_⟩) (by assumption) ?_
                · intro w hSw; (try dsimp only at hSw); go_simp
                try simp only [Act.put, List.setIfInBounds_toArray, List.set_cons_zero, List.set_cons_succ]
                refine wpAnyH_take (i := 9) (oi := { dst := some 53, op := Op.fieldAddr 27 (Operand.tmp 3) 0, type := 0, pos := "windlassref4.go:186", after := #[], guard := none }) (v := .pointer (some ⟨w.heap.size + 1, 0, none⟩)) rfl (by kernel_rfl) (by kernel_rfl) (by kernel_rfl) (fun _ _ _ h => h) (Or.inl ⟨by rfl, ?_⟩) (by assumption) ?_
                · intro w hSw; (try dsimp only at hSw); go_simp
                try simp only [Act.put, List.setIfInBounds_toArray, List.set_cons_zero, List.set_cons_succ]
                refine wpAnyH_take (i := 10) (oi := { dst := some 54, op := Op.load 25 (Operand.tmp 53), type := 25, pos := "windlassref4.go:186", after := #[{ on := 9, ground := Ground.data }], guard := none }) (v := .slice (some ⟨B2, O2, none⟩) n cap2) rfl (by kernel_rfl) (by kernel_rfl) (by kernel_rfl) (fun _ _ _ h => h) (Or.inl ⟨by rfl, ?_⟩) (by assumption) ?_
                · intro w hSw; (try dsimp only at hSw); go_simp
                try simp only [Act.put, List.setIfInBounds_toArray, List.set_cons_zero, List.set_cons_succ]
                refine wpAnyH_take (i := 11) (oi := { dst := some 55, op := Op.move (Operand.tmp 5), type := 3, pos := "windlassref4.go:186", after := #[], guard := none }) (v := .int .i64 (i : Int)) rfl (by kernel_rfl) (by kernel_rfl) (by kernel_rfl) (fun _ _ _ h => h) (Or.inl ⟨by rfl, ?_⟩) (by assumption) ?_
                · intro w hSw; (try dsimp only at hSw); go_simp
                try simp only [Act.put, List.setIfInBounds_toArray, List.set_cons_zero, List.set_cons_succ]
                refine wpAnyH_take (i := 12) (oi := { dst := some 56, op := Op.indexAddr 25 (Operand.tmp 54) (Operand.tmp 55), type := 0, pos := "windlassref4.go:186", after := #[{ on := 10, ground := Ground.data }, { on := 11, ground := Ground.data }], guard := none }) (v := .pointer (some ⟨B2, O2 + i, none⟩)) rfl (by kernel_rfl) (by kernel_rfl) (by kernel_rfl) (fun _ _ _ h => h) (Or.inl ⟨by rfl, ?_⟩) (by assumption) ?_
                · intro w hSw; (try dsimp only at hSw); go_simp
                try simp only [Act.put, List.setIfInBounds_toArray, List.set_cons_zero, List.set_cons_succ]
                refine wpAnyH_take (i := 13) (oi := { dst := some 57, op := Op.load 70 (Operand.tmp 56), type := 70, pos := "windlassref4.go:186", after := #[{ on := 12, ground := Ground.data }], guard := none }) (v := .slice (some ⟨b4, o4, none⟩) yn zc) rfl (by kernel_rfl) (by kernel_rfl) (by kernel_rfl) (fun _ _ _ h => h) (Or.inl ⟨by rfl, ?_⟩) (by assumption) ?_
                · intro w hSw; (try dsimp only at hSw); go_simp
                try simp only [Act.put, List.setIfInBounds_toArray, List.set_cons_zero, List.set_cons_succ]
                refine wpAnyH_take (i := 14) (oi := { dst := some 58, op := Op.move (Operand.tmp 6), type := 3, pos := "windlassref4.go:186", after := #[], guard := none }) (v := .int .i64 (j : Int)) rfl (by kernel_rfl) (by kernel_rfl) (by kernel_rfl) (fun _ _ _ h => h) (Or.inl ⟨by rfl, ?_⟩) (by assumption) ?_
                · intro w hSw; (try dsimp only at hSw); go_simp
                try simp only [Act.put, List.setIfInBounds_toArray, List.set_cons_zero, List.set_cons_succ]
                refine wpAnyH_take (i := 15) (oi := { dst := some 59, op := Op.indexAddr 70 (Operand.tmp 57) (Operand.tmp 58), type := 0, pos := "windlassref4.go:186", after := #[{ on := 13, ground := Ground.data }, { on := 14, ground := Ground.data }], guard := none }) (v := .pointer (some ⟨b4, o4 + j * 10, none⟩)) rfl (by kernel_rfl) (by kernel_rfl) (by kernel_rfl) (fun _ _ _ h => h) (Or.inl ⟨by rfl, ?_⟩) (by assumption) ?_
                · intro w hSw; (try dsimp only at hSw); go_simp
                try simp only [Act.put, List.setIfInBounds_toArray, List.set_cons_zero, List.set_cons_succ]
                refine wpAnyH_take (i := 16) (oi := { dst := some 60, op := Op.fieldAddr 81 (Operand.tmp 59) 0, type := 0, pos := "windlassref4.go:186", after := #[{ on := 15, ground := Ground.data }], guard := none }) (v := .pointer (some ⟨b4, o4 + j * 10, none⟩)) rfl (by kernel_rfl) (by kernel_rfl) (by kernel_rfl) (fun _ _ _ h => h) (Or.inl ⟨by rfl, ?_⟩) (by assumption) ?_
                · intro w hSw; (try dsimp only at hSw); go_simp
                try simp only [Act.put, List.setIfInBounds_toArray, List.set_cons_zero, List.set_cons_succ]
                refine wpAnyH_take (i := 17) (oi := { dst := some 61, op := Op.load 31 (Operand.tmp 60), type := 31, pos := "windlassref4.go:186", after := #[{ on := 16, ground := Ground.data }], guard := none }) (v := .agg #[.int .i64 uk, .int .i64 ui, .string ut, .int .i64 ur, .slice ua un uc]) rfl (by kernel_rfl) (by kernel_rfl) (by kernel_rfl) (fun _ _ _ h => h) (Or.inl ⟨by rfl, ?_⟩) (by assumption) ?_
                · intro w hSw; (try dsimp only at hSw); go_simp
                try simp only [Act.put, List.setIfInBounds_toArray, List.set_cons_zero, List.set_cons_succ]
                refine wpAnyH_ready (rs := [18]) (by kernel_rfl) (by simp) ?_
                refine AllReadyH.cons (o := { dst := some 62, op := Op.call { callee := Callee.value (Operand.func 23), args := #[Operand.tmp 52, Operand.tmp 61], argTypes := #[31, 31] }, type := 4, pos := "windlassref4.go:186", after := #[{ on := 8, ground := Ground.data }, { on := 17, ground := Ground.data }], guard := none }) rfl (fun K hK => ?_) AllReadyH.nil
                go_simp
                refine (CK.out _ (SE.out _ R0.out).2.1).mono ?_
                rintro e w1 ⟨rfl, hb1⟩
                have R1 := hid (TR.out R0.out hb1)
                clear hb1
                go_wp2_with fail
                refine hK.out _ _ ((SE.out _ R1.out).1) (fun hHeldN => ?_)
                clear hK K hHeld
                have hHeld := hHeldN
                clear hHeldN
                try simp only [Act.put, List.setIfInBounds_toArray, List.set_cons_zero, List.set_cons_succ]
                refine wpAnyH_take (i := 19) (oi := { dst := some 63, op := Op.unOp UnOp.not 4 (Operand.tmp 62), type := 4, pos := "windlassref4.go:186", after := #[{ on := 18, ground := Ground.data }], guard := none }) (v := .bool true) rfl (by kernel_rfl) (by kernel_rfl) (by kernel_rfl) (fun _ _ _ h => h) (Or.inl ⟨by rfl, ?_⟩) (by assumption) ?_
                · intro w hSw; (try dsimp only at hSw); go_simp
                try simp only [Act.put, List.setIfInBounds_toArray, List.set_cons_zero, List.set_cons_succ]
                refine wpAnyH_take (i := 20) (oi := { dst := some 64, op := Op.move (Operand.tmp 63), type := 4, pos := "windlassref4.go:186", after := #[{ on := 19, ground := Ground.data }, { on := 18, ground := Ground.chain }], guard := none }) (v := .bool true) rfl (by kernel_rfl) (by kernel_rfl) (by kernel_rfl) (fun _ _ _ h => h) (Or.inl ⟨by rfl, ?_⟩) (by assumption) ?_
                · intro w hSw; (try dsimp only at hSw); go_simp
                try simp only [Act.put, List.setIfInBounds_toArray, List.set_cons_zero, List.set_cons_succ]
                refine wpAnyH_take (i := 21) (oi := { dst := some 65, op := Op.fieldAddr 27 (Operand.tmp 2) 0, type := 0, pos := "windlassref4.go:186", after := #[{ on := 20, ground := Ground.guard }], guard := some (20, false) }) (v := undef) rfl (by kernel_rfl) (by kernel_rfl) (by kernel_rfl) (fun _ _ _ h => h) (Or.inr ⟨by rfl, rfl⟩) (by assumption) ?_
                try simp only [Act.put, List.setIfInBounds_toArray, List.set_cons_zero, List.set_cons_succ]
                refine wpAnyH_take (i := 22) (oi := { dst := some 66, op := Op.load 25 (Operand.tmp 65), type := 25, pos := "windlassref4.go:186", after := #[{ on := 21, ground := Ground.data }, { on := 20, ground := Ground.guard }], guard := some (20, false) }) (v := undef) rfl (by kernel_rfl) (by kernel_rfl) (by kernel_rfl) (fun _ _ _ h => h) (Or.inr ⟨by rfl, rfl⟩) (by assumption) ?_
                try simp only [Act.put, List.setIfInBounds_toArray, List.set_cons_zero, List.set_cons_succ]
                refine wpAnyH_take (i := 23) (oi := { dst := some 67, op := Op.move (Operand.tmp 5), type := 3, pos := "windlassref4.go:186", after := #[{ on := 20, ground := Ground.guard }], guard := some (20, false) }) (v := undef) rfl (by kernel_rfl) (by kernel_rfl) (by kernel_rfl) (fun _ _ _ h => h) (Or.inr ⟨by rfl, rfl⟩) (by assumption) ?_
                try simp only [Act.put, List.setIfInBounds_toArray, List.set_cons_zero, List.set_cons_succ]
                refine wpAnyH_take (i := 24) (oi := { dst := some 68, op := Op.indexAddr 25 (Operand.tmp 66) (Operand.tmp 67), type := 0, pos := "windlassref4.go:186", after := #[{ on := 22, ground := Ground.data }, { on := 23, ground := Ground.data }, { on := 20, ground := Ground.guard }], guard := some (20, false) }) (v := undef) rfl (by kernel_rfl) (by kernel_rfl) (by kernel_rfl) (fun _ _ _ h => h) (Or.inr ⟨by rfl, rfl⟩) (by assumption) ?_
                try simp only [Act.put, List.setIfInBounds_toArray, List.set_cons_zero, List.set_cons_succ]
                refine wpAnyH_take (i := 25) (oi := { dst := some 69, op := Op.load 70 (Operand.tmp 68), type := 70, pos := "windlassref4.go:186", after := #[{ on := 24, ground := Ground.data }, { on := 20, ground := Ground.guard }], guard := some (20, false) }) (v := undef) rfl (by kernel_rfl) (by kernel_rfl) (by kernel_rfl) (fun _ _ _ h => h) (Or.inr ⟨by rfl, rfl⟩) (by assumption) ?_
                try simp only [Act.put, List.setIfInBounds_toArray, List.set_cons_zero, List.set_cons_succ]
                refine wpAnyH_take (i := 26) (oi := { dst := some 70, op := Op.move (Operand.tmp 6), type := 3, pos := "windlassref4.go:186", after := #[{ on := 20, ground := Ground.guard }], guard := some (20, false) }) (v := undef) rfl (by kernel_rfl) (by kernel_rfl) (by kernel_rfl) (fun _ _ _ h => h) (Or.inr ⟨by rfl, rfl⟩) (by assumption) ?_
                try simp only [Act.put, List.setIfInBounds_toArray, List.set_cons_zero, List.set_cons_succ]
                refine wpAnyH_take (i := 27) (oi := { dst := some 71, op := Op.indexAddr 70 (Operand.tmp 69) (Operand.tmp 70), type := 0, pos := "windlassref4.go:186", after := #[{ on := 25, ground := Ground.data }, { on := 26, ground := Ground.data }, { on := 20, ground := Ground.guard }], guard := some (20, false) }) (v := undef) rfl (by kernel_rfl) (by kernel_rfl) (by kernel_rfl) (fun _ _ _ h => h) (Or.inr ⟨by rfl, rfl⟩) (by assumption) ?_
                try simp only [Act.put, List.setIfInBounds_toArray, List.set_cons_zero, List.set_cons_succ]
                refine wpAnyH_take (i := 28) (oi := { dst := some 72, op := Op.fieldAddr 81 (Operand.tmp 71) 1, type := 0, pos := "windlassref4.go:186", after := #[{ on := 27, ground := Ground.data }, { on := 20, ground := Ground.guard }], guard := some (20, false) }) (v := undef) rfl (by kernel_rfl) (by kernel_rfl) (by kernel_rfl) (fun _ _ _ h => h) (Or.inr ⟨by rfl, rfl⟩) (by assumption) ?_
                try simp only [Act.put, List.setIfInBounds_toArray, List.set_cons_zero, List.set_cons_succ]
                refine wpAnyH_take (i := 29) (oi := { dst := some 73, op := Op.load 31 (Operand.tmp 72), type := 31, pos := "windlassref4.go:186", after := #[{ on := 28, ground := Ground.data }, { on := 20, ground := Ground.guard }], guard := some (20, false) }) (v := undef) rfl (by kernel_rfl) (by kernel_rfl) (by kernel_rfl) (fun _ _ _ h => h) (Or.inr ⟨by rfl, rfl⟩) (by assumption) ?_
                try simp only [Act.put, List.setIfInBounds_toArray, List.set_cons_zero, List.set_cons_succ]
                refine wpAnyH_take (i := 30) (oi := { dst := some 74, op := Op.fieldAddr 27 (Operand.tmp 3) 0, type := 0, pos := "windlassref4.go:186", after := #[{ on := 20, ground := Ground.guard }], guard := some (20, false) }) (v := undef) rfl (by kernel_rfl) (by kernel_rfl) (by kernel_rfl) (fun _ _ _ h => h) (Or.inr ⟨by rfl, rfl⟩) (by assumption) ?_
                try simp only [Act.put, List.setIfInBounds_toArray, List.set_cons_zero, List.set_cons_succ]
                refine wpAnyH_take (i := 31) (oi := { dst := some 75, op := Op.load 25 (Operand.tmp 74), type := 25, pos := "windlassref4.go:186", after := #[{ on := 30, ground := Ground.data }, { on := 20, ground := Ground.guard }], guard := some (20, false) }) (v := undef) rfl (by kernel_rfl) (by kernel_rfl) (by kernel_rfl) (fun _ _ _ h => h) (Or.inr ⟨by rfl, rfl⟩) (by assumption) ?_
                try simp only [Act.put, List.setIfInBounds_toArray, List.set_cons_zero, List.set_cons_succ]
                refine wpAnyH_take (i := 32) (oi := { dst := some 76, op := Op.move (Operand.tmp 5), type := 3, pos := "windlassref4.go:186", after := #[{ on := 20, ground := Ground.guard }], guard := some (20, false) }) (v := undef) rfl (by kernel_rfl) (by kernel_rfl) (by kernel_rfl) (fun _ _ _ h => h) (Or.inr ⟨by rfl, rfl⟩) (by assumption) ?_
                try simp only [Act.put, List.setIfInBounds_toArray, List.set_cons_zero, List.set_cons_succ]
                refine wpAnyH_take (i := 33) (oi := { dst := some 77, op := Op.indexAddr 25 (Operand.tmp 75) (Operand.tmp 76), type := 0, pos := "windlassref4.go:186", after := #[{ on := 31, ground := Ground.data }, { on := 32, ground := Ground.data }, { on := 20, ground := Ground.guard }], guard := some (20, false) }) (v := undef) rfl (by kernel_rfl) (by kernel_rfl) (by kernel_rfl) (fun _ _ _ h => h) (Or.inr ⟨by rfl, rfl⟩) (by assumption) ?_
                try simp only [Act.put, List.setIfInBounds_toArray, List.set_cons_zero, List.set_cons_succ]
                refine wpAnyH_take (i := 34) (oi := { dst := some 78, op := Op.load 70 (Operand.tmp 77), type := 70, pos := "windlassref4.go:186", after := #[{ on := 33, ground := Ground.data }, { on := 20, ground := Ground.guard }], guard := some (20, false) }) (v := undef) rfl (by kernel_rfl) (by kernel_rfl) (by kernel_rfl) (fun _ _ _ h => h) (Or.inr ⟨by rfl, rfl⟩) (by assumption) ?_
                try simp only [Act.put, List.setIfInBounds_toArray, List.set_cons_zero, List.set_cons_succ]
                refine wpAnyH_take (i := 35) (oi := { dst := some 79, op := Op.move (Operand.tmp 6), type := 3, pos := "windlassref4.go:186", after := #[{ on := 20, ground := Ground.guard }], guard := some (20, false) }) (v := undef) rfl (by kernel_rfl) (by kernel_rfl) (by kernel_rfl) (fun _ _ _ h => h) (Or.inr ⟨by rfl, rfl⟩) (by assumption) ?_
                try simp only [Act.put, List.setIfInBounds_toArray, List.set_cons_zero, List.set_cons_succ]
                refine wpAnyH_take (i := 36) (oi := { dst := some 80, op := Op.indexAddr 70 (Operand.tmp 78) (Operand.tmp 79), type := 0, pos := "windlassref4.go:186", after := #[{ on := 34, ground := Ground.data }, { on := 35, ground := Ground.data }, { on := 20, ground := Ground.guard }], guard := some (20, false) }) (v := undef) rfl (by kernel_rfl) (by kernel_rfl) (by kernel_rfl) (fun _ _ _ h => h) (Or.inr ⟨by rfl, rfl⟩) (by assumption) ?_
                try simp only [Act.put, List.setIfInBounds_toArray, List.set_cons_zero, List.set_cons_succ]
                refine wpAnyH_take (i := 37) (oi := { dst := some 81, op := Op.fieldAddr 81 (Operand.tmp 80) 1, type := 0, pos := "windlassref4.go:186", after := #[{ on := 36, ground := Ground.data }, { on := 20, ground := Ground.guard }], guard := some (20, false) }) (v := undef) rfl (by kernel_rfl) (by kernel_rfl) (by kernel_rfl) (fun _ _ _ h => h) (Or.inr ⟨by rfl, rfl⟩) (by assumption) ?_
                try simp only [Act.put, List.setIfInBounds_toArray, List.set_cons_zero, List.set_cons_succ]
                refine wpAnyH_take (i := 38) (oi := { dst := some 82, op := Op.load 31 (Operand.tmp 81), type := 31, pos := "windlassref4.go:186", after := #[{ on := 37, ground := Ground.data }, { on := 20, ground := Ground.guard }], guard := some (20, false) }) (v := undef) rfl (by kernel_rfl) (by kernel_rfl) (by kernel_rfl) (fun _ _ _ h => h) (Or.inr ⟨by rfl, rfl⟩) (by assumption) ?_
                try simp only [Act.put, List.setIfInBounds_toArray, List.set_cons_zero, List.set_cons_succ]
                refine wpAnyH_take (i := 39) (oi := { dst := some 83, op := Op.call { callee := Callee.value (Operand.func 23), args := #[Operand.tmp 73, Operand.tmp 82], argTypes := #[31, 31] }, type := 4, pos := "windlassref4.go:186", after := #[{ on := 29, ground := Ground.data }, { on := 38, ground := Ground.data }, { on := 20, ground := Ground.chain }, { on := 20, ground := Ground.guard }], guard := some (20, false) }) (v := undef) rfl (by kernel_rfl) (by kernel_rfl) (by kernel_rfl) (fun _ _ _ h => h) (Or.inr ⟨by rfl, rfl⟩) (by assumption) ?_
                try simp only [Act.put, List.setIfInBounds_toArray, List.set_cons_zero, List.set_cons_succ]
                refine wpAnyH_take (i := 40) (oi := { dst := some 84, op := Op.unOp UnOp.not 4 (Operand.tmp 83), type := 4, pos := "windlassref4.go:186", after := #[{ on := 39, ground := Ground.data }, { on := 20, ground := Ground.guard }], guard := some (20, false) }) (v := undef) rfl (by kernel_rfl) (by kernel_rfl) (by kernel_rfl) (fun _ _ _ h => h) (Or.inr ⟨by rfl, rfl⟩) (by assumption) ?_
                try simp only [Act.put, List.setIfInBounds_toArray, List.set_cons_zero, List.set_cons_succ]
                refine wpAnyH_take (i := 41) (oi := { dst := some 85, op := Op.pick (Operand.tmp 64) (Operand.const (Value.bool true)) (Operand.tmp 84), type := 4, pos := "windlassref4.go:186", after := #[{ on := 20, ground := Ground.data }, { on := 40, ground := Ground.data }], guard := none }) (v := .bool true) rfl (by kernel_rfl) (by kernel_rfl) (by kernel_rfl) (fun _ _ _ h => h) (Or.inl ⟨by rfl, ?_⟩) (by assumption) ?_
                · intro w hSw; (try dsimp only at hSw); go_simp
                try simp only [Act.put, List.setIfInBounds_toArray, List.set_cons_zero, List.set_cons_succ]
                refine wpAnyH_done (by kernel_rfl) ?_ _
                go_wp2
                go_ret
                exact ⟨by rw [HF.out]; rfl, (SE.out _ R1.out).2.1⟩
              | true =>
                cases E2 with
                | false =>
                  have HF : Hid (res = false) := hid (by rw [Hrs.out, Hst.out, Hrs2.out, Hst2.out]; rfl)
                  go_wp2
                  go_region_held3 (fun W' => W'.cell? ⟨w.heap.size, 0, none⟩ = some (.slice (some ⟨B1, O1, none⟩) n cap) ∧ W'.cell? ⟨w.heap.size + 1, 0, none⟩ = some (.slice (some ⟨B2, O2, none⟩) n cap2) ∧ W'.cell? ⟨B1, O1 + i, none⟩ = some (.slice (some ⟨b3, o3, none⟩) yn yc) ∧ W'.cell? ⟨B2, O2 + i, none⟩ = some (.slice (some ⟨b4, o4, none⟩) yn zc) ∧ W'.cell? ⟨b3, o3 + j * 10, none⟩ = some (.int .i64 xk) ∧ W'.cell? ⟨b3, o3 + j * 10 + 1, none⟩ = some (.int .i64 xi) ∧ W'.cell? ⟨b3, o3 + j * 10 + 2, none⟩ = some (.string xt) ∧ W'.cell? ⟨b3, o3 + j * 10 + 3, none⟩ = some (.int .i64 xr) ∧ W'.cell? ⟨b3, o3 + j * 10 + 4, none⟩ = some (.slice xa xn xc) ∧ W'.cell? ⟨b3, o3 + j * 10 + 5, none⟩ = some (.int .i64 gk2) ∧ W'.cell? ⟨b3, o3 + j * 10 + 6, none⟩ = some (.int .i64 gi2) ∧ W'.cell? ⟨b3, o3 + j * 10 + 7, none⟩ = some (.string gt2) ∧ W'.cell? ⟨b3, o3 + j * 10 + 8, none⟩ = some (.int .i64 gr2) ∧ W'.cell? ⟨b3, o3 + j * 10 + 9, none⟩ = some (.slice ga2 gn2 gc2) ∧ W'.cell? ⟨b4, o4 + j * 10, none⟩ = some (.int .i64 uk) ∧ W'.cell? ⟨b4, o4 + j * 10 + 1, none⟩ = some (.int .i64 ui) ∧ W'.cell? ⟨b4, o4 + j * 10 + 2, none⟩ = some (.string ut) ∧ W'.cell? ⟨b4, o4 + j * 10 + 3, none⟩ = some (.int .i64 ur) ∧ W'.cell? ⟨b4, o4 + j * 10 + 4, none⟩ = some (.slice ua un uc) ∧ W'.cell? ⟨b4, o4 + j * 10 + 5, none⟩ = some (.int .i64 vk) ∧ W'.cell? ⟨b4, o4 + j * 10 + 6, none⟩ = some (.int .i64 vi) ∧ W'.cell? ⟨b4, o4 + j * 10 + 7, none⟩ = some (.string vt) ∧ W'.cell? ⟨b4, o4 + j * 10 + 8, none⟩ = some (.int .i64 vr) ∧ W'.cell? ⟨b4, o4 + j * 10 + 9, none⟩ = some (.slice va vn vc)) (first | exact (SE.out _ R2.out).1 | exact (SE.out _ R1.out).1 | exact (SE.out _ R0.out).1 | go_keep) ((first | (go_at_call 23; (refine (CK.out _ (SE.out _ R0.out).2.1).mono ?_; rintro e w8 ⟨rfl, hb8⟩; have R1 := hid (R0.out.trans (hb8.mono R0.out.size)); clear hb8)) | (go_at_call 23; (refine (CV.out _ (SE.out _ R1.out).2.1).mono ?_; rintro e w9 ⟨rfl, hb9⟩; have R2 := hid (R1.out.trans (hb9.mono R1.out.size)); clear hb9))))
                  go_wp2
                  go_ret
                  exact ⟨by rw [HF.out]; rfl, (SE.out _ R2.out).2.1⟩
                | true =>
                  go_wp2
                  go_region_held3 (fun W' => W'.cell? ⟨w.heap.size, 0, none⟩ = some (.slice (some ⟨B1, O1, none⟩) n cap) ∧ W'.cell? ⟨w.heap.size + 1, 0, none⟩ = some (.slice (some ⟨B2, O2, none⟩) n cap2) ∧ W'.cell? ⟨B1, O1 + i, none⟩ = some (.slice (some ⟨b3, o3, none⟩) yn yc) ∧ W'.cell? ⟨B2, O2 + i, none⟩ = some (.slice (some ⟨b4, o4, none⟩) yn zc) ∧ W'.cell? ⟨b3, o3 + j * 10, none⟩ = some (.int .i64 xk) ∧ W'.cell? ⟨b3, o3 + j * 10 + 1, none⟩ = some (.int .i64 xi) ∧ W'.cell? ⟨b3, o3 + j * 10 + 2, none⟩ = some (.string xt) ∧ W'.cell? ⟨b3, o3 + j * 10 + 3, none⟩ = some (.int .i64 xr) ∧ W'.cell? ⟨b3, o3 + j * 10 + 4, none⟩ = some (.slice xa xn xc) ∧ W'.cell? ⟨b3, o3 + j * 10 + 5, none⟩ = some (.int .i64 gk2) ∧ W'.cell? ⟨b3, o3 + j * 10 + 6, none⟩ = some (.int .i64 gi2) ∧ W'.cell? ⟨b3, o3 + j * 10 + 7, none⟩ = some (.string gt2) ∧ W'.cell? ⟨b3, o3 + j * 10 + 8, none⟩ = some (.int .i64 gr2) ∧ W'.cell? ⟨b3, o3 + j * 10 + 9, none⟩ = some (.slice ga2 gn2 gc2) ∧ W'.cell? ⟨b4, o4 + j * 10, none⟩ = some (.int .i64 uk) ∧ W'.cell? ⟨b4, o4 + j * 10 + 1, none⟩ = some (.int .i64 ui) ∧ W'.cell? ⟨b4, o4 + j * 10 + 2, none⟩ = some (.string ut) ∧ W'.cell? ⟨b4, o4 + j * 10 + 3, none⟩ = some (.int .i64 ur) ∧ W'.cell? ⟨b4, o4 + j * 10 + 4, none⟩ = some (.slice ua un uc) ∧ W'.cell? ⟨b4, o4 + j * 10 + 5, none⟩ = some (.int .i64 vk) ∧ W'.cell? ⟨b4, o4 + j * 10 + 6, none⟩ = some (.int .i64 vi) ∧ W'.cell? ⟨b4, o4 + j * 10 + 7, none⟩ = some (.string vt) ∧ W'.cell? ⟨b4, o4 + j * 10 + 8, none⟩ = some (.int .i64 vr) ∧ W'.cell? ⟨b4, o4 + j * 10 + 9, none⟩ = some (.slice va vn vc)) (first | exact (SE.out _ R2.out).1 | exact (SE.out _ R1.out).1 | exact (SE.out _ R0.out).1 | go_keep) ((first | (go_at_call 23; (refine (CK.out _ (SE.out _ R0.out).2.1).mono ?_; rintro e w8 ⟨rfl, hb8⟩; have R1 := hid (R0.out.trans (hb8.mono R0.out.size)); clear hb8)) | (go_at_call 23; (refine (CV.out _ (SE.out _ R1.out).2.1).mono ?_; rintro e w9 ⟨rfl, hb9⟩; have R2 := hid (R1.out.trans (hb9.mono R1.out.size)); clear hb9))))
                  go_wp2
                  go_roundg gj
                  case measure => omega
                  case rel => exact ⟨j + 1, by have := Hj.out; omega, by go_num, (SE.out _ R2.out).2.2, by rw [Hrs2.out, Hst2.out]; rfl⟩
        · have hyz' : ¬ (yn : Int) = (zn : Int) := by omega
          have hyzb : ((yn : Int) == (zn : Int)) = false := by simpa using hyz'
          have HF : Hid (res = false) := hid (by rw [Hrs.out, Hst.out, rowB_len k yr zr (by rw [← Hyn.out, ← Hzn.out]; exact hyz)]; rfl)
          go_wp2
          go_quiet (fail)
          go_wp2
          go_ret
          refine ⟨by rw [HF.out]; rfl, Hbw.out.trans ⟨rfl, rfl, rfl, Nat.le_refl _, fun _ _ => rfl⟩⟩
  · have HF : Hid (res = false) := hid (by rw [Hres.out]; exact stB_len k ps qs (by rw [← Hn.out, ← Hm.out]; exact hnm))
    have hnm' : ¬ (n : Int) = (m : Int) := by omega
    have hnmb : ((n : Int) == (m : Int)) = false := by simpa using hnm'
    have hnm2 : ((n : Int) != (m : Int)) = true := by simp [hnm']
    go_enter Try.func14, Try.ntmps14
    go_upto_region 1 with fail
    rw [← hW0]
    clear hW0
    go_wp2
    go_ret
    exact ⟨by rw [HF.out]; rfl, HB.out⟩
end Go.Proofs.Ytenfgahedbeekaa

