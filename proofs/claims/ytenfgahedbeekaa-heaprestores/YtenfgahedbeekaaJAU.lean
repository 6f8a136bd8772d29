/- The document's side: comparing. -/
import Derived.Test.YtenfgahedbeekaaJAT
import Derived.Deep.RegionHeld3
namespace Go.Proofs.Ytenfgahedbeekaa
open Go.RowKit Go.Deep Go.Shelf
set_option linter.unusedVariables false
set_option linter.unusedSimpArgs false

def ordI (a b : Bool) : Int := if a then -1 else if b then 1 else 0
theorem refOrder (a b : Bool) (w : World) : Calls Try.prog 69 #[.bool a, .bool b] w fun e w' => e = .returned (.int .i64 (ordI a b)) ∧ w' = w := by
  cases a <;> cases b <;>
    (go_enter Try.func69, Try.ntmps69
     go_wp2
     go_ret
     exact ⟨rfl, rfl⟩)
theorem ci_ord (a b : Int) : ordI (decide (a < b)) (decide (b < a)) = ci a b := by
  unfold ordI ci
  by_cases h1 : a < b <;> by_cases h2 : b < a <;> simp [h1, h2]
theorem cS_less {s t : ByteArray} : Op.bytesLess s.toList t.toList = decide (cS s t = -1) := by
  unfold cS cB
  cases Op.bytesLess s.toList t.toList
  · cases s.toList == t.toList <;> rfl
  · rfl
theorem cS_ord2 (s t : ByteArray) : ordI (Op.bytesLess s.toList t.toList) (!Op.bytesLess s.toList t.toList && !(s.toList == t.toList)) = cS s t := by
  unfold cS cB ordI
  cases Op.bytesLess s.toList t.toList <;> cases s.toList == t.toList <;> rfl
theorem cmpL_drop {α : Type} {f : α → α → Int} {l m : List α} {i : Nat} {x y : α} (hx : l[i]? = some x) (hy : m[i]? = some y) : cmpL f (l.drop i) (m.drop i) = if f x y = 0 then cmpL f (l.drop (i + 1)) (m.drop (i + 1)) else f x y := by
  obtain ⟨h1, e1⟩ := List.getElem?_eq_some_iff.1 hx
  obtain ⟨h2, e2⟩ := List.getElem?_eq_some_iff.1 hy
  rw [List.drop_eq_getElem_cons h1, List.drop_eq_getElem_cons h2, e1, e2, cmpL]
theorem cmpL_end {α : Type} {f : α → α → Int} {l m : List α} {i : Nat} (h1 : i ≤ l.length) (h2 : i ≤ m.length) (h : i = l.length ∨ i = m.length) : cmpL f (l.drop i) (m.drop i) = ci l.length m.length := by
  have d1 : (l.drop i).length = l.length - i := List.length_drop
  have d2 : (m.drop i).length = m.length - i := List.length_drop
  unfold ci
  cases hl : l.drop i with
  | nil =>
    rw [hl] at d1
    simp at d1
    cases hm : m.drop i with
    | nil => rw [hm] at d2; simp at d2; rw [cmpL, if_neg (by omega), if_neg (by omega)]
    | cons b t => rw [hm] at d2; simp at d2; rw [cmpL, if_pos (by omega)]
  | cons a t =>
    rw [hl] at d1
    simp at d1
    cases hm : m.drop i with
    | nil => rw [hm] at d2; simp at d2; rw [cmpL, if_neg (by omega), if_pos (by omega)]
    | cons b u => rw [hm] at d2; simp at d2; omega
theorem two_cells (w : World) (c1 c2 : Array Value) (t : TypeId) {wr : World} (h : Below (w.heap.size + 2) ((w.alloc (.cells c1 t)).alloc (.cells c2 t)) wr) : wr.heap[w.heap.size]? = some (.cells c1 t (0, 0)) ∧ wr.heap[w.heap.size + 1]? = some (.cells c2 t (0, 0)) := by
  constructor
  · rw [h.block _ (by omega), Below.heap_alloc _ _ _ (by simp)]; exact heap_alloc_new w _
  · rw [h.block _ (by omega)]
    have := heap_alloc_new (w.alloc (.cells c1 t)) (.cells c2 t)
    rw [World.size_alloc] at this
    exact this
def CmR (R : Int) {α : Type} (f : α → α → Int) (l m : List α) (i : Nat) (c : Int) : Prop := (c = 0 ∧ i ≤ l.length ∧ i ≤ m.length ∧ cmpL f (l.drop i) (m.drop i) = R) ∨ (¬ c = 0 ∧ c = R)
set_option maxRecDepth 100000 in
set_option maxHeartbeats 4000000 in
theorem refCmp_step (k : Nat) (ih : ∀ (w : World) (s t : VT k), Rds k w s → Rds k w t → Calls Try.prog 48 #[(hdT k s).v, (hdT k t).v] w fun e w' => e = .returned (.int .i64 (cmpT k s t)) ∧ Below w.heap.size w w') (w : World) (s t : VT (k + 1)) (hs : Rds (k + 1) w s) (ht : Rds (k + 1) w t) :
    Calls Try.prog 48 #[(hdT (k + 1) s).v, (hdT (k + 1) t).v] w fun e w' => e = .returned (.int .i64 (cmpT (k + 1) s t)) ∧ Below w.heap.size w w' := by
  obtain ⟨⟨k1, i1, t1, r1, a1, m1, c1⟩, l⟩ := s
  obtain ⟨⟨k2, i2, t2, r2, a2, m2, c2⟩, m⟩ := t
  obtain ⟨hin1, hn1, hb1, hv1, hr1⟩ := hs
  obtain ⟨hin2, hn2, hb2, hv2, hr2⟩ := ht
  simp only at hn1 hn2 hb1 hb2 hv1 hv2
  obtain ⟨R, hR⟩ : ∃ R, R = cmpT (k + 1) (⟨k1, i1, t1, r1, a1, m1, c1⟩, l) (⟨k2, i2, t2, r2, a2, m2, c2⟩, m) := ⟨_, rfl⟩
  have hR2 : R = if cH ⟨k1, i1, t1, r1, a1, m1, c1⟩ ⟨k2, i2, t2, r2, a2, m2, c2⟩ = 0 then cmpL (cmpT k) l m else cH ⟨k1, i1, t1, r1, a1, m1, c1⟩ ⟨k2, i2, t2, r2, a2, m2, c2⟩ := by rw [hR]; rfl
  have hcH : cH ⟨k1, i1, t1, r1, a1, m1, c1⟩ ⟨k2, i2, t2, r2, a2, m2, c2⟩ = orL [ci k1 k2, ci i1 i2, cS t1 t2, ci r1 r2] := rfl
  rw [← hR]
  simp only [hdT, Hd.v]
  have ho := hid (fun a b w => refOrder a b w)
  have hff : ordI false false = 0 := rfl
  have hB0 : Below w.heap.size w ((w.alloc (.cells #[.int .i64 k1, .int .i64 i1, .string t1, .int .i64 r1, .slice a1 m1 c1] 31)).alloc (.cells #[.int .i64 k2, .int .i64 i2, .string t2, .int .i64 r2, .slice a2 m2 c2] 31)) := ((Below.refl _ _).alloc (Nat.le_refl _) _).alloc (by simp) _
  have l1 : (m1 : Int) ≤ 1000 := by omega
  have l2 : (m2 : Int) ≤ 1000 := by omega
  rw [hcH] at hR2
  clear hR hcH hin1 hin2
  by_cases e1 : ci k1 k2 = 0
  · obtain rfl := ci_zero e1
    by_cases e2 : ci i1 i2 = 0
    · obtain rfl := ci_zero e2
      by_cases e3 : cS t1 t2 = 0
      · obtain rfl := cS_zero e3
        have hbl : Op.bytesLess t1.toList t1.toList = false := by rw [cS_less, e3]; rfl
        by_cases e4 : ci r1 r2 = 0
        · obtain rfl := ci_zero e4
          simp only [orL, e1, e2, e3, e4, if_true] at hR2
          have HB0 := hid hB0
          have HR2 := hid hR2
          have HV1 := hid hv1
          have HV2 := hid hv2
          have HR1' := hid hr1
          have HR2' := hid hr2
          have Hn1 := hid hn1
          have Hn2 := hid hn2
          clear hB0 hR2 hv1 hv2 hr1 hr2 hn1 hn2 e1 e2 e3 e4
          go_enter Try.func48, Try.ntmps48
          go_wp2_with (go_at_call 69; (refine (Hid.out ho _ _ _).mono ?_; rintro e w2 ⟨rfl, rfl⟩))
          go_loopg [5, 6] (min m1 m2 + 1) (fun g cc ii wr => ∃ (i : Nat) (c : Int), cc = .int .i64 c ∧ ii = .int .i64 (i : Int) ∧ min m1 m2 + 1 ≤ i + g ∧ i ≤ 1000 ∧ CmR R (cmpT k) l m i c ∧ Below (w.heap.size + 2) ((w.alloc (.cells #[.int .i64 k1, .int .i64 i1, .string t1, .int .i64 r1, .slice a1 m1 c1] 31)).alloc (.cells #[.int .i64 k1, .int .i64 i1, .string t1, .int .i64 r1, .slice a2 m2 c2] 31)) wr)
          case atStart => exact ⟨0, 0, rfl, rfl, by omega, by omega, .inl ⟨rfl, by omega, by omega, HR2.out.symm⟩, Below.refl _ _⟩
          case round =>
            obtain ⟨i, c, rfl, rfl, hg, hi1000, hcm, hbel⟩ := hrel
            have Hbel := hid hbel
            obtain ⟨p1, p2⟩ := two_cells w _ _ 31 hbel
            have s14 := cellOf p1 4
            have s24 := cellOf p2 4
            simp only [List.getElem?_toArray, List.getElem?_cons_zero, List.getElem?_cons_succ] at s14 s24
            have hbw : Below w.heap.size w wr := HB0.out.trans (hbel.mono (by omega))
            have Hbw := hid hbw
            have q1 := hid (HV1.out.below (Nat.le_refl _) hbw)
            have q2 := hid (HV2.out.below (Nat.le_refl _) hbw)
            clear p1 p2 hbel hbw
            have hi1000' : (i : Int) ≤ 1000 := by omega
            have Hg := hid hg
            clear hg
            rcases hcm with ⟨rfl, hil, him, hcm⟩ | ⟨hc0, hcR⟩
            · by_cases hlt : i < m1 ∧ i < m2
              · have hx1 : (i : Int) < (m1 : Int) := by omega
                have hx2 : (i : Int) < (m2 : Int) := by omega
                obtain ⟨g', rfl⟩ : ∃ g', gk = g' + 1 := ⟨gk - 1, by have := Hg.out; omega⟩
                obtain ⟨x, hx⟩ : ∃ x, l[i]? = some x := ⟨l[i]'(by rw [← Hn1.out]; exact hlt.1), List.getElem?_eq_getElem _⟩
                obtain ⟨y, hy⟩ : ∃ y, m[i]? = some y := ⟨m[i]'(by rw [← Hn2.out]; exact hlt.2), List.getElem?_eq_getElem _⟩
                have hcd := cmpL_drop (f := cmpT k) hx hy
                rw [hcm] at hcd
                have hxr := HR1'.out x (List.mem_of_getElem? hx)
                have hyr := HR2'.out y (List.mem_of_getElem? hy)
                obtain ⟨b1, o1, ea, d1⟩ := q1.out i (hdT k x) (by rw [List.getElem?_map, hx]; rfl)
                subst ea
                obtain ⟨b2, o2, ea, d2⟩ := q2.out i (hdT k y) (by rw [List.getElem?_map, hy]; rfl)
                subst ea
                have K := hid (fun (w1 : World) (hb : Below w.heap.size w w1) => ih w1 x y (Rds.below k hxr (Nat.le_refl _) hb) (Rds.below k hyr (Nat.le_refl _) hb))
                obtain ⟨C, hC⟩ : ∃ C, C = cmpT k x y := ⟨_, rfl⟩
                rw [← hC] at K hcd
                generalize hdT k x = f at *
                generalize hdT k y = h at *
                obtain ⟨fk, fi, ft, fr, fa, fn, fc⟩ := f
                obtain ⟨gk2, gi, gt, gr, ga, gn, gc⟩ := h
                have x0 := d1 0 (by omega)
                have x1 := d1 1 (by omega)
                have x2 := d1 2 (by omega)
                have x3 := d1 3 (by omega)
                have x4 := d1 4 (by omega)
                have y0 := d2 0 (by omega)
                have y1 := d2 1 (by omega)
                have y2 := d2 2 (by omega)
                have y3 := d2 3 (by omega)
                have y4 := d2 4 (by omega)
                simp only [Hd.cs, List.getElem?_cons_zero, List.getElem?_cons_succ, Nat.add_zero] at x0 x1 x2 x3 x4 y0 y1 y2 y3 y4
                simp only [Hd.v] at K
                have Hcd := hid hcd
                have Hlt := hid hlt
                clear d1 d2 hx hy hxr hyr hcd hC hcm hlt q1 q2 hil him ih
                go_wp2_with fail
                go_region_held3 (fun w2 => w2.cell? ⟨w.heap.size, 4, none⟩ = some (.slice (some ⟨b1, o1, none⟩) m1 c1) ∧ w2.cell? ⟨w.heap.size + 1, 4, none⟩ = some (.slice (some ⟨b2, o2, none⟩) m2 c2) ∧ w2.cell? ⟨b1, o1 + i * 5, none⟩ = some (.int .i64 fk) ∧ w2.cell? ⟨b1, o1 + i * 5 + 1, none⟩ = some (.int .i64 fi) ∧ w2.cell? ⟨b1, o1 + i * 5 + 2, none⟩ = some (.string ft) ∧ w2.cell? ⟨b1, o1 + i * 5 + 3, none⟩ = some (.int .i64 fr) ∧ w2.cell? ⟨b1, o1 + i * 5 + 4, none⟩ = some (.slice fa fn fc) ∧ w2.cell? ⟨b2, o2 + i * 5, none⟩ = some (.int .i64 gk2) ∧ w2.cell? ⟨b2, o2 + i * 5 + 1, none⟩ = some (.int .i64 gi) ∧ w2.cell? ⟨b2, o2 + i * 5 + 2, none⟩ = some (.string gt) ∧ w2.cell? ⟨b2, o2 + i * 5 + 3, none⟩ = some (.int .i64 gr) ∧ w2.cell? ⟨b2, o2 + i * 5 + 4, none⟩ = some (.slice ga gn gc)) (first | exact ⟨tt _ _ s14, tt _ _ s24, tt _ _ x0, tt _ _ x1, tt _ _ x2, tt _ _ x3, tt _ _ x4, tt _ _ y0, tt _ _ y1, tt _ _ y2, tt _ _ y3, tt _ _ y4⟩ | go_keep) ((go_at_call 48; (refine (K.out _ (Hbw.out.drew)).mono ?_; rintro e w9 ⟨rfl, hB9⟩; have tt : ∀ (p : Addr) (v : Value), wr.cell? p = some v → w9.cell? p = some v := fun p v h => (hB9.cell (p := p) (World.block_lt_of_cell? wr p h)).trans h)))
                have Htt := hid tt
                clear tt
                go_wp2
                go_roundg g'
                case measure => omega
                case rel =>
                  refine ⟨i + 1, C, rfl, by go_num, by have := Hg.out; omega, by have := Hlt.out; omega, ?_, (Hbel.out.drew).trans (hB9.mono (by have := Hbel.out.size; simp at this; exact this))⟩
                  have := Hcd.out
                  have := Hlt.out
                  have := Hn1.out
                  have := Hn2.out
                  by_cases hC0 : C = 0
                  · refine .inl ⟨hC0, by omega, by omega, ?_⟩
                    have h5 := Hcd.out
                    rw [if_pos hC0] at h5
                    exact h5.symm
                  · refine .inr ⟨hC0, ?_⟩
                    have h5 := Hcd.out
                    rw [if_neg hC0] at h5
                    exact h5.symm
              · have hend := cmpL_end (f := cmpT k) hil him (by have := Hn1.out; have := Hn2.out; omega)
                rw [hcm] at hend
                rw [← Hn1.out, ← Hn2.out] at hend
                have ho2 := ci_ord (m1 : Int) (m2 : Int)
                rw [← hend] at ho2
                have ho3 : ordI (decide (m1 < m2)) (decide (m2 < m1)) = R := by simpa using ho2
                have Hlt : ¬ ((i : Int) < (m1 : Int) ∧ (i : Int) < (m2 : Int)) := by omega
                have hHlt := hid Hlt
                clear hcm hil him hend
                by_cases hx1 : (i : Int) < (m1 : Int)
                · have hx2 : ¬ (i : Int) < (m2 : Int) := fun h => Hlt ⟨hx1, h⟩
                  clear Hlt hlt
                  go_wp2_with (go_at_call 69; (refine (Hid.out ho _ _ _).mono ?_; rintro e w2 ⟨rfl, rfl⟩))
                  go_ret
                  exact ⟨by first | rfl | (rw [ho2]; rfl) | (simp; exact ho2) | (simp; exact ho3), Hbw.out⟩
                · clear Hlt hlt
                  go_wp2_with (go_at_call 69; (refine (Hid.out ho _ _ _).mono ?_; rintro e w2 ⟨rfl, rfl⟩))
                  go_ret
                  exact ⟨by first | rfl | (rw [ho2]; rfl) | (simp; exact ho2) | (simp; exact ho3), Hbw.out⟩
            · have hc1 : (c == 0) = false := by simpa using hc0
              have HcR := hid hcR
              clear hcR
              go_wp2
              all_goals (go_ret; exact ⟨by rw [← HcR.out]; rfl, Hbw.out⟩)
        · simp only [orL, e1, e2, e3, e4, if_true, if_false] at hR2
          have ho1 := ci_ord r1 r2
          rw [← hR2] at ho1
          have hRn : ¬ R = 0 := by rw [hR2]; exact e4
          have hRb : (R == 0) = false := by simpa using hRn
          have HB0 := hid hB0
          clear hB0 hR2 hv1 hv2 hr1 hr2 hn1 hn2 e1 e2 e3 e4 ih
          go_enter Try.func48, Try.ntmps48
          go_wp2_with (go_at_call 69; (refine (Hid.out ho _ _ _).mono ?_; rintro e w2 ⟨rfl, rfl⟩))
          refine wp_loop_rounds 1 ?_
          rw [rounds_succ]
          go_wp2
          all_goals (go_ret; exact ⟨rfl, HB0.out⟩)
      · simp only [orL, e1, e2, e3, if_true, if_false] at hR2
        have ho1 := cS_ord2 t1 t2
        rw [← hR2] at ho1
        have hRn : ¬ R = 0 := by rw [hR2]; exact e3
        have hRb : (R == 0) = false := by simpa using hRn
        have HB0 := hid hB0
        clear hB0 hR2 hv1 hv2 hr1 hr2 hn1 hn2 e1 e2 e3 ih
        go_enter Try.func48, Try.ntmps48
        go_wp2_with (go_at_call 69; (refine (Hid.out ho _ _ _).mono ?_; rintro e w2 ⟨rfl, rfl⟩))
        refine wp_loop_rounds 1 ?_
        rw [rounds_succ]
        go_wp2
        all_goals (go_ret; exact ⟨rfl, HB0.out⟩)
    · simp only [orL, e1, e2, if_true, if_false] at hR2
      have ho1 := ci_ord i1 i2
      rw [← hR2] at ho1
      have hRn : ¬ R = 0 := by rw [hR2]; exact e2
      have hRb : (R == 0) = false := by simpa using hRn
      have HB0 := hid hB0
      clear hB0 hR2 hv1 hv2 hr1 hr2 hn1 hn2 e1 e2 ih
      go_enter Try.func48, Try.ntmps48
      go_wp2_with (go_at_call 69; (refine (Hid.out ho _ _ _).mono ?_; rintro e w2 ⟨rfl, rfl⟩))
      refine wp_loop_rounds 1 ?_
      rw [rounds_succ]
      go_wp2
      all_goals (go_ret; exact ⟨rfl, HB0.out⟩)
  · simp only [orL, e1, if_true, if_false] at hR2
    have ho1 := ci_ord k1 k2
    rw [← hR2] at ho1
    have hRn : ¬ R = 0 := by rw [hR2]; exact e1
    have hRb : (R == 0) = false := by simpa using hRn
    have HB0 := hid hB0
    clear hB0 hR2 hv1 hv2 hr1 hr2 hn1 hn2 e1 ih
    go_enter Try.func48, Try.ntmps48
    go_wp2_with (go_at_call 69; (refine (Hid.out ho _ _ _).mono ?_; rintro e w2 ⟨rfl, rfl⟩))
    refine wp_loop_rounds 1 ?_
    rw [rounds_succ]
    go_wp2
    all_goals (go_ret; exact ⟨rfl, HB0.out⟩)
theorem refCmp : ∀ (k : Nat) (w : World) (s t : VT k), Rds k w s → Rds k w t → Calls Try.prog 48 #[(hdT k s).v, (hdT k t).v] w fun e w' => e = .returned (.int .i64 (cmpT k s t)) ∧ Below w.heap.size w w'
  | 0, _, _, _, h, _ => h.elim
  | k + 1, w, s, t, hs, ht => refCmp_step k (refCmp k) w s t hs ht
theorem refSame (k : Nat) (w : World) (s t : VT k) (hs : Rds k w s) (ht : Rds k w t) : Calls Try.prog 23 #[(hdT k s).v, (hdT k t).v] w fun e w' => e = .returned (.bool (cmpT k s t == 0)) ∧ Below w.heap.size w w' := by
  have K := hid (fun (w1 : World) (hb : Below w.heap.size w w1) => refCmp k w1 s t (Rds.below k hs (Nat.le_refl _) hb) (Rds.below k ht (Nat.le_refl _) hb))
  clear hs ht
  generalize cmpT k s t = c at *
  generalize hdT k s = h at *
  generalize hdT k t = g at *
  obtain ⟨k1, i1, t1, r1, a1, m1, c1⟩ := h
  obtain ⟨k2, i2, t2, r2, a2, m2, c2⟩ := g
  simp only [Hd.v] at K ⊢
  go_enter Try.func23, Try.ntmps23
  go_wp2_with (go_at_call 48; (refine (K.out _ (by first | exact Below.refl _ _ | exact (((Below.refl _ _).alloc (Nat.le_refl _) _).alloc (by simp) _))).mono ?_; rintro e w9 ⟨rfl, hB9⟩))
  go_ret
  first | exact ⟨rfl, hB9⟩ | exact ⟨rfl, (((Below.refl _ _).alloc (Nat.le_refl _) _).alloc (by simp) _).trans (hB9.mono (by simp; omega))⟩
end Go.Proofs.Ytenfgahedbeekaa

