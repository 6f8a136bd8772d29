/- The document's instructions: isOp. -/
import Derived.Test.YthnolocldeokeaaGreatJAH
namespace Go.Proofs.YthnolocldeokeaaGreat
open Go.RowKit Go.Deep Go.Shelf
set_option linter.unusedVariables false
set_option linter.unusedSimpArgs false
def bad2 (fd fa fb fk fok : Bool) (o : Opx) : Bool := !fok || (!fd && o.d != 0) || (!fa && o.a != 0) || (!fb && o.b != 0) || (!fk && o.k != 0)
def bad5 (regs fr mny : Int) (okr : Bool) : Bool := !okr || decide (fr < 0) || decide (regs < fr) || decide (regs - fr < mny)
def bad7 (fd : Bool) (regs : Int) (o : Opx) : Bool := fd && (decide (regs ≤ o.d) || (decide (o.d < 0) && (o.c != 31 || o.d != -1)))
def bad9 (fa : Bool) (regs : Int) (o : Opx) : Bool := fa && o.c != 24 && o.c != 31 && (decide (regs ≤ o.a) || (decide (o.a < 0) && (o.c != 40 || o.a != -1)))
def bad11 (fb : Bool) (regs : Int) (o : Opx) : Bool := fb && o.c != 34 && (decide (o.b < 0) || decide (regs ≤ o.b))
def mostI (c : Cx) (n : Nat) (o : Opx) : Int := if o.c = 1 then (c.ints : Int) else if o.c = 2 ∨ o.c = 32 then (c.texts.length : Int) else if o.c = 3 then 2 else if o.c = 25 then 12 else if o.c = 38 ∨ o.c = 39 then (n : Int) else -1
def fin27 (m k : Int) : Bool := decide (m < 0) || (decide (0 ≤ k) && decide (k < m))
def refOp (c : Cx) (regs : Int) (n : Nat) (o : Opx) : Bool :=
  !bad2 (frm o.c).d (frm o.c).a (frm o.c).b (frm o.c).k (frm o.c).ok o && !bad5 regs (rowR c.p o).1 (rowR c.p o).2.1 (rowR c.p o).2.2 && !bad7 (frm o.c).d regs o && !bad9 (frm o.c).a regs o && !bad11 (frm o.c).b regs o && fin27 (mostI c n o) o.k
theorem rowR_bounds (c : Cx) (C : CH) (w : World) (d : PRd w C.h c.p) (o : Opx) : 0 ≤ (rowR c.p o).2.1 ∧ (rowR c.p o).2.1 ≤ 9223372036854775807 := by
  have pm : ∀ {a : Option Addr} {n : Nat} {gs : List (GH × Sg)}, GRd w a n gs → 0 ≤ (parmB (gs.map (·.2)) o.k).1 ∧ (parmB (gs.map (·.2)) o.k).1 ≤ 9223372036854775807 := by
    intro a n gs dg
    cases hb : blw o.k (gs.length : Int) with
    | false => unfold parmB; rw [List.length_map, hb]; simp
    | true =>
      obtain ⟨kk, hkk, hk⟩ := blw_nat hb
      obtain ⟨g, hg, sg, _⟩ := dg.sig (by rw [dg.n1]; exact hk)
      rw [hkk, parm_at hg (by rw [← hkk]; exact hb)]
      have h1 := sg.pn
      have h2 := sg.p2
      simp only
      omega
  unfold rowR
  split
  · cases hb : blw o.k (c.p.recs.length : Int) with
    | false => simp
    | true =>
      obtain ⟨kk, hkk, hk⟩ := blw_nat hb
      obtain ⟨g, hg, sg, _⟩ := d.r.recT (by rw [d.r.n1]; exact hk)
      have h1 := sg.tn
      have h2 := sg.t2
      simp only [if_true, hkk, Int.toNat_natCast, List.getD_eq_getElem?_getD, List.getElem?_map, hg, Option.map_some, Option.getD_some]
      omega
  · split
    · split
      · exact pm d.f
      · simp
    · split
      · split
        · exact pm d.e
        · simp
      · split
        · simp
        · simp
set_option maxRecDepth 100000 in
set_option maxHeartbeats 8000000 in
theorem refIsOp_any (w : World) (C : CH) (c : Cx) (fs es : List (FH × Fx)) (dd : CdRd w C c fs es) (regs : Int) (h0 : 0 ≤ regs) (h64 : regs ≤ 64) (n : Nat) (hn : n ≤ 9223372036854775807) (o : Opx) :
    Calls Tryz.prog 70 #[C.v, .int .i64 regs, .int .i64 (n : Int), .agg o.cs] w fun e w' => e = .returned (.bool (refOp c regs n o)) ∧ Below w.heap.size w w' := by
  obtain ⟨A1, hA1⟩ : ∃ A1, A1 = w.alloc (.cells C.cs 31) := ⟨_, rfl⟩
  obtain ⟨W0, hW0⟩ : ∃ W0, W0 = A1.alloc (.cells o.cs 54) := ⟨_, rfl⟩
  have b1 : Below w.heap.size w A1 := by rw [hA1]; exact (Below.refl _ _).alloc (Nat.le_refl _) _
  have z1 : A1.heap.size = w.heap.size + 1 := by rw [hA1]; simp
  have z2 : W0.heap.size = w.heap.size + 2 := by rw [hW0]; simp; omega
  have b2 : Below w.heap.size w W0 := by rw [hW0]; exact b1.alloc (by omega) _
  have m0 : W0.heap[w.heap.size]? = some (.cells C.cs 31 (0, 0)) := by rw [hW0, Below.heap_alloc _ _ _ (by omega), hA1]; exact heap_alloc_new w _
  have m1 : W0.heap[w.heap.size + 1]? = some (.cells o.cs 54 (0, 0)) := by rw [hW0, ← z1]; exact heap_alloc_new A1 _
  have L := dd.lns
  have RB := hid (rowR_bounds c C w dd.p o)
  obtain ⟨fo, hfo⟩ : ∃ fo, fo = frm o.c := ⟨_, rfl⟩
  have KO : Hid (Calls Tryz.prog 101 #[.int .i64 o.c] W0 fun e w' => e = .returned (.tuple #[.agg fo.cs.toArray, .bool fo.ok]) ∧ Below W0.heap.size W0 w') := hid (by rw [hfo]; exact of_any W0 o.c)
  obtain ⟨⟨fr, mny, okr⟩, hrw⟩ : ∃ rw, rw = rowR c.p o := ⟨_, rfl⟩
  have KR : Hid (∀ V : World, Below w.heap.size w V → Calls Tryz.prog 102 #[C.h.v, .agg o.cs] V fun e w' => e = .returned (.tuple #[.int .i64 fr, .int .i64 mny, .bool okr]) ∧ Below V.heap.size V w') := hid (fun V hV => by
    have := row_any V C.h c.p (dd.p.below (Nat.le_refl _) hV) o
    unfold rowE at this
    rw [← hrw] at this; exact this)
  have RB2 : 0 ≤ mny ∧ mny ≤ 9223372036854775807 := by have := RB.out; rw [← hrw] at this; exact this
  have CX := hid (fun (V : World) (hV : Below W0.heap.size W0 V) (X : Nat) (hx : V.heap[X]? = some (.cells fo.cs.toArray 155 (0, 0))) => (⟨(hV.block _ (by omega)).trans m0, (hV.block _ (by omega)).trans m1, hx, b2.trans (hV.mono b2.size)⟩ : V.heap[w.heap.size]? = some (.cells C.cs 31 (0, 0)) ∧ V.heap[w.heap.size + 1]? = some (.cells o.cs 54 (0, 0)) ∧ V.heap[X]? = some (.cells fo.cs.toArray 155 (0, 0)) ∧ Below w.heap.size w V))
  obtain ⟨res, hres⟩ : ∃ res, res = refOp c regs n o := ⟨_, rfl⟩
  rw [← hres]
  obtain ⟨mo, hmo⟩ : ∃ mo, mo = mostI c n o := ⟨_, rfl⟩
  have HRES : Hid (res = (!bad2 fo.d fo.a fo.b fo.k fo.ok o && !bad5 regs fr mny okr && !bad7 fo.d regs o && !bad9 fo.a regs o && !bad11 fo.b regs o && fin27 mo o.k)) := hid (by rw [hres, hmo, hfo]; unfold refOp; rw [← hrw])
  have MO : Hid (mo = (if o.c = 1 then (C.inn : Int) else if o.c = 2 ∨ o.c = 32 then (C.tn : Int) else if o.c = 3 then 2 else if o.c = 25 then 12 else if o.c = 38 ∨ o.c = 39 then (n : Int) else -1)) := hid (by rw [hmo, L.i1, L.t1]; rfl)
  have li := L.i2
  have lt := L.t2
  have x0' := cellOf m1 0
  clear hres hmo hrw hfo dd b1 b2 m0 m1 z1 z2 RB L
  obtain ⟨⟨ra, rn, rc, ma, mn, mc, fa', fn, fc, ea, en, ec⟩, ia, inn, ic, ta, tn, tc, ga, gn, gc, ha, hn', hc'⟩ := C
  obtain ⟨oc, od, oa, ob, ok⟩ := o
  obtain ⟨fd, fa, fb, fk, fok⟩ := fo
  obtain ⟨r0, r1⟩ := RB2
  simp only [CH.v, CH.cs, Opx.cs, PH.v, Frm.cs] at hA1 hW0 KO KR CX HRES MO li lt x0' ⊢
  have CF := hid (fun (V : World) (hV : Below W0.heap.size W0 V) (X : Nat) hx => (by
    obtain ⟨g0, g1, g2, g3⟩ := CX.out V hV X hx
    exact ⟨⟨cellOf g0 0, cellOf g0 1, cellOf g0 2, cellOf g0 3, cellOf g0 4, cellOf g0 5⟩, ⟨cellOf g1 0, cellOf g1 1, cellOf g1 2, cellOf g1 3, cellOf g1 4⟩, ⟨cellOf g2 0, cellOf g2 1, cellOf g2 2, cellOf g2 3⟩, g3⟩ : (V.cell? ⟨w.heap.size, 0, none⟩ = some (.slice ra rn rc) ∧ V.cell? ⟨w.heap.size, 1, none⟩ = some (.slice ma mn mc) ∧ V.cell? ⟨w.heap.size, 2, none⟩ = some (.slice fa' fn fc) ∧ V.cell? ⟨w.heap.size, 3, none⟩ = some (.slice ea en ec) ∧ V.cell? ⟨w.heap.size, 4, none⟩ = some (.slice ia inn ic) ∧ V.cell? ⟨w.heap.size, 5, none⟩ = some (.slice ta tn tc)) ∧ (V.cell? ⟨w.heap.size + 1, 0, none⟩ = some (.int .i64 oc) ∧ V.cell? ⟨w.heap.size + 1, 1, none⟩ = some (.int .i64 od) ∧ V.cell? ⟨w.heap.size + 1, 2, none⟩ = some (.int .i64 oa) ∧ V.cell? ⟨w.heap.size + 1, 3, none⟩ = some (.int .i64 ob) ∧ V.cell? ⟨w.heap.size + 1, 4, none⟩ = some (.int .i64 ok)) ∧ (V.cell? ⟨X, 0, none⟩ = some (.bool fd) ∧ V.cell? ⟨X, 1, none⟩ = some (.bool fa) ∧ V.cell? ⟨X, 2, none⟩ = some (.bool fb) ∧ V.cell? ⟨X, 3, none⟩ = some (.bool fk)) ∧ Below w.heap.size w V))
  simp only [List.getElem?_toArray, List.getElem?_cons_zero] at x0'
  clear CX
  go_enter Tryz.func70, Tryz.ntmps70
  go_upto_region 1 with fail
  rw [← hA1, ← hW0]
  clear hA1 hW0
  go_upto_region 2 with (go_at_call 101; (refine (Hid.out KO).mono ?_; rintro e w1 ⟨rfl, hb1⟩; have HB1 := hid hb1; clear hb1))
  obtain ⟨W1, hW1⟩ : ∃ W1, W1 = w1.alloc (.cells #[.bool fd, .bool fa, .bool fb, .bool fk] 155) := ⟨_, rfl⟩
  obtain ⟨X, hX⟩ : ∃ X, X = w1.heap.size := ⟨_, rfl⟩
  have mX : W1.heap[X]? = some (.cells #[.bool fd, .bool fa, .bool fb, .bool fk] 155 (0, 0)) := by rw [hW1, hX]; exact heap_alloc_new w1 _
  have bW1 : Below W0.heap.size W0 W1 := by rw [hW1]; exact HB1.out.alloc HB1.out.size _
  rw [← hW1, ← hX]
  clear hW1 hX x0'
  have MX := hid mX
  have BW1 := hid bW1
  obtain ⟨⟨c0, c1, c2, c3, c4, c5⟩, ⟨x0, x1, x2, x3, x4⟩, ⟨y0, y1, y2, y3⟩, gb⟩ := CF.out W1 bW1 X mX
  have GB := hid gb
  clear mX bW1 gb KO HB1
  obtain ⟨b2, hb2⟩ : ∃ b2, b2 = bad2 fd fa fb fk fok ⟨oc, od, oa, ob, ok⟩ := ⟨_, rfl⟩
  have HB2 := hid hb2
  have HRES2 : Hid (res = (!b2 && !bad5 regs fr mny okr && !bad7 fd regs ⟨oc, od, oa, ob, ok⟩ && !bad9 fa regs ⟨oc, od, oa, ob, ok⟩ && !bad11 fb regs ⟨oc, od, oa, ob, ok⟩ && fin27 mo ok)) := hid (by rw [hb2]; exact HRES.out)
  clear hb2 HRES
  go_cut [61] from 20 to 61 (fun s wc => s = .bool b2 ∧ wc = W1)
  case first =>
    clear HRES2 MO KR CF
    cases fok with
    | false =>
      go_wp2
      go_meet
      exact ⟨by rw [HB2.out]; simp [bad2, bad5, bad7, bad9, bad11, fin27, *], rfl⟩
    | true =>
      cases fd with
      | true =>
        cases fa with
        | true =>
          cases fb with
          | true =>
            cases fk with
            | true =>
              go_wp2
              go_meet
              exact ⟨by rw [HB2.out]; simp [bad2, bad5, bad7, bad9, bad11, fin27, *], rfl⟩
            | false =>
              by_cases hok : ok = 0
              · have qok : (ok != 0) = false := by simp [hok]
                go_wp2
                go_meet
                exact ⟨by rw [HB2.out]; simp [bad2, bad5, bad7, bad9, bad11, fin27, *], rfl⟩
              · have qok : (ok != 0) = true := by simp [hok]
                go_wp2
                go_meet
                exact ⟨by rw [HB2.out]; simp [bad2, bad5, bad7, bad9, bad11, fin27, *], rfl⟩
          | false =>
            by_cases hob : ob = 0
            · have qob : (ob != 0) = false := by simp [hob]
              cases fk with
              | true =>
                go_wp2
                go_meet
                exact ⟨by rw [HB2.out]; simp [bad2, bad5, bad7, bad9, bad11, fin27, *], rfl⟩
              | false =>
                by_cases hok : ok = 0
                · have qok : (ok != 0) = false := by simp [hok]
                  go_wp2
                  go_meet
                  exact ⟨by rw [HB2.out]; simp [bad2, bad5, bad7, bad9, bad11, fin27, *], rfl⟩
                · have qok : (ok != 0) = true := by simp [hok]
                  go_wp2
                  go_meet
                  exact ⟨by rw [HB2.out]; simp [bad2, bad5, bad7, bad9, bad11, fin27, *], rfl⟩
            · have qob : (ob != 0) = true := by simp [hob]
              go_wp2
              go_meet
              exact ⟨by rw [HB2.out]; simp [bad2, bad5, bad7, bad9, bad11, fin27, *], rfl⟩
        | false =>
          by_cases hoa : oa = 0
          · have qoa : (oa != 0) = false := by simp [hoa]
            cases fb with
            | true =>
              cases fk with
              | true =>
                go_wp2
                go_meet
                exact ⟨by rw [HB2.out]; simp [bad2, bad5, bad7, bad9, bad11, fin27, *], rfl⟩
              | false =>
                by_cases hok : ok = 0
                · have qok : (ok != 0) = false := by simp [hok]
                  go_wp2
                  go_meet
                  exact ⟨by rw [HB2.out]; simp [bad2, bad5, bad7, bad9, bad11, fin27, *], rfl⟩
                · have qok : (ok != 0) = true := by simp [hok]
                  go_wp2
                  go_meet
                  exact ⟨by rw [HB2.out]; simp [bad2, bad5, bad7, bad9, bad11, fin27, *], rfl⟩
            | false =>
              by_cases hob : ob = 0
              · have qob : (ob != 0) = false := by simp [hob]
                cases fk with
                | true =>
                  go_wp2
                  go_meet
                  exact ⟨by rw [HB2.out]; simp [bad2, bad5, bad7, bad9, bad11, fin27, *], rfl⟩
                | false =>
                  by_cases hok : ok = 0
                  · have qok : (ok != 0) = false := by simp [hok]
                    go_wp2
                    go_meet
                    exact ⟨by rw [HB2.out]; simp [bad2, bad5, bad7, bad9, bad11, fin27, *], rfl⟩
                  · have qok : (ok != 0) = true := by simp [hok]
                    go_wp2
                    go_meet
                    exact ⟨by rw [HB2.out]; simp [bad2, bad5, bad7, bad9, bad11, fin27, *], rfl⟩
              · have qob : (ob != 0) = true := by simp [hob]
                go_wp2
                go_meet
                exact ⟨by rw [HB2.out]; simp [bad2, bad5, bad7, bad9, bad11, fin27, *], rfl⟩
          · have qoa : (oa != 0) = true := by simp [hoa]
            go_wp2
            go_meet
            exact ⟨by rw [HB2.out]; simp [bad2, bad5, bad7, bad9, bad11, fin27, *], rfl⟩
      | false =>
        by_cases hod : od = 0
        · have qod : (od != 0) = false := by simp [hod]
          cases fa with
          | true =>
            cases fb with
            | true =>
              cases fk with
              | true =>
                go_wp2
                go_meet
                exact ⟨by rw [HB2.out]; simp [bad2, bad5, bad7, bad9, bad11, fin27, *], rfl⟩
              | false =>
                by_cases hok : ok = 0
                · have qok : (ok != 0) = false := by simp [hok]
                  go_wp2
                  go_meet
                  exact ⟨by rw [HB2.out]; simp [bad2, bad5, bad7, bad9, bad11, fin27, *], rfl⟩
                · have qok : (ok != 0) = true := by simp [hok]
                  go_wp2
                  go_meet
                  exact ⟨by rw [HB2.out]; simp [bad2, bad5, bad7, bad9, bad11, fin27, *], rfl⟩
            | false =>
              by_cases hob : ob = 0
              · have qob : (ob != 0) = false := by simp [hob]
                cases fk with
                | true =>
                  go_wp2
                  go_meet
                  exact ⟨by rw [HB2.out]; simp [bad2, bad5, bad7, bad9, bad11, fin27, *], rfl⟩
                | false =>
                  by_cases hok : ok = 0
                  · have qok : (ok != 0) = false := by simp [hok]
                    go_wp2
                    go_meet
                    exact ⟨by rw [HB2.out]; simp [bad2, bad5, bad7, bad9, bad11, fin27, *], rfl⟩
                  · have qok : (ok != 0) = true := by simp [hok]
                    go_wp2
                    go_meet
                    exact ⟨by rw [HB2.out]; simp [bad2, bad5, bad7, bad9, bad11, fin27, *], rfl⟩
              · have qob : (ob != 0) = true := by simp [hob]
                go_wp2
                go_meet
                exact ⟨by rw [HB2.out]; simp [bad2, bad5, bad7, bad9, bad11, fin27, *], rfl⟩
          | false =>
            by_cases hoa : oa = 0
            · have qoa : (oa != 0) = false := by simp [hoa]
              cases fb with
              | true =>
                cases fk with
                | true =>
                  go_wp2
                  go_meet
                  exact ⟨by rw [HB2.out]; simp [bad2, bad5, bad7, bad9, bad11, fin27, *], rfl⟩
                | false =>
                  by_cases hok : ok = 0
                  · have qok : (ok != 0) = false := by simp [hok]
                    go_wp2
                    go_meet
                    exact ⟨by rw [HB2.out]; simp [bad2, bad5, bad7, bad9, bad11, fin27, *], rfl⟩
                  · have qok : (ok != 0) = true := by simp [hok]
                    go_wp2
                    go_meet
                    exact ⟨by rw [HB2.out]; simp [bad2, bad5, bad7, bad9, bad11, fin27, *], rfl⟩
              | false =>
                by_cases hob : ob = 0
                · have qob : (ob != 0) = false := by simp [hob]
                  cases fk with
                  | true =>
                    go_wp2
                    go_meet
                    exact ⟨by rw [HB2.out]; simp [bad2, bad5, bad7, bad9, bad11, fin27, *], rfl⟩
                  | false =>
                    by_cases hok : ok = 0
                    · have qok : (ok != 0) = false := by simp [hok]
                      go_wp2
                      go_meet
                      exact ⟨by rw [HB2.out]; simp [bad2, bad5, bad7, bad9, bad11, fin27, *], rfl⟩
                    · have qok : (ok != 0) = true := by simp [hok]
                      go_wp2
                      go_meet
                      exact ⟨by rw [HB2.out]; simp [bad2, bad5, bad7, bad9, bad11, fin27, *], rfl⟩
                · have qob : (ob != 0) = true := by simp [hob]
                  go_wp2
                  go_meet
                  exact ⟨by rw [HB2.out]; simp [bad2, bad5, bad7, bad9, bad11, fin27, *], rfl⟩
            · have qoa : (oa != 0) = true := by simp [hoa]
              go_wp2
              go_meet
              exact ⟨by rw [HB2.out]; simp [bad2, bad5, bad7, bad9, bad11, fin27, *], rfl⟩
        · have qod : (od != 0) = true := by simp [hod]
          go_wp2
          go_meet
          exact ⟨by rw [HB2.out]; simp [bad2, bad5, bad7, bad9, bad11, fin27, *], rfl⟩
  case rest =>
  obtain ⟨rfl, rfl⟩ := hcut
  clear HB2
  cases b2 with
  | true =>
    have HF : Hid (res = false) := hid (by rw [HRES2.out]; simp)
    go_wp2
    go_ret
    exact ⟨by rw [HF.out]; rfl, GB.out⟩
  | false =>
  have KRw := hid (KR.out wc GB.out)
  go_upto_region 5 with (go_at_call 102; (refine (Hid.out KRw).mono ?_; rintro e w2 ⟨rfl, hb2⟩; have HBB := hid hb2; clear hb2))
  clear c0 c1 c2 c3 c4 c5 x0 x1 x2 x3 x4 y0 y1 y2 y3
  obtain ⟨⟨c0, c1, c2, c3, c4, c5⟩, ⟨x0, x1, x2, x3, x4⟩, ⟨y0, y1, y2, y3⟩, gb⟩ := CF.out w2 (BW1.out.trans (HBB.out.mono BW1.out.size)) X ((HBB.out.block _ (lt_of_heap MX.out)).trans MX.out)
  clear GB
  have GB := hid gb
  clear gb KR KRw HBB BW1 MX CF
  go_upto_region 5 with fail
  obtain ⟨b5, hb5⟩ : ∃ b5, b5 = bad5 regs fr mny okr := ⟨_, rfl⟩
  have HB := hid hb5
  have HR3 : Hid (res = (!b5 && !bad7 fd regs ⟨oc, od, oa, ob, ok⟩ && !bad9 fa regs ⟨oc, od, oa, ob, ok⟩ && !bad11 fb regs ⟨oc, od, oa, ob, ok⟩ && fin27 mo ok)) := hid (by rw [hb5, HRES2.out]; simp [Bool.and_assoc])
  clear hb5 HRES2
  have HRES2 := HR3
  clear HR3
  go_cut [87] from 70 to 87 (fun s wx => s = .bool b5 ∧ wx = w2)
  case first =>
    clear HRES2 MO
    cases okr with
    | true =>
      by_cases p1 : fr < 0
      · have dp1 : decide (fr < 0) = true := decide_eq_true p1
        go_wp2
        go_meet
        exact ⟨by rw [HB.out]; simp [bad2, bad5, bad7, bad9, bad11, fin27, *], rfl⟩
      · have dp1 : decide (fr < 0) = false := decide_eq_false p1
        by_cases p2 : regs < fr
        · have dp2 : decide (regs < fr) = true := decide_eq_true p2
          go_wp2
          go_meet
          exact ⟨by rw [HB.out]; simp [bad2, bad5, bad7, bad9, bad11, fin27, *], rfl⟩
        · have dp2 : decide (regs < fr) = false := decide_eq_false p2
          have wq : IntKind.i64.wrap (regs - fr) = regs - fr := by rw [IntKind.wrap_i64]; omega
          by_cases p3 : regs - fr < mny
          · have dp3 : decide (regs - fr < mny) = true := decide_eq_true p3
            go_wp2
            go_meet
            exact ⟨by rw [HB.out]; simp [bad2, bad5, bad7, bad9, bad11, fin27, *], rfl⟩
          · have dp3 : decide (regs - fr < mny) = false := decide_eq_false p3
            go_wp2
            go_meet
            exact ⟨by rw [HB.out]; simp [bad2, bad5, bad7, bad9, bad11, fin27, *], rfl⟩
    | false =>
      go_wp2
      go_meet
      exact ⟨by rw [HB.out]; simp [bad2, bad5, bad7, bad9, bad11, fin27, *], rfl⟩
  case rest =>
  obtain ⟨rfl, rfl⟩ := hcut
  clear HB
  cases b5 with
  | true =>
    have HF : Hid (res = false) := hid (by rw [HRES2.out]; simp)
    go_wp2
    go_ret
    exact ⟨by rw [HF.out]; rfl, GB.out⟩
  | false =>
  go_upto_region 7 with fail
  obtain ⟨b7, hb7⟩ : ∃ b7, b7 = bad7 fd regs ⟨oc, od, oa, ob, ok⟩ := ⟨_, rfl⟩
  have HB := hid hb7
  have HR3 : Hid (res = (!b7 && !bad9 fa regs ⟨oc, od, oa, ob, ok⟩ && !bad11 fb regs ⟨oc, od, oa, ob, ok⟩ && fin27 mo ok)) := hid (by rw [hb7, HRES2.out]; simp [Bool.and_assoc])
  clear hb7 HRES2
  have HRES2 := HR3
  clear HR3
  go_cut [110] from 88 to 110 (fun s wx => s = .bool b7 ∧ wx = wc)
  case first =>
    clear HRES2 MO
    cases fd with
    | true =>
      by_cases e1 : regs ≤ od
      · have de1 : decide (regs ≤ od) = true := decide_eq_true e1
        go_wp2
        go_meet
        exact ⟨by rw [HB.out]; simp [bad2, bad5, bad7, bad9, bad11, fin27, *], rfl⟩
      · have de1 : decide (regs ≤ od) = false := decide_eq_false e1
        by_cases e2 : od < 0
        · have de2 : decide (od < 0) = true := decide_eq_true e2
          by_cases e3 : oc = 31
          · have qe3 : (oc != 31) = false := by simp [e3]
            clear e3
            by_cases e4 : od = -1
            · have qe4 : (od != -1) = false := by simp [e4]
              clear e4
              go_wp2
              go_meet
              exact ⟨by rw [HB.out]; simp [bad2, bad5, bad7, bad9, bad11, fin27, *], rfl⟩
            · have qe4 : (od != -1) = true := by simp [e4]
              go_wp2
              go_meet
              exact ⟨by rw [HB.out]; simp [bad2, bad5, bad7, bad9, bad11, fin27, *], rfl⟩
          · have qe3 : (oc != 31) = true := by simp [e3]
            go_wp2
            go_meet
            exact ⟨by rw [HB.out]; simp [bad2, bad5, bad7, bad9, bad11, fin27, *], rfl⟩
        · have de2 : decide (od < 0) = false := decide_eq_false e2
          go_wp2
          go_meet
          exact ⟨by rw [HB.out]; simp [bad2, bad5, bad7, bad9, bad11, fin27, *], rfl⟩
    | false =>
      go_wp2
      go_meet
      exact ⟨by rw [HB.out]; simp [bad2, bad5, bad7, bad9, bad11, fin27, *], rfl⟩
  case rest =>
  obtain ⟨rfl, rfl⟩ := hcut
  clear HB
  cases b7 with
  | true =>
    have HF : Hid (res = false) := hid (by rw [HRES2.out]; simp)
    go_wp2
    go_ret
    exact ⟨by rw [HF.out]; rfl, GB.out⟩
  | false =>
  go_upto_region 9 with fail
  obtain ⟨b9, hb9⟩ : ∃ b9, b9 = bad9 fa regs ⟨oc, od, oa, ob, ok⟩ := ⟨_, rfl⟩
  have HB := hid hb9
  have HR3 : Hid (res = (!b9 && !bad11 fb regs ⟨oc, od, oa, ob, ok⟩ && fin27 mo ok)) := hid (by rw [hb9, HRES2.out]; simp [Bool.and_assoc])
  clear hb9 HRES2
  have HRES2 := HR3
  clear HR3
  go_cut [143] from 111 to 143 (fun s wx => s = .bool b9 ∧ wx = wc)
  case first =>
    clear HRES2 MO
    cases fa with
    | true =>
      by_cases a1 : oc = 24
      · have qa1 : (oc != 24) = false := by simp [a1]
        clear a1
        go_wp2
        go_meet
        exact ⟨by rw [HB.out]; simp [bad2, bad5, bad7, bad9, bad11, fin27, *], rfl⟩
      · have qa1 : (oc != 24) = true := by simp [a1]
        by_cases a2 : oc = 31
        · have qa2 : (oc != 31) = false := by simp [a2]
          clear a2
          go_wp2
          go_meet
          exact ⟨by rw [HB.out]; simp [bad2, bad5, bad7, bad9, bad11, fin27, *], rfl⟩
        · have qa2 : (oc != 31) = true := by simp [a2]
          by_cases e1 : regs ≤ oa
          · have de1 : decide (regs ≤ oa) = true := decide_eq_true e1
            go_wp2
            go_meet
            exact ⟨by rw [HB.out]; simp [bad2, bad5, bad7, bad9, bad11, fin27, *], rfl⟩
          · have de1 : decide (regs ≤ oa) = false := decide_eq_false e1
            by_cases e2 : oa < 0
            · have de2 : decide (oa < 0) = true := decide_eq_true e2
              by_cases e3 : oc = 40
              · have qe3 : (oc != 40) = false := by simp [e3]
                clear e3
                by_cases e4 : oa = -1
                · have qe4 : (oa != -1) = false := by simp [e4]
                  clear e4
                  go_wp2
                  go_meet
                  exact ⟨by rw [HB.out]; simp [bad2, bad5, bad7, bad9, bad11, fin27, *], rfl⟩
                · have qe4 : (oa != -1) = true := by simp [e4]
                  go_wp2
                  go_meet
                  exact ⟨by rw [HB.out]; simp [bad2, bad5, bad7, bad9, bad11, fin27, *], rfl⟩
              · have qe3 : (oc != 40) = true := by simp [e3]
                go_wp2
                go_meet
                exact ⟨by rw [HB.out]; simp [bad2, bad5, bad7, bad9, bad11, fin27, *], rfl⟩
            · have de2 : decide (oa < 0) = false := decide_eq_false e2
              go_wp2
              go_meet
              exact ⟨by rw [HB.out]; simp [bad2, bad5, bad7, bad9, bad11, fin27, *], rfl⟩
    | false =>
      go_wp2
      go_meet
      exact ⟨by rw [HB.out]; simp [bad2, bad5, bad7, bad9, bad11, fin27, *], rfl⟩
  case rest =>
  obtain ⟨rfl, rfl⟩ := hcut
  clear HB
  cases b9 with
  | true =>
    have HF : Hid (res = false) := hid (by rw [HRES2.out]; simp)
    go_wp2
    go_ret
    exact ⟨by rw [HF.out]; rfl, GB.out⟩
  | false =>
  go_upto_region 11 with fail
  obtain ⟨b11, hb11⟩ : ∃ b11, b11 = bad11 fb regs ⟨oc, od, oa, ob, ok⟩ := ⟨_, rfl⟩
  have HB := hid hb11
  have HR3 : Hid (res = (!b11 && fin27 mo ok)) := hid (by rw [hb11, HRES2.out]; simp [Bool.and_assoc])
  clear hb11 HRES2
  have HRES2 := HR3
  clear HR3
  go_cut [161] from 144 to 161 (fun s wx => s = .bool b11 ∧ wx = wc)
  case first =>
    clear HRES2 MO
    cases fb with
    | true =>
      by_cases a1 : oc = 34
      · have qa1 : (oc != 34) = false := by simp [a1]
        clear a1
        go_wp2
        go_meet
        exact ⟨by rw [HB.out]; simp [bad2, bad5, bad7, bad9, bad11, fin27, *], rfl⟩
      · have qa1 : (oc != 34) = true := by simp [a1]
        by_cases e2 : ob < 0
        · have de2 : decide (ob < 0) = true := decide_eq_true e2
          go_wp2
          go_meet
          exact ⟨by rw [HB.out]; simp [bad2, bad5, bad7, bad9, bad11, fin27, *], rfl⟩
        · have de2 : decide (ob < 0) = false := decide_eq_false e2
          by_cases e1 : regs ≤ ob
          · have de1 : decide (regs ≤ ob) = true := decide_eq_true e1
            go_wp2
            go_meet
            exact ⟨by rw [HB.out]; simp [bad2, bad5, bad7, bad9, bad11, fin27, *], rfl⟩
          · have de1 : decide (regs ≤ ob) = false := decide_eq_false e1
            go_wp2
            go_meet
            exact ⟨by rw [HB.out]; simp [bad2, bad5, bad7, bad9, bad11, fin27, *], rfl⟩
    | false =>
      go_wp2
      go_meet
      exact ⟨by rw [HB.out]; simp [bad2, bad5, bad7, bad9, bad11, fin27, *], rfl⟩
  case rest =>
  obtain ⟨rfl, rfl⟩ := hcut
  clear HB
  cases b11 with
  | true =>
    have HF : Hid (res = false) := hid (by rw [HRES2.out]; simp)
    go_wp2
    go_ret
    exact ⟨by rw [HF.out]; rfl, GB.out⟩
  | false =>
  have HR3 : Hid (res = fin27 mo ok) := hid (by rw [HRES2.out]; simp)
  clear HRES2
  go_upto_block 0 with fail
  go_cut [13] from 164 to 182 (fun s wx => s = .int .i64 mo ∧ wx = wc)
  case first =>
    clear HR3
    by_cases m1 : oc = 1
    · subst m1
      go_wp2
      go_meet
      exact ⟨by rw [MO.out]; simp [*], rfl⟩
    have n1 : (oc == 1) = false := by simp [m1]
    by_cases m2 : oc = 2
    · subst m2
      go_wp2
      go_meet
      exact ⟨by rw [MO.out]; simp [*], rfl⟩
    have n2 : (oc == 2) = false := by simp [m2]
    by_cases m32 : oc = 32
    · subst m32
      go_wp2
      go_meet
      exact ⟨by rw [MO.out]; simp [*], rfl⟩
    have n32 : (oc == 32) = false := by simp [m32]
    by_cases m3 : oc = 3
    · subst m3
      go_wp2
      go_meet
      exact ⟨by rw [MO.out]; simp [*], rfl⟩
    have n3 : (oc == 3) = false := by simp [m3]
    by_cases m25 : oc = 25
    · subst m25
      go_wp2
      go_meet
      exact ⟨by rw [MO.out]; simp [*], rfl⟩
    have n25 : (oc == 25) = false := by simp [m25]
    by_cases m38 : oc = 38
    · subst m38
      go_wp2
      go_meet
      exact ⟨by rw [MO.out]; simp [*], rfl⟩
    have n38 : (oc == 38) = false := by simp [m38]
    by_cases m39 : oc = 39
    · subst m39
      go_wp2
      go_meet
      exact ⟨by rw [MO.out]; simp [*], rfl⟩
    have n39 : (oc == 39) = false := by simp [m39]
    go_wp2
    go_meet
    exact ⟨by rw [MO.out]; simp [*], rfl⟩
  case rest =>
  obtain ⟨rfl, rfl⟩ := hcut
  clear MO
  by_cases e1 : mo < 0
  · have de1 : decide (mo < 0) = true := decide_eq_true e1
    go_wp2
    go_ret
    exact ⟨by rw [HR3.out]; simp [fin27, *], GB.out⟩
  · have de1 : decide (mo < 0) = false := decide_eq_false e1
    by_cases e2 : 0 ≤ ok
    · have de2 : decide (0 ≤ ok) = true := decide_eq_true e2
      by_cases e3 : ok < mo
      · have de3 : decide (ok < mo) = true := decide_eq_true e3
        go_wp2
        go_ret
        exact ⟨by rw [HR3.out]; simp [fin27, *], GB.out⟩
      · have de3 : decide (ok < mo) = false := decide_eq_false e3
        go_wp2
        go_ret
        exact ⟨by rw [HR3.out]; simp [fin27, *], GB.out⟩
    · have de2 : decide (0 ≤ ok) = false := decide_eq_false e2
      go_wp2
      go_ret
      exact ⟨by rw [HR3.out]; simp [fin27, *], GB.out⟩
end Go.Proofs.YthnolocldeokeaaGreat

namespace Go.Proofs.YthnolocldeokeaaGreat
open Go.RowKit Go.Deep Go.Shelf
set_option linter.unusedVariables false
set_option linter.unusedSimpArgs false
def refFnB (c : Cx) (pn : Nat) (f : Fx) : Bool := !(decide (f.regs < (pn : Int)) || decide (64 < f.regs) || decide (f.ops.length < 1) || decide (2000 < f.ops.length)) && f.ops.all (refOp c f.regs f.ops.length)
def okAtZ (c : Cx) (gs : List (GH × Sg)) (l : List (FH × Fx)) (j : Nat) : Bool := match gs[j]?, l[j]? with
  | some g, some f => refFnB c g.1.pn f.2
  | _, _ => true
def refFnsB (c : Cx) (gs : List (GH × Sg)) (l : List (FH × Fx)) : Bool := decide (l.length = gs.length) && (List.range l.length).all (okAtZ c gs l)
set_option maxRecDepth 100000 in
set_option maxHeartbeats 8000000 in
theorem refIsFns_any (w : World) (C : CH) (c : Cx) (fs es : List (FH × Fx)) (dd : CdRd w C c fs es) (a : Option Addr) (n cap : Nat) (l : List (FH × Fx)) (dl : FRd w a n l) (sa : Option Addr) (sn sc : Nat) (gs : List (GH × Sg)) (dg : GRd w sa sn gs) :
    Calls Tryz.prog 35 #[C.v, .slice a n cap, .slice sa sn sc] w fun e w' => e = .returned (.bool (refFnsB c gs l)) ∧ Below w.heap.size w w' := by
  obtain ⟨W0, hW0⟩ : ∃ W0, W0 = w.alloc (.cells C.cs 31) := ⟨_, rfl⟩
  have b0 : Below w.heap.size w W0 := by rw [hW0]; exact (Below.refl _ _).alloc (Nat.le_refl _) _
  have m0 : W0.heap[w.heap.size]? = some (.cells C.cs 31 (0, 0)) := by rw [hW0]; exact heap_alloc_new w _
  have GT : Hid (∀ V : World, Below W0.heap.size W0 V → V.heap[w.heap.size]? = some (.cells C.cs 31 (0, 0)) ∧ Below w.heap.size w V) := hid (fun V hV => ⟨(hV.block _ (lt_of_heap m0)).trans m0, b0.trans (hV.mono b0.size)⟩)
  have KO := hid (fun (V : World) (hV : Below w.heap.size w V) (regs : Int) (h0 : 0 ≤ regs) (h64 : regs ≤ 64) (m : Nat) (hm : m ≤ 9223372036854775807) (o : Opx) => refIsOp_any V C c fs es (dd.below (Nat.le_refl _) hV) regs h0 h64 m hm o)
  have n1 := hid dl.n1
  have s1 := hid dg.n1
  have n2 := dl.n2
  have s2 := dg.n2
  have DL := hid dl
  have DG := hid dg
  have B0 := hid b0
  obtain ⟨res, hres⟩ : ∃ res, res = refFnsB c gs l := ⟨_, rfl⟩
  rw [← hres]
  have HRES := hid hres
  have OKD : Hid (∀ (j : Nat) (g : GH × Sg) (f : FH × Fx), gs[j]? = some g → l[j]? = some f → okAtZ c gs l j = refFnB c g.1.pn f.2) := hid (fun j g f h1 h2 => by unfold okAtZ; rw [h1, h2])
  have RFD : Hid (∀ (pn : Nat) (f : Fx), refFnB c pn f = (!(decide (f.regs < (pn : Int)) || decide (64 < f.regs) || decide (f.ops.length < 1) || decide (2000 < f.ops.length)) && f.ops.all (refOp c f.regs f.ops.length))) := hid (fun _ _ => rfl)
  clear hres dd dl dg b0 m0
  obtain ⟨⟨ra, rn, rc, ma, mn, mc, fa, fn, fc, ea, en, ec⟩, ia, inn, ic, ta, tn, tc, ga, gn, gc, ha, hn, hc⟩ := C
  simp only [CH.v, CH.cs] at hW0 GT KO ⊢
  by_cases hlen : n = sn
  case neg =>
    have HF : Hid (res = false) := hid (by rw [HRES.out]; unfold refFnsB; rw [← n1.out, ← s1.out]; simp [hlen])
    have nb : ((n : Int) != (sn : Int)) = true := by simp; omega
    clear hlen
    go_enter Tryz.func35, Tryz.ntmps35
    go_upto_region 1 with fail
    rw [← hW0]
    clear hW0
    go_wp2
    go_ret
    exact ⟨by rw [HF.out]; rfl, B0.out⟩
  case pos =>
  subst hlen
  have HALL : Hid (res = (List.range n).all (okAtZ c gs l)) := hid (by rw [HRES.out]; unfold refFnsB; rw [← n1.out, ← s1.out]; simp)
  have HNO : Hid (∀ j, j < n → okAtZ c gs l j = false → res = false) := hid (fun j hj h => by rw [HALL.out, List.all_eq_false]; exact ⟨j, List.mem_range.2 hj, by simp [h]⟩)
  generalize okAtZ c gs l = okat at HALL HNO OKD
  have nb : ((n : Int) != (n : Int)) = false := by simp
  clear HRES
  go_enter Tryz.func35, Tryz.ntmps35
  go_upto_region 1 with fail
  rw [← hW0]
  clear hW0
  go_wp2
  go_loopg [7] n (fun g x wr => ∃ j : Nat, j + g = n ∧ x = .int .i64 (j : Int) ∧ (List.range j).all okat = true ∧ Below W0.heap.size W0 wr)
  case atStart => exact ⟨0, by omega, rfl, by simp, Below.refl _ _⟩
  case round =>
    obtain ⟨j, hj, rfl, hp, hb⟩ := hrel
    cases gk with
    | zero =>
      have hjn : j = n := by omega
      subst hjn
      have HF : Hid (res = true) := hid (by rw [HALL.out]; exact hp)
      have HB := hid (GT.out wr hb).2
      clear hp hb
      go_wp2
      go_ret
      exact ⟨by rw [HF.out]; rfl, HB.out⟩
    | succ g =>
      obtain ⟨wo, hwo⟩ : ∃ wo, wo = wr := ⟨_, rfl⟩
      subst hwo
      have bw := (GT.out wo hb).2
      have dlo := DL.out.below (Nat.le_refl _) bw
      have dgo := DG.out.below (Nat.le_refl _) bw
      have hlj : j < l.length := by rw [← n1.out]; omega
      have hfj : l[j]? = some l[j] := List.getElem?_eq_getElem hlj
      obtain ⟨gj, hgj, sgj, sb, so, rfl, sc1⟩ := dgo.sig (kk := j) (by omega)
      obtain ⟨fb, fo, rfl, hfb, hfc⟩ := dlo.rd j (l[j]).1.cs (by simp [hfj])
      have dfj := dlo.el _ (List.getElem_mem hlj)
      have HOK := hid (OKD.out j gj _ hgj hfj)
      generalize l[j] = fj at hfj hfc dfj HOK
      obtain ⟨⟨regs, oa, on, oc⟩, fx⟩ := fj
      obtain ⟨⟨nm, pa, pn, pc, kd, rr⟩, sgx⟩ := gj
      have t0 := hfc 0 (by omega)
      have t1 := hfc 1 (by omega)
      simp only [FH.cs, List.getElem?_cons_zero, List.getElem?_cons_succ, Nat.add_zero] at t0 t1 sc1
      have hpn2 : pn ≤ 9223372036854775807 := sgj.p2
      have hon2 : on ≤ 9223372036854775807 := dfj.o2
      have HRG : Hid (regs = fx.regs) := hid dfj.rg
      have HON : Hid (on = fx.ops.length) := hid dfj.on
      have ORr := hid dfj.or
      obtain ⟨A, hA⟩ : ∃ A, A = wo.alloc (.cells #[.int .i64 regs, .slice oa on oc] 57) := ⟨_, rfl⟩
      have bA : Below wo.heap.size wo A := by rw [hA]; exact (Below.refl _ _).alloc (Nat.le_refl _) _
      have bA0 : Below W0.heap.size W0 A := hb.trans (bA.mono hb.size)
      have mf : A.heap[wo.heap.size]? = some (.cells #[.int .i64 regs, .slice oa on oc] 57 (0, 0)) := by rw [hA]; exact heap_alloc_new _ _
      have g0 := cellOf mf 0
      have g1 := cellOf mf 1
      simp only [List.getElem?_toArray, List.getElem?_cons_zero, List.getElem?_cons_succ] at g0 g1
      have sA : A.cell? ⟨sb, so + j * 4 + 1, none⟩ = some (.slice pa pn pc) := (bA.cell (p := ⟨sb, so + j * 4 + 1, none⟩) (World.block_lt_of_cell? wo _ sc1)).trans sc1
      obtain ⟨X, hX⟩ : ∃ X, X = wo.heap.size := ⟨_, rfl⟩
      have hjI : (j : Int) < (n : Int) := by omega
      have hj0 : (0 : Int) ≤ (j : Int) := by omega
      have BAw := hid (GT.out A bA0).2
      have BA0 := hid bA0
      have HWo := hid bA
      rw [← hX] at g0 g1 mf
      have MF := hid mf
      have HP := hid hp
      have HOK2 : Hid (okat j = (!(decide (regs < (pn : Int)) || decide (64 < regs) || decide (on < 1) || decide (2000 < on)) && fx.ops.all (refOp c regs on))) := hid (by rw [HOK.out, RFD.out, ← HRG.out, ← HON.out])
      have HNj := hid (HNO.out j (by omega))
      clear hp hb bw dlo dgo hlj hfj hgj sgj hfb hfc dfj HOK bA bA0 mf
      have hbad : ∀ (V : World), True := fun _ => trivial
      clear hbad
      by_cases h1 : regs < (pn : Int)
      · have HF : Hid (res = false) := hid (HNj.out (by rw [HOK2.out]; simp [h1]))
        have d1 : decide (regs < (pn : Int)) = true := decide_eq_true h1
        go_upto_region 7 with fail
        rw [← hA, ← hX]
        clear hA hX sc1 t0 t1
        go_quiet (fail)
        go_wp2
        go_ret
        exact ⟨by rw [HF.out]; rfl, bel_dN BAw.out _⟩
      have d1 : decide (regs < (pn : Int)) = false := decide_eq_false h1
      by_cases h2 : 64 < regs
      · have HF : Hid (res = false) := hid (HNj.out (by rw [HOK2.out]; simp [h2]))
        have d2 : decide (64 < regs) = true := decide_eq_true h2
        go_upto_region 7 with fail
        rw [← hA, ← hX]
        clear hA hX sc1 t0 t1
        go_quiet (fail)
        go_wp2
        go_ret
        exact ⟨by rw [HF.out]; rfl, bel_dN BAw.out _⟩
      have d2 : decide (64 < regs) = false := decide_eq_false h2
      by_cases h3 : (on : Int) < 1
      · have HF : Hid (res = false) := hid (HNj.out (by rw [HOK2.out]; have : on < 1 := by omega
                                                        simp [this]))
        have d3 : decide ((on : Int) < 1) = true := decide_eq_true h3
        go_upto_region 7 with fail
        rw [← hA, ← hX]
        clear hA hX sc1 t0 t1
        go_quiet (fail)
        go_wp2
        go_ret
        exact ⟨by rw [HF.out]; rfl, bel_dN BAw.out _⟩
      have d3 : decide ((on : Int) < 1) = false := decide_eq_false h3
      by_cases h4 : (2000 : Int) < (on : Int)
      · have HF : Hid (res = false) := hid (HNj.out (by rw [HOK2.out]; have : 2000 < on := by omega
                                                        simp [this]))
        have d4 : decide ((2000 : Int) < (on : Int)) = true := decide_eq_true h4
        go_upto_region 7 with fail
        rw [← hA, ← hX]
        clear hA hX sc1 t0 t1
        go_quiet (fail)
        go_wp2
        go_ret
        exact ⟨by rw [HF.out]; rfl, bel_dN BAw.out _⟩
      have d4 : decide ((2000 : Int) < (on : Int)) = false := decide_eq_false h4
      have HOK3 : Hid (okat j = fx.ops.all (refOp c regs on)) := hid (by
        rw [HOK2.out]
        have q3 : ¬ on < 1 := by omega
        have q4 : ¬ 2000 < on := by omega
        simp [h1, h2, q3, q4])
      have hrg0 : 0 ≤ regs := by omega
      have hrg1 : regs ≤ 64 := by omega
      have KP := hid (fun (V : World) (hV : Below w.heap.size w V) (o : Opx) => KO.out V hV regs hrg0 hrg1 on hon2 o)
      generalize refOp c regs on = rop at HOK3 KP
      go_upto_region 7 with fail
      rw [← hA, ← hX]
      clear hA hX sc1 t0 t1 HOK2 hrg0 hrg1
      go_quiet (fail)
      obtain ⟨A2, hA2⟩ : ∃ A2, A2 = A.drewN nq := ⟨_, rfl⟩
      have bA2 : Below A.heap.size A A2 := by rw [hA2]; exact bel_dN (Below.refl _ _) _
      have e0 : A2.cell? ⟨X, 0, none⟩ = some (.int .i64 regs) := by rw [hA2]; exact g0
      have e1 : A2.cell? ⟨X, 1, none⟩ = some (.slice oa on oc) := by rw [hA2]; exact g1
      rw [← hA2]
      clear hA2 g0 g1 sA
      have BA2 := hid bA2
      clear bA2
      go_wp2
      go_loopg [9] on (fun g2 x wr2 => ∃ i : Nat, i + g2 = on ∧ x = .int .i64 (i : Int) ∧ (fx.ops.take i).all rop = true ∧ Below A.heap.size A wr2)
      case atStart => exact ⟨0, by omega, rfl, by simp, BA2.out⟩
      case round =>
        obtain ⟨i, hi, rfl, hq, hb2⟩ := hrel
        have bwr := BA0.out.trans (hb2.mono BA0.out.size)
        have mX := (hb2.block X (lt_of_heap MF.out)).trans MF.out
        clear e0 e1
        have e0 := cellOf mX 0
        have e1 := cellOf mX 1
        simp only [List.getElem?_toArray, List.getElem?_cons_zero, List.getElem?_cons_succ] at e0 e1
        cases gk with
        | zero =>
          have hin : i = on := by omega
          have HT : Hid (okat j = true) := hid (by rw [HOK3.out]; rw [hin, HON.out, List.take_of_length_le (Nat.le_refl _)] at hq; exact hq)
          subst hin
          have HB := hid bwr
          clear hq hb2 bwr mX
          go_wp2
          go_roundg g
          case measure => omega
          exact ⟨j + 1, by omega, by go_num, by rw [List.range_succ, List.all_append, HP.out]; simp [HT.out], HB.out⟩
        | succ g2 =>
          obtain ⟨o, ho⟩ : ∃ o, fx.ops[i]? = some o := ⟨fx.ops[i]'(by have := HON.out; omega), List.getElem?_eq_getElem _⟩
          obtain ⟨gC, gbw⟩ := GT.out wr bwr
          obtain ⟨ob, oo, rfl, hcl⟩ := ORr.out i o ho
          have hct : ∀ k, k < 5 → wr.cell? ⟨ob, oo + i * 5 + k, none⟩ = o.cs[k]? := fun k hk => by
            have h1 := hcl k hk
            obtain ⟨v, hv⟩ : ∃ v, o.cs[k]? = some v := by
              rcases (show k = 0 ∨ k = 1 ∨ k = 2 ∨ k = 3 ∨ k = 4 by omega) with rfl | rfl | rfl | rfl | rfl <;> exact ⟨_, rfl⟩
            rw [hv] at h1 ⊢
            exact belowCell h1 (Nat.le_refl _) (HWo.out.trans (hb2.mono HWo.out.size))
          have hiI : (i : Int) < (on : Int) := by omega
          have hi0 : (0 : Int) ≤ (i : Int) := by omega
          have hmem := List.mem_of_getElem? ho
          have ht : Hid (fx.ops.take (i + 1) = fx.ops.take i ++ [o]) := hid (by rw [List.take_add_one, ho]; rfl)
          have hno : Hid (rop o = false → res = false) := hid (fun h => HNj.out (by rw [HOK3.out, List.all_eq_false]; exact ⟨o, hmem, by simp [h]⟩))
          have KX := hid (KP.out wr.drew (gbw.trans ((Below.refl _ wr).drew.mono gbw.size)) o)
          obtain ⟨vv, hv⟩ : ∃ vv, rop o = vv := ⟨_, rfl⟩
          rw [hv] at KX hno
          have HV := hid hv
          have HQ := hid hq
          obtain ⟨xc, xd, xa, xb, xk⟩ := o
          have i0 := hct 0 (by omega)
          have i1 := hct 1 (by omega)
          have i2 := hct 2 (by omega)
          have i3 := hct 3 (by omega)
          have i4 := hct 4 (by omega)
          simp only [Opx.cs, List.getElem?_toArray, List.getElem?_cons_zero, List.getElem?_cons_succ, Nat.add_zero] at i0 i1 i2 i3 i4 KX
          have c0 := cellOf gC 0
          have c1 := cellOf gC 1
          have c2 := cellOf gC 2
          have c3 := cellOf gC 3
          have c4 := cellOf gC 4
          have c5 := cellOf gC 5
          have c6 := cellOf gC 6
          have c7 := cellOf gC 7
          simp only [List.getElem?_toArray, List.getElem?_cons_zero, List.getElem?_cons_succ] at c0 c1 c2 c3 c4 c5 c6 c7
          have ST : Hid (∀ v : World, Below wr.heap.size wr v → v.cell? ⟨w.heap.size, 0, none⟩ = some (.slice ra rn rc) ∧ v.cell? ⟨w.heap.size, 1, none⟩ = some (.slice ma mn mc) ∧ v.cell? ⟨w.heap.size, 2, none⟩ = some (.slice fa fn fc) ∧ v.cell? ⟨w.heap.size, 3, none⟩ = some (.slice ea en ec) ∧ v.cell? ⟨w.heap.size, 4, none⟩ = some (.slice ia inn ic) ∧ v.cell? ⟨w.heap.size, 5, none⟩ = some (.slice ta tn tc) ∧ v.cell? ⟨w.heap.size, 6, none⟩ = some (.slice ga gn gc) ∧ v.cell? ⟨w.heap.size, 7, none⟩ = some (.slice ha hn hc) ∧ v.cell? ⟨X, 0, none⟩ = some (.int .i64 regs) ∧ v.cell? ⟨X, 1, none⟩ = some (.slice (some ⟨ob, oo, none⟩) on oc) ∧ v.cell? ⟨ob, oo + i * 5, none⟩ = some (.int .i64 xc) ∧ v.cell? ⟨ob, oo + i * 5 + 1, none⟩ = some (.int .i64 xd) ∧ v.cell? ⟨ob, oo + i * 5 + 2, none⟩ = some (.int .i64 xa) ∧ v.cell? ⟨ob, oo + i * 5 + 3, none⟩ = some (.int .i64 xb) ∧ v.cell? ⟨ob, oo + i * 5 + 4, none⟩ = some (.int .i64 xk)) := hid (fun v hv => by
            have k : ∀ (p : Addr) (x : Value), wr.cell? p = some x → v.cell? p = some x := fun p x h => (hv.cell (p := p) (World.block_lt_of_cell? wr p h)).trans h
            exact ⟨k _ _ c0, k _ _ c1, k _ _ c2, k _ _ c3, k _ _ c4, k _ _ c5, k _ _ c6, k _ _ c7, k _ _ e0, k _ _ e1, k _ _ i0, k _ _ i1, k _ _ i2, k _ _ i3, k _ _ i4⟩)
          have KQ := hid (fun (V : World) (hV : Below wr.drew.heap.size wr.drew V) => (by
            have hW : Below wr.heap.size wr V := (Below.refl _ wr).drew.trans hV
            exact ⟨hb2.trans (hW.mono hb2.size), gbw.trans (hW.mono gbw.size), hW⟩ : Below A.heap.size A V ∧ Below w.heap.size w V ∧ Below wr.heap.size wr V))
          clear hq ho gC gbw hcl hct hmem bwr mX hv hb2
          cases vv with
          | true =>
            go_upto_region 12 with fail
            go_region_held3 (fun v => v.cell? ⟨w.heap.size, 0, none⟩ = some (.slice ra rn rc) ∧ v.cell? ⟨w.heap.size, 1, none⟩ = some (.slice ma mn mc) ∧ v.cell? ⟨w.heap.size, 2, none⟩ = some (.slice fa fn fc) ∧ v.cell? ⟨w.heap.size, 3, none⟩ = some (.slice ea en ec) ∧ v.cell? ⟨w.heap.size, 4, none⟩ = some (.slice ia inn ic) ∧ v.cell? ⟨w.heap.size, 5, none⟩ = some (.slice ta tn tc) ∧ v.cell? ⟨w.heap.size, 6, none⟩ = some (.slice ga gn gc) ∧ v.cell? ⟨w.heap.size, 7, none⟩ = some (.slice ha hn hc) ∧ v.cell? ⟨X, 0, none⟩ = some (.int .i64 regs) ∧ v.cell? ⟨X, 1, none⟩ = some (.slice (some ⟨ob, oo, none⟩) on oc) ∧ v.cell? ⟨ob, oo + i * 5, none⟩ = some (.int .i64 xc) ∧ v.cell? ⟨ob, oo + i * 5 + 1, none⟩ = some (.int .i64 xd) ∧ v.cell? ⟨ob, oo + i * 5 + 2, none⟩ = some (.int .i64 xa) ∧ v.cell? ⟨ob, oo + i * 5 + 3, none⟩ = some (.int .i64 xb) ∧ v.cell? ⟨ob, oo + i * 5 + 4, none⟩ = some (.int .i64 xk)) (first | exact s8 | go_keep) (first
              | (go_at_call 70; (refine (Hid.out KX).mono ?_; rintro e w8 ⟨rfl, hb8⟩; have HQ8 := hid (KQ.out w8 hb8); have s8 := ST.out w8 HQ8.out.2.2; clear hb8)))
            go_wp2
            go_roundg g2
            case measure => omega
            exact ⟨i + 1, by omega, by go_num, by rw [ht.out, List.all_append, HQ.out]; simp [HV.out], HQ8.out.1⟩
          | false =>
            have HF := hid (hno.out rfl)
            go_upto_region 12 with fail
            go_region_held3 (fun v => v.cell? ⟨w.heap.size, 0, none⟩ = some (.slice ra rn rc) ∧ v.cell? ⟨w.heap.size, 1, none⟩ = some (.slice ma mn mc) ∧ v.cell? ⟨w.heap.size, 2, none⟩ = some (.slice fa fn fc) ∧ v.cell? ⟨w.heap.size, 3, none⟩ = some (.slice ea en ec) ∧ v.cell? ⟨w.heap.size, 4, none⟩ = some (.slice ia inn ic) ∧ v.cell? ⟨w.heap.size, 5, none⟩ = some (.slice ta tn tc) ∧ v.cell? ⟨w.heap.size, 6, none⟩ = some (.slice ga gn gc) ∧ v.cell? ⟨w.heap.size, 7, none⟩ = some (.slice ha hn hc) ∧ v.cell? ⟨X, 0, none⟩ = some (.int .i64 regs) ∧ v.cell? ⟨X, 1, none⟩ = some (.slice (some ⟨ob, oo, none⟩) on oc) ∧ v.cell? ⟨ob, oo + i * 5, none⟩ = some (.int .i64 xc) ∧ v.cell? ⟨ob, oo + i * 5 + 1, none⟩ = some (.int .i64 xd) ∧ v.cell? ⟨ob, oo + i * 5 + 2, none⟩ = some (.int .i64 xa) ∧ v.cell? ⟨ob, oo + i * 5 + 3, none⟩ = some (.int .i64 xb) ∧ v.cell? ⟨ob, oo + i * 5 + 4, none⟩ = some (.int .i64 xk)) (first | exact s8 | go_keep) (first
              | (go_at_call 70; (refine (Hid.out KX).mono ?_; rintro e w8 ⟨rfl, hb8⟩; have HQ8 := hid (KQ.out w8 hb8); have s8 := ST.out w8 HQ8.out.2.2; clear hb8)))
            go_wp2
            go_ret
            exact ⟨by rw [HF.out]; rfl, HQ8.out.2.1⟩
end Go.Proofs.YthnolocldeokeaaGreat

