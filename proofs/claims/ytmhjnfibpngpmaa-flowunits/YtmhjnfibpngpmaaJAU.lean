/- flow.Flatten. -/
import Derived.Test.YtmhjnfibpngpmaaJAT
import Derived.Deep.WholeRow
namespace Go.Proofs.Ytmhjnfibpngpmaa
open Go.RowKit Go.Deep Go.Shelf
set_option linter.unusedVariables false
set_option linter.unusedSimpArgs false
/- What Flatten answers. -/
def FlaP (ok : Bool) (w : World) (p : Pg) (xs : List Int) (ts : List ByteArray) (gl el : List Gr) (e : Ending) (w' : World) : Prop := Below w.heap.size w w' ∧ ((ok = true ∧ ∃ (C : CH) (q : Pg) (fs es : List (FH × Fx)), e = .returned (.tuple #[C.v, .int .i64 0]) ∧ PEq q p ∧ CdRd w' C (cxU q xs ts gl el) fs es ∧ JRd w' C.ia xs ∧ C.inn = xs.length) ∨ (ok = false ∧ e = .returned (.tuple #[zeroC, .int .i64 100])))
set_option maxRecDepth 100000 in
set_option maxHeartbeats 8000000 in
theorem flatten_any (SO : ShapeC) (w : World) (U : CH) (p : Pg) (xs : List Int) (ts : List ByteArray) (gl el : List Gr) (d : UdRd w U p xs ts gl el) (hn : PNil p) :
    Calls Try.prog 12 #[U.v] w (FlaP (okU p xs ts gl el) w p xs ts gl el) := by
  obtain ⟨A1, hA1⟩ : ∃ A1, A1 = w.alloc (.cells U.cs 48) := ⟨_, rfl⟩
  obtain ⟨W0, hW0⟩ : ∃ W0, W0 = A1.alloc (.cells #[.slice none 0 0, .slice none 0 0, .slice none 0 0, .slice none 0 0, .slice none 0 0, .slice none 0 0, .slice none 0 0, .slice none 0 0] 52) := ⟨_, rfl⟩
  have b1 : Below w.heap.size w A1 := by rw [hA1]; exact (Below.refl _ _).alloc (Nat.le_refl _) _
  have z1 : A1.heap.size = w.heap.size + 1 := by rw [hA1]; simp
  have bw : Below w.heap.size w W0 := by rw [hW0]; exact b1.alloc (by omega) _
  have q0 : W0.heap[w.heap.size]? = some (.cells U.cs 48 (0, 0)) := by rw [hW0, Below.heap_alloc _ _ _ (by omega), hA1]; exact heap_alloc_new w _
  have q1 : W0.heap[w.heap.size + 1]? = some (.cells #[.slice none 0 0, .slice none 0 0, .slice none 0 0, .slice none 0 0, .slice none 0 0, .slice none 0 0, .slice none 0 0, .slice none 0 0] 52 (0, 0)) := by rw [hW0, ← z1]; exact heap_alloc_new A1 _
  have GT : Hid (∀ V : World, Below W0.heap.size W0 V → V.heap[w.heap.size]? = some (.cells U.cs 48 (0, 0)) ∧ V.heap[w.heap.size + 1]? = some (.cells #[.slice none 0 0, .slice none 0 0, .slice none 0 0, .slice none 0 0, .slice none 0 0, .slice none 0 0, .slice none 0 0, .slice none 0 0] 52 (0, 0)) ∧ Below w.heap.size w V) := hid (fun V hV => ⟨(hV.block _ (lt_of_heap q0)).trans q0, (hV.block _ (lt_of_heap q1)).trans q1, bw.trans (hV.mono bw.size)⟩)
  have KF : Hid (Calls Try.prog 32 #[.slice U.fa U.fn U.fc] W0 (FlQ W0 gl)) := hid ((flattened_any W0 U.fa U.fn U.fc gl (d.f.below bw) d.fb).mono fun e w' h => h.plain (fun g hg => (d.f.el g hg).ly) (by rw [← d.f.n1]; exact d.fb))
  have KE : Hid (∀ V : World, Below w.heap.size w V → Calls Try.prog 32 #[.slice U.ea U.en U.ec] V (FlQ V el)) := hid (fun V hV => (flattened_any V U.ea U.en U.ec el (d.e.below hV) d.eb).mono fun e w' h => h.plain (fun g hg => (d.e.el g hg).ly) (by rw [← d.e.n1]; exact d.eb))
  have I1 := hid d.i1
  have DD := hid (fun (V : World) (hV : Below w.heap.size w V) => (⟨d.p.below (Nat.le_refl _) hV, d.tr.below (Nat.le_refl _) hV, CRd.below d.ir (Nat.le_refl _) hV⟩ : PRd V U.h p ∧ SRd V U.ta ts ∧ JRd V U.ia xs))
  have li : U.inn ≤ 9223372036854775807 := by have := d.i2; omega
  have lt : U.tn ≤ 9223372036854775807 := by have := d.t2; omega
  have T1 := hid d.t1
  have RF := hid (fun (V : World) (B : Nat) (v : Value) (h : FnsN V B v (gl.map Gr.fx)) => h.rd (fun g hg => (d.f.el g hg).ly) (by rw [← d.f.n1]; exact d.fb))
  have RE := hid (fun (V : World) (B : Nat) (v : Value) (h : FnsN V B v (el.map Gr.fx)) => h.rd (fun g hg => (d.e.el g hg).ly) (by rw [← d.e.n1]; exact d.eb))
  have KI5 : Hid (∀ V : World, Below w.heap.size w V → Calls Try.prog 34 #[.slice U.ia U.inn U.ic] V fun e w' => ∃ a n c, e = .returned (.slice a n c) ∧ Below V.heap.size V w' ∧ n = xs.length ∧ Kp V.heap.size w' (fun X => JRd X a xs)) := hid (fun V hV => (newInts_any V U.ia U.inn U.ic xs d.i1 d.i2 (CRd.below d.ir (Nat.le_refl _) hV) d.il).mono fun e w' h => by
    obtain ⟨v, rfl, hk, hb⟩ := h
    obtain ⟨a, c, rfl, _, _, _, _⟩ := hk.rd
    exact ⟨a, _, c, rfl, hb, by rw [List.length_map], fun X hX => KR.jrd (hk.keep fun g e => hX g (hk.own e).1 (hk.own e).2)⟩)
  have KT5 : Hid (∀ V : World, Below w.heap.size w V → Calls Try.prog 35 #[.slice U.ta U.tn U.tc] V fun e w' => ∃ a n c, e = .returned (.slice a n c) ∧ Below V.heap.size V w' ∧ n = ts.length ∧ Kp V.heap.size w' (fun X => SRd X a ts)) := hid (fun V hV => (newTexts_any V U.ta U.tn U.tc ts d.t1 d.t2 (d.tr.below (Nat.le_refl _) hV) d.tl).mono fun e w' h => by
    obtain ⟨v, rfl, hk, hb⟩ := h
    obtain ⟨a, c, rfl, _, _, _, _⟩ := hk.rd
    exact ⟨a, _, c, rfl, hb, by rw [List.length_map], fun X hX => KR.srd (hk.keep fun g e => hX g (hk.own e).1 (hk.own e).2) d.tl⟩)
  have KN : Hid (isB (cxU p xs ts gl el) = true → ∀ V : World, Below w.heap.size w V → Calls Try.prog 33 #[U.h.v] V (PNw V p)) := hid (fun hB V hV => newProgram_any V U.h p (d.p.below (Nat.le_refl _) hV) (by unfold isB at hB; simp only [Bool.and_eq_true] at hB; exact hB.1.1.1.1.1) hn)
  have LX : Hid (xs.length ≤ 9223372036854775807 ∧ ts.length ≤ 9223372036854775807) := hid ⟨by have := d.i1; have := d.i2; omega, by have := d.t1; have := d.t2; omega⟩
  obtain ⟨okv, hok⟩ : ∃ okv, okv = okU p xs ts gl el := ⟨_, rfl⟩
  rw [← hok]
  have HOK : Hid (okv = (allG gl && allG el && isB (cxU p xs ts gl el))) := hid hok
  have CFG : Hid (∀ (V : World) (fa : Option Addr) (fn fc : Nat) (fs : List (FH × Fx)) (ea : Option Addr) (en ec : Nat) (es : List (FH × Fx)), Below w.heap.size w V → FRd V fa fn fs → fs.map (·.2) = gl.map Gr.fx → FRd V ea en es → es.map (·.2) = el.map Gr.fx → CdRd V ⟨U.h, U.ia, U.inn, U.ic, U.ta, U.tn, U.tc, fa, fn, fc, ea, en, ec⟩ (cxU p xs ts gl el) fs es) := hid (fun V fa fn fc fs ea en ec es hV h1 h2 h3 h4 => ⟨(DD.out V hV).1, I1.out, li, T1.out, lt, (DD.out V hV).2.1, h1, h2, h3, h4⟩)
  have DJ := hid (fun (V : World) (hV : Below w.heap.size w V) => (DD.out V hV).2.2)
  have z0 : w.heap.size + 1 < W0.heap.size := lt_of_heap q1
  have BW := hid bw
  clear hok d b1 q0 q1 z1 DD T1 bw
  obtain ⟨⟨ra, rn, rc, ma, mn, mc, pfa, pfn, pfc, pea, pen, pec⟩, ia, inn, ic, ta, tn, tc, ga, gn, gc, ha, hn, hc⟩ := U
  simp only [CH.v, CH.cs, PH.v] at hA1 hW0 GT KF KE CFG DJ I1 li lt KI5 KT5 KN ⊢
  have CL : Hid (∀ V : World, Below W0.heap.size W0 V → ((V.cell? ⟨w.heap.size, 0, none⟩ = some (.slice ra rn rc) ∧ V.cell? ⟨w.heap.size, 1, none⟩ = some (.slice ma mn mc) ∧ V.cell? ⟨w.heap.size, 2, none⟩ = some (.slice pfa pfn pfc) ∧ V.cell? ⟨w.heap.size, 3, none⟩ = some (.slice pea pen pec)) ∧ V.cell? ⟨w.heap.size, 4, none⟩ = some (.slice ia inn ic) ∧ V.cell? ⟨w.heap.size, 5, none⟩ = some (.slice ta tn tc) ∧ V.cell? ⟨w.heap.size, 6, none⟩ = some (.slice ga gn gc) ∧ V.cell? ⟨w.heap.size, 7, none⟩ = some (.slice ha hn hc)) ∧ Below w.heap.size w V) := hid (fun V hV => by
    obtain ⟨g, _, gb⟩ := GT.out V hV
    exact ⟨⟨⟨cellOf g 0, cellOf g 1, cellOf g 2, cellOf g 3⟩, cellOf g 4, cellOf g 5, cellOf g 6, cellOf g 7⟩, gb⟩)
  have TR : Hid (∀ {x y : World}, Below W0.heap.size W0 x → Below x.heap.size x y → Below W0.heap.size W0 y) := hid (fun h1 h2 => h1.trans (h2.mono h1.size))
  obtain ⟨⟨⟨c0, c1, c2, c3⟩, c4, c5, c6, c7⟩, _⟩ := CL.out W0 (Below.refl _ _)
  go_enter Try.func12, Try.ntmps12
  go_upto_region 1 with fail
  rw [← hA1, ← hW0]
  clear hA1 hW0
  go_upto_region 2 with (go_at_call 32; (refine (Hid.out KF).mono ?_; rintro e w1 ⟨hb1, fa, fn, fc, bf, rfl, hbf, hff⟩; clear c0 c1 c2 c3 c4 c5 c6 c7; obtain ⟨⟨⟨c0, c1, c2, c3⟩, c4, c5, c6, c7⟩, hw1⟩ := CL.out w1 hb1; have KE1 := hid (KE.out w1 hw1); have HB1 := hid hb1; have HBF := hid hbf; have HFF := hid hff; clear hb1 hbf hff hw1))
  go_upto_region 3 with (go_at_call 32; (refine (Hid.out KE1).mono ?_; rintro e w2 ⟨hb2, ea, en, ec, be, rfl, hbe, hee⟩; clear c0 c1 c2 c3 c4 c5 c6 c7; have HB2 := hid (TR.out HB1.out hb2); obtain ⟨⟨⟨c0, c1, c2, c3⟩, c4, c5, c6, c7⟩, hw2⟩ := CL.out w2 HB2.out; have HB12 := hid hb2; have HBE := hid hbe; have HEE := hid hee; clear hb2 hbe hee hw2))
  clear KF KE KE1
  obtain ⟨C3, hC3⟩ : ∃ C3 : CH, C3 = ⟨⟨ra, rn, rc, ma, mn, mc, pfa, pfn, pfc, pea, pen, pec⟩, ia, inn, ic, ta, tn, tc, fa, fn, fc, ea, en, ec⟩ := ⟨_, rfl⟩
  obtain ⟨W3, hW3⟩ : ∃ W3, W3 = w2.alloc (.cells #[.slice ra rn rc, .slice ma mn mc, .slice pfa pfn pfc, .slice pea pen pec, .slice ia inn ic, .slice ta tn tc, .slice fa fn fc, .slice ea en ec] 52) := ⟨_, rfl⟩
  go_upto_region 4 with fail
  rw [← hW3]
  have b3 : Below w2.heap.size w2 W3 := by rw [hW3]; exact (Below.refl _ _).alloc (Nat.le_refl _) _
  have m3 : W3.heap[w2.heap.size]? = some (.cells #[.slice ra rn rc, .slice ma mn mc, .slice pfa pfn pfc, .slice pea pen pec, .slice ia inn ic, .slice ta tn tc, .slice fa fn fc, .slice ea en ec] 52 (0, 0)) := by rw [hW3]; exact heap_alloc_new w2 _
  have B3 : Hid (Below W0.heap.size W0 W3) := hid (TR.out HB2.out b3)
  have b13 : Below w1.heap.size w1 W3 := HB12.out.trans (b3.mono HB12.out.size)
  have hsz : W0.heap.size ≤ w2.heap.size := HB2.out.size
  clear hW3 c0 c1 c2 c3 c4 c5 c6 c7
  obtain ⟨L, hL⟩ : ∃ L, L = w2.heap.size := ⟨_, rfl⟩
  have HL := hid hL
  have B3' := hid b3
  rw [← hL] at m3 hsz ⊢
  clear hL
  have HM3 := hid m3
  have CLB : Hid (∀ V : World, Below W3.heap.size W3 V → (V.cell? ⟨L, 0, none⟩ = some (.slice ra rn rc) ∧ V.cell? ⟨L, 1, none⟩ = some (.slice ma mn mc) ∧ V.cell? ⟨L, 2, none⟩ = some (.slice pfa pfn pfc) ∧ V.cell? ⟨L, 3, none⟩ = some (.slice pea pen pec)) ∧ V.cell? ⟨L, 4, none⟩ = some (.slice ia inn ic) ∧ V.cell? ⟨L, 5, none⟩ = some (.slice ta tn tc) ∧ V.cell? ⟨L, 6, none⟩ = some (.slice fa fn fc) ∧ V.cell? ⟨L, 7, none⟩ = some (.slice ea en ec)) := hid (fun V hV => by
    have g := (hV.block _ (lt_of_heap m3)).trans m3
    exact ⟨⟨cellOf g 0, cellOf g 1, cellOf g 2, cellOf g 3⟩, cellOf g 4, cellOf g 5, cellOf g 6, cellOf g 7⟩)
  have FRL : Hid (∀ V : World, Below W3.heap.size W3 V → V.frozen? ⟨L, 0, none⟩ = false ∧ V.frozen? ⟨L, 1, none⟩ = false ∧ V.frozen? ⟨L, 2, none⟩ = false ∧ V.frozen? ⟨L, 3, none⟩ = false ∧ V.frozen? ⟨L, 4, none⟩ = false ∧ V.frozen? ⟨L, 5, none⟩ = false ∧ V.frozen? ⟨L, 6, none⟩ = false ∧ V.frozen? ⟨L, 7, none⟩ = false) := hid (fun V hV => free_eight ((hV.block _ (lt_of_heap m3)).trans m3))
  have RB : Hid (∀ V : World, Below W3.heap.size W3 V → V.heap[w.heap.size + 1]? = some (.cells #[.slice none 0 0, .slice none 0 0, .slice none 0 0, .slice none 0 0, .slice none 0 0, .slice none 0 0, .slice none 0 0, .slice none 0 0] 52 (0, 0)) ∧ Below w.heap.size w V) := hid (fun V hV => (GT.out V (TR.out B3.out hV)).2)
  by_cases hbb : bf = true ∧ be = true
  · obtain ⟨rfl, rfl⟩ := hbb
    have f1 := HFF.out rfl
    have f2 := HEE.out rfl
    have s1 : W0.heap.size ≤ w1.heap.size := HB1.out.size
    have CD : Hid (∀ V : World, Below w.heap.size w V → (∀ g, W0.heap.size ≤ g → g < L → V.heap[g]? = W3.heap[g]?) → ∃ fs es, CdRd V ⟨⟨ra, rn, rc, ma, mn, mc, pfa, pfn, pfc, pea, pen, pec⟩, ia, inn, ic, ta, tn, tc, fa, fn, fc, ea, en, ec⟩ (cxU p xs ts gl el) fs es) := hid (fun V hV hk => by
      have hk2 : ∀ g, W0.heap.size ≤ g → g < w2.heap.size → V.heap[g]? = w2.heap[g]? := fun g h1 h2 => (hk g h1 (by rw [HL.out]; exact h2)).trans (B3'.out.block g h2)
      have g1 := (f1.below (Nat.le_refl _) HB12.out).above (w' := V) hk2
      have g2 := f2.above (w' := V) (fun g hg hl => hk2 g (by omega) hl)
      obtain ⟨a1, n1, c1, fs, e1, h1, h2⟩ := RF.out _ _ _ g1
      obtain ⟨a2, n2, c2, es, e2, h3, h4⟩ := RE.out _ _ _ g2
      cases e1
      cases e2
      exact ⟨fs, es, CFG.out V fa fn fc fs ea en ec es hV h1 h2 h3 h4⟩)
    obtain ⟨fs, es, cd3⟩ := CD.out W3 (RB.out W3 (Below.refl _ _)).2 (fun _ _ _ => rfl)
    have KI := codeIs_any SO W3 _ _ _ _ cd3
    simp only [CH.v] at KI
    have HK : Hid (okv = isB (cxU p xs ts gl el)) := hid (by rw [HOK.out, ← HBF.out, ← HBE.out]; rfl)
    rw [← HK.out] at KI
    have KI := hid KI
    obtain ⟨⟨c0, c1, c2, c3⟩, c4, c5, c6, c7⟩ := CLB.out W3 (Below.refl _ _)
    clear f1 f2 b3 b13 m3 HBF HBE HFF HEE CFG HOK cd3
    cases okv with
    | true =>
      go_upto_region 6 with (go_at_call 23; (refine (Hid.out KI).mono ?_; rintro e w4 ⟨rfl, hb4⟩; clear c0 c1 c2 c3 c4 c5 c6 c7; obtain ⟨⟨c0, c1, c2, c3⟩, c4, c5, c6, c7⟩ := CLB.out w4 hb4; have HB4 := hid hb4; clear hb4))
      have ST : Hid (∀ v : World, Below W3.heap.size W3 v → (v.cell? ⟨w.heap.size, 0, none⟩ = some (.slice ra rn rc) ∧ v.cell? ⟨w.heap.size, 1, none⟩ = some (.slice ma mn mc) ∧ v.cell? ⟨w.heap.size, 2, none⟩ = some (.slice pfa pfn pfc) ∧ v.cell? ⟨w.heap.size, 3, none⟩ = some (.slice pea pen pec) ∧ v.cell? ⟨w.heap.size, 4, none⟩ = some (.slice ia inn ic) ∧ v.cell? ⟨w.heap.size, 5, none⟩ = some (.slice ta tn tc)) ∧ Below w.heap.size w v) := hid (fun v hv => by
        obtain ⟨⟨⟨a0, a1, a2, a3⟩, a4, a5, _, _⟩, hw⟩ := CL.out v (TR.out B3.out hv)
        exact ⟨⟨a0, a1, a2, a3, a4, a5⟩, hw⟩)
      have D3 : Hid (∀ v : World, Below w4.drew.heap.size w4.drew v → Below W3.heap.size W3 v) := hid (fun v hv => HB4.out.trans (((Below.refl _ w4).drew.trans hv).mono HB4.out.size))
      have K1 := hid (KN.out HK.out.symm w4.drew (ST.out _ (D3.out _ (Below.refl _ _))).2)
      clear c0 c1 c2 c3 c4 c5 c6 c7
      obtain ⟨⟨x0, x1, x2, x3, x4, x5⟩, _⟩ := ST.out w4 HB4.out
      have hLw : L ≠ w.heap.size := by omega
      have hLw2 : L ≠ w.heap.size + 1 := by omega
      have hwL : w.heap.size ≠ L := by omega
      refine wp_region_held_drew (S := fun v : World => v.cell? ⟨w.heap.size, 0, none⟩ = some (.slice ra rn rc) ∧ v.cell? ⟨w.heap.size, 1, none⟩ = some (.slice ma mn mc) ∧ v.cell? ⟨w.heap.size, 2, none⟩ = some (.slice pfa pfn pfc) ∧ v.cell? ⟨w.heap.size, 3, none⟩ = some (.slice pea pen pec) ∧ v.cell? ⟨w.heap.size, 4, none⟩ = some (.slice ia inn ic) ∧ v.cell? ⟨w.heap.size, 5, none⟩ = some (.slice ta tn tc)) (by kernel_rfl) (by go_keep) (fun hHeld => ?_)
      refine wpAnyH_take (i := 0) (oi := { dst := some 42, op := Go.Op.fieldAddr 48 (Go.Operand.tmp 1) 0, type := 0, pos := "flow.go:39", after := #[], guard := none }) (v := ?_) rfl (by kernel_rfl) (by kernel_rfl) (by kernel_rfl) (fun _ _ _ h => h) (Or.inl ⟨by rfl, ?_⟩) (by assumption) ?_
      rotate_left
      · (intro w hSw; (try dsimp only at hSw); go_simp; (try with_reducible rfl))
      (try simp only [Act.put, List.setIfInBounds_toArray, List.set_cons_zero, List.set_cons_succ])
      refine wpAnyH_take (i := 1) (oi := { dst := some 43, op := Go.Op.load 36 (Go.Operand.tmp 42), type := 36, pos := "flow.go:39", after := #[{ on := 0, ground := Go.Ground.data }], guard := none }) (v := ?_) rfl (by kernel_rfl) (by kernel_rfl) (by kernel_rfl) (fun _ _ _ h => h) (Or.inl ⟨by rfl, ?_⟩) (by assumption) ?_
      rotate_left
      · (intro w hSw; (try dsimp only at hSw); go_simp; (try with_reducible rfl))
      (try simp only [Act.put, List.setIfInBounds_toArray, List.set_cons_zero, List.set_cons_succ])
      refine wpAnyH_take (i := 3) (oi := { dst := some 45, op := Go.Op.fieldAddr 48 (Go.Operand.tmp 1) 1, type := 0, pos := "flow.go:39", after := #[], guard := none }) (v := ?_) rfl (by kernel_rfl) (by kernel_rfl) (by kernel_rfl) (fun _ _ _ h => h) (Or.inl ⟨by rfl, ?_⟩) (by assumption) ?_
      rotate_left
      · (intro w hSw; (try dsimp only at hSw); go_simp; (try with_reducible rfl))
      (try simp only [Act.put, List.setIfInBounds_toArray, List.set_cons_zero, List.set_cons_succ])
      refine wpAnyH_take (i := 4) (oi := { dst := some 46, op := Go.Op.load 45 (Go.Operand.tmp 45), type := 45, pos := "flow.go:39", after := #[{ on := 3, ground := Go.Ground.data }], guard := none }) (v := ?_) rfl (by kernel_rfl) (by kernel_rfl) (by kernel_rfl) (fun _ _ _ h => h) (Or.inl ⟨by rfl, ?_⟩) (by assumption) ?_
      rotate_left
      · (intro w hSw; (try dsimp only at hSw); go_simp; (try with_reducible rfl))
      (try simp only [Act.put, List.setIfInBounds_toArray, List.set_cons_zero, List.set_cons_succ])
      refine wpAnyH_take (i := 6) (oi := { dst := some 48, op := Go.Op.fieldAddr 48 (Go.Operand.tmp 1) 2, type := 0, pos := "flow.go:39", after := #[], guard := none }) (v := ?_) rfl (by kernel_rfl) (by kernel_rfl) (by kernel_rfl) (fun _ _ _ h => h) (Or.inl ⟨by rfl, ?_⟩) (by assumption) ?_
      rotate_left
      · (intro w hSw; (try dsimp only at hSw); go_simp; (try with_reducible rfl))
      (try simp only [Act.put, List.setIfInBounds_toArray, List.set_cons_zero, List.set_cons_succ])
      refine wpAnyH_take (i := 7) (oi := { dst := some 49, op := Go.Op.load 26 (Go.Operand.tmp 48), type := 26, pos := "flow.go:39", after := #[{ on := 6, ground := Go.Ground.data }], guard := none }) (v := ?_) rfl (by kernel_rfl) (by kernel_rfl) (by kernel_rfl) (fun _ _ _ h => h) (Or.inl ⟨by rfl, ?_⟩) (by assumption) ?_
      rotate_left
      · (intro w hSw; (try dsimp only at hSw); go_simp; (try with_reducible rfl))
      (try simp only [Act.put, List.setIfInBounds_toArray, List.set_cons_zero, List.set_cons_succ])
      refine wpAnyH_ready (rs := [2]) (by kernel_rfl) (by simp) ?_
      refine AllReadyH.cons (o := { dst := some 44, op := Go.Op.call { callee := Go.Callee.value (Go.Operand.func 33), args := #[Go.Operand.tmp 43], argTypes := #[36] }, type := 36, pos := "flow.go:39", after := #[{ on := 1, ground := Go.Ground.data }], guard := none }) rfl (fun K hK => ?_) AllReadyH.nil
      go_simp
      (refine (Hid.out K1).mono ?_; rintro e w5 ⟨⟨nra, nrn, nrc, nma, nmn, nmc, nfa, nfn, nfc, nea, nen, nec⟩, qq, rfl, heq, hb5, hk5⟩; simp only [PH.v]; have H5 := hid (D3.out w5 hb5); have s5 := (ST.out w5 H5.out).1; have HB5 := hid hb5; have HK5 := hid hk5; have HEQ := hid heq; clear hb5 hk5 heq)
      try go_wp2_with fail
      refine hK.out _ _ s5 (fun hHeldN => ?_)
      clear hK K hHeld
      have hHeld := hHeldN
      clear hHeldN
      (try simp only [Act.put, List.setIfInBounds_toArray, List.set_cons_zero, List.set_cons_succ])
      refine wpAnyH_take (i := 9) (oi := { dst := some 51, op := Go.Op.fieldAddr 52 (Go.Operand.tmp 8) 0, type := 0, pos := "flow.go:39", after := #[{ on := 0, ground := Go.Ground.phase }, { on := 1, ground := Go.Ground.phase }, { on := 2, ground := Go.Ground.phase }, { on := 3, ground := Go.Ground.textOnly Go.Departure.lateStores }, { on := 4, ground := Go.Ground.textOnly Go.Departure.lateStores }, { on := 5, ground := Go.Ground.textOnly Go.Departure.lateStoresUnsure }, { on := 6, ground := Go.Ground.textOnly Go.Departure.lateStores }, { on := 7, ground := Go.Ground.textOnly Go.Departure.lateStores }, { on := 8, ground := Go.Ground.textOnly Go.Departure.lateStoresUnsure }], guard := none }) (v := ?_) rfl (by kernel_rfl) (by kernel_rfl) (by kernel_rfl) (fun _ _ _ h => h) (Or.inl ⟨by rfl, ?_⟩) (by assumption) ?_
      rotate_left
      · (intro w hSw; (try dsimp only at hSw); go_simp; (try with_reducible rfl))
      (try simp only [Act.put, List.setIfInBounds_toArray, List.set_cons_zero, List.set_cons_succ])
      refine wpAnyH_ready (rs := [5]) (by kernel_rfl) (by simp) ?_
      refine AllReadyH.cons (o := { dst := some 47, op := Go.Op.call { callee := Go.Callee.value (Go.Operand.func 34), args := #[Go.Operand.tmp 46], argTypes := #[45] }, type := 45, pos := "flow.go:39", after := #[{ on := 4, ground := Go.Ground.data }, { on := 2, ground := Go.Ground.chain }], guard := none }) rfl (fun K hK => ?_) AllReadyH.nil
      go_simp
      (refine (KI5.out w5 (ST.out w5 H5.out).2).mono ?_; rintro e w6 ⟨ya, yn, yc, rfl, hb6, hn6, hk6⟩; have H6 := hid (H5.out.trans (hb6.mono H5.out.size)); have s6 := (ST.out w6 H6.out).1; have HB6 := hid hb6; have HK6 := hid hk6; have HN6 := hid hn6; clear hb6 hk6 hn6)
      try go_wp2_with fail
      refine hK.out _ _ s6 (fun hHeldN => ?_)
      clear hK K hHeld
      have hHeld := hHeldN
      clear hHeldN
      (try simp only [Act.put, List.setIfInBounds_toArray, List.set_cons_zero, List.set_cons_succ])
      refine wpAnyH_ready (rs := [8]) (by kernel_rfl) (by simp) ?_
      refine AllReadyH.cons (o := { dst := some 50, op := Go.Op.call { callee := Go.Callee.value (Go.Operand.func 35), args := #[Go.Operand.tmp 49], argTypes := #[26] }, type := 26, pos := "flow.go:39", after := #[{ on := 7, ground := Go.Ground.data }, { on := 5, ground := Go.Ground.chain }], guard := none }) rfl (fun K hK => ?_) AllReadyH.nil
      go_simp
      (refine (KT5.out w6 (ST.out w6 H6.out).2).mono ?_; rintro e w7 ⟨za, zn, zc, rfl, hb7, hn7, hk7⟩; have H7 := hid (H6.out.trans (hb7.mono H6.out.size)); obtain ⟨s70, s71, s72, s73, s74, s75⟩ := (ST.out w7 H7.out).1; have HB7 := hid hb7; have HK7 := hid hk7; have HN7 := hid hn7; obtain ⟨⟨b0, b1, b2, b3⟩, b4, b5, b6, b7⟩ := CLB.out w7 H7.out; obtain ⟨fz0, fz1, fz2, fz3, fz4, fz5, fz6, fz7⟩ := FRL.out w7 H7.out; clear hb7 hk7 hn7)
      try go_wp2_with fail
      refine hK.out _ _ ⟨s70, s71, s72, s73, s74, s75⟩ (fun hHeldN => ?_)
      clear hK K hHeld
      have hHeld := hHeldN
      clear hHeldN
      (try simp only [Act.put, List.setIfInBounds_toArray, List.set_cons_zero, List.set_cons_succ])
      refine wpAnyH_ready (rs := [10]) (by kernel_rfl) (by simp) ?_
      refine AllReadyH.cons (o := { dst := none, op := Go.Op.store 36 (Go.Operand.tmp 51) (Go.Operand.tmp 44), type := 0, pos := "flow.go:39", after := #[{ on := 9, ground := Go.Ground.data }, { on := 2, ground := Go.Ground.data }, { on := 8, ground := Go.Ground.chain }, { on := 0, ground := Go.Ground.phase }, { on := 1, ground := Go.Ground.phase }, { on := 2, ground := Go.Ground.phase }, { on := 3, ground := Go.Ground.textOnly Go.Departure.lateStores }, { on := 4, ground := Go.Ground.textOnly Go.Departure.lateStores }, { on := 5, ground := Go.Ground.textOnly Go.Departure.lateStoresUnsure }, { on := 6, ground := Go.Ground.textOnly Go.Departure.lateStores }, { on := 7, ground := Go.Ground.textOnly Go.Departure.lateStores }, { on := 8, ground := Go.Ground.textOnly Go.Departure.lateStoresUnsure }], guard := none }) rfl (fun K hK => ?_) AllReadyH.nil
      go_simp
      refine hK.out _ _ (by go_keep) (fun hHeldN => ?_)
      clear hK K hHeld
      have hHeld := hHeldN
      clear hHeldN
      (try simp only [Act.put, List.setIfInBounds_toArray, List.set_cons_zero, List.set_cons_succ])
      refine wpAnyH_take (i := 11) (oi := { dst := some 52, op := Go.Op.fieldAddr 52 (Go.Operand.tmp 8) 1, type := 0, pos := "flow.go:39", after := #[{ on := 0, ground := Go.Ground.phase }, { on := 1, ground := Go.Ground.phase }, { on := 2, ground := Go.Ground.phase }, { on := 3, ground := Go.Ground.phase }, { on := 4, ground := Go.Ground.phase }, { on := 5, ground := Go.Ground.phase }, { on := 6, ground := Go.Ground.textOnly Go.Departure.lateStores }, { on := 7, ground := Go.Ground.textOnly Go.Departure.lateStores }, { on := 8, ground := Go.Ground.textOnly Go.Departure.lateStoresUnsure }, { on := 9, ground := Go.Ground.phase }, { on := 10, ground := Go.Ground.phase }], guard := none }) (v := ?_) rfl (by kernel_rfl) (by kernel_rfl) (by kernel_rfl) (fun _ _ _ h => h) (Or.inl ⟨by rfl, ?_⟩) (by assumption) ?_
      rotate_left
      · (intro w hSw; (try dsimp only at hSw); go_simp; (try with_reducible rfl))
      (try simp only [Act.put, List.setIfInBounds_toArray, List.set_cons_zero, List.set_cons_succ])
      refine wpAnyH_ready (rs := [12]) (by kernel_rfl) (by simp) ?_
      refine AllReadyH.cons (o := { dst := none, op := Go.Op.store 45 (Go.Operand.tmp 52) (Go.Operand.tmp 47), type := 0, pos := "flow.go:39", after := #[{ on := 11, ground := Go.Ground.data }, { on := 5, ground := Go.Ground.data }, { on := 10, ground := Go.Ground.chain }, { on := 0, ground := Go.Ground.phase }, { on := 1, ground := Go.Ground.phase }, { on := 2, ground := Go.Ground.phase }, { on := 3, ground := Go.Ground.phase }, { on := 4, ground := Go.Ground.phase }, { on := 5, ground := Go.Ground.phase }, { on := 6, ground := Go.Ground.textOnly Go.Departure.lateStores }, { on := 7, ground := Go.Ground.textOnly Go.Departure.lateStores }, { on := 8, ground := Go.Ground.textOnly Go.Departure.lateStoresUnsure }, { on := 9, ground := Go.Ground.phase }, { on := 10, ground := Go.Ground.phase }], guard := none }) rfl (fun K hK => ?_) AllReadyH.nil
      go_simp
      refine hK.out _ _ (by go_keep) (fun hHeldN => ?_)
      clear hK K hHeld
      have hHeld := hHeldN
      clear hHeldN
      (try simp only [Act.put, List.setIfInBounds_toArray, List.set_cons_zero, List.set_cons_succ])
      refine wpAnyH_take (i := 13) (oi := { dst := some 53, op := Go.Op.fieldAddr 52 (Go.Operand.tmp 8) 2, type := 0, pos := "flow.go:39", after := #[{ on := 0, ground := Go.Ground.phase }, { on := 1, ground := Go.Ground.phase }, { on := 2, ground := Go.Ground.phase }, { on := 3, ground := Go.Ground.phase }, { on := 4, ground := Go.Ground.phase }, { on := 5, ground := Go.Ground.phase }, { on := 6, ground := Go.Ground.phase }, { on := 7, ground := Go.Ground.phase }, { on := 8, ground := Go.Ground.phase }, { on := 9, ground := Go.Ground.phase }, { on := 10, ground := Go.Ground.phase }, { on := 11, ground := Go.Ground.phase }, { on := 12, ground := Go.Ground.phase }], guard := none }) (v := ?_) rfl (by kernel_rfl) (by kernel_rfl) (by kernel_rfl) (fun _ _ _ h => h) (Or.inl ⟨by rfl, ?_⟩) (by assumption) ?_
      rotate_left
      · (intro w hSw; (try dsimp only at hSw); go_simp; (try with_reducible rfl))
      (try simp only [Act.put, List.setIfInBounds_toArray, List.set_cons_zero, List.set_cons_succ])
      refine wpAnyH_ready (rs := [14]) (by kernel_rfl) (by simp) ?_
      refine AllReadyH.cons (o := { dst := none, op := Go.Op.store 26 (Go.Operand.tmp 53) (Go.Operand.tmp 50), type := 0, pos := "flow.go:39", after := #[{ on := 13, ground := Go.Ground.data }, { on := 8, ground := Go.Ground.data }, { on := 12, ground := Go.Ground.chain }, { on := 0, ground := Go.Ground.phase }, { on := 1, ground := Go.Ground.phase }, { on := 2, ground := Go.Ground.phase }, { on := 3, ground := Go.Ground.phase }, { on := 4, ground := Go.Ground.phase }, { on := 5, ground := Go.Ground.phase }, { on := 6, ground := Go.Ground.phase }, { on := 7, ground := Go.Ground.phase }, { on := 8, ground := Go.Ground.phase }, { on := 9, ground := Go.Ground.phase }, { on := 10, ground := Go.Ground.phase }, { on := 11, ground := Go.Ground.phase }, { on := 12, ground := Go.Ground.phase }], guard := none }) rfl (fun K hK => ?_) AllReadyH.nil
      go_simp
      refine hK.out _ _ (by go_keep) (fun hHeldN => ?_)
      clear hK K hHeld
      have hHeld := hHeldN
      clear hHeldN
      (try simp only [Act.put, List.setIfInBounds_toArray, List.set_cons_zero, List.set_cons_succ])
      refine wpAnyH_done (by kernel_rfl) ?_ _
      obtain ⟨W6, hW6⟩ : ∃ W6, W6 = ((((((w7.setCell ⟨L, 0, none⟩ (.slice nra nrn nrc)).setCell ⟨L, 1, none⟩ (.slice nma nmn nmc)).setCell ⟨L, 2, none⟩ (.slice nfa nfn nfc)).setCell ⟨L, 3, none⟩ (.slice nea nen nec)).setCell ⟨L, 4, none⟩ (.slice ya yn yc)).setCell ⟨L, 5, none⟩ (.slice za zn zc)) := ⟨_, rfl⟩
      rw [← hW6]
      have hm7 := (H7.out.block L (lt_of_heap HM3.out)).trans HM3.out
      have g2 : W6.heap[L]? = some (.cells #[.slice nra nrn nrc, .slice nma nmn nmc, .slice nfa nfn nfc, .slice nea nen nec, .slice ya yn yc, .slice za zn zc, .slice fa fn fc, .slice ea en ec] 52 (0, 0)) := by
        have h0 := heap_set_at hm7 0 (.slice nra nrn nrc)
        simp only [List.setIfInBounds_toArray, List.set_cons_zero, List.set_cons_succ] at h0
        have h1 := heap_set_at h0 1 (.slice nma nmn nmc)
        simp only [List.setIfInBounds_toArray, List.set_cons_zero, List.set_cons_succ] at h1
        have h2 := heap_set_at h1 2 (.slice nfa nfn nfc)
        simp only [List.setIfInBounds_toArray, List.set_cons_zero, List.set_cons_succ] at h2
        have h3 := heap_set_at h2 3 (.slice nea nen nec)
        simp only [List.setIfInBounds_toArray, List.set_cons_zero, List.set_cons_succ] at h3
        have h4 := heap_set_at h3 4 (.slice ya yn yc)
        simp only [List.setIfInBounds_toArray, List.set_cons_zero, List.set_cons_succ] at h4
        have h5 := heap_set_at h4 5 (.slice za zn zc)
        simp only [List.setIfInBounds_toArray, List.set_cons_zero, List.set_cons_succ] at h5
        rw [hW6]; exact h5
      have oth : ∀ g, g ≠ L → W6.heap[g]? = w7.heap[g]? := fun g hg => by
        rw [hW6, Below.heap_setCell _ ⟨L, 5, none⟩ _ _ (show g ≠ L from hg), Below.heap_setCell _ ⟨L, 4, none⟩ _ _ (show g ≠ L from hg), Below.heap_setCell _ ⟨L, 3, none⟩ _ _ (show g ≠ L from hg), Below.heap_setCell _ ⟨L, 2, none⟩ _ _ (show g ≠ L from hg), Below.heap_setCell _ ⟨L, 1, none⟩ _ _ (show g ≠ L from hg), Below.heap_setCell _ ⟨L, 0, none⟩ _ _ (show g ≠ L from hg)]
      have zW : W6.heap.size = w7.heap.size := by rw [hW6]; simp
      obtain ⟨g7, bw7⟩ := RB.out w7 H7.out
      have g1 : W6.heap[w.heap.size + 1]? = some (.cells #[.slice none 0 0, .slice none 0 0, .slice none 0 0, .slice none 0 0, .slice none 0 0, .slice none 0 0, .slice none 0 0, .slice none 0 0] 52 (0, 0)) := (oth _ (by omega)).trans g7
      have bW : Below w.heap.size w W6 := by
        have hLb : ∀ c : Nat, w.heap.size ≤ (⟨L, c, none⟩ : Addr).block := fun c => by show w.heap.size ≤ L; omega
        rw [hW6]; exact (((((bw7.setCell (hLb 0) _).setCell (hLb 1) _).setCell (hLb 2) _).setCell (hLb 3) _).setCell (hLb 4) _).setCell (hLb 5) _
      obtain ⟨p0, p1, p2, p3, p4, p5, p6, p7⟩ := cell_eight g2
      obtain ⟨r0, r1, r2, r3, r4, r5, r6, r7⟩ := cell_eight g1
      obtain ⟨y0, y1, y2, y3, y4, y5, y6, y7⟩ := free_eight g1
      have QQ := hid (cell_eight (eight_new g1 (.slice nra nrn nrc) (.slice nma nmn nmc) (.slice nfa nfn nfc) (.slice nea nen nec) (.slice ya yn yc) (.slice za zn zc) (.slice fa fn fc) (.slice ea en ec)))
      have BF := hid (eight_below bW (show w.heap.size ≤ w.heap.size + 1 by omega) (.slice nra nrn nrc) (.slice nma nmn nmc) (.slice nfa nfn nfc) (.slice nea nen nec) (.slice ya yn yc) (.slice za zn zc) (.slice fa fn fc) (.slice ea en ec))
      have OT : Hid (∀ g, g ≠ L → g ≠ w.heap.size + 1 → (eight W6 (w.heap.size + 1) (.slice nra nrn nrc) (.slice nma nmn nmc) (.slice nfa nfn nfc) (.slice nea nen nec) (.slice ya yn yc) (.slice za zn zc) (.slice fa fn fc) (.slice ea en ec)).heap[g]? = w7.heap[g]?) := hid (fun g h1 h2 => (eight_other _ _ _ _ _ _ _ _ _ _ h2).trans (oth g h1))
      have SZ := hid (show L < W3.heap.size from lt_of_heap HM3.out)
      clear hW6 hm7 g2 oth zW g7 bw7 g1 bW b0 b1 b2 b3 b4 b5 b6 b7 fz0 fz1 fz2 fz3 fz4 fz5 fz6 fz7 s70 s71 s72 s73 s74 s75 s5 s6 x0 x1 x2 x3 x4 x5
      go_wp2
      obtain ⟨q0, q1, q2, q3, q4, q5, q6, q7⟩ := QQ.out
      refine bodyPost_ret (w := eight W6 (w.heap.size + 1) (.slice nra nrn nrc) (.slice nma nmn nmc) (.slice nfa nfn nfc) (.slice nea nen nec) (.slice ya yn yc) (.slice za zn zc) (.slice fa fn fc) (.slice ea en ec)) (v := .tuple #[.agg #[.slice nra nrn nrc, .slice nma nmn nmc, .slice nfa nfn nfc, .slice nea nen nec, .slice ya yn yc, .slice za zn zc, .slice fa fn fc, .slice ea en ec], .int .i64 0]) (by simp [results, Try.results12, go_sem, q0, q1, q2, q3, q4, q5, q6, q7]) rfl ?_
      have s4 := HB4.out.size
      have s5 : w4.heap.size ≤ w5.heap.size := HB5.out.size
      have s6 := HB6.out.size
      have s7 := HB7.out.size
      have l3 := SZ.out
      have kp : Kp w4.drew.heap.size w5 (fun X => PRd X ⟨nra, nrn, nrc, nma, nmn, nmc, nfa, nfn, nfc, nea, nen, nec⟩ qq) := HK5.out
      have P := kp _ (fun g h1 h2 => (OT.out g (by have h3 : w4.heap.size ≤ g := h1; omega) (by have h3 : w4.heap.size ≤ g := h1; omega)).trans ((HB7.out.block g (by omega)).trans (HB6.out.block g h2)))
      have J := HK6.out _ (fun g h1 h2 => (OT.out g (by omega) (by omega)).trans (HB7.out.block g h2))
      have T := HK7.out _ (fun g h1 h2 => OT.out g (by omega) (by omega))
      obtain ⟨fs6, es6, cd6⟩ := CD.out _ BF.out (fun g h1 h2 => (OT.out g (by omega) (by omega)).trans ((H7.out.block g (by omega))))
      exact ⟨BF.out, .inl ⟨rfl, ⟨⟨nra, nrn, nrc, nma, nmn, nmc, nfa, nfn, nfc, nea, nen, nec⟩, ya, yn, yc, za, zn, zc, fa, fn, fc, ea, en, ec⟩, qq, fs6, es6, rfl, HEQ.out, ⟨P, HN6.out, by show yn ≤ _; rw [HN6.out]; exact LX.out.1, HN7.out, by show zn ≤ _; rw [HN7.out]; exact LX.out.2, T, cd6.f, cd6.fe, cd6.e, cd6.ee⟩, J, HN6.out⟩⟩
    | false =>
      go_upto_region 5 with (go_at_call 23; (refine (Hid.out KI).mono ?_; rintro e w4 ⟨rfl, hb4⟩; clear c0 c1 c2 c3 c4 c5 c6 c7; obtain ⟨⟨c0, c1, c2, c3⟩, c4, c5, c6, c7⟩ := CLB.out w4 hb4; have HB4 := hid hb4; clear hb4))
      have g4 := (RB.out w4 HB4.out).1
      obtain ⟨d0, d1, d2, d3, d4, d5, d6, d7⟩ := cell_eight g4
      obtain ⟨y0, y1, y2, y3, y4, y5, y6, y7⟩ := free_eight g4
      go_wp2
      obtain ⟨q0, q1, q2, q3, q4, q5, q6, q7⟩ := cell_eight (eight_new g4 (.slice none 0 0) (.slice none 0 0) (.slice none 0 0) (.slice none 0 0) (.slice none 0 0) (.slice none 0 0) (.slice none 0 0) (.slice none 0 0))
      have HB6 := eight_below (RB.out w4 HB4.out).2 (show w.heap.size ≤ w.heap.size + 1 by omega) (.slice none 0 0) (.slice none 0 0) (.slice none 0 0) (.slice none 0 0) (.slice none 0 0) (.slice none 0 0) (.slice none 0 0) (.slice none 0 0)
      refine bodyPost_ret (w := eight w4 (w.heap.size + 1) (.slice none 0 0) (.slice none 0 0) (.slice none 0 0) (.slice none 0 0) (.slice none 0 0) (.slice none 0 0) (.slice none 0 0) (.slice none 0 0)) (v := .tuple #[zeroC, .int .i64 100]) (by simp [zeroC, results, Try.results12, go_sem, q0, q1, q2, q3, q4, q5, q6, q7]) rfl ?_
      exact ⟨HB6, .inr ⟨rfl, rfl⟩⟩
  · have HK : Hid (okv = false) := hid (by
      rw [HOK.out, ← HBF.out, ← HBE.out]
      cases bf <;> cases be <;> simp at hbb ⊢)
    have HK := HK.out
    subst HK
    clear CFG HOK HBF HBE HFF HEE b3 b13 m3
    have g4 := (RB.out W3 (Below.refl _ _)).1
    obtain ⟨d0, d1, d2, d3, d4, d5, d6, d7⟩ := cell_eight g4
    obtain ⟨y0, y1, y2, y3, y4, y5, y6, y7⟩ := free_eight g4
    have qq := hid (cell_eight (eight_new g4 (.slice none 0 0) (.slice none 0 0) (.slice none 0 0) (.slice none 0 0) (.slice none 0 0) (.slice none 0 0) (.slice none 0 0) (.slice none 0 0)))
    have HB6 := hid (eight_below (RB.out W3 (Below.refl _ _)).2 (show w.heap.size ≤ w.heap.size + 1 by omega) (.slice none 0 0) (.slice none 0 0) (.slice none 0 0) (.slice none 0 0) (.slice none 0 0) (.slice none 0 0) (.slice none 0 0) (.slice none 0 0))
    clear g4
    cases bf with
    | false =>
      go_wp2
      obtain ⟨q0, q1, q2, q3, q4, q5, q6, q7⟩ := qq.out
      refine bodyPost_ret (w := eight W3 (w.heap.size + 1) (.slice none 0 0) (.slice none 0 0) (.slice none 0 0) (.slice none 0 0) (.slice none 0 0) (.slice none 0 0) (.slice none 0 0) (.slice none 0 0)) (v := .tuple #[zeroC, .int .i64 100]) (by simp [zeroC, results, Try.results12, go_sem, q0, q1, q2, q3, q4, q5, q6, q7]) rfl ?_
      exact ⟨HB6.out, .inr ⟨rfl, rfl⟩⟩
    | true =>
      cases be with
      | true => exact absurd ⟨rfl, rfl⟩ hbb
      | false =>
        clear hbb
        go_wp2
        obtain ⟨q0, q1, q2, q3, q4, q5, q6, q7⟩ := qq.out
        refine bodyPost_ret (w := eight W3 (w.heap.size + 1) (.slice none 0 0) (.slice none 0 0) (.slice none 0 0) (.slice none 0 0) (.slice none 0 0) (.slice none 0 0) (.slice none 0 0) (.slice none 0 0)) (v := .tuple #[zeroC, .int .i64 100]) (by simp [zeroC, results, Try.results12, go_sem, q0, q1, q2, q3, q4, q5, q6, q7]) rfl ?_
        exact ⟨HB6.out, .inr ⟨rfl, rfl⟩⟩
end Go.Proofs.Ytmhjnfibpngpmaa

namespace Go.Proofs.Ytmhjnfibpngpmaa
open Go.RowKit Go.Deep Go.Shelf
set_option linter.unusedVariables false
set_option linter.unusedSimpArgs false
structure CEq (c1 c2 : Cx) : Prop where
  p : PEq c1.p c2.p
  t : c1.texts = c2.texts
  f : c1.funcs = c2.funcs
  e : c1.events = c2.events
set_option maxRecDepth 100000 in
set_option maxHeartbeats 8000000 in
theorem same_yes (w : World) (C D : CH) (c1 c2 : Cx) (fs es fs2 es2 : List (FH × Fx)) (xs : List Int) (d1 : CdRd w C c1 fs es) (d2 : CdRd w D c2 fs2 es2) (he : CEq c1 c2) (j1 : JRd w C.ia xs) (j2 : JRd w D.ia xs) (n1 : C.inn = xs.length) (n2 : D.inn = xs.length) :
    Calls Try.prog 14 #[C.v, D.v] w fun e w' => e = .returned (.bool true) ∧ Below w.heap.size w w' := by
  have ei : C.inn = D.inn := n1.trans n2.symm
  have et : C.tn = D.tn := by rw [d1.t1, d2.t1, he.t]
  have hff : fs.map (·.2) = fs2.map (·.2) := by rw [d1.fe, d2.fe, he.f]
  have hee : es.map (·.2) = es2.map (·.2) := by rw [d1.ee, d2.ee, he.e]
  have ef : C.fn = D.fn := by rw [d1.f.n1, d2.f.n1]; have := congrArg List.length hff; rw [List.length_map, List.length_map] at this; exact this
  have ee : C.en = D.en := by rw [d1.e.n1, d2.e.n1]; have := congrArg List.length hee; rw [List.length_map, List.length_map] at this; exact this
  obtain ⟨A1, hA1⟩ : ∃ A1, A1 = w.alloc (.cells C.cs 52) := ⟨_, rfl⟩
  obtain ⟨W0, hW0⟩ : ∃ W0, W0 = A1.alloc (.cells D.cs 52) := ⟨_, rfl⟩
  have b1 : Below w.heap.size w A1 := by rw [hA1]; exact (Below.refl _ _).alloc (Nat.le_refl _) _
  have z1 : A1.heap.size = w.heap.size + 1 := by rw [hA1]; simp
  have bw : Below w.heap.size w W0 := by rw [hW0]; exact b1.alloc (by omega) _
  have q0 : W0.heap[w.heap.size]? = some (.cells C.cs 52 (0, 0)) := by rw [hW0, Below.heap_alloc _ _ _ (by omega), hA1]; exact heap_alloc_new w _
  have q1 : W0.heap[w.heap.size + 1]? = some (.cells D.cs 52 (0, 0)) := by rw [hW0, ← z1]; exact heap_alloc_new A1 _
  have GT : Hid (∀ V : World, Below W0.heap.size W0 V → V.heap[w.heap.size]? = some (.cells C.cs 52 (0, 0)) ∧ V.heap[w.heap.size + 1]? = some (.cells D.cs 52 (0, 0)) ∧ Below w.heap.size w V) := hid (fun V hV => ⟨(hV.block _ (lt_of_heap q0)).trans q0, (hV.block _ (lt_of_heap q1)).trans q1, bw.trans (hV.mono bw.size)⟩)
  have KP := hid (sameProgram_yes W0 C.h D.h c1.p c2.p (d1.p.below (Nat.le_refl _) bw) (d2.p.below (Nat.le_refl _) bw) he.p)
  have KF := hid (fun (V : World) (hV : Below w.heap.size w V) => sameFns_yes V C.fa D.fa C.fn C.fc D.fc fs fs2 (d1.f.below (Nat.le_refl _) hV) (ef ▸ d2.f.below (Nat.le_refl _) hV) hff)
  have KE := hid (fun (V : World) (hV : Below w.heap.size w V) => sameFns_yes V C.ea D.ea C.en C.ec D.ec es es2 (d1.e.below (Nat.le_refl _) hV) (ee ▸ d2.e.below (Nat.le_refl _) hV) hee)
  have J1 := hid j1
  have J2 := hid j2
  have T1 := hid d1.tr
  have T2 : Hid (SRd w D.ta c1.texts) := hid (by rw [he.t]; exact d2.tr)
  have HT := hid d1.t1
  have HI := hid n1
  have li := d1.i2
  have lt := d1.t2
  have lf := d1.f.n2
  have le := d1.e.n2
  clear d1 d2 he j1 j2 n1 n2 hff hee q0 q1 b1 bw z1
  obtain ⟨⟨ra, rn, rc, ma, mn, mc, fa, fn, fc, ea, en, ec⟩, ia, inn, ic, ta, tn, tc, ga, gn, gc, ha, hn, hc⟩ := C
  obtain ⟨⟨ra2, rn2, rc2, ma2, mn2, mc2, fa2, fn2, fc2, ea2, en2, ec2⟩, ia2, inn2, ic2, ta2, tn2, tc2, ga2, gn2, gc2, ha2, hn2, hc2⟩ := D
  simp only [CH.v, CH.cs, PH.v] at hA1 hW0 GT KP KF KE J1 J2 T1 T2 HT HI li lt lf le ei et ef ee ⊢
  subst ei et ef ee
  have CL : Hid (∀ V : World, Below W0.heap.size W0 V → ((V.cell? ⟨w.heap.size, 0, none⟩ = some (.slice ra rn rc) ∧ V.cell? ⟨w.heap.size, 1, none⟩ = some (.slice ma mn mc) ∧ V.cell? ⟨w.heap.size, 2, none⟩ = some (.slice fa fn fc) ∧ V.cell? ⟨w.heap.size, 3, none⟩ = some (.slice ea en ec)) ∧ V.cell? ⟨w.heap.size, 4, none⟩ = some (.slice ia inn ic) ∧ V.cell? ⟨w.heap.size, 5, none⟩ = some (.slice ta tn tc) ∧ V.cell? ⟨w.heap.size, 6, none⟩ = some (.slice ga gn gc) ∧ V.cell? ⟨w.heap.size, 7, none⟩ = some (.slice ha hn hc)) ∧ ((V.cell? ⟨w.heap.size + 1, 0, none⟩ = some (.slice ra2 rn2 rc2) ∧ V.cell? ⟨w.heap.size + 1, 1, none⟩ = some (.slice ma2 mn2 mc2) ∧ V.cell? ⟨w.heap.size + 1, 2, none⟩ = some (.slice fa2 fn2 fc2) ∧ V.cell? ⟨w.heap.size + 1, 3, none⟩ = some (.slice ea2 en2 ec2)) ∧ V.cell? ⟨w.heap.size + 1, 4, none⟩ = some (.slice ia2 inn ic2) ∧ V.cell? ⟨w.heap.size + 1, 5, none⟩ = some (.slice ta2 tn tc2) ∧ V.cell? ⟨w.heap.size + 1, 6, none⟩ = some (.slice ga2 gn gc2) ∧ V.cell? ⟨w.heap.size + 1, 7, none⟩ = some (.slice ha2 hn hc2)) ∧ Below w.heap.size w V) := hid (fun V hV => by
    obtain ⟨g, g', gb⟩ := GT.out V hV
    exact ⟨⟨⟨cellOf g 0, cellOf g 1, cellOf g 2, cellOf g 3⟩, cellOf g 4, cellOf g 5, cellOf g 6, cellOf g 7⟩, ⟨⟨cellOf g' 0, cellOf g' 1, cellOf g' 2, cellOf g' 3⟩, cellOf g' 4, cellOf g' 5, cellOf g' 6, cellOf g' 7⟩, gb⟩)
  have inI : (inn : Int) ≤ 9223372036854775807 := by omega
  have tnI : (tn : Int) ≤ 9223372036854775807 := by omega
  have gnI : (gn : Int) ≤ 9223372036854775807 := by omega
  have hnI : (hn : Int) ≤ 9223372036854775807 := by omega
  have nb1 : ((inn : Int) != (inn : Int)) = false := by simp
  have nb2 : ((tn : Int) != (tn : Int)) = false := by simp
  have TR : Hid (∀ {x y : World}, Below W0.heap.size W0 x → Below x.heap.size x y → Below W0.heap.size W0 y) := hid (fun h1 h2 => h1.trans (h2.mono h1.size))
  obtain ⟨⟨⟨c0, c1', c2', c3⟩, c4, c5, c6, c7⟩, ⟨⟨d0, d1, d2, d3⟩, d4, d5, d6, d7⟩, _⟩ := CL.out W0 (Below.refl _ _)
  clear GT
  go_enter Try.func14, Try.ntmps14
  go_upto_region 1 with fail
  rw [← hA1, ← hW0]
  clear hA1 hW0
  go_upto_region 3 with (first
    | (go_at_call 38; (refine (Hid.out KP).mono ?_; rintro e w1 ⟨rfl, hb1⟩; clear c0 c1' c2' c3 c4 c5 c6 c7 d0 d1 d2 d3 d4 d5 d6 d7; obtain ⟨⟨⟨c0, c1', c2', c3⟩, c4, c5, c6, c7⟩, ⟨⟨d0, d1, d2, d3⟩, d4, d5, d6, d7⟩, g1⟩ := CL.out w1 hb1))
    | (have hno := hfirst; (go_at_call 39; (refine (KE.out w2 g2).mono ?_; rintro e w3 ⟨rfl, hb3⟩; have HB3 := hid (TR.out hb2' hb3); clear c0 c1' c2' c3 c4 c5 c6 c7 d0 d1 d2 d3 d4 d5 d6 d7; obtain ⟨⟨⟨c0, c1', c2', c3⟩, c4, c5, c6, c7⟩, ⟨⟨d0, d1, d2, d3⟩, d4, d5, d6, d7⟩, g3⟩ := CL.out w3 HB3.out)))
    | (go_at_call 39; (refine (KF.out w1 g1).mono ?_; rintro e w2 ⟨rfl, hb2⟩; have hb2' := TR.out hb1 hb2; clear c0 c1' c2' c3 c4 c5 c6 c7 d0 d1 d2 d3 d4 d5 d6 d7; obtain ⟨⟨⟨c0, c1', c2', c3⟩, c4, c5, c6, c7⟩, ⟨⟨d0, d1, d2, d3⟩, d4, d5, d6, d7⟩, g2⟩ := CL.out w2 hb2'; have hfirst : True := trivial)))
  clear hb1 hb2 hb3 hb2' hfirst g1 g2 g3 KP KF KE
  go_wp2
  go_loopg [5] inn (fun g x wr => ∃ j : Nat, j + g = inn ∧ x = .int .i64 (j : Int) ∧ Below W0.heap.size W0 wr)
  case atStart => exact ⟨0, by omega, rfl, HB3.out⟩
  case round =>
    obtain ⟨j, hj, rfl, hb⟩ := hrel
    clear c0 c1' c2' c3 c4 c5 c6 c7 d0 d1 d2 d3 d4 d5 d6 d7
    obtain ⟨⟨⟨c0, c1', c2', c3⟩, c4, c5, c6, c7⟩, ⟨⟨d0, d1, d2, d3⟩, d4, d5, d6, d7⟩, gb⟩ := CL.out wr hb
    cases gk with
    | zero =>
      have hjn : j = inn := by omega
      subst hjn
      have HB := hid hb
      clear hb gb
      go_wp2
      go_loopg [6] tn (fun g2 x wr2 => ∃ i : Nat, i + g2 = tn ∧ x = .int .i64 (i : Int) ∧ Below W0.heap.size W0 wr2)
      case atStart => exact ⟨0, by omega, rfl, HB.out⟩
      case round =>
        obtain ⟨i, hi, rfl, hb⟩ := hrel
        clear c0 c1' c2' c3 c4 c5 c6 c7 d0 d1 d2 d3 d4 d5 d6 d7
        obtain ⟨⟨⟨c0, c1', c2', c3⟩, c4, c5, c6, c7⟩, ⟨⟨d0, d1, d2, d3⟩, d4, d5, d6, d7⟩, gb⟩ := CL.out wr hb
        cases gk with
        | zero =>
          have hin : i = tn := by omega
          subst hin
          have GB := hid gb
          clear gb hb
          go_wp2
          go_ret
          exact ⟨rfl, GB.out⟩
        | succ g2 =>
          obtain ⟨s, hs⟩ : ∃ s, c1.texts[i]? = some s := ⟨c1.texts[i]'(by have := HT.out; omega), List.getElem?_eq_getElem _⟩
          obtain ⟨_, p1, u1, rfl, z1⟩ := (T1.out.below (Nat.le_refl _) gb) i s hs
          obtain ⟨_, p2, u2, rfl, z2⟩ := (T2.out.below (Nat.le_refl _) gb) i s hs
          have hiI : (i : Int) < (tn : Int) := by omega
          have hi0 : (0 : Int) ≤ (i : Int) := by omega
          have H3 := hid hb
          clear hb hs gb
          go_wp2
          go_quiet (fail)
          go_wp2
          go_roundg g2
          case measure => omega
          exact ⟨i + 1, by omega, by go_num, bel_dN H3.out _⟩
    | succ g =>
      obtain ⟨x, hx⟩ : ∃ x, xs[j]? = some x := ⟨xs[j]'(by have := HI.out; omega), List.getElem?_eq_getElem _⟩
      obtain ⟨p1, u1, rfl, _, z1⟩ := (CRd.below J1.out (Nat.le_refl _) gb) j (inc x) (by rw [List.getElem?_map, hx]; rfl)
      obtain ⟨p2, u2, rfl, _, z2⟩ := (CRd.below J2.out (Nat.le_refl _) gb) j (inc x) (by rw [List.getElem?_map, hx]; rfl)
      have y1 := z1 0 (by omega)
      have y2 := z2 0 (by omega)
      simp only [inc, List.getElem?_cons_zero, Nat.add_zero, Nat.mul_one] at y1 y2
      have hjI : (j : Int) < (inn : Int) := by omega
      have hj0 : (0 : Int) ≤ (j : Int) := by omega
      have H3 := hid hb
      clear hb hx gb z1 z2
      go_wp2
      go_quiet (fail)
      go_wp2
      go_roundg g
      case measure => omega
      exact ⟨j + 1, by omega, by go_num, bel_dN H3.out _⟩
end Go.Proofs.Ytmhjnfibpngpmaa

namespace Go.Proofs.Ytmhjnfibpngpmaa
open Go.RowKit Go.Deep Go.Shelf
set_option linter.unusedVariables false
set_option linter.unusedSimpArgs false
theorem sizeA : (Try.prog.info? 150).map (·.size) = some shpC.size := by kernel_rfl
theorem oneA : shpC.all (·.oneCell') = true := by kernel_rfl
theorem last_new (w : World) (o o2 : Obj) : ((w.alloc o).alloc o2).heap[w.heap.size + 1]? = some o2 := by
  have := heap_alloc_new (w.alloc o) o2
  rw [World.size_alloc] at this; exact this
def five (w : World) (b : Nat) (x0 x1 x2 x3 x4 : Value) : World := ((((w.setCell ⟨b, 0, none⟩ x0).setCell ⟨b, 1, none⟩ x1).setCell ⟨b, 2, none⟩ x2).setCell ⟨b, 3, none⟩ x3).setCell ⟨b, 4, none⟩ x4
theorem five_new {w : World} {b : Nat} {p0 p1 p2 p3 p4 : Value} {t : TypeId} (h : w.heap[b]? = some (.cells #[p0, p1, p2, p3, p4] t (0, 0))) (x0 x1 x2 x3 x4 : Value) : (five w b x0 x1 x2 x3 x4).heap[b]? = some (.cells #[x0, x1, x2, x3, x4] t (0, 0)) := heap_set_at (heap_set_at (heap_set_at (heap_set_at (heap_set_at h 0 x0) 1 x1) 2 x2) 3 x3) 4 x4
theorem five_below {B : Nat} {w0 w : World} (hb : Below B w0 w) {b : Nat} (hB : B ≤ b) (x0 x1 x2 x3 x4 : Value) : Below B w0 (five w b x0 x1 x2 x3 x4) := by
  unfold five
  exact ((((hb.setCell hB _).setCell hB _).setCell hB _).setCell hB _).setCell hB _
theorem shp_cell' {w : World} {X k : Nat} (h : w.heap[X]? = some (.cells shpC 150 (0, 0))) (hk : k < 41) (i : Nat) (hi : i < 5) : w.cell? ⟨X, k * 5 + i, none⟩ = (shpAt (k : Int)).cs[i]? := by
  rw [cellOf h]
  unfold shpC
  rw [List.getElem?_toArray]
  exact flat_get shpL k _ (shp_get hk) i hi
theorem row_is (w : World) (o : Obj) (z : Array Value) : ((w.alloc o).alloc (.cells z 150)).setRow (w.heap.size + 1) shpC = (w.alloc o).alloc (.cells shpC 150) := by
  have := World.setRow_alloc_new (w.alloc o) z shpC 150
  rw [World.size_alloc] at this; exact this
def shpR (k : Int) : Ending := .returned (.tuple #[.agg (if isC k = true then shpAt k else shp0).cs.toArray, .bool (isC k)])
theorem shpT (k : Int) (h : isC k = true) (s : Shp) (hs : s = shpAt k) : Ending.returned (.tuple #[.agg s.cs.toArray, .bool true]) = shpR k := by
  unfold shpR; rw [h, hs]; rfl
theorem shpF (k : Int) (h : isC k = false) : Ending.returned (.tuple #[.agg #[.string ⟨#[]⟩, .int .u8 0, .int .u8 0, .int .u8 0, .int .u8 0], .bool false]) = shpR k := by
  unfold shpR; rw [h]; simp only [Bool.false_eq_true, if_false, shp0, Shp.cs]; rfl
set_option maxRecDepth 100000 in
set_option maxHeartbeats 8000000 in
theorem shapeOf_core (w : World) (k : Int) : Calls Try.prog 24 #[.int .i64 k] w fun e w' => e = shpR k ∧ Below w.heap.size w w' := by
  go_enter Try.func24, Try.ntmps24
  go_upto_region 1 with fail
  go_cut [4] from 5 to 45 (fun s wc => s = .pointer (some ⟨w.heap.size + 1, 0, none⟩) ∧ wc = (w.alloc (.cells #[.string ⟨#[]⟩, .int .u8 0, .int .u8 0, .int .u8 0, .int .u8 0] 81)).alloc (.cells shpC 150))
  case first =>
    go_wp2_with (refine wpList_store_row rfl 150 (.tmp 4) (.tmp 45) rfl (w.heap.size + 1) shpC (by rfl) (by rfl) 150 _ (last_new _ _ _) sizeA (by rfl) oneA ?_)
    go_meet
    exact ⟨rfl, row_is _ _ _⟩
  case rest =>
    obtain ⟨rfl, rfl⟩ := hcut
    obtain ⟨X, hX⟩ : ∃ X, X = w.heap.size := ⟨_, rfl⟩
    obtain ⟨W2, hW2⟩ : ∃ W2, W2 = (w.alloc (.cells #[.string ⟨#[]⟩, .int .u8 0, .int .u8 0, .int .u8 0, .int .u8 0] 81)).alloc (.cells shpC 150) := ⟨_, rfl⟩
    have bw : Below w.heap.size w W2 := by rw [hW2]; exact ((Below.refl _ _).alloc (Nat.le_refl _) _).alloc (by simp) _
    have mX : W2.heap[X]? = some (.cells #[.string ⟨#[]⟩, .int .u8 0, .int .u8 0, .int .u8 0, .int .u8 0] 81 (0, 0)) := by rw [hW2, hX, Below.heap_alloc _ _ _ (by simp)]; exact heap_alloc_new _ _
    have mT : W2.heap[X + 1]? = some (.cells shpC 150 (0, 0)) := by rw [hW2, hX]; exact last_new _ _ _
    have y0 := cellOf mX 0
    have y1 := cellOf mX 1
    have y2 := cellOf mX 2
    have y3 := cellOf mX 3
    have y4 := cellOf mX 4
    have f0 := freeOf mX 0
    have f1 := freeOf mX 1
    have f2 := freeOf mX 2
    have f3 := freeOf mX 3
    have f4 := freeOf mX 4
    simp only [List.getElem?_toArray, List.getElem?_cons_zero, List.getElem?_cons_succ] at y0 y1 y2 y3 y4
    have MX := hid mX
    have MT := hid mT
    have BW := hid bw
    have HX := hid hX
    rw [← hW2, ← hX]
    clear hW2 hX mX mT bw
    have FIN := hid (fun (x0 x1 x2 x3 x4 : Value) => (⟨five_new MX.out x0 x1 x2 x3 x4, five_below BW.out (b := X) (by rw [HX.out]; exact Nat.le_refl _) x0 x1 x2 x3 x4⟩ : (five W2 X x0 x1 x2 x3 x4).heap[X]? = some (.cells #[x0, x1, x2, x3, x4] 81 (0, 0)) ∧ Below w.heap.size w (five W2 X x0 x1 x2 x3 x4)))
    by_cases h0 : isC k = true
    · have HD := hid h0
      have hk : 1 ≤ k ∧ k < 41 := by unfold isC at h0; simpa using h0
      obtain ⟨kk, rfl⟩ : ∃ kk : Nat, k = (kk : Int) := ⟨k.toNat, by omega⟩
      have hkk : kk < 41 := by omega
      obtain ⟨h1, h2⟩ := hk
      have h1' : ¬ (kk : Int) < 1 := by omega
      have h2' : ¬ (41 : Int) ≤ (kk : Int) := by omega
      have h3 : (0 : Int) ≤ (kk : Int) := by omega
      have hb1 : decide ((kk : Int) < 1) = false := decide_eq_false h1'
      have hb2 : decide ((41 : Int) ≤ (kk : Int)) = false := decide_eq_false h2'
      obtain ⟨sh, hsh⟩ : ∃ sh, sh = shpAt (kk : Int) := ⟨_, rfl⟩
      have s0 := shp_cell' MT.out hkk 0 (by omega)
      have s1 := shp_cell' MT.out hkk 1 (by omega)
      have s2 := shp_cell' MT.out hkk 2 (by omega)
      have s3 := shp_cell' MT.out hkk 3 (by omega)
      have s4 := shp_cell' MT.out hkk 4 (by omega)
      rw [← hsh] at s0 s1 s2 s3 s4
      have HSH := hid hsh
      obtain ⟨nm, d, a, b, kf⟩ := sh
      simp only [Shp.cs, List.getElem?_cons_zero, List.getElem?_cons_succ, Nat.add_zero] at s0 s1 s2 s3 s4
      clear hsh h0
      go_wp2
      obtain ⟨hf, hb⟩ := FIN.out (.string nm) (.int .u8 d) (.int .u8 a) (.int .u8 b) (.int .u8 kf)
      have q0 := cellOf hf 0
      have q1 := cellOf hf 1
      have q2 := cellOf hf 2
      have q3 := cellOf hf 3
      have q4 := cellOf hf 4
      simp only [five, List.getElem?_toArray, List.getElem?_cons_zero, List.getElem?_cons_succ] at q0 q1 q2 q3 q4 hb
      refine bodyPost_ret (v := .tuple #[.agg #[.string nm, .int .u8 d, .int .u8 a, .int .u8 b, .int .u8 kf], .bool true]) (by simp [results, Try.results24, go_sem, q0, q1, q2, q3, q4]) rfl ⟨shpT (kk : Int) HD.out ⟨nm, d, a, b, kf⟩ HSH.out, hb⟩
    · have HD : Hid (isC k = false) := hid (by simpa using h0)
      have hk : k < 1 ∨ 41 ≤ k := by unfold isC at h0; simp at h0; omega
      clear h0
      have FIN0 := hid (FIN.out (.string ⟨#[]⟩) (.int .u8 0) (.int .u8 0) (.int .u8 0) (.int .u8 0))
      clear FIN MT
      rcases hk with h1 | h1
      · have hb1 : decide (k < 1) = true := decide_eq_true h1
        go_wp2
        obtain ⟨hf, hb⟩ := FIN0.out
        have q0 := cellOf hf 0
        have q1 := cellOf hf 1
        have q2 := cellOf hf 2
        have q3 := cellOf hf 3
        have q4 := cellOf hf 4
        simp only [five, List.getElem?_toArray, List.getElem?_cons_zero, List.getElem?_cons_succ] at q0 q1 q2 q3 q4 hb
        refine bodyPost_ret (v := .tuple #[.agg #[.string ⟨#[]⟩, .int .u8 0, .int .u8 0, .int .u8 0, .int .u8 0], .bool false]) (by simp [results, Try.results24, go_sem, q0, q1, q2, q3, q4]) rfl ⟨shpF k HD.out, hb⟩
      · have hb1 : decide (k < 1) = false := decide_eq_false (by omega)
        have hb2 : decide (41 ≤ k) = true := decide_eq_true h1
        have h2 : ¬ k < 1 := by omega
        go_wp2
        obtain ⟨hf, hb⟩ := FIN0.out
        have q0 := cellOf hf 0
        have q1 := cellOf hf 1
        have q2 := cellOf hf 2
        have q3 := cellOf hf 3
        have q4 := cellOf hf 4
        simp only [five, List.getElem?_toArray, List.getElem?_cons_zero, List.getElem?_cons_succ] at q0 q1 q2 q3 q4 hb
        refine bodyPost_ret (v := .tuple #[.agg #[.string ⟨#[]⟩, .int .u8 0, .int .u8 0, .int .u8 0, .int .u8 0], .bool false]) (by simp [results, Try.results24, go_sem, q0, q1, q2, q3, q4]) rfl ⟨shpF k HD.out, hb⟩
theorem shapeOf_any (w : World) (k : Int) : Calls Try.prog 24 #[.int .i64 k] w fun e w' => e = .returned (.tuple #[.agg (if isC k = true then shpAt k else shp0).cs.toArray, .bool (isC k)]) ∧ Below w.heap.size w w' := shapeOf_core w k
end Go.Proofs.Ytmhjnfibpngpmaa

namespace Go.Proofs.Ytmhjnfibpngpmaa
open Go.RowKit Go.Deep Go.Shelf
set_option linter.unusedVariables false
set_option linter.unusedSimpArgs false
theorem UdRd.below {w w' : World} {U : CH} {p : Pg} {xs : List Int} {ts : List ByteArray} {gl el : List Gr} (d : UdRd w U p xs ts gl el) (k : Below w.heap.size w w') : UdRd w' U p xs ts gl el :=
  ⟨d.p.below (Nat.le_refl _) k, d.i1, d.i2, CRd.below d.ir (Nat.le_refl _) k, d.il, d.t1, d.t2, d.tr.below (Nat.le_refl _) k, d.tl, d.f.below k, d.fb, d.e.below k, d.eb⟩
theorem plainS (w : World) (h : PH) (p : Pg) (d : PRd w h p) : Calls Try.prog 30 #[h.v] w (Says w True) := (plainP_any w h p d).mono fun e w' h => by
  obtain ⟨b, he, hb⟩ := h
  exact ⟨hb, b, he, fun _ => trivial⟩
def c0 : Cx := ⟨⟨[], [], [], []⟩, 0, [], [], []⟩
def zCH : CH := ⟨⟨none, 0, 0, none, 0, 0, none, 0, 0, none, 0, 0⟩, none, 0, 0, none, 0, 0, none, 0, 0, none, 0, 0⟩
theorem zero_cd (w : World) : CdRd w zCH c0 [] [] :=
  ⟨⟨⟨rfl, Nat.zero_le _, (fun j r e => by simp [c0] at e), (fun p hp => by simp [c0] at hp)⟩, ⟨rfl, Nat.zero_le _, (fun j r e => by simp [c0] at e), (fun p hp => by simp [c0] at hp)⟩, ⟨rfl, Nat.zero_le _, (fun j r e => by simp [c0] at e), (fun p hp => by simp [c0] at hp)⟩, ⟨rfl, Nat.zero_le _, (fun j r e => by simp [c0] at e), (fun p hp => by simp [c0] at hp)⟩⟩, rfl, Nat.zero_le _, rfl, Nat.zero_le _, (fun j r e => by simp [c0] at e), ⟨rfl, Nat.zero_le _, (fun j r e => by simp at e), (fun p hp => by simp at hp)⟩, rfl, ⟨rfl, Nat.zero_le _, (fun j r e => by simp at e), (fun p hp => by simp at hp)⟩, rfl⟩
theorem CEq.refl (c : Cx) : CEq c c := ⟨⟨rfl, rfl, rfl, rfl⟩, rfl, rfl, rfl⟩
theorem CEq.both {a b c : Cx} (h : CEq a c) (g : CEq b c) : CEq a b := ⟨⟨h.p.r.trans g.p.r.symm, h.p.m.trans g.p.m.symm, h.p.f.trans g.p.f.symm, h.p.e.trans g.p.e.symm⟩, h.t.trans g.t.symm, h.f.trans g.f.symm, h.e.trans g.e.symm⟩
/- Either side's answer in one form. -/
def Ans (k : Int) (w : World) (ys : List Int) (c : Cx) (e : Ending) (w' : World) : Prop := Below w.heap.size w w' ∧ ∃ (C : CH) (cx : Cx) (fs es : List (FH × Fx)), e = .returned (.tuple #[C.v, .int .i64 k]) ∧ CdRd w' C cx fs es ∧ JRd w' C.ia ys ∧ C.inn = ys.length ∧ CEq cx c
theorem sidesU (w : World) (U : CH) (p : Pg) (xs : List Int) (ts : List ByteArray) (gl el : List Gr) (d : UdRd w U p xs ts gl el) (hn : PNil p) : ∃ (k : Int) (ys : List Int) (c : Cx) (b : Bool), (k = 0 ∧ b = true ∨ k = 100 ∧ b = false) ∧ ∀ V : World, Below w.heap.size w V →
    Calls Try.prog 12 #[U.v] V (Ans k V ys c) ∧ Calls Try.prog 13 #[U.v] V (Ans k V ys c) := by
  cases hok : okU p xs ts gl el with
  | true =>
    refine ⟨0, xs, cxU p xs ts gl el, true, .inl ⟨rfl, rfl⟩, fun V hV => ⟨(flatten_any shapeOf_any V U p xs ts gl el (d.below hV) hn).mono fun e w' h => ?_, (refFlatten_any V U p xs ts gl el (d.below hV)).mono fun e w' h => ?_⟩⟩
    · obtain ⟨hb, ⟨_, C, q, fs, es, he, hp, hc, hj, hi⟩ | ⟨hf, _⟩⟩ := h
      · exact ⟨hb, C, _, fs, es, he, hc, hj, hi, ⟨hp, rfl, rfl, rfl⟩⟩
      · rw [hok] at hf; cases hf
    · obtain ⟨hb, ⟨_, C, fs, es, he, hc, hj, hi⟩ | ⟨hf, _⟩⟩ := h
      · exact ⟨hb, C, _, fs, es, he, hc, hj, hi, CEq.refl _⟩
      · rw [hok] at hf; cases hf
  | false =>
    refine ⟨100, [], c0, false, .inr ⟨rfl, rfl⟩, fun V hV => ⟨(flatten_any shapeOf_any V U p xs ts gl el (d.below hV) hn).mono fun e w' h => ?_, (refFlatten_any V U p xs ts gl el (d.below hV)).mono fun e w' h => ?_⟩⟩
    · obtain ⟨hb, ⟨ht, _⟩ | ⟨_, he⟩⟩ := h
      · rw [hok] at ht; cases ht
      · exact ⟨hb, zCH, c0, [], [], he, zero_cd _, (fun j r e => by simp at e), rfl, CEq.refl _⟩
    · obtain ⟨hb, ⟨ht, _⟩ | ⟨_, he⟩⟩ := h
      · rw [hok] at ht; cases ht
      · exact ⟨hb, zCH, c0, [], [], he, zero_cd _, (fun j r e => by simp at e), rfl, CEq.refl _⟩
set_option maxRecDepth 100000 in
set_option maxHeartbeats 2000000 in
theorem flowIs_any (w : World) (U : CH) (k : Int) (ys : List Int) (c : Cx) (K12 : ∀ V : World, Below w.heap.size w V → Calls Try.prog 12 #[U.v] V (Ans k V ys c)) :
    Calls Try.prog 15 #[U.v] w fun e w' => e = .returned (.bool (decide (k = 0))) ∧ Below w.heap.size w w' := by
  obtain ⟨W0, hW0⟩ : ∃ W0, W0 = w.alloc (.cells U.cs 48) := ⟨_, rfl⟩
  have bw : Below w.heap.size w W0 := by rw [hW0]; exact (Below.refl _ _).alloc (Nat.le_refl _) _
  have q0 : W0.heap[w.heap.size]? = some (.cells U.cs 48 (0, 0)) := by rw [hW0]; exact heap_alloc_new w _
  have K := hid (K12 W0 bw)
  have BW := hid bw
  clear K12 bw
  obtain ⟨⟨ra, rn, rc, ma, mn, mc, pfa, pfn, pfc, pea, pen, pec⟩, ia, inn, ic, ta, tn, tc, ga, gn, gc, ha, hn, hc⟩ := U
  simp only [CH.v, CH.cs] at hW0 q0 K ⊢
  obtain ⟨c0', c1, c2, c3, c4, c5, c6, c7⟩ := cell_eight q0
  clear q0
  go_enter Try.func15, Try.ntmps15
  go_upto_region 1 with fail
  rw [← hW0]
  clear hW0
  go_wp2_with (go_at_call 12; (refine (Hid.out K).mono ?_; rintro e w1 ⟨hb1, ⟨⟨xra, xrn, xrc, xma, xmn, xmc, xfa, xfn, xfc, xea, xen, xec⟩, yia, yin, yic, yta, ytn, ytc, yga, ygn, ygc, yha, yhn, yhc⟩, cx, fs, es, rfl, _, _, _, _⟩; simp only [CH.v, CH.cs]; have HB := hid (BW.out.trans (hb1.mono BW.out.size)); clear hb1))
  go_ret
  exact ⟨rfl, HB.out.alloc HB.out.size _⟩
end Go.Proofs.Ytmhjnfibpngpmaa

