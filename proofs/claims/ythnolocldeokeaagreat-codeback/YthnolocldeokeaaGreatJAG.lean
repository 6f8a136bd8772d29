/- code's sameFn, sameSig, sameRecord, both ways. -/
import Derived.Test.YthnolocldeokeaaGreatJAF
import Derived.Deep.CutBlock
import Derived.Deep.DeepCutAuto
import Derived.Sort.CutIn
namespace Go.Proofs.YthnolocldeokeaaGreat
open Go.RowKit Go.Deep Go.Shelf
set_option linter.unusedVariables false
set_option linter.unusedSimpArgs false
set_option maxRecDepth 100000
theorem eqlT (w : World) {a b c d : Int} (h : ¬ (a, b) = (c, d)) : Sem.run Tryz.prog (binOp .eql 46 (.agg #[.int .i64 a, .int .i64 b]) (.agg #[.int .i64 c, .int .i64 d])) w = .ok (.bool false) w := by
  by_cases h1 : a = c
  · have h2 : ¬ b = d := fun e => h (by rw [h1, e])
    subst h1
    have h3 : (b == d) = false := by simp [h2]
    simp [go_sem, Tryz.underlying46, Tryz.underlying3, h3]
  · have h3 : (a == c) = false := by simp [h1]
    simp [go_sem, Tryz.underlying46, Tryz.underlying3, h3]
theorem fx_eq {f g : Fx} : f = g ↔ f.regs = g.regs ∧ f.ops = g.ops := ⟨fun h => by rw [h]; exact ⟨rfl, rfl⟩, fun h => by cases f; cases g; simp at h; rw [h.1, h.2]⟩
theorem sg_eq {f g : Sg} : f = g ↔ f.name = g.name ∧ f.params = g.params ∧ f.res = g.res := ⟨fun h => by rw [h]; exact ⟨rfl, rfl, rfl⟩, fun h => by cases f; cases g; simp at h; rw [h.1, h.2.1, h.2.2]⟩
theorem rc_eq {f g : Rc} : f = g ↔ f.name = g.name ∧ f.fields = g.fields ∧ f.types = g.types := ⟨fun h => by rw [h]; exact ⟨rfl, rfl, rfl⟩, fun h => by cases f; cases g; simp at h; rw [h.1, h.2.1, h.2.2]⟩
theorem two_alc {w : World} {x y : Array Value} {T : TypeId} : ∃ W, W = (w.alloc (.cells x T)).alloc (.cells y T) ∧ Below w.heap.size w W ∧ W.heap[w.heap.size]? = some (.cells x T (0, 0)) ∧ W.heap[w.heap.size + 1]? = some (.cells y T (0, 0)) := by
  obtain ⟨A, hA⟩ : ∃ A, A = w.alloc (.cells x T) := ⟨_, rfl⟩
  have z : A.heap.size = w.heap.size + 1 := by rw [hA]; simp
  have b : Below w.heap.size w A := by rw [hA]; exact (Below.refl _ _).alloc (Nat.le_refl _) _
  refine ⟨_, rfl, ?_, ?_, ?_⟩
  · rw [← hA]; exact b.alloc (by omega) _
  · rw [← hA, Below.heap_alloc _ _ _ (by omega), hA]; exact heap_alloc_new w _
  · rw [← hA, ← z]; exact heap_alloc_new A _
set_option maxHeartbeats 1000000 in
theorem sameFn_any (w : World) (h k : FH) (f g : Fx) (d1 : FnRd w h f) (d2 : FnRd w k g) : Calls Tryz.prog 53 #[h.v, k.v] w (DcP w (f = g)) := by
  obtain ⟨W, hW, bW, m0, m1⟩ := two_alc (w := w) (x := #[.int .i64 h.regs, .slice h.oa h.on h.oc]) (y := #[.int .i64 k.regs, .slice k.oa k.on k.oc]) (T := 57)
  have K := hid (eqOps_any W h.oa k.oa h.on k.on h.oc k.oc f.ops g.ops d1.on d2.on d1.o2 d2.o2 (d1.or.below bW) (d2.or.below bW))
  obtain ⟨P, hP⟩ : ∃ P : Prop, P = (f = g) := ⟨_, rfl⟩
  rw [← hP]
  have HP : Hid (P ↔ h.regs = k.regs ∧ f.ops = g.ops) := hid (by rw [hP, fx_eq, d1.rg, d2.rg])
  have BW := hid bW
  clear d1 d2 hP bW
  obtain ⟨r1, oa1, on1, oc1⟩ := h
  obtain ⟨r2, oa2, on2, oc2⟩ := k
  simp only [FH.v] at hW m0 m1 K HP ⊢
  have x0 := cellOf m0 0
  have x1 := cellOf m0 1
  have y0 := cellOf m1 0
  have y1 := cellOf m1 1
  simp only [List.getElem?_toArray, List.getElem?_cons_zero, List.getElem?_cons_succ] at x0 x1 y0 y1
  clear m0 m1
  go_enter Tryz.func53, Tryz.ntmps53
  go_upto_region 1 with fail
  rw [← hW]
  clear hW
  by_cases hr : r1 = r2
  · subst hr
    have nb : (r1 == r1) = true := by simp
    go_wp2_with (go_at_call 87; (refine (Hid.out K).mono ?_; rintro e w1 ⟨hb1, b1, rfl, hi⟩; have HB := hid (BW.out.trans (hb1.mono BW.out.size)); have HI := hid hi; clear hb1 hi; cases b1))
    · go_ret
      exact DcP.no HB.out (fun p => by have := HI.out.2 (HP.out.1 p).2; cases this)
    · go_ret
      exact DcP.yes HB.out (HP.out.2 ⟨by first | rfl | trivial, HI.out.1 (by first | rfl | trivial)⟩)
  · have HR := hid hr
    have nb : (r1 == r2) = false := by simp [hr]
    clear hr
    go_wp2
    go_ret
    exact DcP.no BW.out (fun p => HR.out (HP.out.1 p).1)
set_option maxHeartbeats 1000000 in
theorem sameSig_any (w : World) (h k : GH) (f g : Sg) (d1 : SgRd w h f) (d2 : SgRd w k g) : Calls Tryz.prog 86 #[.agg h.cs.toArray, .agg k.cs.toArray] w (DcP w (f = g)) := by
  obtain ⟨W, hW, bW, m0, m1⟩ := two_alc (w := w) (x := h.cs.toArray) (y := k.cs.toArray) (T := 49)
  have K := hid (eqTypes_any W h.pa k.pa h.pn k.pn h.pc k.pc f.params g.params d1.pn d2.pn d1.p2 d2.p2 (d1.pr.below (Nat.le_refl _) bW) (d2.pr.below (Nat.le_refl _) bW))
  obtain ⟨P, hP⟩ : ∃ P : Prop, P = (f = g) := ⟨_, rfl⟩
  rw [← hP]
  have HP : Hid (P ↔ h.name = k.name ∧ f.params = g.params ∧ (h.k, h.r) = (k.k, k.r)) := hid (by rw [hP, sg_eq, d1.nm, d2.nm, d1.rs, d2.rs])
  have BW := hid bW
  clear d1 d2 hP bW
  obtain ⟨nm1, pa1, pn1, pc1, k1, r1⟩ := h
  obtain ⟨nm2, pa2, pn2, pc2, k2, r2⟩ := k
  simp only [GH.cs] at hW m0 m1 K HP ⊢
  have x0 := cellOf m0 0
  have x1 := cellOf m0 1
  have x2 := cellOf m0 2
  have x3 := cellOf m0 3
  have y0 := cellOf m1 0
  have y1 := cellOf m1 1
  have y2 := cellOf m1 2
  have y3 := cellOf m1 3
  simp only [List.getElem?_toArray, List.getElem?_cons_zero, List.getElem?_cons_succ] at x0 x1 x2 x3 y0 y1 y2 y3
  have CL : Hid (∀ V : World, Below W.heap.size W V → V.cell? ⟨w.heap.size, 2, none⟩ = some (.int .i64 k1) ∧ V.cell? ⟨w.heap.size, 3, none⟩ = some (.int .i64 r1) ∧ V.cell? ⟨w.heap.size + 1, 2, none⟩ = some (.int .i64 k2) ∧ V.cell? ⟨w.heap.size + 1, 3, none⟩ = some (.int .i64 r2)) := hid (fun V hV => by
    have g0 := (hV.block _ (lt_of_heap m0)).trans m0
    have g1 := (hV.block _ (lt_of_heap m1)).trans m1
    exact ⟨cellOf g0 2, cellOf g0 3, cellOf g1 2, cellOf g1 3⟩)
  clear m0 m1
  go_enter Tryz.func86, Tryz.ntmps86
  go_upto_region 1 with fail
  rw [← hW]
  clear hW
  by_cases hr : nm1 = nm2
  · subst hr
    have nb : (nm1.toList == nm1.toList) = true := by simp
    by_cases hs : ((k1, r1) : TyP) = (k2, r2)
    · obtain ⟨q1, q2⟩ := Prod.mk.inj hs
      subst q1 q2
      clear hs
      go_wp2_with (go_at_call 107; (refine (Hid.out K).mono ?_; rintro e w1 ⟨hb1, b1, rfl, hi⟩; have HB := hid (BW.out.trans (hb1.mono BW.out.size)); have HI := hid hi; clear x0 x1 x2 x3 y0 y1 y2 y3; obtain ⟨x2, x3, y2, y3⟩ := CL.out w1 hb1; clear hb1 hi; cases b1))
      · go_ret
        exact DcP.no HB.out (fun p => by have := HI.out.2 (HP.out.1 p).2.1; cases this)
      · go_ret
        exact DcP.yes HB.out (HP.out.2 ⟨by first | rfl | trivial, HI.out.1 (by first | rfl | trivial), by first | rfl | trivial⟩)
    · have HS := hid hs
      have hn' := fun W : World => eqlT W hs
      clear hs
      go_wp2_with (go_at_call 107; (refine (Hid.out K).mono ?_; rintro e w1 ⟨hb1, b1, rfl, hi⟩; have HB := hid (BW.out.trans (hb1.mono BW.out.size)); have HI := hid hi; clear x0 x1 x2 x3 y0 y1 y2 y3; obtain ⟨x2, x3, y2, y3⟩ := CL.out w1 hb1; clear hb1 hi; cases b1))
      · go_ret
        exact DcP.no HB.out (fun p => HS.out (HP.out.1 p).2.2)
      · go_ret
        exact DcP.no HB.out (fun p => HS.out (HP.out.1 p).2.2)
  · have HR := hid hr
    have nb := streq2 hr
    clear hr
    go_wp2
    go_ret
    exact DcP.no BW.out (fun p => HR.out (HP.out.1 p).1)
set_option maxHeartbeats 1000000 in
theorem sameRecord_any (w : World) (h k : RH) (f g : Rc) (d1 : RcRd w h f) (d2 : RcRd w k g) : Calls Tryz.prog 83 #[.agg h.cs.toArray, .agg k.cs.toArray] w (DcP w (f = g)) := by
  obtain ⟨W, hW, bW, m0, m1⟩ := two_alc (w := w) (x := h.cs.toArray) (y := k.cs.toArray) (T := 63)
  have K := hid (eqTexts_any W h.fa k.fa h.fn k.fn h.fc k.fc f.fields g.fields d1.fn d2.fn d1.f2 d2.f2 (d1.fr.below (Nat.le_refl _) bW) (d2.fr.below (Nat.le_refl _) bW))
  have K2 := hid (fun (V : World) (hV : Below W.heap.size W V) => eqTypes_any V h.ta k.ta h.tn k.tn h.tc k.tc f.types g.types d1.tn d2.tn d1.t2 d2.t2 (d1.tr.below (Nat.le_refl _) (bW.trans (hV.mono bW.size))) (d2.tr.below (Nat.le_refl _) (bW.trans (hV.mono bW.size))))
  obtain ⟨P, hP⟩ : ∃ P : Prop, P = (f = g) := ⟨_, rfl⟩
  rw [← hP]
  have HP : Hid (P ↔ h.name = k.name ∧ f.fields = g.fields ∧ f.types = g.types) := hid (by rw [hP, rc_eq, d1.nm, d2.nm])
  have BW := hid bW
  clear d1 d2 hP bW
  obtain ⟨nm1, fa1, fn1, fc1, ta1, tn1, tc1⟩ := h
  obtain ⟨nm2, fa2, fn2, fc2, ta2, tn2, tc2⟩ := k
  simp only [RH.cs] at hW m0 m1 K K2 HP ⊢
  have CL : Hid (∀ V : World, Below W.heap.size W V → (V.cell? ⟨w.heap.size, 0, none⟩ = some (.string nm1) ∧ V.cell? ⟨w.heap.size, 1, none⟩ = some (.slice fa1 fn1 fc1) ∧ V.cell? ⟨w.heap.size, 2, none⟩ = some (.slice ta1 tn1 tc1)) ∧ V.cell? ⟨w.heap.size + 1, 0, none⟩ = some (.string nm2) ∧ V.cell? ⟨w.heap.size + 1, 1, none⟩ = some (.slice fa2 fn2 fc2) ∧ V.cell? ⟨w.heap.size + 1, 2, none⟩ = some (.slice ta2 tn2 tc2)) := hid (fun V hV => by
    have g0 := (hV.block _ (lt_of_heap m0)).trans m0
    have g1 := (hV.block _ (lt_of_heap m1)).trans m1
    exact ⟨⟨cellOf g0 0, cellOf g0 1, cellOf g0 2⟩, cellOf g1 0, cellOf g1 1, cellOf g1 2⟩)
  clear m0 m1
  obtain ⟨⟨x0, x1, x2⟩, y0, y1, y2⟩ := CL.out W (Below.refl _ _)
  go_enter Tryz.func83, Tryz.ntmps83
  go_upto_region 1 with fail
  rw [← hW]
  clear hW
  by_cases hr : nm1 = nm2
  · subst hr
    have nb : (nm1.toList == nm1.toList) = true := by simp
    go_wp2_with (first
      | (go_at_call 107; (refine (Hid.out K3).mono ?_; rintro e w2 ⟨hb2, b2, rfl, hi⟩; have HB2 := hid (HB.out.trans (hb2.mono HB.out.size)); have HI2 := hid hi; clear hb2 hi x0 x1 x2 y0 y1 y2; cases b2))
      | (go_at_call 51; (refine (Hid.out K).mono ?_; rintro e w1 ⟨hb1, b1, rfl, hi⟩; have HB := hid (BW.out.trans (hb1.mono BW.out.size)); have HI := hid hi; clear x0 x1 x2 y0 y1 y2; obtain ⟨⟨x0, x1, x2⟩, y0, y1, y2⟩ := CL.out w1 hb1; have K3 := hid (K2.out w1 hb1); clear hb1 hi; cases b1)))
    · go_ret
      exact DcP.no HB.out (fun p => by have := HI.out.2 (HP.out.1 p).2.1; cases this)
    · go_ret
      exact DcP.no HB2.out (fun p => by have := HI2.out.2 (HP.out.1 p).2.2; cases this)
    · go_ret
      exact DcP.yes HB2.out (HP.out.2 ⟨by first | rfl | trivial, HI.out.1 (by first | rfl | trivial), HI2.out.1 (by first | rfl | trivial)⟩)
  · have HR := hid hr
    have nb := streq2 hr
    clear hr
    go_wp2
    go_ret
    exact DcP.no BW.out (fun p => HR.out (HP.out.1 p).1)
end Go.Proofs.YthnolocldeokeaaGreat

namespace Go.Proofs.YthnolocldeokeaaGreat
open Go.RowKit Go.Deep Go.Shelf
set_option linter.unusedVariables false
set_option linter.unusedSimpArgs false
set_option maxRecDepth 100000
set_option maxHeartbeats 2000000 in
theorem eqFns_any (w : World) (a b : Option Addr) (n m c1 c2 : Nat) (fs gs : List (FH × Fx)) (d1 : FRd w a n fs) (d2 : FRd w b m gs) :
    Calls Tryz.prog 52 #[.slice a n c1, .slice b m c2, .func (.func 53) #[] #[]] w (DcP w (fs.map (·.2) = gs.map (·.2))) := by
  have hnI : (n : Int) ≤ 9223372036854775807 := by have := d1.n2; omega
  have hmI : (m : Int) ≤ 9223372036854775807 := by have := d2.n2; omega
  obtain ⟨ts, hts⟩ : ∃ ts, ts = fs.map (·.2) := ⟨_, rfl⟩
  obtain ⟨us, hus⟩ : ∃ us, us = gs.map (·.2) := ⟨_, rfl⟩
  have HN : Hid (n = ts.length) := hid (by rw [hts, List.length_map]; exact d1.n1)
  have HM : Hid (m = us.length) := hid (by rw [hus, List.length_map]; exact d2.n1)
  have D1 := hid d1
  have D2 := hid d2
  have TS := hid hts
  have US := hid hus
  rw [← hts, ← hus]
  obtain ⟨P, hP⟩ : ∃ P : Prop, P = (ts = us) := ⟨_, rfl⟩
  have HP := hid hP
  rw [← hP]
  clear d1 d2 hP hts hus
  go_enter Tryz.func52, Tryz.ntmps52
  by_cases hnm : n = m
  · subst hnm
    have nb : ((n : Int) != (n : Int)) = false := by simp
    go_wp2
    go_loopg [17] n (fun g x wr => ∃ j : Nat, j + g = n ∧ x = .int .i64 (j : Int) ∧ ts.take j = us.take j ∧ Below w.heap.size w wr)
    case atStart => exact ⟨0, by omega, rfl, by simp, Below.refl _ _⟩
    case round =>
      obtain ⟨j, hj, rfl, htk, hb⟩ := hrel
      cases gk with
      | zero =>
        have hjn : j = n := by omega
        subst hjn
        have HB := hid hb
        have HT := hid (take_all htk HN.out HM.out)
        clear hb htk
        go_wp2
        go_ret
        exact DcP.yes HB.out (by rw [HP.out]; exact HT.out)
      | succ g =>
        have dA := D1.out.below (Nat.le_refl _) hb
        have dB := D2.out.below (Nat.le_refl _) hb
        have l1 : j < fs.length := by rw [← dA.n1]; omega
        have l2 : j < gs.length := by rw [← dB.n1]; omega
        have e1 : fs[j]? = some fs[j] := List.getElem?_eq_getElem l1
        have e2 : gs[j]? = some gs[j] := List.getElem?_eq_getElem l2
        have ht : ts[j]? = some (fs[j]).2 := by rw [TS.out, List.getElem?_map, e1]; rfl
        have hu : us[j]? = some (gs[j]).2 := by rw [US.out, List.getElem?_map, e2]; rfl
        obtain ⟨b1, o1, rfl, _, z1⟩ := dA.rd j (fs[j]).1.cs (by simp [e1])
        obtain ⟨b2, o2, rfl, _, z2⟩ := dB.rd j (gs[j]).1.cs (by simp [e2])
        have s1 := dA.el _ (List.getElem_mem l1)
        have s2 := dB.el _ (List.getElem_mem l2)
        generalize fs[j] = p1 at ht z1 s1 e1
        generalize gs[j] = p2 at hu z2 s2 e2
        obtain ⟨h1, f1⟩ := p1
        obtain ⟨h2, f2⟩ := p2
        obtain ⟨W, hW, bW, m0, m1⟩ := two_alc (w := wr) (x := h1.cs.toArray) (y := h2.cs.toArray) (T := 57)
        have K := hid (sameFn_any W h1 h2 f1 f2 (s1.below (Nat.le_refl _) bW) (s2.below (Nat.le_refl _) bW))
        obtain ⟨r1, oa1, on1, oc1⟩ := h1
        obtain ⟨r2, oa2, on2, oc2⟩ := h2
        have x0 := z1 0 (by omega)
        have y0 := z2 0 (by omega)
        have x1 := z1 1 (by omega)
        have y1 := z2 1 (by omega)
        simp only [FH.cs, FH.v, List.getElem?_toArray, List.getElem?_cons_zero, List.getElem?_cons_succ, Nat.add_zero] at x0 y0 x1 y1 hW K m0 m1
        have p0 := cellOf m0 0
        have q0 := cellOf m1 0
        have p1 := cellOf m0 1
        have q1 := cellOf m1 1
        simp only [List.getElem?_toArray, List.getElem?_cons_zero, List.getElem?_cons_succ] at p0 q0 p1 q1
        have hjI : (j : Int) < (n : Int) := by omega
        have hj0 : (0 : Int) ≤ (j : Int) := by omega
        have HBW := hid (hb.trans (bW.mono hb.size))
        have HTK := hid htk
        have H1 : Hid (ts[j]? = some f1) := hid ht
        have H2 : Hid (us[j]? = some f2) := hid hu
        have w2c := fun (V : World) (o : Obj) (p : Addr) (v : Value) (h : V.cell? p = some v) => ((Below.refl V.heap.size V).alloc (Nat.le_refl _) o).cell (p := p) (World.block_lt_of_cell? V p h) |>.trans h
        have v0 := w2c wr (.cells #[.int .i64 r1, .slice oa1 on1 oc1] 57) _ _ y0
        have v1 := w2c wr (.cells #[.int .i64 r1, .slice oa1 on1 oc1] 57) _ _ y1
        clear hb htk ht hu dA dB l1 l2 e1 e2 z1 z2 s1 s2 bW m0 m1 w2c
        go_upto_region 7 with fail
        rw [← hW]
        clear hW x0 y0 x1 y1 v0 v1
        go_wp2_with (go_at_call 53; (refine (Hid.out K).mono ?_; rintro e w1 ⟨hb1, bb, rfl, hi⟩; have HB := hid (HBW.out.trans (hb1.mono HBW.out.size)); have HI := hid hi; clear hb1 hi; cases bb))
        · go_ret
          exact DcP.no HB.out (by rw [HP.out]; exact get_ne H1.out H2.out (fun e => by have := HI.out.2 e; cases this))
        · go_roundg g
          case measure => omega
          exact ⟨j + 1, by omega, by go_num, take_same HTK.out H1.out H2.out (HI.out.1 (by first | rfl | trivial)), HB.out⟩
  · have HNM := hid hnm
    have nb : ((n : Int) != (m : Int)) = true := by simp; omega
    clear hnm
    go_wp2
    go_ret
    exact DcP.no (Below.refl _ _) (by rw [HP.out]; exact fun e => HNM.out (by rw [HN.out, HM.out, e]))
set_option maxHeartbeats 2000000 in
theorem eqRcs_any (w : World) (a b : Option Addr) (n m c1 c2 : Nat) (fs gs : List (RH × Rc)) (d1 : RRd w a n fs) (d2 : RRd w b m gs) :
    Calls Tryz.prog 82 #[.slice a n c1, .slice b m c2, .func (.func 83) #[] #[]] w (DcP w (fs.map (·.2) = gs.map (·.2))) := by
  have hnI : (n : Int) ≤ 9223372036854775807 := by have := d1.n2; omega
  have hmI : (m : Int) ≤ 9223372036854775807 := by have := d2.n2; omega
  obtain ⟨ts, hts⟩ : ∃ ts, ts = fs.map (·.2) := ⟨_, rfl⟩
  obtain ⟨us, hus⟩ : ∃ us, us = gs.map (·.2) := ⟨_, rfl⟩
  have HN : Hid (n = ts.length) := hid (by rw [hts, List.length_map]; exact d1.n1)
  have HM : Hid (m = us.length) := hid (by rw [hus, List.length_map]; exact d2.n1)
  have D1 := hid d1
  have D2 := hid d2
  have TS := hid hts
  have US := hid hus
  rw [← hts, ← hus]
  obtain ⟨P, hP⟩ : ∃ P : Prop, P = (ts = us) := ⟨_, rfl⟩
  have HP := hid hP
  rw [← hP]
  clear d1 d2 hP hts hus
  go_enter Tryz.func82, Tryz.ntmps82
  by_cases hnm : n = m
  · subst hnm
    have nb : ((n : Int) != (n : Int)) = false := by simp
    go_wp2
    go_loopg [17] n (fun g x wr => ∃ j : Nat, j + g = n ∧ x = .int .i64 (j : Int) ∧ ts.take j = us.take j ∧ Below w.heap.size w wr)
    case atStart => exact ⟨0, by omega, rfl, by simp, Below.refl _ _⟩
    case round =>
      obtain ⟨j, hj, rfl, htk, hb⟩ := hrel
      cases gk with
      | zero =>
        have hjn : j = n := by omega
        subst hjn
        have HB := hid hb
        have HT := hid (take_all htk HN.out HM.out)
        clear hb htk
        go_wp2
        go_ret
        exact DcP.yes HB.out (by rw [HP.out]; exact HT.out)
      | succ g =>
        have dA := D1.out.below (Nat.le_refl _) hb
        have dB := D2.out.below (Nat.le_refl _) hb
        have l1 : j < fs.length := by rw [← dA.n1]; omega
        have l2 : j < gs.length := by rw [← dB.n1]; omega
        have e1 : fs[j]? = some fs[j] := List.getElem?_eq_getElem l1
        have e2 : gs[j]? = some gs[j] := List.getElem?_eq_getElem l2
        have ht : ts[j]? = some (fs[j]).2 := by rw [TS.out, List.getElem?_map, e1]; rfl
        have hu : us[j]? = some (gs[j]).2 := by rw [US.out, List.getElem?_map, e2]; rfl
        obtain ⟨b1, o1, rfl, _, z1⟩ := dA.rd j (fs[j]).1.cs (by simp [e1])
        obtain ⟨b2, o2, rfl, _, z2⟩ := dB.rd j (gs[j]).1.cs (by simp [e2])
        have s1 := dA.el _ (List.getElem_mem l1)
        have s2 := dB.el _ (List.getElem_mem l2)
        generalize fs[j] = p1 at ht z1 s1 e1
        generalize gs[j] = p2 at hu z2 s2 e2
        obtain ⟨h1, f1⟩ := p1
        obtain ⟨h2, f2⟩ := p2
        obtain ⟨W, hW, bW, m0, m1⟩ := two_alc (w := wr) (x := h1.cs.toArray) (y := h2.cs.toArray) (T := 63)
        have K := hid (sameRecord_any W h1 h2 f1 f2 (s1.below (Nat.le_refl _) bW) (s2.below (Nat.le_refl _) bW))
        obtain ⟨nm1, fa1, fn1, fc1, ta1, tn1, tc1⟩ := h1
        obtain ⟨nm2, fa2, fn2, fc2, ta2, tn2, tc2⟩ := h2
        have x0 := z1 0 (by omega)
        have y0 := z2 0 (by omega)
        have x1 := z1 1 (by omega)
        have y1 := z2 1 (by omega)
        have x2 := z1 2 (by omega)
        have y2 := z2 2 (by omega)
        simp only [RH.cs, List.getElem?_toArray, List.getElem?_cons_zero, List.getElem?_cons_succ, Nat.add_zero] at x0 y0 x1 y1 x2 y2 hW K m0 m1
        have p0 := cellOf m0 0
        have q0 := cellOf m1 0
        have p1 := cellOf m0 1
        have q1 := cellOf m1 1
        have p2 := cellOf m0 2
        have q2 := cellOf m1 2
        simp only [List.getElem?_toArray, List.getElem?_cons_zero, List.getElem?_cons_succ] at p0 q0 p1 q1 p2 q2
        have hjI : (j : Int) < (n : Int) := by omega
        have hj0 : (0 : Int) ≤ (j : Int) := by omega
        have HBW := hid (hb.trans (bW.mono hb.size))
        have HTK := hid htk
        have H1 : Hid (ts[j]? = some f1) := hid ht
        have H2 : Hid (us[j]? = some f2) := hid hu
        have w2c := fun (V : World) (o : Obj) (p : Addr) (v : Value) (h : V.cell? p = some v) => ((Below.refl V.heap.size V).alloc (Nat.le_refl _) o).cell (p := p) (World.block_lt_of_cell? V p h) |>.trans h
        have v0 := w2c wr (.cells #[.string nm1, .slice fa1 fn1 fc1, .slice ta1 tn1 tc1] 63) _ _ y0
        have v1 := w2c wr (.cells #[.string nm1, .slice fa1 fn1 fc1, .slice ta1 tn1 tc1] 63) _ _ y1
        have v2 := w2c wr (.cells #[.string nm1, .slice fa1 fn1 fc1, .slice ta1 tn1 tc1] 63) _ _ y2
        clear hb htk ht hu dA dB l1 l2 e1 e2 z1 z2 s1 s2 bW m0 m1 w2c
        go_upto_region 7 with fail
        rw [← hW]
        clear hW x0 y0 x1 y1 x2 y2 v0 v1 v2
        go_wp2_with (go_at_call 83; (refine (Hid.out K).mono ?_; rintro e w1 ⟨hb1, bb, rfl, hi⟩; have HB := hid (HBW.out.trans (hb1.mono HBW.out.size)); have HI := hid hi; clear hb1 hi; cases bb))
        · go_ret
          exact DcP.no HB.out (by rw [HP.out]; exact get_ne H1.out H2.out (fun e => by have := HI.out.2 e; cases this))
        · go_roundg g
          case measure => omega
          exact ⟨j + 1, by omega, by go_num, take_same HTK.out H1.out H2.out (HI.out.1 (by first | rfl | trivial)), HB.out⟩
  · have HNM := hid hnm
    have nb : ((n : Int) != (m : Int)) = true := by simp; omega
    clear hnm
    go_wp2
    go_ret
    exact DcP.no (Below.refl _ _) (by rw [HP.out]; exact fun e => HNM.out (by rw [HN.out, HM.out, e]))
set_option maxHeartbeats 2000000 in
theorem eqSgs_any (w : World) (a b : Option Addr) (n m c1 c2 : Nat) (fs gs : List (GH × Sg)) (d1 : GRd w a n fs) (d2 : GRd w b m gs) :
    Calls Tryz.prog 85 #[.slice a n c1, .slice b m c2, .func (.func 86) #[] #[]] w (DcP w (fs.map (·.2) = gs.map (·.2))) := by
  have hnI : (n : Int) ≤ 9223372036854775807 := by have := d1.n2; omega
  have hmI : (m : Int) ≤ 9223372036854775807 := by have := d2.n2; omega
  obtain ⟨ts, hts⟩ : ∃ ts, ts = fs.map (·.2) := ⟨_, rfl⟩
  obtain ⟨us, hus⟩ : ∃ us, us = gs.map (·.2) := ⟨_, rfl⟩
  have HN : Hid (n = ts.length) := hid (by rw [hts, List.length_map]; exact d1.n1)
  have HM : Hid (m = us.length) := hid (by rw [hus, List.length_map]; exact d2.n1)
  have D1 := hid d1
  have D2 := hid d2
  have TS := hid hts
  have US := hid hus
  rw [← hts, ← hus]
  obtain ⟨P, hP⟩ : ∃ P : Prop, P = (ts = us) := ⟨_, rfl⟩
  have HP := hid hP
  rw [← hP]
  clear d1 d2 hP hts hus
  go_enter Tryz.func85, Tryz.ntmps85
  by_cases hnm : n = m
  · subst hnm
    have nb : ((n : Int) != (n : Int)) = false := by simp
    go_wp2
    go_loopg [17] n (fun g x wr => ∃ j : Nat, j + g = n ∧ x = .int .i64 (j : Int) ∧ ts.take j = us.take j ∧ Below w.heap.size w wr)
    case atStart => exact ⟨0, by omega, rfl, by simp, Below.refl _ _⟩
    case round =>
      obtain ⟨j, hj, rfl, htk, hb⟩ := hrel
      cases gk with
      | zero =>
        have hjn : j = n := by omega
        subst hjn
        have HB := hid hb
        have HT := hid (take_all htk HN.out HM.out)
        clear hb htk
        go_wp2
        go_ret
        exact DcP.yes HB.out (by rw [HP.out]; exact HT.out)
      | succ g =>
        have dA := D1.out.below (Nat.le_refl _) hb
        have dB := D2.out.below (Nat.le_refl _) hb
        have l1 : j < fs.length := by rw [← dA.n1]; omega
        have l2 : j < gs.length := by rw [← dB.n1]; omega
        have e1 : fs[j]? = some fs[j] := List.getElem?_eq_getElem l1
        have e2 : gs[j]? = some gs[j] := List.getElem?_eq_getElem l2
        have ht : ts[j]? = some (fs[j]).2 := by rw [TS.out, List.getElem?_map, e1]; rfl
        have hu : us[j]? = some (gs[j]).2 := by rw [US.out, List.getElem?_map, e2]; rfl
        obtain ⟨b1, o1, rfl, _, z1⟩ := dA.rd j (fs[j]).1.cs (by simp [e1])
        obtain ⟨b2, o2, rfl, _, z2⟩ := dB.rd j (gs[j]).1.cs (by simp [e2])
        have s1 := dA.el _ (List.getElem_mem l1)
        have s2 := dB.el _ (List.getElem_mem l2)
        generalize fs[j] = p1 at ht z1 s1 e1
        generalize gs[j] = p2 at hu z2 s2 e2
        obtain ⟨h1, f1⟩ := p1
        obtain ⟨h2, f2⟩ := p2
        obtain ⟨W, hW, bW, m0, m1⟩ := two_alc (w := wr) (x := h1.cs.toArray) (y := h2.cs.toArray) (T := 49)
        have K := hid (sameSig_any W h1 h2 f1 f2 (s1.below (Nat.le_refl _) bW) (s2.below (Nat.le_refl _) bW))
        obtain ⟨nm1, pa1, pn1, pc1, k1, r1⟩ := h1
        obtain ⟨nm2, pa2, pn2, pc2, k2, r2⟩ := h2
        have x0 := z1 0 (by omega)
        have y0 := z2 0 (by omega)
        have x1 := z1 1 (by omega)
        have y1 := z2 1 (by omega)
        have x2 := z1 2 (by omega)
        have y2 := z2 2 (by omega)
        have x3 := z1 3 (by omega)
        have y3 := z2 3 (by omega)
        simp only [GH.cs, List.getElem?_toArray, List.getElem?_cons_zero, List.getElem?_cons_succ, Nat.add_zero] at x0 y0 x1 y1 x2 y2 x3 y3 hW K m0 m1
        have p0 := cellOf m0 0
        have q0 := cellOf m1 0
        have p1 := cellOf m0 1
        have q1 := cellOf m1 1
        have p2 := cellOf m0 2
        have q2 := cellOf m1 2
        have p3 := cellOf m0 3
        have q3 := cellOf m1 3
        simp only [List.getElem?_toArray, List.getElem?_cons_zero, List.getElem?_cons_succ] at p0 q0 p1 q1 p2 q2 p3 q3
        have hjI : (j : Int) < (n : Int) := by omega
        have hj0 : (0 : Int) ≤ (j : Int) := by omega
        have HBW := hid (hb.trans (bW.mono hb.size))
        have HTK := hid htk
        have H1 : Hid (ts[j]? = some f1) := hid ht
        have H2 : Hid (us[j]? = some f2) := hid hu
        have w2c := fun (V : World) (o : Obj) (p : Addr) (v : Value) (h : V.cell? p = some v) => ((Below.refl V.heap.size V).alloc (Nat.le_refl _) o).cell (p := p) (World.block_lt_of_cell? V p h) |>.trans h
        have v0 := w2c wr (.cells #[.string nm1, .slice pa1 pn1 pc1, .int .i64 k1, .int .i64 r1] 49) _ _ y0
        have v1 := w2c wr (.cells #[.string nm1, .slice pa1 pn1 pc1, .int .i64 k1, .int .i64 r1] 49) _ _ y1
        have v2 := w2c wr (.cells #[.string nm1, .slice pa1 pn1 pc1, .int .i64 k1, .int .i64 r1] 49) _ _ y2
        have v3 := w2c wr (.cells #[.string nm1, .slice pa1 pn1 pc1, .int .i64 k1, .int .i64 r1] 49) _ _ y3
        clear hb htk ht hu dA dB l1 l2 e1 e2 z1 z2 s1 s2 bW m0 m1 w2c
        go_upto_region 7 with fail
        rw [← hW]
        clear hW x0 y0 x1 y1 x2 y2 x3 y3 v0 v1 v2 v3
        go_wp2_with (go_at_call 86; (refine (Hid.out K).mono ?_; rintro e w1 ⟨hb1, bb, rfl, hi⟩; have HB := hid (HBW.out.trans (hb1.mono HBW.out.size)); have HI := hid hi; clear hb1 hi; cases bb))
        · go_ret
          exact DcP.no HB.out (by rw [HP.out]; exact get_ne H1.out H2.out (fun e => by have := HI.out.2 e; cases this))
        · go_roundg g
          case measure => omega
          exact ⟨j + 1, by omega, by go_num, take_same HTK.out H1.out H2.out (HI.out.1 (by first | rfl | trivial)), HB.out⟩
  · have HNM := hid hnm
    have nb : ((n : Int) != (m : Int)) = true := by simp; omega
    clear hnm
    go_wp2
    go_ret
    exact DcP.no (Below.refl _ _) (by rw [HP.out]; exact fun e => HNM.out (by rw [HN.out, HM.out, e]))
end Go.Proofs.YthnolocldeokeaaGreat

namespace Go.Proofs.YthnolocldeokeaaGreat
open Go.RowKit Go.Deep Go.Shelf
set_option linter.unusedVariables false
set_option linter.unusedSimpArgs false
structure CEq (c1 c2 : Cx) : Prop where
  p : PEq c1.p c2.p
  t : c1.texts = c2.texts
  f : c1.funcs = c2.funcs
  e : c1.events = c2.events
set_option maxRecDepth 100000 in
set_option maxHeartbeats 8000000 in
theorem same_yes (w : World) (C D : CH) (c1 c2 : Cx) (fs es fs2 es2 : List (FH × Fx)) (xs : List Int) (d1 : CdRd w C c1 fs es) (d2 : CdRd w D c2 fs2 es2) (he : CEq c1 c2) (j1 : JRd w C.ia xs) (j2 : JRd w D.ia xs) (n1 : C.inn = xs.length) (n2 : D.inn = xs.length) :
    Calls Tryz.prog 11 #[C.v, D.v] w fun e w' => e = .returned (.bool true) ∧ Below w.heap.size w w' := by
  have ei : C.inn = D.inn := n1.trans n2.symm
  have et : C.tn = D.tn := by rw [d1.t1, d2.t1, he.t]
  have hff : fs.map (·.2) = fs2.map (·.2) := by rw [d1.fe, d2.fe, he.f]
  have hee : es.map (·.2) = es2.map (·.2) := by rw [d1.ee, d2.ee, he.e]
  have ef : C.fn = D.fn := by rw [d1.f.n1, d2.f.n1]; have := congrArg List.length hff; rw [List.length_map, List.length_map] at this; exact this
  have ee : C.en = D.en := by rw [d1.e.n1, d2.e.n1]; have := congrArg List.length hee; rw [List.length_map, List.length_map] at this; exact this
  obtain ⟨A1, hA1⟩ : ∃ A1, A1 = w.alloc (.cells C.cs 31) := ⟨_, rfl⟩
  obtain ⟨W0, hW0⟩ : ∃ W0, W0 = A1.alloc (.cells D.cs 31) := ⟨_, rfl⟩
  have b1 : Below w.heap.size w A1 := by rw [hA1]; exact (Below.refl _ _).alloc (Nat.le_refl _) _
  have z1 : A1.heap.size = w.heap.size + 1 := by rw [hA1]; simp
  have bw : Below w.heap.size w W0 := by rw [hW0]; exact b1.alloc (by omega) _
  have q0 : W0.heap[w.heap.size]? = some (.cells C.cs 31 (0, 0)) := by rw [hW0, Below.heap_alloc _ _ _ (by omega), hA1]; exact heap_alloc_new w _
  have q1 : W0.heap[w.heap.size + 1]? = some (.cells D.cs 31 (0, 0)) := by rw [hW0, ← z1]; exact heap_alloc_new A1 _
  have GT : Hid (∀ V : World, Below W0.heap.size W0 V → V.heap[w.heap.size]? = some (.cells C.cs 31 (0, 0)) ∧ V.heap[w.heap.size + 1]? = some (.cells D.cs 31 (0, 0)) ∧ Below w.heap.size w V) := hid (fun V hV => ⟨(hV.block _ (lt_of_heap q0)).trans q0, (hV.block _ (lt_of_heap q1)).trans q1, bw.trans (hV.mono bw.size)⟩)
  have KP := hid (sameProgram_yes W0 C.h D.h c1.p c2.p (d1.p.below (Nat.le_refl _) bw) (d2.p.below (Nat.le_refl _) bw) he.p)
  have KF := hid (fun (V : World) (hV : Below w.heap.size w V) => sameFns_yes V C.fa D.fa C.fn C.fc D.fc fs fs2 (d1.f.below (Nat.le_refl _) hV) (ef ▸ d2.f.below (Nat.le_refl _) hV) hff)
  have KE := hid (fun (V : World) (hV : Below w.heap.size w V) => sameFns_yes V C.ea D.ea C.en C.ec D.ec es es2 (d1.e.below (Nat.le_refl _) hV) (ee ▸ d2.e.below (Nat.le_refl _) hV) hee)
  have J1 := hid j1
  have J2 := hid j2
  have T1 := hid d1.tr
  have T2 : Hid (SRd w D.ta c1.texts) := hid (by rw [he.t]; exact d2.tr)
  have HT := hid d1.t1
  have HI := hid n1
  have li := d1.i2
  have lt := d1.t2
  have lf := d1.f.n2
  have le := d1.e.n2
  clear d1 d2 he j1 j2 n1 n2 hff hee q0 q1 b1 bw z1
  obtain ⟨⟨ra, rn, rc, ma, mn, mc, fa, fn, fc, ea, en, ec⟩, ia, inn, ic, ta, tn, tc, ga, gn, gc, ha, hn, hc⟩ := C
  obtain ⟨⟨ra2, rn2, rc2, ma2, mn2, mc2, fa2, fn2, fc2, ea2, en2, ec2⟩, ia2, inn2, ic2, ta2, tn2, tc2, ga2, gn2, gc2, ha2, hn2, hc2⟩ := D
  simp only [CH.v, CH.cs, PH.v] at hA1 hW0 GT KP KF KE J1 J2 T1 T2 HT HI li lt lf le ei et ef ee ⊢
  subst ei et ef ee
  have CL : Hid (∀ V : World, Below W0.heap.size W0 V → ((V.cell? ⟨w.heap.size, 0, none⟩ = some (.slice ra rn rc) ∧ V.cell? ⟨w.heap.size, 1, none⟩ = some (.slice ma mn mc) ∧ V.cell? ⟨w.heap.size, 2, none⟩ = some (.slice fa fn fc) ∧ V.cell? ⟨w.heap.size, 3, none⟩ = some (.slice ea en ec)) ∧ V.cell? ⟨w.heap.size, 4, none⟩ = some (.slice ia inn ic) ∧ V.cell? ⟨w.heap.size, 5, none⟩ = some (.slice ta tn tc) ∧ V.cell? ⟨w.heap.size, 6, none⟩ = some (.slice ga gn gc) ∧ V.cell? ⟨w.heap.size, 7, none⟩ = some (.slice ha hn hc)) ∧ ((V.cell? ⟨w.heap.size + 1, 0, none⟩ = some (.slice ra2 rn2 rc2) ∧ V.cell? ⟨w.heap.size + 1, 1, none⟩ = some (.slice ma2 mn2 mc2) ∧ V.cell? ⟨w.heap.size + 1, 2, none⟩ = some (.slice fa2 fn2 fc2) ∧ V.cell? ⟨w.heap.size + 1, 3, none⟩ = some (.slice ea2 en2 ec2)) ∧ V.cell? ⟨w.heap.size + 1, 4, none⟩ = some (.slice ia2 inn ic2) ∧ V.cell? ⟨w.heap.size + 1, 5, none⟩ = some (.slice ta2 tn tc2) ∧ V.cell? ⟨w.heap.size + 1, 6, none⟩ = some (.slice ga2 gn gc2) ∧ V.cell? ⟨w.heap.size + 1, 7, none⟩ = some (.slice ha2 hn hc2)) ∧ Below w.heap.size w V) := hid (fun V hV => by
    obtain ⟨g, g', gb⟩ := GT.out V hV
    exact ⟨⟨⟨cellOf g 0, cellOf g 1, cellOf g 2, cellOf g 3⟩, cellOf g 4, cellOf g 5, cellOf g 6, cellOf g 7⟩, ⟨⟨cellOf g' 0, cellOf g' 1, cellOf g' 2, cellOf g' 3⟩, cellOf g' 4, cellOf g' 5, cellOf g' 6, cellOf g' 7⟩, gb⟩)
  have inI : (inn : Int) ≤ 9223372036854775807 := by omega
  have tnI : (tn : Int) ≤ 9223372036854775807 := by omega
  have gnI : (gn : Int) ≤ 9223372036854775807 := by omega
  have hnI : (hn : Int) ≤ 9223372036854775807 := by omega
  have nb1 : ((inn : Int) != (inn : Int)) = false := by simp
  have nb2 : ((tn : Int) != (tn : Int)) = false := by simp
  have TR : Hid (∀ {x y : World}, Below W0.heap.size W0 x → Below x.heap.size x y → Below W0.heap.size W0 y) := hid (fun h1 h2 => h1.trans (h2.mono h1.size))
  obtain ⟨⟨⟨c0, c1', c2', c3⟩, c4, c5, c6, c7⟩, ⟨⟨d0, d1, d2, d3⟩, d4, d5, d6, d7⟩, _⟩ := CL.out W0 (Below.refl _ _)
  clear GT
  go_enter Tryz.func11, Tryz.ntmps11
  go_upto_region 1 with fail
  rw [← hA1, ← hW0]
  clear hA1 hW0
  go_upto_region 3 with (first
    | (go_at_call 47; (refine (Hid.out KP).mono ?_; rintro e w1 ⟨rfl, hb1⟩; clear c0 c1' c2' c3 c4 c5 c6 c7 d0 d1 d2 d3 d4 d5 d6 d7; obtain ⟨⟨⟨c0, c1', c2', c3⟩, c4, c5, c6, c7⟩, ⟨⟨d0, d1, d2, d3⟩, d4, d5, d6, d7⟩, g1⟩ := CL.out w1 hb1))
    | (have hno := hfirst; (go_at_call 48; (refine (KE.out w2 g2).mono ?_; rintro e w3 ⟨rfl, hb3⟩; have HB3 := hid (TR.out hb2' hb3); clear c0 c1' c2' c3 c4 c5 c6 c7 d0 d1 d2 d3 d4 d5 d6 d7; obtain ⟨⟨⟨c0, c1', c2', c3⟩, c4, c5, c6, c7⟩, ⟨⟨d0, d1, d2, d3⟩, d4, d5, d6, d7⟩, g3⟩ := CL.out w3 HB3.out)))
    | (go_at_call 48; (refine (KF.out w1 g1).mono ?_; rintro e w2 ⟨rfl, hb2⟩; have hb2' := TR.out hb1 hb2; clear c0 c1' c2' c3 c4 c5 c6 c7 d0 d1 d2 d3 d4 d5 d6 d7; obtain ⟨⟨⟨c0, c1', c2', c3⟩, c4, c5, c6, c7⟩, ⟨⟨d0, d1, d2, d3⟩, d4, d5, d6, d7⟩, g2⟩ := CL.out w2 hb2'; have hfirst : True := trivial)))
  clear hb1 hb2 hb3 hb2' hfirst g1 g2 g3 KP KF KE
  go_wp2
  go_loopg [5] inn (fun g x wr => ∃ j : Nat, j + g = inn ∧ x = .int .i64 (j : Int) ∧ Below W0.heap.size W0 wr)
  case atStart => exact ⟨0, by omega, rfl, HB3.out⟩
  case round =>
    obtain ⟨j, hj, rfl, hb⟩ := hrel
    clear c0 c1' c2' c3 c4 c5 c6 c7 d0 d1 d2 d3 d4 d5 d6 d7
    obtain ⟨⟨⟨c0, c1', c2', c3⟩, c4, c5, c6, c7⟩, ⟨⟨d0, d1, d2, d3⟩, d4, d5, d6, d7⟩, gb⟩ := CL.out wr hb
    cases gk with
    | zero =>
      have hjn : j = inn := by omega
      subst hjn
      have HB := hid hb
      clear hb gb
      go_wp2
      go_loopg [6] tn (fun g2 x wr2 => ∃ i : Nat, i + g2 = tn ∧ x = .int .i64 (i : Int) ∧ Below W0.heap.size W0 wr2)
      case atStart => exact ⟨0, by omega, rfl, HB.out⟩
      case round =>
        obtain ⟨i, hi, rfl, hb⟩ := hrel
        clear c0 c1' c2' c3 c4 c5 c6 c7 d0 d1 d2 d3 d4 d5 d6 d7
        obtain ⟨⟨⟨c0, c1', c2', c3⟩, c4, c5, c6, c7⟩, ⟨⟨d0, d1, d2, d3⟩, d4, d5, d6, d7⟩, gb⟩ := CL.out wr hb
        cases gk with
        | zero =>
          have hin : i = tn := by omega
          subst hin
          have GB := hid gb
          clear gb hb
          go_wp2
          go_ret
          exact ⟨rfl, GB.out⟩
        | succ g2 =>
          obtain ⟨s, hs⟩ : ∃ s, c1.texts[i]? = some s := ⟨c1.texts[i]'(by have := HT.out; omega), List.getElem?_eq_getElem _⟩
          obtain ⟨_, p1, u1, rfl, z1⟩ := (T1.out.below (Nat.le_refl _) gb) i s hs
          obtain ⟨_, p2, u2, rfl, z2⟩ := (T2.out.below (Nat.le_refl _) gb) i s hs
          have hiI : (i : Int) < (tn : Int) := by omega
          have hi0 : (0 : Int) ≤ (i : Int) := by omega
          have H3 := hid hb
          clear hb hs gb
          go_wp2
          go_quiet (fail)
          go_wp2
          go_roundg g2
          case measure => omega
          exact ⟨i + 1, by omega, by go_num, bel_dN H3.out _⟩
    | succ g =>
      obtain ⟨x, hx⟩ : ∃ x, xs[j]? = some x := ⟨xs[j]'(by have := HI.out; omega), List.getElem?_eq_getElem _⟩
      obtain ⟨p1, u1, rfl, _, z1⟩ := (CRd.below J1.out (Nat.le_refl _) gb) j (inc x) (by rw [List.getElem?_map, hx]; rfl)
      obtain ⟨p2, u2, rfl, _, z2⟩ := (CRd.below J2.out (Nat.le_refl _) gb) j (inc x) (by rw [List.getElem?_map, hx]; rfl)
      have y1 := z1 0 (by omega)
      have y2 := z2 0 (by omega)
      simp only [inc, List.getElem?_cons_zero, Nat.add_zero, Nat.mul_one] at y1 y2
      have hjI : (j : Int) < (inn : Int) := by omega
      have hj0 : (0 : Int) ≤ (j : Int) := by omega
      have H3 := hid hb
      clear hb hx gb z1 z2
      go_wp2
      go_quiet (fail)
      go_wp2
      go_roundg g
      case measure => omega
      exact ⟨j + 1, by omega, by go_num, bel_dN H3.out _⟩
end Go.Proofs.YthnolocldeokeaaGreat

namespace Go.Proofs.YthnolocldeokeaaGreat
open Go.RowKit Go.Deep Go.Shelf
set_option linter.unusedVariables false
set_option linter.unusedSimpArgs false
/- Another row is left as it was, if its elements are of another type. -/
theorem KR.other {E F : TypeId} (hne : E ≠ F) {k q : Nat} {w w' : World} {B C : Nat} {v r : Value} {l m : List (List Value)} (h : KR E k w B v l) (g : KR F q w C r m) (hg : w.grownBy w' r.ownBlock) : KR E k w' B v l := h.keep fun b e => by
  rcases h.1.2 with ⟨rfl, _⟩ | ⟨b', cap, cur, rfl, h3, h4, _⟩
  · cases e
  · cases e
    refine hg.block b' (lt_of_heap h4) fun e2 => ?_
    rcases g.1.2 with ⟨rfl, _⟩ | ⟨c', cap', cur', rfl, g3, g4, _⟩
    · cases e2
    · cases e2
      rw [h4] at g4
      cases g4
      exact hne rfl
/- A signature laid anew. -/
structure GNew (w : World) (B : Nat) (p : GH × Sg) : Prop where
  nm : p.1.name = p.2.name
  ns : p.1.name.size ≤ 1000000
  pr : KR 46 2 w B (.slice p.1.pa p.1.pn p.1.pc) (p.2.params.map tyc)
  rs : (p.1.k, p.1.r) = p.2.res
theorem GNew.rd {w : World} {B : Nat} {p : GH × Sg} (h : GNew w B p) (hl : p.2.params.length ≤ 1000000) : SgRd w p.1 p.2 := by
  obtain ⟨⟨nm, pa, pn, pc, kd, rr⟩, s⟩ := p
  obtain ⟨a, cap, e, hc, hr, _, _⟩ := h.pr.rd
  have h2 := h.ns
  have h3 := h.nm
  have h4 := h.rs
  simp only at h2 h3 h4 hl e
  rw [List.length_map] at e
  cases e
  exact ⟨h3, by show nm.size ≤ _; omega, rfl, by show s.params.length ≤ _; omega, CRd.trd hr, h4⟩
theorem GNew.below {w w' : World} {B C : Nat} {p : GH × Sg} (h : GNew w B p) (hC : w.heap.size ≤ C) (q : Below C w w') : GNew w' B p := ⟨h.nm, h.ns, h.pr.below hC q, h.rs⟩
theorem GNew.other {F : TypeId} (hne : 46 ≠ F) {q : Nat} {w w' : World} {B C : Nat} {r : Value} {m : List (List Value)} {p : GH × Sg} (h : GNew w B p) (g : KR F q w C r m) (hg : w.grownBy w' r.ownBlock) : GNew w' B p := ⟨h.nm, h.ns, h.pr.other hne g hg, h.rs⟩
theorem rk_gh (g : GH) : Rk 4 [g.cs] := ⟨fun r hr => by simp at hr; subst hr; rfl, fun r hr u hu => by
  simp at hr; subst hr
  simp [GH.cs] at hu
  rcases hu with rfl | rfl | rfl | rfl <;> rfl⟩
/- What newSigs answers. -/
def SgsN (w : World) (B : Nat) (v : Value) (ss : List Sg) : Prop := ∃ gs : List (GH × Sg), gs.map (·.2) = ss ∧ KR 49 4 w B v (gs.map fun p => p.1.cs) ∧ ∀ p ∈ gs, GNew w B p
end Go.Proofs.YthnolocldeokeaaGreat

namespace Go.Proofs.YthnolocldeokeaaGreat
set_option maxRecDepth 100000
open Go.RowKit Go.Deep Go.Shelf
set_option linter.unusedVariables false
set_option linter.unusedSimpArgs false
theorem GRow.lower {w : World} {B C : Nat} {a : Option Addr} {n cap : Nat} {xs : List Int} (h : GRow w B a n cap xs) (hC : C ≤ B) : GRow w C a n cap xs :=
  ⟨h.n1, h.nc, fun x e => by obtain ⟨g, h1, h2, h3⟩ := h.at' x e; exact ⟨g, h1, by omega, h3⟩, h.ct⟩
theorem Gwn.below {w w' : World} {a a' : Option Addr} {B : Nat} (h : Gwn w a w' a') (ha : ∀ x : Addr, a = some x → B ≤ x.block) (hB : B ≤ w.heap.size) : Below B w w' := by
  obtain ⟨⟨row, hg, hr⟩, _⟩ := h
  refine ⟨hg.os, hg.tape, hg.output, hg.size, fun j hj => hg.block j (by omega) (fun e => ?_)⟩
  obtain ⟨x, ex, hx⟩ := hr j e.symm
  have := ha x ex
  omega
/- The ways of a function's instructions, told by numbers. -/
end Go.Proofs.YthnolocldeokeaaGreat

namespace Go.Proofs.YthnolocldeokeaaGreat
set_option maxRecDepth 100000
open Go.RowKit Go.Deep Go.Shelf
set_option linter.unusedVariables false
set_option linter.unusedSimpArgs false
def ocs (l : List Opx) : List Value := l.flatMap fun o => o.cs.toList
theorem ocs_len : ∀ l : List Opx, (ocs l).length = l.length * 5
  | [] => rfl
  | o :: l => by
    have := ocs_len l
    unfold ocs at this ⊢
    rw [List.flatMap_cons, List.length_append, this, List.length_cons]
    have : o.cs.toList.length = 5 := rfl
    omega
theorem ocs_app (l m : List Opx) : ocs (l ++ m) = ocs l ++ ocs m := by unfold ocs; rw [List.flatMap_append]
theorem ocs_get : ∀ (l : List Opx) (j : Nat) (o : Opx), l[j]? = some o → ∀ i, i < 5 → (ocs l)[j * 5 + i]? = o.cs[i]?
  | [], j, o, h => by simp at h
  | p :: l, 0, o, h => fun i hi => by
    simp at h; subst h
    unfold ocs
    rw [List.flatMap_cons, Nat.zero_mul, Nat.zero_add, List.getElem?_append_left (by show i < 5; exact hi)]
    simp
  | p :: l, j + 1, o, h => fun i hi => by
    have h1 : l[j]? = some o := by simpa using h
    have h2 := ocs_get l j o h1 i hi
    unfold ocs at h2 ⊢
    rw [List.flatMap_cons, List.getElem?_append_right (by show 5 ≤ (j + 1) * 5 + i; omega)]
    have : (j + 1) * 5 + i - p.cs.toList.length = j * 5 + i := by show (j + 1) * 5 + i - 5 = _; omega
    rw [this]; exact h2
theorem ocs_of {l : List Opx} {k : Nat} {u : Value} (h : (ocs l)[k]? = some u) : ∃ o i, l[k / 5]? = some o ∧ i < 5 ∧ k = k / 5 * 5 + i ∧ o.cs[i]? = some u := by
  have hk : k < l.length * 5 := by rw [← ocs_len]; exact (List.getElem?_eq_some_iff.1 h).1
  have hj : k / 5 < l.length := by omega
  refine ⟨l[k / 5], k % 5, List.getElem?_eq_getElem hj, by omega, by omega, ?_⟩
  rw [← ocs_get l (k / 5) _ (List.getElem?_eq_getElem hj) (k % 5) (by omega), show k / 5 * 5 + k % 5 = k by omega]
  exact h
theorem ocs_one (l : List Opx) : ∀ u ∈ ocs l, u.oneCell' = true := by
  intro u hu
  unfold ocs at hu
  obtain ⟨o, _, ho⟩ := List.mem_flatMap.1 hu
  simp [Opx.cs] at ho
  rcases ho with rfl | rfl | rfl | rfl | rfl <;> rfl
def OpR (w : World) (B : Nat) (v : Value) (l : List Opx) : Prop := w.ownsRow B 54 5 v l.length (ocs l)
theorem OpR.nil (w : World) (B : Nat) : OpR w B (.slice none 0 0) [] := ⟨rfl, .inl ⟨rfl, rfl⟩⟩
theorem OpR.keep {w w' : World} {B : Nat} {v : Value} {l : List Opx} (h : OpR w B v l) (e : ∀ g, v.ownBlock = some g → w'.heap[g]? = w.heap[g]?) : OpR w' B v l := by
  refine ⟨h.1, ?_⟩
  rcases h.2 with h2 | ⟨g, cap, cur, rfl, h3, h4, h5⟩
  · exact .inl h2
  · exact .inr ⟨g, cap, cur, rfl, h3, (e g rfl).trans h4, h5⟩
theorem OpR.own {w : World} {B : Nat} {v : Value} {l : List Opx} (h : OpR w B v l) {g : Nat} (e : v.ownBlock = some g) : B ≤ g ∧ g < w.heap.size := by
  rcases h.2 with ⟨rfl, _⟩ | ⟨g', cap, cur, rfl, h3, h4, h5⟩
  · cases e
  · cases e; exact ⟨h3, lt_of_heap h4⟩
theorem OpR.below {w w' : World} {B C : Nat} {v : Value} {l : List Opx} (h : OpR w B v l) (hC : w.heap.size ≤ C) (k : Below C w w') : OpR w' B v l := h.keep fun g e => k.block g (by have := (h.own e).2; omega)
theorem OpR.lower {w : World} {B C : Nat} {v : Value} {l : List Opx} (h : OpR w B v l) (hC : C ≤ B) : OpR w C v l := by
  refine ⟨h.1, ?_⟩
  rcases h.2 with h2 | ⟨g, cap, cur, rfl, h3, h4⟩
  · exact .inl h2
  · exact .inr ⟨g, cap, cur, rfl, by omega, h4⟩
theorem OpR.rd {w : World} {B : Nat} {v : Value} {l : List Opx} (h : OpR w B v l) : ∃ a cap, v = .slice a l.length cap ∧ ORd w a l ∧ (a = none → cap = 0) := by
  rcases h.2 with ⟨rfl, h2⟩ | ⟨g, cap, cur, rfl, h3, h4, h5, h6, h7, h8⟩
  · have : l = [] := List.eq_nil_of_length_eq_zero h2
    subst this
    exact ⟨none, 0, rfl, fun j x hx => by simp at hx, fun _ => rfl⟩
  · refine ⟨_, cap, rfl, fun j x hx => ⟨g, 0, rfl, fun i hi => ?_⟩, fun e => by cases e⟩
    have hj := (List.getElem?_eq_some_iff.1 hx).1
    rw [cellOf h4, ← ocs_get l j x hx i hi, ← h8, List.getElem?_take, if_pos (by omega), Nat.zero_add]
    simp
theorem info36 : (Tryz.prog.info? 54).map (fun i => (i.zero, i.size, i.bytes)) = some (some (.agg #[.int .i64 0, .int .i64 0, .int .i64 0, .int .i64 0, .int .i64 0]), 5, 40) := by kernel_rfl
/- A row of one, just laid. -/
theorem OpR.one (w : World) (o : Opx) : OpR (w.alloc (.cells o.cs 54)) w.heap.size (.slice (some ⟨w.heap.size, 0, none⟩) 1 1) [o] := by
  refine ⟨rfl, .inr ⟨w.heap.size, 1, o.cs, rfl, Nat.le_refl _, heap_alloc_new w _, Nat.le_refl _, by unfold maxLen; omega, rfl, ?_⟩⟩
  show o.cs.toList.take 5 = ocs [o]
  rfl
theorem run_appO (w : World) (ty : TypeId) (B : Nat) (v : Value) (l : List Opx) (h : OpR w B v l) (a : Option Addr) (m c : Nat) (l2 : List Opx) (hm : m = l2.length) (hr : ORd w a l2) (hnil : a = none → c = 0) (hl : l.length ≤ 1000000) (hl2 : m ≤ 1000000) (hB : B ≤ w.heap.size) :
    ∃ v' w', (Builtin.append_ #[55, 55] ty #[v, .slice a m c]).run Tryz.prog w = .ok v' w' ∧ OpR w' B v' (l ++ l2) ∧ w.grownBy w' v.ownBlock ∧ (v'.ownBlock = v.ownBlock ∨ v'.ownBlock = some w.heap.size) := by
  obtain ⟨i0, hi, hz0, hz1, hz2⟩ := info_parts info36
  cases a with
  | none =>
    have hc0 := hnil rfl
    have hl0 : l2 = [] := by
      cases l2 with
      | nil => rfl
      | cons o r => obtain ⟨b, off, e, _⟩ := hr 0 o rfl; cases e
    subst hl0
    subst hc0
    have hm0 : m = 0 := hm
    subst hm0
    exact ⟨v, w, run_append_owned_none w B 55 ty 54 i0 5 Tryz.underlying55 hi v l.length (ocs l) h, by rw [List.append_nil]; exact h, ⟨rfl, rfl, rfl, Nat.le_refl _, fun _ _ _ => rfl⟩, .inl rfl⟩
  | some ad =>
    have hcell : ∀ k u, (ocs l2)[k]? = some u → w.cell? (ad.add k) = some u := by
      intro k u hu
      obtain ⟨o, i, ho, hi5, hk, hu'⟩ := ocs_of hu
      obtain ⟨b, off, e, hc⟩ := hr (k / 5) o ho
      cases e
      have := hc i hi5
      rw [hu'] at this
      rw [Addr.add_lit, hk, ← Nat.add_assoc]
      exact this
    obtain ⟨v', w', hrun, hown, hgr, _, hat⟩ := run_append_own_at (P := Tryz.prog) w B 55 ty 54 i0 _ 5 40 Tryz.underlying55 hi hz0 hz1 hz2 rfl (by decide) v l.length (ocs l) h ad m c (ocs l2) (by rw [ocs_len, hm]) hcell (ocs_one l2) (by unfold maxLen; omega) (by omega) hB
    refine ⟨v', w', hrun, ?_, hgr, hat⟩
    unfold OpR
    rw [List.length_append, ← hm, ocs_app]
    exact hown
theorem wpList_appO {ops : Array Oper} {rest : List Oper} {o : Oper} {act : Act} {Q : Exit → Act → World → Prop} (w : World) (hgd : o.guard = none) (s x : Operand)
    (ho : o.op = .call { callee := .builtin .append, args := #[s, x], argTypes := #[55, 55] }) (v u : Value) (hs : act.eval s = v) (hx : act.eval x = u) (B : Nat) (l : List Opx) (h : OpR w B v l) (a : Option Addr) (m c : Nat) (hu : u = .slice a m c) (l2 : List Opx) (hm : m = l2.length) (hr : ORd w a l2) (hnil : a = none → c = 0) (hl : l.length ≤ 1000000) (hl2 : m ≤ 1000000) (hB : B ≤ w.heap.size)
    (k : ∀ v' w', OpR w' B v' (l ++ l2) → w.grownBy w' v.ownBlock → (v'.ownBlock = v.ownBlock ∨ v'.ownBlock = some w.heap.size) → wpList Tryz.prog ops Q rest (act.put o.dst v') w') :
    wpList Tryz.prog ops Q (o :: rest) act w := by
  refine wpList_plain hgd fun K hK => ?_
  subst hu
  obtain ⟨v', w', hrun, h2, h3, h4⟩ := run_appO w o.type B v l h a m c l2 hm hr hnil hl hl2 hB
  unfold Oper.wp execOp
  simp only [ho, resolve, invoke, builtin, Sem.run_bind, Sem.run_pure, Result.andThen_ok, List.map_toArray, List.map_cons, List.map_nil, hs, hx, hrun]
  exact hK _ _ (k v' w' h2 h3 h4)
/- leap. -/
end Go.Proofs.YthnolocldeokeaaGreat

namespace Go.Proofs.YthnolocldeokeaaGreat
set_option maxRecDepth 100000
open Go.RowKit Go.Deep Go.Shelf
set_option linter.unusedVariables false
set_option linter.unusedSimpArgs false
theorem OpR.rdm {w : World} {B : Nat} {v : Value} {l : List Opx} (h : OpR w B v l) : ∃ a m cap, v = .slice a m cap ∧ Hid (m = l.length) ∧ ORd w a l ∧ (a = none → cap = 0) := by
  obtain ⟨a, cap, e, h1, h2⟩ := h.rd
  exact ⟨a, l.length, cap, e, hid rfl, h1, h2⟩
theorem OpR.some {w : World} {B : Nat} {a : Option Addr} {m c : Nat} {l : List Opx} (h : OpR w B (.slice a m c) l) (hl : 0 < l.length) : m = l.length ∧ ∃ g, a = some ⟨g, 0, none⟩ ∧ B ≤ g := by
  rcases h.2 with ⟨e, h2⟩ | ⟨g, cap, cur, e, h3, _⟩
  · omega
  · cases e; exact ⟨rfl, g, rfl, h3⟩
/- Between two rounds: the row of beginnings, the row of instructions. -/
end Go.Proofs.YthnolocldeokeaaGreat

namespace Go.Proofs.YthnolocldeokeaaGreat
open Go.RowKit Go.Deep Go.Shelf
set_option linter.unusedVariables false
set_option linter.unusedSimpArgs false
/- A function laid anew. -/
structure FNew (w : World) (B : Nat) (p : FH × Fx) : Prop where
  rg : p.1.regs = p.2.regs
  op : OpR w B (.slice p.1.oa p.1.on p.1.oc) p.2.ops
theorem FNew.below {w w' : World} {B C : Nat} {p : FH × Fx} (h : FNew w B p) (hC : w.heap.size ≤ C) (q : Below C w w') : FNew w' B p := ⟨h.rg, h.op.below hC q⟩
theorem FNew.other {w w' : World} {B C : Nat} {r : Value} {m : List (List Value)} {p : FH × Fx} (h : FNew w B p) (g : KR 57 2 w C r m) (hg : w.grownBy w' r.ownBlock) : FNew w' B p := ⟨h.rg, h.op.keep fun b e => by
  have h1 := h.op.2
  rcases h1 with ⟨e1, _⟩ | ⟨b', cap, cur, e1, h3, h4, _⟩
  · rw [e1] at e; cases e
  · rw [e1] at e
    cases e
    refine hg.block b' (lt_of_heap h4) fun e2 => ?_
    rcases g.1.2 with ⟨rfl, _⟩ | ⟨c', cap', cur', rfl, g3, g4, _⟩
    · cases e2
    · cases e2
      rw [h4] at g4
      cases g4⟩
theorem FNew.rd {w : World} {B : Nat} {p : FH × Fx} (h : FNew w B p) (hl : p.2.ops.length ≤ 1000000) : FnRd w p.1 p.2 := by
  obtain ⟨⟨regs, oa, on, oc⟩, f⟩ := p
  obtain ⟨a, cap, e, hr, _⟩ := h.op.rd
  have h2 := h.rg
  simp only at e h2 hl hr
  cases e
  exact ⟨h2, rfl, by show f.ops.length ≤ _; omega, hr⟩
def FnsN (w : World) (B : Nat) (v : Value) (l : List Fx) : Prop := ∃ fs : List (FH × Fx), fs.map (·.2) = l ∧ KR 57 2 w B v (fs.map fun p => p.1.cs) ∧ ∀ p ∈ fs, FNew w B p
theorem FnsN.below {w w' : World} {B C : Nat} {v : Value} {l : List Fx} (h : FnsN w B v l) (hC : w.heap.size ≤ C) (q : Below C w w') : FnsN w' B v l := by
  obtain ⟨fs, h1, h2, h3⟩ := h
  exact ⟨fs, h1, h2.below hC q, fun p hp => (h3 p hp).below hC q⟩
theorem rk_fh (f : FH) : Rk 2 [f.cs] := ⟨fun r hr => by simp at hr; subst hr; rfl, fun r hr u hu => by
  simp at hr; subst hr
  simp [FH.cs] at hu
  rcases hu with rfl | rfl <;> rfl⟩
end Go.Proofs.YthnolocldeokeaaGreat

