/-
  CodeBack returns true for every two codes, and its arguments read behind the call as they read before.
  No condition.
-/
import Derived.Test.YthnolocldeokeaaGreatJAX
import Derived.ProofKit
import Derived.OpenShut
import Derived.ChangeOld
import Derived.ChangeSlices
import Derived.ChangeMaps5
import Derived.SizedLaws
import Derived.Deep.Slices
namespace Go.Proofs.YthnolocldeokeaaGreat
open Go.RowKit Go.Deep Go.Shelf
set_option linter.unusedVariables false
set_option linter.unusedSimpArgs false
set_option maxRecDepth 100000
theorem encC_eq {c d : Cx} {xs ys : List Int} (h : CEq c d ∧ xs = ys) : encC c xs = encC d ys := by
  obtain ⟨⟨⟨a, b, e, f⟩, g, i, j⟩, rfl⟩ := h
  rw [encC_all, encC_all, a, b, e, f, g, i, j]
set_option maxHeartbeats 8000000 in
theorem codeBack_any (SO : ShapeC) (w : World) (C D : CH) (c d : Cx) (xs ys : List Int) (fs es fs2 es2 : List (FH × Fx)) (r1 : CwRd w C c xs fs es) (r2 : CwRd w D d ys fs2 es2) :
    Calls Tryz.prog 3 #[C.v, D.v] w fun e w' => e = .returned (.bool true) ∧ Below w.heap.size w w' := by
  obtain ⟨W0, hW0, bw, m0, m1⟩ := two_alc (w := w) (x := C.cs) (y := D.cs) (T := 31)
  have K0 := hid (known9_any SO W0)
  have KF := hid (fun (V : World) (hV : Below w.heap.size w V) => few9_any V C c xs fs es (r1.below hV))
  have KG := hid (fun (V : World) (hV : Below w.heap.size w V) => few9_any V D d ys fs2 es2 (r2.below hV))
  obtain ⟨L, hL⟩ : ∃ L, L = encC c xs := ⟨_, rfl⟩
  obtain ⟨M, hM⟩ : ∃ M, M = encC d ys := ⟨_, rfl⟩
  have KE : Hid (∀ V : World, Below w.heap.size w V → Calls Tryz.prog 8 #[C.v] V fun e w' => Below V.heap.size V w' ∧ ((isB c = false ∧ e = .returned (.tuple #[.slice none 0 0, .int .i64 90])) ∨ (isB c = true ∧ ∃ v, e = .returned (.tuple #[v, .int .i64 0]) ∧ Row w' V.heap.size v L))) := hid (fun V hV => (encode_any SO V C c fs es (r1.below hV).cd xs (r1.below hV).ir r1.i1 r1.ix).mono fun e w' h => by rw [hL]; exact h)
  have KH : Hid (∀ V : World, Below w.heap.size w V → Calls Tryz.prog 8 #[D.v] V fun e w' => Below V.heap.size V w' ∧ ((isB d = false ∧ e = .returned (.tuple #[.slice none 0 0, .int .i64 90])) ∨ (isB d = true ∧ ∃ v, e = .returned (.tuple #[v, .int .i64 0]) ∧ Row w' V.heap.size v M))) := hid (fun V hV => (encode_any SO V D d fs2 es2 (r2.below hV).cd ys (r2.below hV).ir r2.i1 r2.ix).mono fun e w' h => by rw [hM]; exact h)
  have KI := hid (fun (V : World) (hV : Below w.heap.size w V) => (by
    have := refIs_any V C c fs es (r1.below hV).cd
    rw [isEq (r1.below hV).cd] at this
    exact this : Calls Tryz.prog 9 #[C.v] V fun e w' => e = .returned (.bool (isB c)) ∧ Below V.heap.size V w'))
  have SR := hid (fun (V : World) (hV : Below w.heap.size w V) => refSame_any V C D c d fs es fs2 es2 xs ys (r1.below hV).cd (r2.below hV).cd (r1.below hV).ir (r2.below hV).ir r1.i1 r2.i1)
  have SC := hid (fun (V : World) (hV : Below w.heap.size w V) => codeSame_any V C D c d fs es fs2 es2 xs ys (r1.below hV).cd (r2.below hV).cd (r1.below hV).ir (r2.below hV).ir r1.i1 r2.i1)
  have XR := hid (fun (V : World) (hV : Below w.heap.size w V) (E : CH) (e : Cx) (fl el : List (FH × Fx)) (cd : CdRd V E e fl el) (jr : JRd V E.ia xs) (jn : E.inn = xs.length) (ce : CEq c e) => (refSame_any V E C e c fl el fs es xs xs cd (r1.below hV).cd jr (r1.below hV).ir jn r1.i1).mono fun e w' h => h.isT ⟨CEq.both (CEq.refl _) ce, rfl⟩)
  have XC := hid (fun (V : World) (hV : Below w.heap.size w V) (E : CH) (e : Cx) (fl el : List (FH × Fx)) (cd : CdRd V E e fl el) (jr : JRd V E.ia xs) (jn : E.inn = xs.length) (ce : CEq c e) => (codeSame_any V E C e c fl el fs es xs xs cd (r1.below hV).cd jr (r1.below hV).ir jn r1.i1).mono fun e w' h => h.isT ⟨CEq.both (CEq.refl _) ce, rfl⟩)
  have KD := hid (fun (V : World) (a : Option Addr) (n cp : Nat) (his : isB c = true) (hb : Rd V (.slice a n cp) (encC c xs)) (hl : (encC c xs).length ≤ 1000000000) (ho : ∀ k, (Value.slice a n cp).ownBlock = some k → k < V.heap.size) => decode_enc SO V a n cp c xs his (r1.i1.symm.trans r1.cd.i1) r1.ix hb hl ho)
  have LE1 : Hid (isB c = true → L.length ≤ 10000000) := hid (fun h => by rw [hL]; exact encC_le (is_sm h) (r1.i1.symm.trans r1.cd.i1) r1.ix)
  have LEQ : Hid ((CEq c d ∧ xs = ys) → L = M) := hid (fun h => by rw [hL, hM]; exact encC_eq h)
  have LNE : Hid (isB c = true → isB d = true → ¬ (CEq c d ∧ xs = ys) → ¬ L = M) := hid (fun h1 h2 h3 e => by
    rw [hL, hM] at e
    obtain ⟨a, b⟩ := encC_inj h1 (r1.i1.symm.trans r1.cd.i1) r1.ix h2 (r2.i1.symm.trans r2.cd.i1) r2.ix e
    exact h3 ⟨b, a⟩)
  have BL : Hid (Byt L) := hid (by rw [hL]; exact encC_byt _ _)
  have BM : Hid (Byt M) := hid (by rw [hM]; exact encC_byt _ _)
  rw [← hL] at KD
  clear r1 r2 hL hM SO
  obtain ⟨⟨ra, rn, rc, ma, mn, mc, fa, fn, fc, ea, en, ec⟩, ia, inn, ic, ta, tn, tc, ga, gn, gc, ha, hn, hc⟩ := C
  obtain ⟨⟨ra2, rn2, rc2, ma2, mn2, mc2, fa2, fn2, fc2, ea2, en2, ec2⟩, ia2, inn2, ic2, ta2, tn2, tc2, ga2, gn2, gc2, ha2, hn2, hc2⟩ := D
  simp only [CH.v, CH.cs, PH.v] at hW0 m0 m1 KF KG KE KH KI SR SC XR XC ⊢
  have GT : Hid (∀ V : World, Below W0.heap.size W0 V → ((V.cell? ⟨w.heap.size, 0, none⟩ = some (.slice ra rn rc) ∧ V.cell? ⟨w.heap.size, 1, none⟩ = some (.slice ma mn mc) ∧ V.cell? ⟨w.heap.size, 2, none⟩ = some (.slice fa fn fc) ∧ V.cell? ⟨w.heap.size, 3, none⟩ = some (.slice ea en ec) ∧ V.cell? ⟨w.heap.size, 4, none⟩ = some (.slice ia inn ic) ∧ V.cell? ⟨w.heap.size, 5, none⟩ = some (.slice ta tn tc) ∧ V.cell? ⟨w.heap.size, 6, none⟩ = some (.slice ga gn gc) ∧ V.cell? ⟨w.heap.size, 7, none⟩ = some (.slice ha hn hc)) ∧ V.cell? ⟨w.heap.size + 1, 0, none⟩ = some (.slice ra2 rn2 rc2) ∧ V.cell? ⟨w.heap.size + 1, 1, none⟩ = some (.slice ma2 mn2 mc2) ∧ V.cell? ⟨w.heap.size + 1, 2, none⟩ = some (.slice fa2 fn2 fc2) ∧ V.cell? ⟨w.heap.size + 1, 3, none⟩ = some (.slice ea2 en2 ec2) ∧ V.cell? ⟨w.heap.size + 1, 4, none⟩ = some (.slice ia2 inn2 ic2) ∧ V.cell? ⟨w.heap.size + 1, 5, none⟩ = some (.slice ta2 tn2 tc2) ∧ V.cell? ⟨w.heap.size + 1, 6, none⟩ = some (.slice ga2 gn2 gc2) ∧ V.cell? ⟨w.heap.size + 1, 7, none⟩ = some (.slice ha2 hn2 hc2)) ∧ Below w.heap.size w V) := hid (fun V hV => by
    have g0 := (hV.block _ (lt_of_heap m0)).trans m0
    have g1 := (hV.block _ (lt_of_heap m1)).trans m1
    exact ⟨⟨cell_eight g0, cell_eight g1⟩, bw.trans (hV.mono bw.size)⟩)
  have TR : Hid (∀ {x y : World}, Below W0.heap.size W0 x → Below x.heap.size x y → Below W0.heap.size W0 y) := hid (fun h1 h2 => h1.trans (h2.mono h1.size))
  clear m0 m1 bw
  go_enter Tryz.func3, Tryz.ntmps3
  go_upto_region 1 with fail
  rw [← hW0]
  clear hW0
  go_upto_region 3 with (go_at_call 6; (refine (Hid.out K0).mono ?_; rintro e w1 ⟨rfl, hb1⟩; have HB1 := hid hb1; clear hb1))
  clear K0
  obtain ⟨⟨⟨c0, c1, c2, c3, c4, c5, c6, c7⟩, d0, d1, d2, d3, d4, d5, d6, d7⟩, gw⟩ := GT.out w1 HB1.out
  have KF1 := hid (KF.out w1 gw)
  clear gw KF
  go_upto_region 5 with (first
    | (have hno := KG1; (go_at_call 7; (refine (Hid.out KG1).mono ?_; rintro e w3 ⟨hb3, b3, rfl, _⟩; have HB3 := hid (TR.out HB2.out hb3); clear c0 c1 c2 c3 c4 c5 c6 c7 d0 d1 d2 d3 d4 d5 d6 d7 hb3 KG1; cases b3)))
    | (have hno := KF1; (go_at_call 7; (refine (Hid.out KF1).mono ?_; rintro e w2 ⟨hb2, b2, rfl, _⟩; have HB2 := hid (TR.out HB1.out hb2); clear c0 c1 c2 c3 c4 c5 c6 c7 d0 d1 d2 d3 d4 d5 d6 d7 hb2 KF1; obtain ⟨⟨⟨c0, c1, c2, c3, c4, c5, c6, c7⟩, d0, d1, d2, d3, d4, d5, d6, d7⟩, gw⟩ := GT.out w2 HB2.out; have KG1 := hid (KG.out w2 gw); clear gw; cases b2))))
  · go_ret
    exact ⟨rfl, (GT.out w2 HB2.out).2⟩
  · go_ret
    exact ⟨rfl, (GT.out w3 HB3.out).2⟩
  clear HB1 HB2 KG
  obtain ⟨⟨⟨c0, c1, c2, c3, c4, c5, c6, c7⟩, d0, d1, d2, d3, d4, d5, d6, d7⟩, gw⟩ := GT.out w3 HB3.out
  have KE1 := hid (KE.out w3 gw)
  clear gw KE
  cases hc : isB c with
  | false =>
    rw [hc] at KI
    go_upto_region 6 with (go_at_call 8; (refine (Hid.out KE1).mono ?_; rintro e w4 ⟨hb4, ⟨_, rfl⟩ | ⟨hx, _⟩⟩; rotate_left; (exact absurd (hx.symm.trans hc) (by simp)); have HB4 := hid (TR.out HB3.out hb4); clear c0 c1 c2 c3 c4 c5 c6 c7 d0 d1 d2 d3 d4 d5 d6 d7 hb4))
    obtain ⟨⟨⟨c0, c1, c2, c3, c4, c5, c6, c7⟩, d0, d1, d2, d3, d4, d5, d6, d7⟩, gw⟩ := GT.out w4 HB4.out
    have KI1 := hid (KI.out w4 gw)
    clear gw KI
    go_wp2_with (go_at_call 9; (refine (Hid.out KI1).mono ?_; rintro e w5 ⟨rfl, hb5⟩; have HB5 := hid (TR.out HB4.out hb5); clear c0 c1 c2 c3 c4 c5 c6 c7 d0 d1 d2 d3 d4 d5 d6 d7 hb5))
    go_ret
    exact ⟨rfl, (GT.out w5 HB5.out).2⟩
  | true =>
    rw [hc] at KI
    go_upto_region 6 with (go_at_call 8; (refine (Hid.out KE1).mono ?_; rintro e w4 ⟨hb4, ⟨hx, _⟩ | ⟨_, v, rfl, hr⟩⟩; (exact absurd (hx.symm.trans hc) (by simp)); obtain ⟨va, vcp, rfl, _⟩ := hr.form; have HB4 := hid (TR.out HB3.out hb4); have HR := hid hr; clear c0 c1 c2 c3 c4 c5 c6 c7 d0 d1 d2 d3 d4 d5 d6 d7 hb4 hr))
    obtain ⟨⟨⟨c0, c1, c2, c3, c4, c5, c6, c7⟩, d0, d1, d2, d3, d4, d5, d6, d7⟩, gw⟩ := GT.out w4 HB4.out
    have KI1 := hid (KI.out w4 gw)
    have HL := hid (LE1.out hc)
    have HC := hid hc
    clear gw KI LE1 hc KE1
    go_upto_region 8 with (go_at_call 9; (refine (Hid.out KI1).mono ?_; rintro e w5 ⟨rfl, hb5⟩; have HB5 := hid (TR.out HB4.out hb5); have HR5 := hid (HR.out.below (Nat.le_refl _) hb5); clear c0 c1 c2 c3 c4 c5 c6 c7 d0 d1 d2 d3 d4 d5 d6 d7 hb5 HR))
    clear KI1 HB3 HB4
    have hll : L.length ≤ 1099511627776 := by have := HL.out; omega
    go_upto_region 11 with (first
      | (at_builtin; refine wpList_appR _ rfl _ _ rfl (.slice none 0 0) (.slice va L.length vcp) (by rfl) (by rfl) w5.heap.size [] L (Row.nil _ _) (HR5.out.rd BL.out) HR5.out.nilOf (Nat.le_refl _) (by simp) hll ?_; intro v6 w6 hr6 hg6; obtain ⟨ya, yc, rfl, _⟩ := hr6.form; have B6 := hg6.nil; have HB6 := hid (TR.out HB5.out B6); have RB6 := hid ((HR5.out.rd BL.out).below (Nat.le_refl _) B6); have hr7 : Row w6 w5.heap.size (.slice ya L.length yc) L := hr6; have KD1 := hid (KD.out w6 ya L.length yc HC.out (hr7.rd BL.out) (by have := HL.out; omega) (fun k e => (hr7.own k e).2)); clear hr6 hr7 hg6 B6 HR5)
      | (go_at_call 10; (refine (Hid.out KD1).mono ?_; rintro e w7 ⟨hb7, ⟨⟨ra3, rn3, rc3, ma3, mn3, mc3, fa3, fn3, fc3, ea3, en3, ec3⟩, ia3, inn3, ic3, ta3, tn3, tc3, ga3, gn3, gc3, ha3, hn3, hc3⟩, cy, fl, el, rfl, _, hce, hcd, hjr, hjn⟩; simp only [CH.v, CH.cs]; have HB7 := hid (TR.out HB6.out hb7); have RB7 := hid (RB6.out.below (Nat.le_refl _) hb7); have CE := hid hce; have CD := hid hcd; have JR := hid hjr; have JN := hid hjn; clear hb7 hce hcd hjr hjn KD1 RB6)))
    obtain ⟨E0, hE0⟩ : ∃ E0, E0 = w7.alloc (.cells #[.slice ra3 rn3 rc3, .slice ma3 mn3 mc3, .slice fa3 fn3 fc3, .slice ea3 en3 ec3, .slice ia3 inn3 ic3, .slice ta3 tn3 tc3, .slice ga3 gn3 gc3, .slice ha3 hn3 hc3] 31) := ⟨_, rfl⟩
    have bE : Below w7.heap.size w7 E0 := by rw [hE0]; exact (Below.refl _ _).alloc (Nat.le_refl _) _
    have mE : E0.heap[w7.heap.size]? = some (.cells #[.slice ra3 rn3 rc3, .slice ma3 mn3 mc3, .slice fa3 fn3 fc3, .slice ea3 en3 ec3, .slice ia3 inn3 ic3, .slice ta3 tn3 tc3, .slice ga3 gn3 gc3, .slice ha3 hn3 hc3] 31 (0, 0)) := by rw [hE0]; exact heap_alloc_new w7 _
    rw [← hE0]
    clear hE0
    have HBE := hid (TR.out HB7.out bE)
    have RBE := hid (RB7.out.below (Nat.le_refl _) bE)
    have GE : Hid (∀ V : World, Below E0.heap.size E0 V → V.heap[w7.heap.size]? = some (.cells #[.slice ra3 rn3 rc3, .slice ma3 mn3 mc3, .slice fa3 fn3 fc3, .slice ea3 en3 ec3, .slice ia3 inn3 ic3, .slice ta3 tn3 tc3, .slice ga3 gn3 gc3, .slice ha3 hn3 hc3] 31 (0, 0)) ∧ CdRd V (⟨⟨ra3, rn3, rc3, ma3, mn3, mc3, fa3, fn3, fc3, ea3, en3, ec3⟩, ia3, inn3, ic3, ta3, tn3, tc3, ga3, gn3, gc3, ha3, hn3, hc3⟩ : CH) cy fl el ∧ JRd V ia3 xs ∧ Rd V (.slice va L.length vcp) L ∧ Below W0.heap.size W0 V) := hid (fun V hV => by
      have b2 : Below w7.heap.size w7 V := bE.trans (hV.mono bE.size)
      exact ⟨(hV.block _ (lt_of_heap mE)).trans mE, CD.out.below (Nat.le_refl _) b2, CRd.below JR.out (Nat.le_refl _) b2, RBE.out.below (Nat.le_refl _) hV, TR.out HBE.out hV⟩)
    have KX := hid (XR.out E0 (GT.out E0 HBE.out).2 (⟨⟨ra3, rn3, rc3, ma3, mn3, mc3, fa3, fn3, fc3, ea3, en3, ec3⟩, ia3, inn3, ic3, ta3, tn3, tc3, ga3, gn3, gc3, ha3, hn3, hc3⟩ : CH) cy fl el (GE.out E0 (Below.refl _ _)).2.1 (GE.out E0 (Below.refl _ _)).2.2.1 JN.out CE.out)
    have KY := hid (fun (V : World) (hV : Below E0.heap.size E0 V) => XC.out V (GT.out V (GE.out V hV).2.2.2.2).2 (⟨⟨ra3, rn3, rc3, ma3, mn3, mc3, fa3, fn3, fc3, ea3, en3, ec3⟩, ia3, inn3, ic3, ta3, tn3, tc3, ga3, gn3, gc3, ha3, hn3, hc3⟩ : CH) cy fl el (GE.out V hV).2.1 (GE.out V hV).2.2.1 JN.out CE.out)
    simp only at KX KY
    obtain ⟨⟨⟨c0, c1, c2, c3, c4, c5, c6, c7⟩, d0, d1, d2, d3, d4, d5, d6, d7⟩, _⟩ := GT.out E0 HBE.out
    obtain ⟨x0, x1, x2, x3, x4, x5, x6, x7⟩ := cell_eight mE
    clear HB7 RB7 bE mE CE CD JR JN RBE XR XC HB5 HB6
    have TE : Hid (∀ {x y : World}, Below E0.heap.size E0 x → Below x.heap.size x y → Below E0.heap.size E0 y) := hid (fun h1 h2 => h1.trans (h2.mono h1.size))
    go_upto_region 13 with (first
      | (go_at_call 11; (refine (Hid.out KX).mono ?_; rintro e w8 ⟨rfl, hb8⟩; have HB8 := hid hb8; clear c0 c1 c2 c3 c4 c5 c6 c7 d0 d1 d2 d3 d4 d5 d6 d7 x0 x1 x2 x3 x4 x5 x6 x7; obtain ⟨⟨⟨c0, c1, c2, c3, c4, c5, c6, c7⟩, d0, d1, d2, d3, d4, d5, d6, d7⟩, _⟩ := GT.out w8 (GE.out w8 hb8).2.2.2.2; obtain ⟨x0, x1, x2, x3, x4, x5, x6, x7⟩ := cell_eight (GE.out w8 hb8).1; have KY1 := hid (KY.out w8 hb8); clear hb8))
      | (go_at_call 12; (refine (Hid.out KY1).mono ?_; rintro e w9 ⟨rfl, hb9⟩; have HB9 := hid (TE.out HB8.out hb9); clear c0 c1 c2 c3 c4 c5 c6 c7 d0 d1 d2 d3 d4 d5 d6 d7 x0 x1 x2 x3 x4 x5 x6 x7 hb9)))
    clear KX KY KY1 HB8
    obtain ⟨⟨⟨c0, c1, c2, c3, c4, c5, c6, c7⟩, d0, d1, d2, d3, d4, d5, d6, d7⟩, gw⟩ := GT.out w9 (GE.out w9 HB9.out).2.2.2.2
    have KH1 := hid (KH.out w9 gw)
    clear gw KH
    go_upto_region 14 with (go_at_call 8; (refine (Hid.out KH1).mono ?_; rintro e wa ⟨hba, hen⟩; have HBA := hid (TE.out HB9.out hba); clear c0 c1 c2 c3 c4 c5 c6 c7 d0 d1 d2 d3 d4 d5 d6 d7 hba; rcases hen with ⟨hx, rfl⟩ | ⟨hx, v, rfl, hr⟩; rotate_left; (obtain ⟨za, zc, rfl, _⟩ := hr.form)))
    · have HX := hid hx
      have RM := hid (hr.rd BM.out)
      clear hx hr KH1 HB9
      obtain ⟨⟨⟨c0, c1, c2, c3, c4, c5, c6, c7⟩, d0, d1, d2, d3, d4, d5, d6, d7⟩, gw⟩ := GT.out wa (GE.out wa HBA.out).2.2.2.2
      have SRa := hid (SR.out wa gw)
      clear gw SR
      by_cases hs : CEq c d ∧ xs = ys
      · have SRa := hid ((Hid.out SRa).mono fun e w' h => h.isT hs)
        have SCa := hid (fun (V : World) (hV : Below w.heap.size w V) => (SC.out V hV).mono fun e w' h => h.isT hs)
        have HLM : Hid (decide (L = M) = true) := hid (decide_eq_true (LEQ.out hs))
        clear hs SC
        go_upto_region 15 with (go_at_call 11; (refine (Hid.out SRa).mono ?_; rintro e wb ⟨rfl, hbb⟩; have HBB := hid (TE.out HBA.out hbb); have RM2 := hid (RM.out.below (Nat.le_refl _) hbb); clear c0 c1 c2 c3 c4 c5 c6 c7 d0 d1 d2 d3 d4 d5 d6 d7 hbb))
        obtain ⟨⟨⟨c0, c1, c2, c3, c4, c5, c6, c7⟩, d0, d1, d2, d3, d4, d5, d6, d7⟩, gw⟩ := GT.out wb (GE.out wb HBB.out).2.2.2.2
        have SCb := hid (SCa.out wb gw)
        clear gw SCa SRa
        go_wp2_with (first
          | (go_at_call 12; (refine (Hid.out SCb).mono ?_; rintro e wd ⟨rfl, hbd⟩; have HBD := hid (TE.out HBB.out hbd); have KB := hid (bytes_any wd _ _ L M (GE.out wd HBD.out).2.2.2.1 (RM2.out.below (Nat.le_refl _) hbd)); rw [HLM.out] at KB; clear c0 c1 c2 c3 c4 c5 c6 c7 d0 d1 d2 d3 d4 d5 d6 d7 hbd))
          | (go_at_call 13; (refine (Hid.out KB).mono ?_; rintro e wf ⟨rfl, hwf⟩; subst hwf)))
        go_ret
        exact ⟨rfl, (GT.out _ (GE.out _ HBD.out).2.2.2.2).2⟩
      · have SRa := hid ((Hid.out SRa).mono fun e w' h => h.isF hs)
        have SCa := hid (fun (V : World) (hV : Below w.heap.size w V) => (SC.out V hV).mono fun e w' h => h.isF hs)
        have HLM : Hid (decide (L = M) = false) := hid (decide_eq_false (LNE.out HC.out HX.out hs))
        clear hs SC
        go_upto_region 15 with (go_at_call 11; (refine (Hid.out SRa).mono ?_; rintro e wb ⟨rfl, hbb⟩; have HBB := hid (TE.out HBA.out hbb); have RM2 := hid (RM.out.below (Nat.le_refl _) hbb); clear c0 c1 c2 c3 c4 c5 c6 c7 d0 d1 d2 d3 d4 d5 d6 d7 hbb))
        obtain ⟨⟨⟨c0, c1, c2, c3, c4, c5, c6, c7⟩, d0, d1, d2, d3, d4, d5, d6, d7⟩, gw⟩ := GT.out wb (GE.out wb HBB.out).2.2.2.2
        have SCb := hid (SCa.out wb gw)
        clear gw SCa SRa
        go_wp2_with (first
          | (go_at_call 12; (refine (Hid.out SCb).mono ?_; rintro e wd ⟨rfl, hbd⟩; have HBD := hid (TE.out HBB.out hbd); have KB := hid (bytes_any wd _ _ L M (GE.out wd HBD.out).2.2.2.1 (RM2.out.below (Nat.le_refl _) hbd)); rw [HLM.out] at KB; clear c0 c1 c2 c3 c4 c5 c6 c7 d0 d1 d2 d3 d4 d5 d6 d7 hbd))
          | (go_at_call 13; (refine (Hid.out KB).mono ?_; rintro e wf ⟨rfl, hwf⟩; subst hwf)))
        go_ret
        exact ⟨rfl, (GT.out _ (GE.out _ HBD.out).2.2.2.2).2⟩
    · clear hx KH1 HB9
      obtain ⟨⟨⟨c0, c1, c2, c3, c4, c5, c6, c7⟩, d0, d1, d2, d3, d4, d5, d6, d7⟩, gw⟩ := GT.out wa (GE.out wa HBA.out).2.2.2.2
      have SRa := hid (SR.out wa gw)
      clear gw SR
      by_cases hs : CEq c d ∧ xs = ys
      · have SRa := hid ((Hid.out SRa).mono fun e w' h => h.isT hs)
        have SCa := hid (fun (V : World) (hV : Below w.heap.size w V) => (SC.out V hV).mono fun e w' h => h.isT hs)
        clear hs SC
        go_upto_region 15 with (go_at_call 11; (refine (Hid.out SRa).mono ?_; rintro e wb ⟨rfl, hbb⟩; have HBB := hid (TE.out HBA.out hbb); clear c0 c1 c2 c3 c4 c5 c6 c7 d0 d1 d2 d3 d4 d5 d6 d7 hbb))
        obtain ⟨⟨⟨c0, c1, c2, c3, c4, c5, c6, c7⟩, d0, d1, d2, d3, d4, d5, d6, d7⟩, gw⟩ := GT.out wb (GE.out wb HBB.out).2.2.2.2
        have SCb := hid (SCa.out wb gw)
        clear gw SCa SRa
        go_wp2_with (go_at_call 12; (refine (Hid.out SCb).mono ?_; rintro e wd ⟨rfl, hbd⟩; have HBD := hid (TE.out HBB.out hbd); clear c0 c1 c2 c3 c4 c5 c6 c7 d0 d1 d2 d3 d4 d5 d6 d7 hbd))
        go_ret
        exact ⟨rfl, (GT.out _ (GE.out _ HBD.out).2.2.2.2).2⟩
      · have SRa := hid ((Hid.out SRa).mono fun e w' h => h.isF hs)
        have SCa := hid (fun (V : World) (hV : Below w.heap.size w V) => (SC.out V hV).mono fun e w' h => h.isF hs)
        clear hs SC
        go_upto_region 15 with (go_at_call 11; (refine (Hid.out SRa).mono ?_; rintro e wb ⟨rfl, hbb⟩; have HBB := hid (TE.out HBA.out hbb); clear c0 c1 c2 c3 c4 c5 c6 c7 d0 d1 d2 d3 d4 d5 d6 d7 hbb))
        obtain ⟨⟨⟨c0, c1, c2, c3, c4, c5, c6, c7⟩, d0, d1, d2, d3, d4, d5, d6, d7⟩, gw⟩ := GT.out wb (GE.out wb HBB.out).2.2.2.2
        have SCb := hid (SCa.out wb gw)
        clear gw SCa SRa
        go_wp2_with (go_at_call 12; (refine (Hid.out SCb).mono ?_; rintro e wd ⟨rfl, hbd⟩; have HBD := hid (TE.out HBB.out hbd); clear c0 c1 c2 c3 c4 c5 c6 c7 d0 d1 d2 d3 d4 d5 d6 d7 hbd))
        go_ret
        exact ⟨rfl, (GT.out _ (GE.out _ HBD.out).2.2.2.2).2⟩
end Go.Proofs.YthnolocldeokeaaGreat

namespace Go.Proofs.YthnolocldeokeaaGreat
open Go.ChangeShapes Go.WideShapes Go.ChangeAt Go.RowKit Go.Deep
set_option linter.unusedVariables false
set_option linter.unusedSimpArgs false
set_option maxRecDepth 100000 in
theorem back_lifted (os : Os) (started : os.Started) (H : Type) (enc : TypeId × Value → H) :
    ReturnsInHanded {} Tryz.checked os 3 .any (Rows.codeBackSpec.pre6 enc Tryz.prog Tryz.f3 Rows.codeBackRow.domain false) (Rows.codeBackSpec.post enc Tryz.prog Tryz.f3 false true false false) := by
  refine returnsInHanded_of_change_sized (C := Tryz.checked) ownN started (by kernel_rfl) Tryz.func3
    (ChangeSpec.witness6 (enc := enc) (C := Tryz.checked) false ⟨#[], #[.agg #[.slice none 0 0, .slice none 0 0, .slice none 0 0, .slice none 0 0, .slice none 0 0, .slice none 0 0, .slice none 0 0, .slice none 0 0], .agg #[.slice none 0 0, .slice none 0 0, .slice none 0 0, .slice none 0 0, .slice none 0 0, .slice none 0 0, .slice none 0 0, .slice none 0 0]], []⟩ 8 (by kernel_rfl) (by kernel_rfl) (by kernel_rfl) (by kernel_rfl)) ?_
  intro W base args ds gs before hval0 hW hcnd hsz _
  have hval : ∀ (j : Nat) t v, Tryz.f3.params[j]? = some t → args[j]? = some v → Value.okWide Tryz.prog W .any base t v := hval0
  have hW' := hW
  obtain ⟨p, q, hA0, hV, rfl, hfz, hnd⟩ := hW
  have hA : DataW.TrodAll enc Tryz.prog W 0 (fun _ => true) true Tryz.f3.params.toList args.toList ds p := hA0
  rw [Tryz.params3] at hA hval
  obtain ⟨v0, vs0, d0, ds0, p0, q0, hargs, rfl, rfl, h0, r0⟩ := trodAll_cons hA
  obtain ⟨v1, vs1, d1, ds1, p1, q1, rfl, rfl, rfl, h1, r1⟩ := trodAll_cons r0
  obtain ⟨rfl, rfl, rfl⟩ := trodAll_nil r1
  obtain rfl : args = #[v0, v1] := by cases args; simp_all
  obtain ⟨rfl, rfl⟩ := trodVars_none hV
  have lt0 : ∀ x ∈ p0, x.block < W.heap.size := by obtain ⟨m, hm⟩ := h0; exact DataW.trod_lt m _ _ _ hm
  have lt1 : ∀ x ∈ p1, x.block < W.heap.size := by obtain ⟨m, hm⟩ := h1; exact DataW.trod_lt m _ _ _ hm
  have hs0 : f_Sm 31 d0 := fun n hn => by
    have h1 := List.all_eq_true.1 hsz n (DataW.weights_mem_each (j := 0) (t := 31) (d := d0) rfl rfl n hn)
    exact of_decide_eq_true h1
  have hs1 : f_Sm 31 d1 := fun n hn => by
    have h1 := List.all_eq_true.1 hsz n (DataW.weights_mem_each (j := 1) (t := 31) (d := d1) rfl rfl n hn)
    exact of_decide_eq_true h1
  obtain ⟨C, c, xs, fs, es, rfl, hC⟩ := code_arg (hval 0 31 v0 rfl rfl) h0 hs0
  obtain ⟨D, d, ys, fs2, es2, rfl, hD⟩ := code_arg (hval 1 31 v1 rfl rfl) h1 hs1
  clear hA0 hval0
  refine (codeBack_any shapeOf_any W C D c d xs ys fs es fs2 es2 hC hD).mono fun e W' ⟨he, bel⟩ => ?_
  subst he
  exact ⟨_, rfl, _, _, _, [], _, [], hW', trodAll_mk1 (shut_bool Tryz.underlying4 _), (trodAll_cons_mk (Below.trod laidOut (by kernel_rfl) (of_decide_eq_true (by kernel_rfl)) h0 bel lt0) (trodAll_cons_mk (Below.trod laidOut (by kernel_rfl) (of_decide_eq_true (by kernel_rfl)) h1 bel lt1) trodAll_mk0)), rfl, bel.frame _, fun h => by cases h⟩
theorem codeBack_holds : Rows.CodeBackSaid :=
  OpenClaim.holds_of_wide 3 Tryz.f3 rfl rfl rfl rfl rfl rfl rfl ⟨rfl, rfl, rfl, rfl, rfl⟩ rfl rfl rfl rfl rfl (by kernel_rfl) Tryz.func3 (by kernel_rfl)
    (of_decide_eq_true (by kernel_rfl)) (by unfold Func.isWrapper; first | (rw [if_pos (by decide +kernel)]; kernel_rfl) | (rw [if_neg (by decide +kernel)]; exact ⟨rfl, rfl⟩))
    (fun os started H enc _ => back_lifted os started H enc)
end Go.Proofs.YthnolocldeokeaaGreat

