/- The document's instructions: isFns. -/
import Derived.Test.YthnolocldeokeaaGreatJAO
namespace Go.Proofs.YthnolocldeokeaaGreat
open Go.RowKit Go.Deep Go.Shelf
set_option linter.unusedVariables false
set_option linter.unusedSimpArgs false
def refFnB (c : Cx) (pn : Nat) (f : Fx) : Bool := !(decide (f.regs < (pn : Int)) || decide (64 < f.regs) || decide (f.ops.length < 1) || decide (2000 < f.ops.length)) && f.ops.all (refOp c f.regs f.ops.length)
def okAtZ (c : Cx) (gs : List (GH × Sg)) (l : List (FH × Fx)) (j : Nat) : Bool := match gs[j]?, l[j]? with
  | some g, some f => refFnB c g.1.pn f.2
  | _, _ => true
def refFnsB (c : Cx) (gs : List (GH × Sg)) (l : List (FH × Fx)) : Bool := decide (l.length = gs.length) && (List.range l.length).all (okAtZ c gs l)
set_option maxRecDepth 100000 in
set_option maxHeartbeats 8000000 in
theorem refIsFns_any (w : World) (C : CH) (c : Cx) (fs es : List (FH × Fx)) (dd : CdRd w C c fs es) (a : Option Addr) (n cap : Nat) (l : List (FH × Fx)) (dl : FRd w a n l) (sa : Option Addr) (sn sc : Nat) (gs : List (GH × Sg)) (dg : GRd w sa sn gs) :
    Calls Tryz.prog 35 #[C.v, .slice a n cap, .slice sa sn sc] w fun e w' => e = .returned (.bool (refFnsB c gs l)) ∧ Below w.heap.size w w' := by
  obtain ⟨W0, hW0⟩ : ∃ W0, W0 = w.alloc (.cells C.cs 31) := ⟨_, rfl⟩
  have b0 : Below w.heap.size w W0 := by rw [hW0]; exact (Below.refl _ _).alloc (Nat.le_refl _) _
  have m0 : W0.heap[w.heap.size]? = some (.cells C.cs 31 (0, 0)) := by rw [hW0]; exact heap_alloc_new w _
  have GT : Hid (∀ V : World, Below W0.heap.size W0 V → V.heap[w.heap.size]? = some (.cells C.cs 31 (0, 0)) ∧ Below w.heap.size w V) := hid (fun V hV => ⟨(hV.block _ (lt_of_heap m0)).trans m0, b0.trans (hV.mono b0.size)⟩)
  have KO := hid (fun (V : World) (hV : Below w.heap.size w V) (regs : Int) (h0 : 0 ≤ regs) (h64 : regs ≤ 64) (m : Nat) (hm : m ≤ 9223372036854775807) (o : Opx) => refIsOp_any V C c fs es (dd.below (Nat.le_refl _) hV) regs h0 h64 m hm o)
  have n1 := hid dl.n1
  have s1 := hid dg.n1
  have n2 := dl.n2
  have s2 := dg.n2
  have DL := hid dl
  have DG := hid dg
  have B0 := hid b0
  obtain ⟨res, hres⟩ : ∃ res, res = refFnsB c gs l := ⟨_, rfl⟩
  rw [← hres]
  have HRES := hid hres
  have OKD : Hid (∀ (j : Nat) (g : GH × Sg) (f : FH × Fx), gs[j]? = some g → l[j]? = some f → okAtZ c gs l j = refFnB c g.1.pn f.2) := hid (fun j g f h1 h2 => by unfold okAtZ; rw [h1, h2])
  have RFD : Hid (∀ (pn : Nat) (f : Fx), refFnB c pn f = (!(decide (f.regs < (pn : Int)) || decide (64 < f.regs) || decide (f.ops.length < 1) || decide (2000 < f.ops.length)) && f.ops.all (refOp c f.regs f.ops.length))) := hid (fun _ _ => rfl)
  clear hres dd dl dg b0 m0
  obtain ⟨⟨ra, rn, rc, ma, mn, mc, fa, fn, fc, ea, en, ec⟩, ia, inn, ic, ta, tn, tc, ga, gn, gc, ha, hn, hc⟩ := C
  simp only [CH.v, CH.cs] at hW0 GT KO ⊢
  by_cases hlen : n = sn
  case neg =>
    have HF : Hid (res = false) := hid (by rw [HRES.out]; unfold refFnsB; rw [← n1.out, ← s1.out]; simp [hlen])
    have nb : ((n : Int) != (sn : Int)) = true := by simp; omega
    clear hlen
    go_enter Tryz.func35, Tryz.ntmps35
    go_upto_region 1 with fail
    rw [← hW0]
    clear hW0
    go_wp2
    go_ret
    exact ⟨by rw [HF.out]; rfl, B0.out⟩
  case pos =>
  subst hlen
  have HALL : Hid (res = (List.range n).all (okAtZ c gs l)) := hid (by rw [HRES.out]; unfold refFnsB; rw [← n1.out, ← s1.out]; simp)
  have HNO : Hid (∀ j, j < n → okAtZ c gs l j = false → res = false) := hid (fun j hj h => by rw [HALL.out, List.all_eq_false]; exact ⟨j, List.mem_range.2 hj, by simp [h]⟩)
  generalize okAtZ c gs l = okat at HALL HNO OKD
  have nb : ((n : Int) != (n : Int)) = false := by simp
  clear HRES
  go_enter Tryz.func35, Tryz.ntmps35
  go_upto_region 1 with fail
  rw [← hW0]
  clear hW0
  go_wp2
  go_loopg [7] n (fun g x wr => ∃ j : Nat, j + g = n ∧ x = .int .i64 (j : Int) ∧ (List.range j).all okat = true ∧ Below W0.heap.size W0 wr)
  case atStart => exact ⟨0, by omega, rfl, by simp, Below.refl _ _⟩
  case round =>
    obtain ⟨j, hj, rfl, hp, hb⟩ := hrel
    cases gk with
    | zero =>
      have hjn : j = n := by omega
      subst hjn
      have HF : Hid (res = true) := hid (by rw [HALL.out]; exact hp)
      have HB := hid (GT.out wr hb).2
      clear hp hb
      go_wp2
      go_ret
      exact ⟨by rw [HF.out]; rfl, HB.out⟩
    | succ g =>
      obtain ⟨wo, hwo⟩ : ∃ wo, wo = wr := ⟨_, rfl⟩
      subst hwo
      have bw := (GT.out wo hb).2
      have dlo := DL.out.below (Nat.le_refl _) bw
      have dgo := DG.out.below (Nat.le_refl _) bw
      have hlj : j < l.length := by rw [← n1.out]; omega
      have hfj : l[j]? = some l[j] := List.getElem?_eq_getElem hlj
      obtain ⟨gj, hgj, sgj, sb, so, rfl, sc1⟩ := dgo.sig (kk := j) (by omega)
      obtain ⟨fb, fo, rfl, hfb, hfc⟩ := dlo.rd j (l[j]).1.cs (by simp [hfj])
      have dfj := dlo.el _ (List.getElem_mem hlj)
      have HOK := hid (OKD.out j gj _ hgj hfj)
      generalize l[j] = fj at hfj hfc dfj HOK
      obtain ⟨⟨regs, oa, on, oc⟩, fx⟩ := fj
      obtain ⟨⟨nm, pa, pn, pc, kd, rr⟩, sgx⟩ := gj
      have t0 := hfc 0 (by omega)
      have t1 := hfc 1 (by omega)
      simp only [FH.cs, List.getElem?_cons_zero, List.getElem?_cons_succ, Nat.add_zero] at t0 t1 sc1
      have hpn2 : pn ≤ 9223372036854775807 := sgj.p2
      have hon2 : on ≤ 9223372036854775807 := dfj.o2
      have HRG : Hid (regs = fx.regs) := hid dfj.rg
      have HON : Hid (on = fx.ops.length) := hid dfj.on
      have ORr := hid dfj.or
      obtain ⟨A, hA⟩ : ∃ A, A = wo.alloc (.cells #[.int .i64 regs, .slice oa on oc] 57) := ⟨_, rfl⟩
      have bA : Below wo.heap.size wo A := by rw [hA]; exact (Below.refl _ _).alloc (Nat.le_refl _) _
      have bA0 : Below W0.heap.size W0 A := hb.trans (bA.mono hb.size)
      have mf : A.heap[wo.heap.size]? = some (.cells #[.int .i64 regs, .slice oa on oc] 57 (0, 0)) := by rw [hA]; exact heap_alloc_new _ _
      have g0 := cellOf mf 0
      have g1 := cellOf mf 1
      simp only [List.getElem?_toArray, List.getElem?_cons_zero, List.getElem?_cons_succ] at g0 g1
      have sA : A.cell? ⟨sb, so + j * 4 + 1, none⟩ = some (.slice pa pn pc) := (bA.cell (p := ⟨sb, so + j * 4 + 1, none⟩) (World.block_lt_of_cell? wo _ sc1)).trans sc1
      obtain ⟨X, hX⟩ : ∃ X, X = wo.heap.size := ⟨_, rfl⟩
      have hjI : (j : Int) < (n : Int) := by omega
      have hj0 : (0 : Int) ≤ (j : Int) := by omega
      have BAw := hid (GT.out A bA0).2
      have BA0 := hid bA0
      have HWo := hid bA
      rw [← hX] at g0 g1 mf
      have MF := hid mf
      have HP := hid hp
      have HOK2 : Hid (okat j = (!(decide (regs < (pn : Int)) || decide (64 < regs) || decide (on < 1) || decide (2000 < on)) && fx.ops.all (refOp c regs on))) := hid (by rw [HOK.out, RFD.out, ← HRG.out, ← HON.out])
      have HNj := hid (HNO.out j (by omega))
      clear hp hb bw dlo dgo hlj hfj hgj sgj hfb hfc dfj HOK bA bA0 mf
      have hbad : ∀ (V : World), True := fun _ => trivial
      clear hbad
      by_cases h1 : regs < (pn : Int)
      · have HF : Hid (res = false) := hid (HNj.out (by rw [HOK2.out]; simp [h1]))
        have d1 : decide (regs < (pn : Int)) = true := decide_eq_true h1
        go_upto_region 7 with fail
        rw [← hA, ← hX]
        clear hA hX sc1 t0 t1
        go_quiet (fail)
        go_wp2
        go_ret
        exact ⟨by rw [HF.out]; rfl, bel_dN BAw.out _⟩
      have d1 : decide (regs < (pn : Int)) = false := decide_eq_false h1
      by_cases h2 : 64 < regs
      · have HF : Hid (res = false) := hid (HNj.out (by rw [HOK2.out]; simp [h2]))
        have d2 : decide (64 < regs) = true := decide_eq_true h2
        go_upto_region 7 with fail
        rw [← hA, ← hX]
        clear hA hX sc1 t0 t1
        go_quiet (fail)
        go_wp2
        go_ret
        exact ⟨by rw [HF.out]; rfl, bel_dN BAw.out _⟩
      have d2 : decide (64 < regs) = false := decide_eq_false h2
      by_cases h3 : (on : Int) < 1
      · have HF : Hid (res = false) := hid (HNj.out (by rw [HOK2.out]; have : on < 1 := by omega
                                                        simp [this]))
        have d3 : decide ((on : Int) < 1) = true := decide_eq_true h3
        go_upto_region 7 with fail
        rw [← hA, ← hX]
        clear hA hX sc1 t0 t1
        go_quiet (fail)
        go_wp2
        go_ret
        exact ⟨by rw [HF.out]; rfl, bel_dN BAw.out _⟩
      have d3 : decide ((on : Int) < 1) = false := decide_eq_false h3
      by_cases h4 : (2000 : Int) < (on : Int)
      · have HF : Hid (res = false) := hid (HNj.out (by rw [HOK2.out]; have : 2000 < on := by omega
                                                        simp [this]))
        have d4 : decide ((2000 : Int) < (on : Int)) = true := decide_eq_true h4
        go_upto_region 7 with fail
        rw [← hA, ← hX]
        clear hA hX sc1 t0 t1
        go_quiet (fail)
        go_wp2
        go_ret
        exact ⟨by rw [HF.out]; rfl, bel_dN BAw.out _⟩
      have d4 : decide ((2000 : Int) < (on : Int)) = false := decide_eq_false h4
      have HOK3 : Hid (okat j = fx.ops.all (refOp c regs on)) := hid (by
        rw [HOK2.out]
        have q3 : ¬ on < 1 := by omega
        have q4 : ¬ 2000 < on := by omega
        simp [h1, h2, q3, q4])
      have hrg0 : 0 ≤ regs := by omega
      have hrg1 : regs ≤ 64 := by omega
      have KP := hid (fun (V : World) (hV : Below w.heap.size w V) (o : Opx) => KO.out V hV regs hrg0 hrg1 on hon2 o)
      generalize refOp c regs on = rop at HOK3 KP
      go_upto_region 7 with fail
      rw [← hA, ← hX]
      clear hA hX sc1 t0 t1 HOK2 hrg0 hrg1
      go_quiet (fail)
      obtain ⟨A2, hA2⟩ : ∃ A2, A2 = A.drewN nq := ⟨_, rfl⟩
      have bA2 : Below A.heap.size A A2 := by rw [hA2]; exact bel_dN (Below.refl _ _) _
      have e0 : A2.cell? ⟨X, 0, none⟩ = some (.int .i64 regs) := by rw [hA2]; exact g0
      have e1 : A2.cell? ⟨X, 1, none⟩ = some (.slice oa on oc) := by rw [hA2]; exact g1
      rw [← hA2]
      clear hA2 g0 g1 sA
      have BA2 := hid bA2
      clear bA2
      go_wp2
      go_loopg [9] on (fun g2 x wr2 => ∃ i : Nat, i + g2 = on ∧ x = .int .i64 (i : Int) ∧ (fx.ops.take i).all rop = true ∧ Below A.heap.size A wr2)
      case atStart => exact ⟨0, by omega, rfl, by simp, BA2.out⟩
      case round =>
        obtain ⟨i, hi, rfl, hq, hb2⟩ := hrel
        have bwr := BA0.out.trans (hb2.mono BA0.out.size)
        have mX := (hb2.block X (lt_of_heap MF.out)).trans MF.out
        clear e0 e1
        have e0 := cellOf mX 0
        have e1 := cellOf mX 1
        simp only [List.getElem?_toArray, List.getElem?_cons_zero, List.getElem?_cons_succ] at e0 e1
        cases gk with
        | zero =>
          have hin : i = on := by omega
          have HT : Hid (okat j = true) := hid (by rw [HOK3.out]; rw [hin, HON.out, List.take_of_length_le (Nat.le_refl _)] at hq; exact hq)
          subst hin
          have HB := hid bwr
          clear hq hb2 bwr mX
          go_wp2
          go_roundg g
          case measure => omega
          exact ⟨j + 1, by omega, by go_num, by rw [List.range_succ, List.all_append, HP.out]; simp [HT.out], HB.out⟩
        | succ g2 =>
          obtain ⟨o, ho⟩ : ∃ o, fx.ops[i]? = some o := ⟨fx.ops[i]'(by have := HON.out; omega), List.getElem?_eq_getElem _⟩
          obtain ⟨gC, gbw⟩ := GT.out wr bwr
          obtain ⟨ob, oo, rfl, hcl⟩ := ORr.out i o ho
          have hct : ∀ k, k < 5 → wr.cell? ⟨ob, oo + i * 5 + k, none⟩ = o.cs[k]? := fun k hk => by
            have h1 := hcl k hk
            obtain ⟨v, hv⟩ : ∃ v, o.cs[k]? = some v := by
              rcases (show k = 0 ∨ k = 1 ∨ k = 2 ∨ k = 3 ∨ k = 4 by omega) with rfl | rfl | rfl | rfl | rfl <;> exact ⟨_, rfl⟩
            rw [hv] at h1 ⊢
            exact belowCell h1 (Nat.le_refl _) (HWo.out.trans (hb2.mono HWo.out.size))
          have hiI : (i : Int) < (on : Int) := by omega
          have hi0 : (0 : Int) ≤ (i : Int) := by omega
          have hmem := List.mem_of_getElem? ho
          have ht : Hid (fx.ops.take (i + 1) = fx.ops.take i ++ [o]) := hid (by rw [List.take_add_one, ho]; rfl)
          have hno : Hid (rop o = false → res = false) := hid (fun h => HNj.out (by rw [HOK3.out, List.all_eq_false]; exact ⟨o, hmem, by simp [h]⟩))
          have KX := hid (KP.out wr.drew (gbw.trans ((Below.refl _ wr).drew.mono gbw.size)) o)
          obtain ⟨vv, hv⟩ : ∃ vv, rop o = vv := ⟨_, rfl⟩
          rw [hv] at KX hno
          have HV := hid hv
          have HQ := hid hq
          obtain ⟨xc, xd, xa, xb, xk⟩ := o
          have i0 := hct 0 (by omega)
          have i1 := hct 1 (by omega)
          have i2 := hct 2 (by omega)
          have i3 := hct 3 (by omega)
          have i4 := hct 4 (by omega)
          simp only [Opx.cs, List.getElem?_toArray, List.getElem?_cons_zero, List.getElem?_cons_succ, Nat.add_zero] at i0 i1 i2 i3 i4 KX
          have c0 := cellOf gC 0
          have c1 := cellOf gC 1
          have c2 := cellOf gC 2
          have c3 := cellOf gC 3
          have c4 := cellOf gC 4
          have c5 := cellOf gC 5
          have c6 := cellOf gC 6
          have c7 := cellOf gC 7
          simp only [List.getElem?_toArray, List.getElem?_cons_zero, List.getElem?_cons_succ] at c0 c1 c2 c3 c4 c5 c6 c7
          have ST : Hid (∀ v : World, Below wr.heap.size wr v → v.cell? ⟨w.heap.size, 0, none⟩ = some (.slice ra rn rc) ∧ v.cell? ⟨w.heap.size, 1, none⟩ = some (.slice ma mn mc) ∧ v.cell? ⟨w.heap.size, 2, none⟩ = some (.slice fa fn fc) ∧ v.cell? ⟨w.heap.size, 3, none⟩ = some (.slice ea en ec) ∧ v.cell? ⟨w.heap.size, 4, none⟩ = some (.slice ia inn ic) ∧ v.cell? ⟨w.heap.size, 5, none⟩ = some (.slice ta tn tc) ∧ v.cell? ⟨w.heap.size, 6, none⟩ = some (.slice ga gn gc) ∧ v.cell? ⟨w.heap.size, 7, none⟩ = some (.slice ha hn hc) ∧ v.cell? ⟨X, 0, none⟩ = some (.int .i64 regs) ∧ v.cell? ⟨X, 1, none⟩ = some (.slice (some ⟨ob, oo, none⟩) on oc) ∧ v.cell? ⟨ob, oo + i * 5, none⟩ = some (.int .i64 xc) ∧ v.cell? ⟨ob, oo + i * 5 + 1, none⟩ = some (.int .i64 xd) ∧ v.cell? ⟨ob, oo + i * 5 + 2, none⟩ = some (.int .i64 xa) ∧ v.cell? ⟨ob, oo + i * 5 + 3, none⟩ = some (.int .i64 xb) ∧ v.cell? ⟨ob, oo + i * 5 + 4, none⟩ = some (.int .i64 xk)) := hid (fun v hv => by
            have k : ∀ (p : Addr) (x : Value), wr.cell? p = some x → v.cell? p = some x := fun p x h => (hv.cell (p := p) (World.block_lt_of_cell? wr p h)).trans h
            exact ⟨k _ _ c0, k _ _ c1, k _ _ c2, k _ _ c3, k _ _ c4, k _ _ c5, k _ _ c6, k _ _ c7, k _ _ e0, k _ _ e1, k _ _ i0, k _ _ i1, k _ _ i2, k _ _ i3, k _ _ i4⟩)
          have KQ := hid (fun (V : World) (hV : Below wr.drew.heap.size wr.drew V) => (by
            have hW : Below wr.heap.size wr V := (Below.refl _ wr).drew.trans hV
            exact ⟨hb2.trans (hW.mono hb2.size), gbw.trans (hW.mono gbw.size), hW⟩ : Below A.heap.size A V ∧ Below w.heap.size w V ∧ Below wr.heap.size wr V))
          clear hq ho gC gbw hcl hct hmem bwr mX hv hb2
          cases vv with
          | true =>
            go_upto_region 12 with fail
            go_region_held3 (fun v => v.cell? ⟨w.heap.size, 0, none⟩ = some (.slice ra rn rc) ∧ v.cell? ⟨w.heap.size, 1, none⟩ = some (.slice ma mn mc) ∧ v.cell? ⟨w.heap.size, 2, none⟩ = some (.slice fa fn fc) ∧ v.cell? ⟨w.heap.size, 3, none⟩ = some (.slice ea en ec) ∧ v.cell? ⟨w.heap.size, 4, none⟩ = some (.slice ia inn ic) ∧ v.cell? ⟨w.heap.size, 5, none⟩ = some (.slice ta tn tc) ∧ v.cell? ⟨w.heap.size, 6, none⟩ = some (.slice ga gn gc) ∧ v.cell? ⟨w.heap.size, 7, none⟩ = some (.slice ha hn hc) ∧ v.cell? ⟨X, 0, none⟩ = some (.int .i64 regs) ∧ v.cell? ⟨X, 1, none⟩ = some (.slice (some ⟨ob, oo, none⟩) on oc) ∧ v.cell? ⟨ob, oo + i * 5, none⟩ = some (.int .i64 xc) ∧ v.cell? ⟨ob, oo + i * 5 + 1, none⟩ = some (.int .i64 xd) ∧ v.cell? ⟨ob, oo + i * 5 + 2, none⟩ = some (.int .i64 xa) ∧ v.cell? ⟨ob, oo + i * 5 + 3, none⟩ = some (.int .i64 xb) ∧ v.cell? ⟨ob, oo + i * 5 + 4, none⟩ = some (.int .i64 xk)) (first | exact s8 | go_keep) (first
              | (go_at_call 70; (refine (Hid.out KX).mono ?_; rintro e w8 ⟨rfl, hb8⟩; have HQ8 := hid (KQ.out w8 hb8); have s8 := ST.out w8 HQ8.out.2.2; clear hb8)))
            go_wp2
            go_roundg g2
            case measure => omega
            exact ⟨i + 1, by omega, by go_num, by rw [ht.out, List.all_append, HQ.out]; simp [HV.out], HQ8.out.1⟩
          | false =>
            have HF := hid (hno.out rfl)
            go_upto_region 12 with fail
            go_region_held3 (fun v => v.cell? ⟨w.heap.size, 0, none⟩ = some (.slice ra rn rc) ∧ v.cell? ⟨w.heap.size, 1, none⟩ = some (.slice ma mn mc) ∧ v.cell? ⟨w.heap.size, 2, none⟩ = some (.slice fa fn fc) ∧ v.cell? ⟨w.heap.size, 3, none⟩ = some (.slice ea en ec) ∧ v.cell? ⟨w.heap.size, 4, none⟩ = some (.slice ia inn ic) ∧ v.cell? ⟨w.heap.size, 5, none⟩ = some (.slice ta tn tc) ∧ v.cell? ⟨w.heap.size, 6, none⟩ = some (.slice ga gn gc) ∧ v.cell? ⟨w.heap.size, 7, none⟩ = some (.slice ha hn hc) ∧ v.cell? ⟨X, 0, none⟩ = some (.int .i64 regs) ∧ v.cell? ⟨X, 1, none⟩ = some (.slice (some ⟨ob, oo, none⟩) on oc) ∧ v.cell? ⟨ob, oo + i * 5, none⟩ = some (.int .i64 xc) ∧ v.cell? ⟨ob, oo + i * 5 + 1, none⟩ = some (.int .i64 xd) ∧ v.cell? ⟨ob, oo + i * 5 + 2, none⟩ = some (.int .i64 xa) ∧ v.cell? ⟨ob, oo + i * 5 + 3, none⟩ = some (.int .i64 xb) ∧ v.cell? ⟨ob, oo + i * 5 + 4, none⟩ = some (.int .i64 xk)) (first | exact s8 | go_keep) (first
              | (go_at_call 70; (refine (Hid.out KX).mono ?_; rintro e w8 ⟨rfl, hb8⟩; have HQ8 := hid (KQ.out w8 hb8); have s8 := ST.out w8 HQ8.out.2.2; clear hb8)))
            go_wp2
            go_ret
            exact ⟨by rw [HF.out]; rfl, HQ8.out.2.1⟩
end Go.Proofs.YthnolocldeokeaaGreat

namespace Go.Proofs.YthnolocldeokeaaGreat
set_option maxRecDepth 100000
open Go.RowKit Go.Deep Go.Shelf
set_option linter.unusedVariables false
set_option linter.unusedSimpArgs false

theorem ret_boolG {a b : Bool} (h : a = true ↔ b = true) : Ending.returned (.bool a) = .returned (.bool b) := congrArg _ (congrArg _ (Bool.eq_iff_iff.2 h))
theorem atS (s : ByteArray) (pos : Nat) (h : pos < s.size) : ∃ c, s[pos]'h = c ∧ s.data.toList[pos]? = some c := by
  have hl : pos < s.data.toList.length := by rw [Array.length_toList]; exact h
  refine ⟨s.data.toList[pos], ?_, List.getElem?_eq_getElem hl⟩
  simp
  rfl
def nvOk (g : Bool) (l : List UInt8) (j : Nat) : Bool := nmB (l.getD j 0).toNat && (decide (0 < j) || (if g then grB (l.getD j 0).toNat else smB (l.getD j 0).toNat))
def nvF (g : Bool) (l : List UInt8) : Nat → Bool
  | 0 => true
  | i + 1 => nvF g l i && nvOk g l i
theorem nvF_iff (g : Bool) (l : List UInt8) : ∀ n, nvF g l n = true ↔ ∀ j, j < n → nvOk g l j = true
  | 0 => by simp [nvF]
  | n + 1 => by
    simp only [nvF, Bool.and_eq_true, nvF_iff g l n]
    constructor
    · rintro ⟨h1, h2⟩ j hj
      rcases Nat.lt_or_ge j n with h | h
      · exact h1 j h
      · obtain rfl : j = n := by omega
        exact h2
    · intro h
      exact ⟨fun j hj => h j (by omega), h n (by omega)⟩
theorem nvF_no {g : Bool} {l : List UInt8} {i n : Nat} (hi : i < n) (h : nvOk g l i = false) : nvF g l n = false := by
  cases hx : nvF g l n
  · rfl
  · rw [(nvF_iff g l n).1 hx i hi] at h; cases h
theorem nvOk_pos {g : Bool} {l : List UInt8} {i : Nat} {c : UInt8} (h : 0 < i) (e : l[i]? = some c) : nvOk g l i = nmB c.toNat := by
  unfold nvOk
  rw [List.getD_eq_getElem?_getD, e, Option.getD_some, decide_eq_true h]
  simp
theorem nvOk_zero {g : Bool} {l : List UInt8} {c : UInt8} (e : l[0]? = some c) : nvOk g l 0 = (if g then grB c.toNat else smB c.toNat) := by
  unfold nvOk nmB
  rw [List.getD_eq_getElem?_getD, e, Option.getD_some]
  cases g <;> cases smB (c.toNat : Int) <;> cases grB (c.toNat : Int) <;> simp
/- A name that begins as it must. -/
def nmdB (g : Bool) (s : ByteArray) : Bool := nameB s && (if g then grB else smB) (s.data.toList.getD 0 0).toNat
theorem nmd_eq (g : Bool) (s : ByteArray) (h1 : 1 ≤ s.size) (h2 : s.size ≤ 20) : nmdB g s = nvF g s.data.toList s.size := by
  have hl : s.data.toList.length = s.size := Array.length_toList
  rw [Bool.eq_iff_iff, nvF_iff]
  unfold nmdB nameB
  rw [decide_eq_true h1, decide_eq_true h2]
  simp only [Bool.true_and, Bool.and_eq_true, List.all_eq_true]
  obtain ⟨c, hc⟩ : ∃ c, s.data.toList[0]? = some c := ⟨s.data.toList[0]'(by omega), List.getElem?_eq_getElem _⟩
  constructor
  · rintro ⟨ha, hf⟩ j hj
    obtain ⟨d, hd⟩ : ∃ d, s.data.toList[j]? = some d := ⟨s.data.toList[j]'(by omega), List.getElem?_eq_getElem _⟩
    cases j with
    | zero =>
      rw [nvOk_zero hd]
      rw [List.getD_eq_getElem?_getD, hd, Option.getD_some] at hf
      cases g <;> simpa using hf
    | succ j => rw [nvOk_pos (by omega) hd]; exact ha d (List.mem_of_getElem? hd)
  · intro h
    have h0 := h 0 (by omega)
    rw [nvOk_zero hc] at h0
    refine ⟨fun x hx => ?_, ?_⟩
    · obtain ⟨j, hj⟩ := List.getElem?_of_mem hx
      have hjl : j < s.size := by rw [← hl]; exact (List.getElem?_eq_some_iff.1 hj).1
      have := h j hjl
      unfold nvOk at this
      rw [List.getD_eq_getElem?_getD, hj, Option.getD_some, Bool.and_eq_true] at this
      exact this.1
    · rw [List.getD_eq_getElem?_getD, hc, Option.getD_some]
      cases g <;> simpa using h0
set_option maxRecDepth 100000 in
set_option maxHeartbeats 2000000 in
theorem refNamed (s : ByteArray) (g : Bool) (w : World) : Calls Tryz.prog 66 #[.string s, .bool g] w fun e w' => e = .returned (.bool (nmdB g s)) ∧ w' = w := by
  by_cases h1 : s.size < 1
  · have h1' : (s.size : Int) < 1 := by omega
    have hx : nmdB g s = false := by unfold nmdB nameB; rw [decide_eq_false (show ¬ 1 ≤ s.size by omega)]; rfl
    rw [hx]
    clear hx
    go_enter Tryz.func66, Tryz.ntmps66
    go_wp2
    go_ret
    exact ⟨rfl, rfl⟩
  · by_cases h2 : 20 < s.size
    · have h1' : ¬ (s.size : Int) < 1 := by omega
      have h2' : (20 : Int) < (s.size : Int) := by omega
      have hx : nmdB g s = false := by unfold nmdB nameB; rw [decide_eq_false (show ¬ s.size ≤ 20 by omega)]; simp
      rw [hx]
      clear hx
      go_enter Tryz.func66, Tryz.ntmps66
      go_wp2
      go_ret
      exact ⟨rfl, rfl⟩
    · have h1' : ¬ (s.size : Int) < 1 := by omega
      have h2' : ¬ (20 : Int) < (s.size : Int) := by omega
      rw [nmd_eq g s (by omega) (by omega)]
      have hnz : (nvF g s.data.toList 0) = true := rfl
      go_enter Tryz.func66, Tryz.ntmps66
      go_wp2
      go_loopg [5] s.size (fun gf ii wr => ∃ i : Nat, i + gf = s.size ∧ ii = .int .i64 (i : Int) ∧ wr = w ∧ nvF g s.data.toList i = true)
      case atStart => exact ⟨0, by omega, rfl, rfl, hnz⟩
      case round =>
        obtain ⟨i, hi, rfl, rfl, hok⟩ := hrel
        have HOK := hid hok
        clear hok hnz
        cases gk with
        | zero =>
          have hin : i = s.size := by omega
          subst hin
          clear hi
          go_wp2
          go_ret
          exact ⟨by rw [HOK.out]; rfl, rfl⟩
        | succ gf =>
          have hil : i < s.size := by omega
          have hil' : (i : Int) < (s.size : Int) := by omega
          obtain ⟨c, hc, hc1⟩ := atS s i hil
          have HC1 := hid hc1
          have Hi := hid hi
          clear hc1 hi
          have HIL := hid hil
          by_cases h95 : c.toNat = 95
          · have g1 : ((c.toNat : Int) == 95) = true := by simp; omega
            have g2 : (c.toNat : Int) = 95 := by omega
            by_cases hi0 : i = 0
            · subst hi0
              cases g
              · have Hv := hid (nvOk_zero (g := false) HC1.out)
                rw [if_neg (by decide)] at Hv
                go_wp2
                all_goals first
                  | (go_roundg gf
                     case measure => omega
                     case rel => exact ⟨0 + 1, by have := Hi.out; omega, by go_num, rfl, by rw [nvF, HOK.out, Hv.out, Bool.true_and]; simp [nmB, smB, grB]; omega⟩)
                  | (go_ret; exact ⟨by rw [nvF_no HIL.out (by rw [Hv.out]; simp [nmB, smB, grB]; omega)]; rfl, rfl⟩)
              · have Hv := hid (nvOk_zero (g := true) HC1.out)
                rw [if_pos rfl] at Hv
                go_wp2
                all_goals first
                  | (go_roundg gf
                     case measure => omega
                     case rel => exact ⟨0 + 1, by have := Hi.out; omega, by go_num, rfl, by rw [nvF, HOK.out, Hv.out, Bool.true_and]; simp [nmB, smB, grB]; omega⟩)
                  | (go_ret; exact ⟨by rw [nvF_no HIL.out (by rw [Hv.out]; simp [nmB, smB, grB]; omega)]; rfl, rfl⟩)
            · have Hv := hid (nvOk_pos (g := g) (Nat.pos_of_ne_zero hi0) HC1.out)
              have hi0' : ¬ (i : Int) = 0 := by omega
              go_wp2
              all_goals first
                | (go_roundg gf
                   case measure => omega
                   case rel => exact ⟨i + 1, by have := Hi.out; omega, by go_num, rfl, by rw [nvF, HOK.out, Hv.out, Bool.true_and]; simp [nmB, smB, grB]; omega⟩)
                | (go_ret; exact ⟨by rw [nvF_no HIL.out (by rw [Hv.out]; simp [nmB, smB, grB]; omega)]; rfl, rfl⟩)
          · have g1 : ((c.toNat : Int) == 95) = false := by simp; omega
            have g2 : ¬ (c.toNat : Int) = 95 := by omega
            by_cases hi0 : i = 0
            · subst hi0
              cases g
              · have Hv := hid (nvOk_zero (g := false) HC1.out)
                rw [if_neg (by decide)] at Hv
                go_wp2
                all_goals first
                  | (go_roundg gf
                     case measure => omega
                     case rel => exact ⟨0 + 1, by have := Hi.out; omega, by go_num, rfl, by rw [nvF, HOK.out, Hv.out, Bool.true_and]; simp [nmB, smB, grB]; omega⟩)
                  | (go_ret; exact ⟨by rw [nvF_no HIL.out (by rw [Hv.out]; simp [nmB, smB, grB]; omega)]; rfl, rfl⟩)
              · have Hv := hid (nvOk_zero (g := true) HC1.out)
                rw [if_pos rfl] at Hv
                go_wp2
                all_goals first
                  | (go_roundg gf
                     case measure => omega
                     case rel => exact ⟨0 + 1, by have := Hi.out; omega, by go_num, rfl, by rw [nvF, HOK.out, Hv.out, Bool.true_and]; simp [nmB, smB, grB]; omega⟩)
                  | (go_ret; exact ⟨by rw [nvF_no HIL.out (by rw [Hv.out]; simp [nmB, smB, grB]; omega)]; rfl, rfl⟩)
            · have Hv := hid (nvOk_pos (g := g) (Nat.pos_of_ne_zero hi0) HC1.out)
              have hi0' : ¬ (i : Int) = 0 := by omega
              go_wp2
              all_goals first
                | (go_roundg gf
                   case measure => omega
                   case rel => exact ⟨i + 1, by have := Hi.out; omega, by go_num, rfl, by rw [nvF, HOK.out, Hv.out, Bool.true_and]; simp [nmB, smB, grB]; omega⟩)
                | (go_ret; exact ⟨by rw [nvF_no HIL.out (by rw [Hv.out]; simp [nmB, smB, grB]; omega)]; rfl, rfl⟩)
/- Whether a name comes twice. -/
def dupB (ss : List ByteArray) : Bool := (List.range ss.length).any fun i => Lib.containsS (ss.take i) (ss.getD i ByteArray.empty)
theorem dupB_no {ss : List ByteArray} (h : ∀ i s, ss[i]? = some s → Lib.containsS (ss.take i) s = false) : dupB ss = false := by
  unfold dupB
  rw [List.any_eq_false]
  intro i hi
  have hl := List.mem_range.1 hi
  rw [List.getD_eq_getElem?_getD, List.getElem?_eq_getElem hl, Option.getD_some, h i _ (List.getElem?_eq_getElem hl)]
  simp
theorem dupB_yes {ss : List ByteArray} {i : Nat} {s : ByteArray} (e : ss[i]? = some s) (h : Lib.containsS (ss.take i) s = true) : dupB ss = true := by
  unfold dupB
  rw [List.any_eq_true]
  refine ⟨i, List.mem_range.2 (List.getElem?_eq_some_iff.1 e).1, ?_⟩
  rw [List.getD_eq_getElem?_getD, e]
  exact h
theorem namesB_split (g : Bool) (ss : List ByteArray) : namesB (if g then grB else smB) ss = (ss.all (nmdB g) && !dupB ss) := by
  rw [Bool.eq_iff_iff]
  constructor
  · intro h
    unfold namesB at h
    rw [List.all_eq_true] at h
    have h2 : ∀ i s, ss[i]? = some s → nmdB g s = true ∧ Lib.containsS (ss.take i) s = false := fun i s e => by
      have := h i (List.mem_range.2 (List.getElem?_eq_some_iff.1 e).1)
      rw [okAt_some e] at this
      simp only [Bool.and_eq_true, Bool.not_eq_true'] at this
      exact ⟨by unfold nmdB; rw [this.1.1, this.1.2]; rfl, this.2⟩
    rw [Bool.and_eq_true, List.all_eq_true, dupB_no (fun i s e => (h2 i s e).2)]
    refine ⟨fun s hs => ?_, rfl⟩
    obtain ⟨i, hi⟩ := List.getElem?_of_mem hs
    exact (h2 i s hi).1
  · intro h
    rw [Bool.and_eq_true, List.all_eq_true, Bool.not_eq_true'] at h
    refine namesB_yes fun j hj => ?_
    rw [okAt_some (List.getElem?_eq_getElem hj)]
    have h1 := h.1 _ (List.getElem_mem hj)
    have h2 : Lib.containsS (ss.take j) ss[j] = false := by
      cases hx : Lib.containsS (ss.take j) ss[j]
      · rfl
      · rw [dupB_yes (List.getElem?_eq_getElem hj) hx] at h; simp at h
    unfold nmdB at h1
    rw [h1, h2]
    rfl
theorem contains_take {ss : List ByteArray} {i : Nat} {s x : ByteArray} (e : ss[i]? = some s) : Lib.containsS (ss.take (i + 1)) x = (Lib.containsS (ss.take i) x || decide (x = s)) := by
  rw [Bool.eq_iff_iff, Bool.or_eq_true, Lib.containsS_iff, Lib.containsS_iff, List.take_add_one, e]
  simp
theorem toList_inj {x y : ByteArray} : (x.toList == y.toList) = decide (x = y) := by
  rw [Bool.eq_iff_iff, beq_iff_eq, decide_eq_true_eq, ByteArray.toList_eq, ByteArray.toList_eq]
  constructor
  · intro h; cases x; cases y; simp_all
  · rintro rfl; rfl
set_option maxRecDepth 100000 in
set_option maxHeartbeats 1000000 in
theorem refTwice (w : World) (a : Option Addr) (n cap : Nat) (ss : List ByteArray) (hn : n = ss.length) (hn2 : n ≤ 1000000) (d : SRd w a ss) : Calls Tryz.prog 67 #[.slice a n cap] w fun e w' => e = .returned (.bool (dupB ss)) ∧ Below w.heap.size w w' := by
  have hn2' : (n : Int) ≤ 1000000 := by omega
  have D := hid d
  have Hn := hid hn
  clear hn d
  go_enter Tryz.func67, Tryz.ntmps67
  go_wp2
  go_loopg [3] n (fun g ii wr => ∃ i : Nat, i + g = n ∧ ii = .int .i64 (i : Int) ∧ Below w.heap.size w wr ∧ ∀ j s, j < i → ss[j]? = some s → Lib.containsS (ss.take j) s = false)
  case atStart => exact ⟨0, by omega, rfl, Below.refl _ _, fun j s h => by omega⟩
  case round =>
    obtain ⟨i, hi, rfl, hbr, hno⟩ := hrel
    obtain ⟨wo, hwo⟩ : ∃ wo, wo = wr := ⟨_, rfl⟩
    subst hwo
    have HB := hid hbr
    have HN := hid hno
    clear hbr hno
    cases gk with
    | zero =>
      have hin : i = n := by omega
      subst hin
      clear hi
      go_wp2
      go_ret
      refine ⟨?_, HB.out⟩
      rw [dupB_no (fun j s e => HN.out j s (by rw [Hn.out]; exact (List.getElem?_eq_some_iff.1 e).1) e)]
      rfl
    | succ gi =>
      have hlt0 : i < n := by omega
      have hlt : (i : Int) < (n : Int) := by omega
      obtain ⟨s, hs⟩ : ∃ s, ss[i]? = some s := ⟨ss[i]'(by rw [← Hn.out]; exact hlt0), List.getElem?_eq_getElem _⟩
      have Hs := hid hs
      have Hi := hid hi
      clear hs hi
      go_wp2
      go_loopg [4] i (fun g kk wx => ∃ k : Nat, k + g = i ∧ kk = .int .i64 (k : Int) ∧ Below w.heap.size w wx ∧ Lib.containsS (ss.take k) s = false)
      case atStart => exact ⟨0, by omega, rfl, HB.out, rfl⟩
      case round =>
        obtain ⟨k, hk, rfl, hbk, hck⟩ := hrel
        have HCK := hid hck
        have HBK := hid hbk
        clear hck
        cases gk with
        | zero =>
          have hki : k = i := by omega
          subst hki
          clear hk hbk
          go_wp2
          go_roundg gi
          case measure => omega
          case rel => exact ⟨k + 1, by have := Hi.out; omega, by go_num, HBK.out, fun j s' hj e => by
            rcases Nat.lt_or_ge j k with h | h
            · exact HN.out j s' h e
            · obtain rfl : j = k := by omega
              rw [Hs.out] at e; cases e; exact HCK.out⟩
        | succ gj =>
          have hklt : k < i := by omega
          have hklt' : (k : Int) < (i : Int) := by omega
          have hkn : (k : Int) < (n : Int) := by omega
          obtain ⟨t, ht⟩ : ∃ t, ss[k]? = some t := ⟨ss[k]'(by rw [← Hn.out]; omega), List.getElem?_eq_getElem _⟩
          obtain ⟨_, b, off, ea, hc1⟩ := (D.out.below (Nat.le_refl _) hbk) i s Hs.out
          subst ea
          obtain ⟨_, b', off', ea, hc2⟩ := (D.out.below (Nat.le_refl _) hbk) k t ht
          cases ea
          have hmore := contains_take (x := s) ht
          have Hk := hid hk
          have HMo := hid hmore
          have Ht := hid ht
          clear hk hbk hmore ht
          cases heq : (s.toList == t.toList)
          · have Heq := hid heq
            go_wp2
            go_region_held3 (fun w2 => w2.cell? ⟨b, off + i, none⟩ = some (.string s) ∧ w2.cell? ⟨b, off + k, none⟩ = some (.string t)) (first | go_keep) (fail)
            go_wp2
            go_roundg gj
            case measure => omega
            case rel => exact ⟨k + 1, by have := Hk.out; omega, by go_num, HBK.out.trans (((Below.refl _ wr).drew).mono HBK.out.size), by rw [HMo.out, HCK.out, ← toList_inj, Heq.out]; rfl⟩
          · have Heq := hid heq
            have Hkl := hid hklt
            go_wp2
            go_region_held3 (fun w2 => w2.cell? ⟨b, off + i, none⟩ = some (.string s) ∧ w2.cell? ⟨b, off + k, none⟩ = some (.string t)) (first | go_keep) (fail)
            go_wp2
            go_ret
            refine ⟨?_, HBK.out.trans (((Below.refl _ wr).drew).mono HBK.out.size)⟩
            rw [dupB_yes Hs.out (by
              rw [Lib.containsS_iff]
              have e2 := Heq.out
              rw [toList_inj, decide_eq_true_eq] at e2
              rw [e2]
              exact List.mem_of_getElem? (i := k) (by rw [List.getElem?_take, if_pos Hkl.out]; exact Ht.out))]
            rfl
set_option maxRecDepth 100000 in
theorem refIsType (w : World) (h : PH) (k r : Int) (hn : h.rn ≤ 9223372036854775807) :
    Calls Tryz.prog 68 #[h.v, ty k r] w fun e w' => e = .returned (.bool (typB h.rn (k, r))) ∧ Below w.heap.size w w' := by
  obtain ⟨ra, rn, rc, ma, mn, mc, fa, fn, fc, ea, en, ec⟩ := h
  simp only [PH.v, ty] at hn ⊢
  have hb := two_boxes w #[.slice ra rn rc, .slice ma mn mc, .slice fa fn fc, .slice ea en ec] #[.int .i64 k, .int .i64 r] 26 46
  by_cases h4 : k = 4
  · subst h4
    have ht : typB rn (4, r) = (decide (0 ≤ r) && decide (r < (rn : Int))) := by simp [typB]
    rw [ht]
    clear ht
    go_enter Tryz.func68, Tryz.ntmps68
    go_wp2
    all_goals (go_ret; exact ⟨ret_boolG (by simp; try omega), hb⟩)
  · have ht : typB rn (k, r) = simB (k, r) := by simp [typB, h4]
    rw [ht]
    clear ht
    by_cases h1 : 1 ≤ k
    · by_cases h3 : k ≤ 3
      · by_cases hr : r = 0
        · subst hr
          go_enter Tryz.func68, Tryz.ntmps68
          go_wp2
          all_goals (go_ret; exact ⟨ret_boolG (by simp [simB]; try omega), hb⟩)
        · have hr' : (r == 0) = false := by simpa using hr
          go_enter Tryz.func68, Tryz.ntmps68
          go_wp2
          all_goals (go_ret; exact ⟨ret_boolG (by simp [simB]; try omega), hb⟩)
      · go_enter Tryz.func68, Tryz.ntmps68
        go_wp2
        all_goals (go_ret; exact ⟨ret_boolG (by simp [simB]; try omega), hb⟩)
    · go_enter Tryz.func68, Tryz.ntmps68
      go_wp2
      all_goals (go_ret; exact ⟨ret_boolG (by simp [simB]; try omega), hb⟩)
end Go.Proofs.YthnolocldeokeaaGreat

