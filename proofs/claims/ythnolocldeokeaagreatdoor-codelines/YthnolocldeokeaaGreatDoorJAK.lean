/- readList of signatures and of records. -/
import Derived.Test.YthnolocldeokeaaGreatDoorJAJ
namespace Go.Proofs.YthnolocldeokeaaGreatDoor
open Go.RowKit Go.Deep Go.Shelf
set_option linter.unusedVariables false
set_option linter.unusedSimpArgs false
set_option maxRecDepth 100000
theorem GNew.grownR {w w' : World} {B R : Nat} {p : GH × Sg} (h : GNew w B p) (hg : w.grownBy w' (some R)) (hR : R < B) : GNew w' B p := ⟨h.nm, h.ns, h.pr.grownR hg hR, h.rs⟩
theorem GNew.lower {w : World} {B C : Nat} {p : GH × Sg} (h : GNew w B p) (hC : C ≤ B) : GNew w C p := ⟨h.nm, h.ns, h.pr.lower hC, h.rs⟩
theorem RNw.grownR {w w' : World} {B R : Nat} {p : RH × Rc} (h : RNw w B p) (hg : w.grownBy w' (some R)) (hR : R < B) : RNw w' B p := ⟨h.nm, h.ns, h.fl, h.tl, h.fs, h.fr.grownR hg hR, h.tr.grownR hg hR⟩
theorem RNw.lower {w : World} {B C : Nat} {p : RH × Rc} (h : RNw w B p) (hC : C ≤ B) : RNw w C p := ⟨h.nm, h.ns, h.fl, h.tl, h.fs, h.fr.lower hC, h.tr.lower hC⟩
theorem RNw.below {w w' : World} {B C : Nat} {p : RH × Rc} (h : RNw w B p) (hC : w.heap.size ≤ C) (q : Below C w w') : RNw w' B p := ⟨h.nm, h.ns, h.fl, h.tl, h.fs, h.fr.below hC q, h.tr.below hC q⟩
theorem RNw.above {w w' : World} {B : Nat} {p : RH × Rc} (h : RNw w B p) (e : ∀ g, B ≤ g → g < w.heap.size → w'.heap[g]? = w.heap[g]?) : RNw w' B p := ⟨h.nm, h.ns, h.fl, h.tl, h.fs, h.fr.above e, h.tr.above e⟩
theorem RNw.other {F : TypeId} (h1 : 9 ≠ F) (h2 : 32 ≠ F) {q : Nat} {w w' : World} {B C : Nat} {r : Value} {m : List (List Value)} {p : RH × Rc} (h : RNw w B p) (g : KR F q w C r m) (hg : w.grownBy w' r.ownBlock) : RNw w' B p := ⟨h.nm, h.ns, h.fl, h.tl, h.fs, h.fr.other h1 g hg, h.tr.other h2 g hg⟩
theorem RNw.rd {w : World} {B : Nat} {p : RH × Rc} (h : RNw w B p) : RcRd w p.1 p.2 := by
  obtain ⟨⟨nm, fa, fn, fc, ta, tn, tc⟩, s⟩ := p
  obtain ⟨a1, cap1, e1, hc1, hr1, _, _⟩ := h.fr.rd
  obtain ⟨a2, cap2, e2, hc2, hr2, _, _⟩ := h.tr.rd
  injection e1 with e1a e1b e1c
  injection e2 with e2a e2b e2c
  simp only at *
  have hns := h.ns
  have hfl := h.fl
  have htl := h.tl
  simp only at hns hfl htl
  have l1 : fn = s.fields.length := by rw [e1b, List.length_map]
  have l2 : tn = s.types.length := by rw [e2b, List.length_map]
  exact ⟨h.nm, by show nm.size ≤ _; omega, l1, by rw [List.length_map] at hc1; show fn ≤ fc; omega, by show fn ≤ _; omega, h.fr.srd (fun x hx => by have := h.fs x hx; omega), l2, by show tn ≤ _; omega, by show TRd w ta s.types; rw [e2a]; exact CRd.trd hr2⟩
def RcsD (w : World) (B : Nat) (v : Value) (rs : List Rc) : Prop := ∃ l : List (RH × Rc), l.map (·.2) = rs ∧ KR 75 3 w B v (l.map fun p => p.1.cs) ∧ ∀ p ∈ l, RNw w B p
theorem RcsD.above {w w' : World} {B : Nat} {v : Value} {rs : List Rc} (h : RcsD w B v rs) (e : ∀ g, B ≤ g → g < w.heap.size → w'.heap[g]? = w.heap[g]?) : RcsD w' B v rs := by
  obtain ⟨l, h1, h2, h3⟩ := h
  exact ⟨l, h1, h2.above e, fun p hp => (h3 p hp).above e⟩
theorem RcsD.lower {w : World} {B C : Nat} {v : Value} {rs : List Rc} (h : RcsD w B v rs) (hC : C ≤ B) : RcsD w C v rs := by
  obtain ⟨l, h1, h2, h3⟩ := h
  exact ⟨l, h1, h2.lower hC, fun p hp => (h3 p hp).lower hC⟩
/- What a reader of such a list answers. -/
def LgP (w : World) (R D : Nat) (ss : List Sg) (s : Option (List Nat)) (e : Ending) (w' : World) : Prop := ∃ v, e = .returned v ∧ SgsN w' w.heap.size v ss ∧ Rst w' R D s ∧ w.grownBy w' (some R)
def LrP (w : World) (R D : Nat) (ss : List Rc) (s : Option (List Nat)) (e : Ending) (w' : World) : Prop := ∃ v, e = .returned v ∧ RcsD w' w.heap.size v ss ∧ Rst w' R D s ∧ w.grownBy w' (some R)
set_option maxHeartbeats 4000000 in
theorem rdSigs_any (w : World) (R D : Nat) (s : Option (List Nat)) (most : Nat) (h : Rst w R D s) (hm : most ≤ 100000) :
    Calls Tryz.prog 36 #[.pointer (some ⟨R, 0, none⟩), .int .u64 (most : Int), .func (.func 37) #[.pointer (some ⟨R, 0, none⟩)] #[]] w (LgP w R D (rL rSg most s).1 (rL rSg most s).2) := by
  have K0 := count_any w R D s most h
  have hle := rC_le most s
  have hso := rC_some most s
  obtain ⟨n, s1, hq⟩ : ∃ n s1, rC most s = (n, s1) := ⟨_, _, rfl⟩
  simp only [rL, hq] at K0 hle hso ⊢
  have K0 := hid K0
  have HSO := hid hso
  have ONE := hid (fun (V : World) (t : Option (List Nat)) (hV : Rst V R D t) => sig_any V R D t hV)
  have hRD : R < D := h.hR
  have hDw : D ≤ w.heap.size := h.hD
  have nI : (n : Int) ≤ 100000 := by omega
  have FL : Hid (∀ (V : World) (t : Option (List Nat)), Rst V R D t → V.cell? ⟨R, 1, none⟩ = some (.bool t.isNone)) := hid (fun V t hV => by
    obtain ⟨⟨a, n, c, h1, _⟩, _⟩ := hV
    exact cellOf h1 1)
  clear h hq hso
  go_enter Tryz.func36, Tryz.ntmps36
  go_wp2_with (go_at_call 58; (refine (Hid.out K0).mono ?_; rintro e w0 ⟨rfl, hs, hg⟩; have HS0 := hid hs; have HG0 := hid hg; clear hs hg))
  clear K0
  go_loopg [7, 12] n (fun g v x wr => ∃ j : Nat, j + g = n ∧ x = .int .u64 (j : Int) ∧ SgsN wr w.heap.size v (rLn rSg j s1).1 ∧ Rst wr R D (rLn rSg j s1).2 ∧ ((rLn rSg j s1).2 ≠ none ∨ n = 0) ∧ w.grownBy wr (some R))
  case atStart => exact ⟨0, by omega, rfl, ⟨[], rfl, KR.nil _ _ _ _, fun p hp => by simp at hp⟩, HS0.out, (Nat.eq_zero_or_pos n).elim .inr (fun h => .inl (HSO.out h)), HG0.out⟩
  case round =>
    obtain ⟨j, hj, rfl, hk, hs, hn, hg⟩ := hrel
    obtain ⟨v, hv⟩ : ∃ v, v = u7 := ⟨_, rfl⟩
    subst hv
    cases gk with
    | zero =>
      have hjn : j = n := by omega
      subst hjn
      have HK := hid hk
      have HS := hid hs
      have HG := hid hg
      clear hk hs hg hn
      go_wp2
      go_ret
      exact ⟨_, rfl, HK.out, HS.out, HG.out⟩
    | succ g =>
      have hnn : (rLn rSg j s1).2 ≠ none := hn.resolve_right (by omega)
      obtain ⟨xs, st, hx⟩ : ∃ xs st, rLn rSg j s1 = (xs, st) := ⟨_, _, rfl⟩
      have hlx := rLn_len (one := rSg) j s1
      rw [hx] at hk hnn hlx hs
      simp only at hk hnn hlx hs
      obtain ⟨bs, rfl⟩ : ∃ bs, st = some bs := Option.ne_none_iff_exists'.1 hnn
      have K1 := ONE.out wr (some bs) hs
      obtain ⟨xx, s2, hy⟩ : ∃ xx s2, rSg (some bs) = (xx, s2) := ⟨_, _, rfl⟩
      have hjI : (j : Int) < (n : Int) := by omega
      have hj0 : (0 : Int) ≤ (j : Int) := by omega
      obtain ⟨gs', hg1, hg2, hg3⟩ := hk
      have hlm : (gs'.map fun p => p.1.cs).length ≤ 1000000 := by
        have := congrArg List.length hg1
        rw [List.length_map] at this ⊢
        omega
      have HG := hid hg
      have HK := hid hg2
      have HE := hid hg3
      have HL := hid hg1
      rw [hy] at K1
      simp only at K1
      have K1 := hid K1
      have HX := hid hx
      have HY := hid hy
      have HJ := hid hj
      have hwr := hg.size
      clear hg1 hg2 hg3 hs hn hg hnn hlx hx hy
      go_upto_region 5 with (go_at_call 37; (refine (Hid.out K1).mono ?_; rintro e w1 ⟨⟨nm, pa, pn, pc, kd, rr⟩, rfl, hn1, hs1, hg1⟩; have HN1 := hid hn1; have HS1 := hid hs1; have HG1 := hid hg1; clear hn1 hs1 hg1))
      obtain ⟨A, hA⟩ : ∃ A, A = w1.alloc (.cells #[.string nm, .slice pa pn pc, .int .i64 kd, .int .i64 rr] 35) := ⟨_, rfl⟩
      obtain ⟨Y, hY⟩ : ∃ Y, Y = w1.heap.size := ⟨_, rfl⟩
      have bA : Below w1.heap.size w1 A := by rw [hA]; exact (Below.refl _ _).alloc (Nat.le_refl _) _
      have mY : A.heap[Y]? = some (.cells #[.string nm, .slice pa pn pc, .int .i64 kd, .int .i64 rr] 35 (0, 0)) := by rw [hA, hY]; exact heap_alloc_new w1 _
      rw [← hA, ← hY]
      clear hA hY
      have y0 := cellOf mY 0
      have y1 := cellOf mY 1
      have y2 := cellOf mY 2
      have y3 := cellOf mY 3
      simp only [List.getElem?_toArray, List.getElem?_cons_zero, List.getElem?_cons_succ] at y0 y1 y2 y3
      clear mY
      have SA := hid (HS1.out.below bA)
      have GA := hid (gbelow (gtrans HG.out HG1.out) bA)
      have KA := hid ((HK.out.grownR HG1.out (by omega)).below (Nat.le_refl _) bA)
      have EA : Hid (∀ p ∈ gs' ++ [((⟨nm, pa, pn, pc, kd, rr⟩ : GH), xx)], GNew A w.heap.size p) := hid (fun p hp => by
        rcases List.mem_append.1 hp with hp | hp
        · exact ((HE.out p hp).grownR HG1.out (by omega)).below (Nat.le_refl _) bA
        · simp at hp
          subst hp
          exact (HN1.out.lower hwr).below (Nat.le_refl _) bA)
      have c1 := FL.out A _ SA.out
      clear bA
      cases s2 with
      | none =>
        simp only [Option.isNone_none] at c1
        go_wp2
        go_ret
        have e1 : rLn rSg n s1 = ([], none) := by
          have := rLn_stop (rLn_fail HX.out HY.out) g
          rw [show j + 1 + g = n from by have := HJ.out; omega] at this; exact this
        rw [e1]
        exact ⟨_, rfl, ⟨[], rfl, KR.nil _ _ _ _, fun p hp => by simp at hp⟩, SA.out, GA.out⟩
      | some bs2 =>
        simp only [Option.isNone_some] at c1
        have BA : Hid (Below A.heap.size A (A.alloc (.cells #[.string nm, .slice pa pn pc, .int .i64 kd, .int .i64 rr] 35))) := hid ((Below.refl _ A).alloc (Nat.le_refl _) _)
        have hwA : w.heap.size ≤ (A.alloc (.cells #[.string nm, .slice pa pn pc, .int .i64 kd, .int .i64 rr] 35)).heap.size := by rw [World.size_alloc]; have := GA.out.size; omega
        go_wp2_with (at_builtin; refine wpList_appK Tryz.underlying36 infoG rfl (by decide) (by decide) (A.alloc (.cells #[.string nm, .slice pa pn pc, .int .i64 kd, .int .i64 rr] 35)) rfl _ _ rfl _ (.slice (some ⟨A.heap.size, 0, none⟩) 1 1) (by rfl) (by rfl) w.heap.size (gs'.map fun p => p.1.cs) (KA.out.below (Nat.le_refl _) BA.out) (some ⟨A.heap.size, 0, none⟩) 1 1 rfl [(⟨nm, pa, pn, pc, kd, rr⟩ : GH).cs] rfl (crd_one 35 A ((⟨nm, pa, pn, pc, kd, rr⟩ : GH).cs) 4 rfl) (rk_gh _) (fun e => by cases e) hlm (by omega) hwA ?_; intro v2 w2 h1 h2 h3; have H1 := hid h1; have H2 := hid h2; clear h1 h2 h3)
        go_roundg g
        case measure => omega
        have hA2 := gbelow GA.out BA.out
        have kr2 := KA.out.below (Nat.le_refl _) BA.out
        exact ⟨j + 1, by omega, by go_num, by rw [rLn_step HX.out HY.out]; exact ⟨gs' ++ [((⟨nm, pa, pn, pc, kd, rr⟩ : GH), xx)], by rw [List.map_append, HL.out]; rfl, by rw [List.map_append]; exact H1.out, fun p hp => ((EA.out p hp).below (Nat.le_refl _) BA.out).other (by decide) kr2 H2.out⟩, by rw [rLn_step HX.out HY.out]; exact (SA.out.below BA.out).grown H2.out (fun r e => by have := (kr2.own e).1; omega), by rw [rLn_step HX.out HY.out]; exact .inl (by simp), grown_own hA2 kr2 H2.out⟩
set_option maxHeartbeats 4000000 in
theorem rdRecords_any (w : World) (R D : Nat) (s : Option (List Nat)) (most : Nat) (h : Rst w R D s) (hm : most ≤ 100000) :
    Calls Tryz.prog 32 #[.pointer (some ⟨R, 0, none⟩), .int .u64 (most : Int), .func (.func 33) #[.pointer (some ⟨R, 0, none⟩)] #[]] w (LrP w R D (rL rRc most s).1 (rL rRc most s).2) := by
  have K0 := count_any w R D s most h
  have hle := rC_le most s
  have hso := rC_some most s
  obtain ⟨n, s1, hq⟩ : ∃ n s1, rC most s = (n, s1) := ⟨_, _, rfl⟩
  simp only [rL, hq] at K0 hle hso ⊢
  have K0 := hid K0
  have HSO := hid hso
  have ONE := hid (fun (V : World) (t : Option (List Nat)) (hV : Rst V R D t) => record_any V R D t hV)
  have hRD : R < D := h.hR
  have hDw : D ≤ w.heap.size := h.hD
  have nI : (n : Int) ≤ 100000 := by omega
  have FL : Hid (∀ (V : World) (t : Option (List Nat)), Rst V R D t → V.cell? ⟨R, 1, none⟩ = some (.bool t.isNone)) := hid (fun V t hV => by
    obtain ⟨⟨a, n, c, h1, _⟩, _⟩ := hV
    exact cellOf h1 1)
  clear h hq hso
  go_enter Tryz.func32, Tryz.ntmps32
  go_wp2_with (go_at_call 58; (refine (Hid.out K0).mono ?_; rintro e w0 ⟨rfl, hs, hg⟩; have HS0 := hid hs; have HG0 := hid hg; clear hs hg))
  clear K0
  go_loopg [7, 12] n (fun g v x wr => ∃ j : Nat, j + g = n ∧ x = .int .u64 (j : Int) ∧ RcsD wr w.heap.size v (rLn rRc j s1).1 ∧ Rst wr R D (rLn rRc j s1).2 ∧ ((rLn rRc j s1).2 ≠ none ∨ n = 0) ∧ w.grownBy wr (some R))
  case atStart => exact ⟨0, by omega, rfl, ⟨[], rfl, KR.nil _ _ _ _, fun p hp => by simp at hp⟩, HS0.out, (Nat.eq_zero_or_pos n).elim .inr (fun h => .inl (HSO.out h)), HG0.out⟩
  case round =>
    obtain ⟨j, hj, rfl, hk, hs, hn, hg⟩ := hrel
    obtain ⟨v, hv⟩ : ∃ v, v = u7 := ⟨_, rfl⟩
    subst hv
    cases gk with
    | zero =>
      have hjn : j = n := by omega
      subst hjn
      have HK := hid hk
      have HS := hid hs
      have HG := hid hg
      clear hk hs hg hn
      go_wp2
      go_ret
      exact ⟨_, rfl, HK.out, HS.out, HG.out⟩
    | succ g =>
      have hnn : (rLn rRc j s1).2 ≠ none := hn.resolve_right (by omega)
      obtain ⟨xs, st, hx⟩ : ∃ xs st, rLn rRc j s1 = (xs, st) := ⟨_, _, rfl⟩
      have hlx := rLn_len (one := rRc) j s1
      rw [hx] at hk hnn hlx hs
      simp only at hk hnn hlx hs
      obtain ⟨bs, rfl⟩ : ∃ bs, st = some bs := Option.ne_none_iff_exists'.1 hnn
      have K1 := ONE.out wr (some bs) hs
      obtain ⟨xx, s2, hy⟩ : ∃ xx s2, rRc (some bs) = (xx, s2) := ⟨_, _, rfl⟩
      have hjI : (j : Int) < (n : Int) := by omega
      have hj0 : (0 : Int) ≤ (j : Int) := by omega
      obtain ⟨gs', hg1, hg2, hg3⟩ := hk
      have hlm : (gs'.map fun p => p.1.cs).length ≤ 1000000 := by
        have := congrArg List.length hg1
        rw [List.length_map] at this ⊢
        omega
      have HG := hid hg
      have HK := hid hg2
      have HE := hid hg3
      have HL := hid hg1
      rw [hy] at K1
      simp only at K1
      have K1 := hid K1
      have HX := hid hx
      have HY := hid hy
      have HJ := hid hj
      have hwr := hg.size
      clear hg1 hg2 hg3 hs hn hg hnn hlx hx hy
      go_upto_region 5 with (go_at_call 33; (refine (Hid.out K1).mono ?_; rintro e w1 ⟨⟨nm, fa, fn, fc, ta, tn, tc⟩, rfl, hn1, hs1, hg1⟩; have HN1 := hid hn1; have HS1 := hid hs1; have HG1 := hid hg1; clear hn1 hs1 hg1))
      obtain ⟨A, hA⟩ : ∃ A, A = w1.alloc (.cells #[.string nm, .slice fa fn fc, .slice ta tn tc] 75) := ⟨_, rfl⟩
      obtain ⟨Y, hY⟩ : ∃ Y, Y = w1.heap.size := ⟨_, rfl⟩
      have bA : Below w1.heap.size w1 A := by rw [hA]; exact (Below.refl _ _).alloc (Nat.le_refl _) _
      have mY : A.heap[Y]? = some (.cells #[.string nm, .slice fa fn fc, .slice ta tn tc] 75 (0, 0)) := by rw [hA, hY]; exact heap_alloc_new w1 _
      rw [← hA, ← hY]
      clear hA hY
      have y0 := cellOf mY 0
      have y1 := cellOf mY 1
      have y2 := cellOf mY 2
      simp only [List.getElem?_toArray, List.getElem?_cons_zero, List.getElem?_cons_succ] at y0 y1 y2
      clear mY
      have SA := hid (HS1.out.below bA)
      have GA := hid (gbelow (gtrans HG.out HG1.out) bA)
      have KA := hid ((HK.out.grownR HG1.out (by omega)).below (Nat.le_refl _) bA)
      have EA : Hid (∀ p ∈ gs' ++ [((⟨nm, fa, fn, fc, ta, tn, tc⟩ : RH), xx)], RNw A w.heap.size p) := hid (fun p hp => by
        rcases List.mem_append.1 hp with hp | hp
        · exact ((HE.out p hp).grownR HG1.out (by omega)).below (Nat.le_refl _) bA
        · simp at hp
          subst hp
          exact (HN1.out.lower hwr).below (Nat.le_refl _) bA)
      have c1 := FL.out A _ SA.out
      clear bA
      cases s2 with
      | none =>
        simp only [Option.isNone_none] at c1
        go_wp2
        go_ret
        have e1 : rLn rRc n s1 = ([], none) := by
          have := rLn_stop (rLn_fail HX.out HY.out) g
          rw [show j + 1 + g = n from by have := HJ.out; omega] at this; exact this
        rw [e1]
        exact ⟨_, rfl, ⟨[], rfl, KR.nil _ _ _ _, fun p hp => by simp at hp⟩, SA.out, GA.out⟩
      | some bs2 =>
        simp only [Option.isNone_some] at c1
        have BA : Hid (Below A.heap.size A (A.alloc (.cells #[.string nm, .slice fa fn fc, .slice ta tn tc] 75))) := hid ((Below.refl _ A).alloc (Nat.le_refl _) _)
        have hwA : w.heap.size ≤ (A.alloc (.cells #[.string nm, .slice fa fn fc, .slice ta tn tc] 75)).heap.size := by rw [World.size_alloc]; have := GA.out.size; omega
        go_wp2_with (at_builtin; refine wpList_appK Tryz.underlying37 infoR rfl (by decide) (by decide) (A.alloc (.cells #[.string nm, .slice fa fn fc, .slice ta tn tc] 75)) rfl _ _ rfl _ (.slice (some ⟨A.heap.size, 0, none⟩) 1 1) (by rfl) (by rfl) w.heap.size (gs'.map fun p => p.1.cs) (KA.out.below (Nat.le_refl _) BA.out) (some ⟨A.heap.size, 0, none⟩) 1 1 rfl [(⟨nm, fa, fn, fc, ta, tn, tc⟩ : RH).cs] rfl (crd_one 75 A ((⟨nm, fa, fn, fc, ta, tn, tc⟩ : RH).cs) 3 rfl) (rk_rh _) (fun e => by cases e) hlm (by omega) hwA ?_; intro v2 w2 h1 h2 h3; have H1 := hid h1; have H2 := hid h2; clear h1 h2 h3)
        go_roundg g
        case measure => omega
        have hA2 := gbelow GA.out BA.out
        have kr2 := KA.out.below (Nat.le_refl _) BA.out
        exact ⟨j + 1, by omega, by go_num, by rw [rLn_step HX.out HY.out]; exact ⟨gs' ++ [((⟨nm, fa, fn, fc, ta, tn, tc⟩ : RH), xx)], by rw [List.map_append, HL.out]; rfl, by rw [List.map_append]; exact H1.out, fun p hp => ((EA.out p hp).below (Nat.le_refl _) BA.out).other (by decide) (by decide) kr2 H2.out⟩, by rw [rLn_step HX.out HY.out]; exact (SA.out.below BA.out).grown H2.out (fun r e => by have := (kr2.own e).1; omega), by rw [rLn_step HX.out HY.out]; exact .inl (by simp), grown_own hA2 kr2 H2.out⟩
end Go.Proofs.YthnolocldeokeaaGreatDoor

