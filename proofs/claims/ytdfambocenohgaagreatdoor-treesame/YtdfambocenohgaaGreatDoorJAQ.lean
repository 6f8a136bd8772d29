/- tree.Same. -/
import Derived.Test.YtdfambocenohgaaGreatDoorJAP
namespace Go.Proofs.YtdfambocenohgaaGreatDoor
open Go.RowKit Go.Deep
set_option linter.unusedVariables false
set_option linter.unusedSimpArgs false
attribute [local go_sem] Oper.semAt_some
theorem cell_own {W W' : World} {row : Option Nat} {B b o : Nat} {v : Value} (hc : W.cell? ⟨b, o, none⟩ = some v) (hg : W.grownBy W' row) (hr : ∀ r, row = some r → B ≤ r ∧ ∃ o : Obj, W.heap[r]? = some o ∧ o.isCells = false) : W'.cell? ⟨b, o, none⟩ = some v := by
  have hb := World.block_lt_of_cell? W _ hc
  rw [World.cell?_of_block (w := W) (w' := W') (a := ⟨b, o, none⟩) (hg.block b hb (fun e => by
    obtain ⟨_, ob, ho, hcl⟩ := hr b e.symm
    simp only [World.cell?, ho] at hc
    cases ob with
    | cells c t f => cases hcl
    | _ => simp at hc))]
  exact hc
theorem nrd_own {W W' : World} {row : Option Nat} {B : Nat} {a : Option Addr} {l : List Value} (h : NRd W a l) (hg : W.grownBy W' row) (hr : ∀ r, row = some r → B ≤ r ∧ ∃ o : Obj, W.heap[r]? = some o ∧ o.isCells = false) : NRd W' a l := fun j v e => by
  obtain ⟨b, off, ea, hc⟩ := h j v e
  exact ⟨b, off, ea, cell_own hc hg hr⟩
theorem prds_below {W W' : World} {p : Part} (h : PRds W p) (hb : Below W.heap.size W W') : PRds W' p := by
  rcases p with (q | q) | (q | q)
  · exact THr.below h (Nat.le_refl _) hb
  · exact DHr.below h (Nat.le_refl _) hb
  · exact SHr.below h (Nat.le_refl _) hb
  · exact EHr.below h (Nat.le_refl _) hb
def GI (w0 w : World) (R Y : Nat) (ps qs : List Part) (pre : List (Fin ps.length)) (W : World) : Prop :=
  (∃ a n c, W.heap[Y]? = some (.cells #[.slice a n c] 82 (0, 0)) ∧ (n + pre.length = qs.length ∧ n ≤ c) ∧ NRd W a ((qs.drop pre.length).map labP)) ∧ (∀ (i : Nat) (x : Fin ps.length) (q : Part), pre[i]? = some x → qs[i]? = some q → alikeP ps[x] q = true) ∧ W.heap[R]? = some (.cells #[.bool false] 4 (0, 0)) ∧ Below w.heap.size w W ∧ Below w0.heap.size w0 W
theorem GI_own (w0 w : World) (R Y : Nat) (ps qs : List Part) {B : Nat} (hB : w.heap.size ≤ B) (hB0 : w0.heap.size ≤ B) : OwnFrom B (GI w0 w R Y ps qs) := fun s A A' row ⟨⟨a, n, c, h1, h2, h3⟩, h4, h5, h6, h7⟩ hg hr =>
  ⟨⟨a, n, c, keep_cells h1 hg hr, h2, nrd_own h3 hg hr⟩, h4, keep_cells h5 hg hr, ownFrom_below (β := Unit) (Nat.le_refl _) hB () A A' row h6 hg hr, ownFrom_below (β := Unit) (Nat.le_refl _) hB0 () A A' row h7 hg hr⟩
def GZ (w : World) (R : Nat) (ps qs : List Part) (c : Code) (pre : List (Fin ps.length)) (W : World) : Prop :=
  c = .ret ∧ (∃ (m : Nat) (x : Fin ps.length), pre[m]? = some x ∧ (qs.length ≤ m ∨ ∃ q, qs[m]? = some q ∧ alikeP ps[x] q = false)) ∧ W.heap[R]? = some (.cells #[.bool false] 4 (0, 0)) ∧ Below w.heap.size w W
theorem GZ_own (w : World) (R : Nat) (ps qs : List Part) (c : Code) {B : Nat} (hB : w.heap.size ≤ B) : OwnFrom B (GZ w R ps qs c) := fun s A A' row hs hg hr =>
  ⟨hs.1, hs.2.1, keep_cells hs.2.2.1 hg hr, ownFrom_below (β := Unit) (Nat.le_refl _) hB () A A' row hs.2.2.2 hg hr⟩
def AlkL (ps qs : List Part) : Prop := AllP (fun p q => alikeP p q = true) ps qs
theorem fin_at {n m : Nat} {x : Fin n} (h : (List.finRange n)[m]? = some x) : x.1 = m := by
  obtain ⟨h1, h2⟩ := List.getElem?_eq_some_iff.1 h
  rw [← h2]; simp
set_option maxRecDepth 100000 in
set_option maxHeartbeats 2000000 in
theorem same_any (k1 k2 : Nat) (w : World) (t : TT k1) (u : TT k2) (d : TVs k1 w t) (e : TVs k2 w u) (hl1 : (inT t).length ≤ 100000) (hl2 : (inT u).length ≤ 100000) :
    ∃ X1 X2, Calls Tryz.prog 22 #[.agg t.h.cs, .agg u.h.cs] w (DcP w (AlkL (ptT (t.atB X1)) (ptT (u.atB X2)))) := by
  refine ⟨w.heap.size, w.heap.size + 1, ?_⟩
  have hro : Fence.wide.round = none := rfl
  obtain ⟨Wa, hWa⟩ : ∃ W, W = w.alloc (.cells t.h.cs 24) := ⟨_, rfl⟩
  obtain ⟨Wb, hWb⟩ : ∃ W, W = Wa.alloc (.cells u.h.cs 24) := ⟨_, rfl⟩
  obtain ⟨Wc, hWc⟩ : ∃ W, W = Wb.alloc (.cells #[.bool false] 4) := ⟨_, rfl⟩
  obtain ⟨Wd, hWd⟩ : ∃ W, W = Wc.alloc (.cells #[.iface 58 (.pointer (some ⟨w.heap.size + 1, 0, none⟩))] 20) := ⟨_, rfl⟩
  have za : Wa.heap.size = w.heap.size + 1 := by rw [hWa]; simp
  have zb : Wb.heap.size = w.heap.size + 1 + 1 := by rw [hWb]; simp [za]
  have zc : Wc.heap.size = w.heap.size + 1 + 1 + 1 := by rw [hWc]; simp [zb]
  have zd : Wd.heap.size = w.heap.size + 1 + 1 + 1 + 1 := by rw [hWd]; simp [zc]
  have ba : Below w.heap.size w Wa := by rw [hWa]; exact (Below.refl _ w).alloc (Nat.le_refl _) _
  have bb : Below Wa.heap.size Wa Wb := by rw [hWb]; exact (Below.refl _ _).alloc (Nat.le_refl _) _
  have bc : Below Wb.heap.size Wb Wc := by rw [hWc]; exact (Below.refl _ _).alloc (Nat.le_refl _) _
  have bd : Below Wc.heap.size Wc Wd := by rw [hWd]; exact (Below.refl _ _).alloc (Nat.le_refl _) _
  have bwb : Below w.heap.size w Wb := ba.trans (bb.mono ba.size)
  have bbd : Below Wb.heap.size Wb Wd := bc.trans (bd.mono bc.size)
  have ma : Wb.heap[w.heap.size]? = some (.cells t.h.cs 24 (0, 0)) := (bb.block _ (by omega)).trans (by rw [hWa]; exact heap_alloc_new w _)
  have mb : Wb.heap[w.heap.size + 1]? = some (.cells u.h.cs 24 (0, 0)) := by rw [← za, hWb]; exact heap_alloc_new Wa _
  have mc : Wd.heap[w.heap.size + 1 + 1]? = some (.cells #[.bool false] 4 (0, 0)) := (bd.block _ (by omega)).trans (by rw [← zb, hWc]; exact heap_alloc_new Wb _)
  have md : Wd.heap[w.heap.size + 1 + 1 + 1]? = some (.cells #[.iface 58 (.pointer (some ⟨w.heap.size + 1, 0, none⟩))] 20 (0, 0)) := by rw [← zc, hWd]; exact heap_alloc_new Wc _
  have wa := whole_tree ((d.below (Nat.le_refl _) bwb).box ma)
  have wb := whole_tree ((e.below (Nat.le_refl _) bwb).box mb)
  obtain ⟨ps, hps⟩ : ∃ ps, ps = ptT (t.atB w.heap.size) := ⟨_, rfl⟩
  obtain ⟨qs, hqs⟩ : ∃ qs, qs = ptT (u.atB (w.heap.size + 1)) := ⟨_, rfl⟩
  rw [← hps] at wa ⊢
  rw [← hqs] at wb ⊢
  have lp : ps.length ≤ 100001 := by rw [hps, ptT_at, List.length_cons]; omega
  have lq : qs.length ≤ 100001 := by rw [hqs, ptT_at, List.length_cons]; omega
  have KC := hid (collect_any Wb _ qs wb (w.heap.size + 1 + 1 + 1) Wd bbd md (by omega))
  have KX : Hid (∀ (x : Fin ps.length) (q : Part) (W : World), q ∈ qs → Below Wb.heap.size Wb W → Calls Tryz.prog 45 #[labP ps[x], labP q] W fun e w' => e = .returned (.bool (alikeP ps[x] q)) ∧ Below W.heap.size W w') := hid (fun x q W hq hW => alike_any W _ _ (prds_below (wa.rd _ (List.getElem_mem _)) hW) (prds_below (wb.rd _ hq) hW))
  have WA := hid wa
  have BBD := hid bbd
  have BWB := hid bwb
  have MC := hid mc
  clear d e ma mb mc md wa wb hps hqs hl1 hl2 ba bb bc bd bbd bwb
  simp only [TH.cs] at hWa hWb ⊢
  refine (callsIn_wide (n := 6)).1 ?_
  refine callsIn_of_wp_marks Tryz.func22 rfl trivial ?_ hro
  simp only [Tryz.ntmps22, List.size_toArray, List.length_cons, List.length_nil, Nat.reduceAdd, Nat.reduceSub, Array.replicate_succ, Array.replicate_zero, List.push_toArray, List.append_toArray, List.nil_append, List.cons_append]
  gi_wp2_with (first
    | (refine ⟨trivial, ?_⟩; gi_at_call 44; (try rw [← hWa, ← hWb, ← hWc, ← hWd]); refine (callsIn_wide.2 (Hid.out KC)).mono ?_; rintro e W8 ⟨oa, oc, rfl, hb8, hr8, hle8⟩; have OTH := hid hr8; have HB8 := hid hb8; have HLE := hid hle8; clear hb8 hr8 hle8 hWa hWb hWc hWd)
    | (refine ⟨trivial, ?_⟩; gi_at_call 38; refine (parts_in _ _ trivial hro (.inl (.inl { u.h with b := w.heap.size + 1, o := 0 })) _).mono ?_; simp only [labP]; rintro e w7 ⟨rfl, rfl⟩; rw [← hWa, ← hWb, ← hWc]; (try simp only [zc]); rw [← hWd])
    | (refine ⟨trivial, ?_⟩; gi_at_call 38; refine (parts_in _ _ trivial hro (.inl (.inl { t.h with b := w.heap.size, o := 0 })) _).mono ?_; simp only [labP]; rintro e w9 ⟨rfl, rfl⟩))
  obtain ⟨Y, hY⟩ : ∃ Y, Y = W8.heap.size := ⟨_, rfl⟩
  obtain ⟨We, hWe⟩ : ∃ W, W = W8.alloc (.cells #[.slice oa qs.length oc] 82) := ⟨_, rfl⟩
  obtain ⟨Wf, hWf⟩ : ∃ W, W = We.alloc (.cells #[.iface 58 (.pointer (some ⟨w.heap.size, 0, none⟩))] 20) := ⟨_, rfl⟩
  have z8 := HB8.out.size
  have ze : We.heap.size = Y + 1 := by rw [hWe, hY]; simp
  have zf : Wf.heap.size = Y + 1 + 1 := by rw [hWf]; simp [ze]
  have be : Below W8.heap.size W8 We := by rw [hWe]; exact (Below.refl _ _).alloc (Nat.le_refl _) _
  have bf : Below We.heap.size We Wf := by rw [hWf]; exact (Below.refl _ _).alloc (Nat.le_refl _) _
  have b8f : Below W8.heap.size W8 Wf := be.trans (bf.mono be.size)
  have bdf : Below Wd.heap.size Wd Wf := HB8.out.trans (b8f.mono HB8.out.size)
  have bbf : Below Wb.heap.size Wb Wf := BBD.out.trans (bdf.mono BBD.out.size)
  have bwf : Below w.heap.size w Wf := BWB.out.trans (bbf.mono BWB.out.size)
  have my : Wf.heap[Y]? = some (.cells #[.slice oa qs.length oc] 82 (0, 0)) := (bf.block Y (by omega)).trans (by rw [hY, hWe]; exact heap_alloc_new W8 _)
  have mz : Wf.heap[Y + 1]? = some (.cells #[labP (.inl (.inl { t.h with b := w.heap.size, o := 0 }))] 20 (0, 0)) := by rw [← ze, hWf]; exact heap_alloc_new We _
  have mr : Wf.heap[w.heap.size + 1 + 1]? = some (.cells #[.bool false] 4 (0, 0)) := (bdf.block _ (heap_lt MC.out)).trans MC.out
  have hseq := parts_stops WA.out 5 (Y + 1) Wf bbf mz
  have h70 : GI Wb w (w.heap.size + 1 + 1) Y ps qs [] Wf := ⟨⟨oa, qs.length, oc, my, ⟨rfl, HLE.out⟩, fun j v e => by
    obtain ⟨b, off, ea, hc⟩ := OTH.out j v (by simpa using e)
    exact ⟨b, off, ea, belowCell hc (Nat.le_refl _) b8f⟩⟩, fun i x q e => by simp at e, mr, bwf, bbf⟩
  rw [← hY]
  rw [← hWe, ← hWf]
  have hYI : w.heap.size + 1 + 1 < Y := by omega
  have hC : w.heap.size ≤ Wf.heap.size := bwf.size
  have hC2 : Wb.heap.size ≤ Wf.heap.size := bbf.size
  have hR2 : Wb.heap.size ≤ w.heap.size + 1 + 1 := by omega
  have hYf : Y < Wf.heap.size := by omega
  clear hWe hWf hY be bf b8f bdf bbf bwf my mz mr OTH MC BBD BWB HB8 WA z8 za zb zc zd ze zf KC
  generalize Value.agg #[.slice t.h.ra t.h.rn t.h.rc, .slice t.h.ma t.h.mn t.h.mc, .slice t.h.fa t.h.fn t.h.fc, .slice t.h.ea t.h.en t.h.ec] = tv at *
  generalize Value.agg #[.slice u.h.ra u.h.rn u.h.rc, .slice u.h.ma u.h.mn u.h.mc, .slice u.h.fa u.h.fn u.h.fc, .slice u.h.ea u.h.en u.h.ec] = uv at *
  refine wpIn_rangeFunc_ownH hro (by omega) (gf := 61) (lb := #[.pointer (some ⟨Y + 1, 0, none⟩)]) rfl trivial (enters_of Tryz.func61 (by kernel_rfl) rfl) hseq belowK_t (belowK_b (by omega)) (Below.refl _ _) (fun _ => rfl)
      (GI Wb w (w.heap.size + 1 + 1) Y ps qs) (GZ w (w.heap.size + 1 + 1) ps qs) (GI_own Wb w _ _ ps qs hC hC2) (fun c => GZ_own w _ ps qs c hC)
      h70
      (fun (x : Fin ps.length) (a' : Act) (W : World) => a' = { tmps := #[tv, uv, .pointer (some ⟨w.heap.size, 0, none⟩), .pointer (some ⟨w.heap.size + 1, 0, none⟩), .pointer (some ⟨w.heap.size + 1 + 1, 0, none⟩), .pointer (some ⟨Y, 0, none⟩), labP ps[x], .iface 58 (.pointer (some ⟨w.heap.size + 1, 0, none⟩)), .func (.func 61) #[] #[.pointer (some ⟨w.heap.size + 1 + 1 + 1, 0, none⟩)], .slice oa qs.length oc, .iface 58 (.pointer (some ⟨w.heap.size, 0, none⟩)), .func (.func 61) #[] #[.pointer (some ⟨Y + 1, 0, none⟩)], labP ps[x], undef, undef, undef, undef, undef, undef, undef, undef, undef, undef, undef, undef, undef, undef, undef, undef], defers := [] })
      (fun x a' u A B rw' hs hg hr => hs)
      ?assign ?body ?done ?stop
  case assign =>
    rintro ll pre x W K hi hK
    simp only [encP] at hK ⊢
    generalize labP ps[x] = lp at *
    gi_wp2
    exact hK _ _ (keepsFrom_below (Below.refl _ _)) (Below.refl _ _) hi rfl
  case body =>
    rintro ll pre x a' W hll ⟨rr, hrr⟩ ⟨⟨a, n, c, g1, ⟨g2, gle⟩, g3⟩, g4, g5, g6, g7⟩ rfl hlt
    have c0 := cellT g1 0
    have f0 := freeT g1 0
    have r0 := cellT g5 0
    have q0 := freeT g5 0
    simp only [List.getElem?_toArray, List.getElem?_cons_zero] at c0 r0
    have HXX := hid (show (pre ++ [x])[pre.length]? = some x by simp)
    have G1 := hid g1
    have G2 := hid g2
    have GL := hid gle
    have G3 := hid g3
    have G4 := hid g4
    have G5 := hid g5
    have G6 := hid g6
    have G7 := hid g7
    have nI : (n : Int) ≤ 100001 := by omega
    rcases Nat.eq_zero_or_pos n with hn | hn
    · subst hn
      clear hseq h70 g1 g2 g3 g4 g5 g6 g7 gle hrr
      generalize labP ps[x] = lp at *
      gi_wp2
      refine ⟨trivial, ?_⟩
      gi_wp2
      refine ⟨(KeepsOthers.setCell _ _ _).from _, rfl, ⟨pre.length, x, HXX.out, .inl (by have := G2.out; omega)⟩, set_cells G5.out _, G6.out.setCell (p := ⟨w.heap.size + 1 + 1, 0, none⟩) (by show _ ≤ w.heap.size + 1 + 1; omega) _⟩
    · have hql : pre.length < qs.length := by omega
      obtain ⟨q, hq⟩ : ∃ q, qs[pre.length]? = some q := ⟨qs[pre.length], List.getElem?_eq_getElem hql⟩
      have hqm := List.mem_of_getElem? hq
      obtain ⟨b, off, ea, hcl⟩ := g3 0 (labP q) (by simp [hq])
      subst ea
      rw [Nat.add_zero] at hcl
      have K1 := hid (KX.out x q W hqm g7)
      have HQ := hid hq
      have nP : (1 : Int) ≤ (n : Int) := by omega
      clear hseq h70 g1 g2 g3 g4 g5 g6 g7 gle hrr hq hqm hql
      have hif := labP_if q
      have HST : Hid (alikeP ps[x] q = true → ∀ (i : Nat) (x' : Fin ps.length) (q' : Part), (pre ++ [x])[i]? = some x' → qs[i]? = some q' → alikeP ps[x'] q' = true) := hid (fun h i x' q' e1 e2 => by
        rcases Nat.lt_or_ge i pre.length with hi | hi
        · rw [List.getElem?_append_left hi] at e1
          exact G4.out i x' q' e1 e2
        · have hi2 : i = pre.length := by
            have := (List.getElem?_eq_some_iff.1 e1).1
            simp at this; omega
          subst hi2
          rw [HXX.out] at e1; cases e1
          rw [HQ.out] at e2; cases e2
          exact h)
      have HNO : Hid (alikeP ps[x] q = false → ∃ (m : Nat) (x' : Fin ps.length), (pre ++ [x])[m]? = some x' ∧ (qs.length ≤ m ∨ ∃ q, qs[m]? = some q ∧ alikeP ps[x'] q = false)) := hid (fun h => ⟨pre.length, x, HXX.out, .inr ⟨q, HQ.out, h⟩⟩)
      cases hal : alikeP ps[x] q with
      | true =>
        rw [hal] at K1 HST
        clear hal HNO
        generalize labP ps[x] = lp at *
        generalize labP q = lq at *
        obtain ⟨lk, lv, rfl⟩ := hif
        gi_wp2_with (refine ⟨trivial, ?_⟩; gi_at_call 45; refine (CallsIn.inRound ll (callsIn_wide.2 (Hid.out K1))).mono ?_; rintro e w9 ⟨rfl, hb9⟩; have m9 := (hb9.block _ (heap_lt G1.out)).trans G1.out; have HB9 := hid hb9; have HM9 := hid m9; have y0 := cellT m9 0; have y1 := freeT m9 0; simp only [List.getElem?_toArray, List.getElem?_cons_zero] at y0; clear hb9 m9 c0 f0)
        all_goals
          refine ⟨(keepsFrom_below HB9.out).trans ((KeepsOthers.setCell _ _ _).from _), ((HB9.out.mono G7.out.size) : Below Wb.heap.size _ _).setCell (p := ⟨Y, 0, none⟩) (by show _ ≤ Y; omega) _, ⟨_, _, _, set_cells HM9.out _, ⟨?_, ?_⟩, fun j v e => ?_⟩, HST.out (by first | rfl | trivial), (Below.heap_setCell _ _ _ _ (by show w.heap.size + 1 + 1 ≠ Y; omega)).trans ((HB9.out.block _ (heap_lt G5.out)).trans G5.out), (G6.out.trans (HB9.out.mono G6.out.size)).setCell (p := ⟨Y, 0, none⟩) (by show _ ≤ Y; omega) _, (G7.out.trans (HB9.out.mono G7.out.size)).setCell (p := ⟨Y, 0, none⟩) (by show _ ≤ Y; omega) _⟩
        all_goals first
          | (have h1 := G2.out; simp only [List.length_append, List.length_cons, List.length_nil]; omega)
          | (have h1 := GL.out; omega)
          | (exfalso; have h1 := G2.out; have h2 := GL.out; have h3 := (List.getElem?_eq_some_iff.1 e).1; simp only [List.length_map, List.length_drop, List.length_append, List.length_cons, List.length_nil] at h3; omega)
          | (obtain ⟨b', off', ea, hc⟩ := G3.out (j + 1) v (by
              rw [← e]
              simp only [List.getElem?_map, List.getElem?_drop, List.length_append, List.length_cons, List.length_nil]
              rw [show pre.length + (j + 1) = pre.length + (0 + 1) + j by omega])
             cases ea
             have hby : b ≠ Y := fun e2 => by
               subst e2
               rw [cellT G1.out] at hc
               rw [List.getElem?_toArray, show off + (j + 1) = (off + j) + 1 by omega, List.getElem?_cons_succ] at hc
               simp at hc
             refine ⟨b, off + 1, rfl, ?_⟩
             rw [World.cell?_setCell_other _ _ _ _ (by intro e2; injection e2 with e3 e4; exact hby e3.symm), show off + 1 + j = off + (j + 1) by omega]
             exact belowCell hc (Nat.le_refl _) HB9.out)
      | false =>
        rw [hal] at K1
        have HN := hid (HNO.out hal)
        clear hal HST HNO
        generalize labP ps[x] = lp at *
        generalize labP q = lq at *
        obtain ⟨lk, lv, rfl⟩ := hif
        gi_wp2_with (refine ⟨trivial, ?_⟩; gi_at_call 45; refine (CallsIn.inRound ll (callsIn_wide.2 (Hid.out K1))).mono ?_; rintro e w9 ⟨rfl, hb9⟩; have m9 := (hb9.block _ (heap_lt G5.out)).trans G5.out; have HB9 := hid hb9; have HM9 := hid m9; have y0 := cellT m9 0; have y1 := freeT m9 0; simp only [List.getElem?_toArray, List.getElem?_cons_zero] at y0; clear hb9 m9 r0 q0)
        refine ⟨(keepsFrom_below HB9.out).trans ((KeepsOthers.setCell _ _ _).from _), rfl, HN.out, set_cells HM9.out _, (G6.out.trans (HB9.out.mono G6.out.size)).setCell (p := ⟨w.heap.size + 1 + 1, 0, none⟩) (by show _ ≤ w.heap.size + 1 + 1; omega) _⟩
  case done =>
    rintro D' ys W hD rfl ⟨⟨a, n, c, g1, ⟨g2, gle⟩, g3⟩, g4, g5, g6, g7⟩ hK
    rw [List.length_finRange] at g2
    have HT : Hid (n = 0 ↔ AlkL ps qs) := hid (by
      constructor
      · intro h0
        refine ⟨by omega, fun j p q e1 e2 => ?_⟩
        obtain ⟨hj, e3⟩ := List.getElem?_eq_some_iff.1 e1
        have := g4 j ⟨j, hj⟩ q (by rw [List.getElem?_eq_getElem (by simpa using hj)]; simp) e2
        rw [← e3]; exact this
      · intro h
        have := h.1
        omega)
    have c0 := cellT g1 0
    have r0 := cellT g5 0
    have q0 := freeT g5 0
    simp only [List.getElem?_toArray, List.getElem?_cons_zero] at c0 r0
    have nI : (n : Int) ≤ 100001 := by omega
    have G5 := hid g5
    have G6 := hid g6
    have HK := hid hK
    have hDR : D' ≠ w.heap.size + 1 + 1 := by
      intro e2
      subst e2
      rw [hK] at g5; cases g5
    clear hseq h70 g1 g2 g3 g4 g5 g6 g7 gle hK KX
    have fin : ∀ (bv : Bool), (bv = true ↔ AlkL ps qs) → ∃ v, Sem.run Tryz.prog (results Tryz.f22 #[tv, uv, .pointer (some ⟨w.heap.size, 0, none⟩), .pointer (some ⟨w.heap.size + 1, 0, none⟩), .pointer (some ⟨w.heap.size + 1 + 1, 0, none⟩)]) ((W.setCell ⟨w.heap.size + 1 + 1, 0, none⟩ (.bool bv)).putObj D' (.deferred none)) = .ok v ((W.setCell ⟨w.heap.size + 1 + 1, 0, none⟩ (.bool bv)).putObj D' (.deferred none)) ∧ DcP w (AlkL ps qs) (.returned v) ((W.setCell ⟨w.heap.size + 1 + 1, 0, none⟩ (.bool bv)).putObj D' (.deferred none)) ∧ (W.setCell ⟨w.heap.size + 1 + 1, 0, none⟩ (.bool bv)).heap[D']? = some (.deferred (some [])) := by
      intro bv hbv
      have k2 := set_cells G5.out (.bool bv)
      have kD : (W.setCell ⟨w.heap.size + 1 + 1, 0, none⟩ (.bool bv)).heap[D']? = some (.deferred (some [])) := (Below.heap_setCell _ _ _ _ (by show D' ≠ w.heap.size + 1 + 1; exact hDR)).trans HK.out
      have h9 := keep_cells (B := 0) k2 (grownBy_putObj' _ D' (.deferred none)) (fun r e => by cases e; exact ⟨Nat.zero_le _, _, kD, rfl⟩)
      have h10 : Below w.heap.size w ((W.setCell ⟨w.heap.size + 1 + 1, 0, none⟩ (.bool bv)).putObj D' (.deferred none)) := ownFrom_below (β := Unit) (Nat.le_refl _) (Nat.le_refl _) () _ _ _ (G6.out.setCell (p := ⟨w.heap.size + 1 + 1, 0, none⟩) (by show _ ≤ w.heap.size + 1 + 1; omega) _) (grownBy_putObj' _ D' (.deferred none)) (fun r e => by cases e; exact ⟨by omega, _, kD, rfl⟩)
      have r1 := cellT h9 0
      simp only [List.getElem?_toArray, List.getElem?_cons_zero] at r1
      exact ⟨.bool bv, by simp [results, Tryz.results22, go_sem, r1], ⟨h10, bv, rfl, hbv⟩, kD⟩
    rcases Nat.eq_zero_or_pos n with hn | hn
    · subst hn
      gi_wp2
      obtain ⟨v, h1, h2, h3⟩ := fin true ⟨fun _ => HT.out.1 (by first | rfl | trivial), fun _ => rfl⟩
      refine ⟨by simp, .inl ⟨_, _, rfl, run_takeDeferred h3, ?_⟩⟩
      refine ⟨v, ?_, h2⟩
      simpa [results, Tryz.results22] using h1
    · have nP : ¬ ((n : Int) = 0) := by omega
      have nB : ((n : Int) == 0) = false := by simpa using nP
      gi_wp2
      obtain ⟨v, h1, h2, h3⟩ := fin false ⟨fun e => (by cases e), fun h => (by have := HT.out.2 h; omega)⟩
      refine ⟨by simp, .inl ⟨_, _, rfl, run_takeDeferred h3, ?_⟩⟩
      refine ⟨v, ?_, h2⟩
      simpa [results, Tryz.results22] using h1
  case stop =>
    rintro D' c pre W hD hp ⟨rfl, ⟨m, x, e1, e2⟩, hbx, hbw⟩ hK
    have hnp : ¬ AlkL ps qs := fun h => by
      obtain ⟨i, hi, rfl⟩ := hp
      rw [List.getElem?_take] at e1
      split at e1
      · have hxm := fin_at e1
        have hx1 := x.2
        rcases e2 with e2 | ⟨q, e2, e3⟩
        · have := h.1; omega
        · have := h.2 m ps[x] q (by rw [← hxm, List.getElem?_eq_getElem hx1]; rfl) e2
          rw [this] at e3; cases e3
      · cases e1
    have h9 := keep_cells (B := 0) hbx (grownBy_putObj' _ D' (.deferred none)) (fun r e => by cases e; exact ⟨Nat.zero_le _, _, hK, rfl⟩)
    have h10 : Below w.heap.size w (W.putObj D' (.deferred none)) := ownFrom_below (β := Unit) (Nat.le_refl _) (Nat.le_refl _) () _ _ _ hbw (grownBy_putObj' _ D' (.deferred none)) (fun r e => by cases e; exact ⟨by omega, _, hK, rfl⟩)
    have r0 := cellT h9 0
    simp only [List.getElem?_toArray, List.getElem?_cons_zero] at r0
    have HNP := hid hnp
    clear hseq h70 KX hnp
    gi_wp2
    refine ⟨by simp, .inl ⟨_, _, rfl, run_takeDeferred hK, ?_⟩⟩
    refine ⟨.bool false, by simp [results, Tryz.results22, go_sem, r0], DcP.no h10 HNP.out⟩
end Go.Proofs.YtdfambocenohgaaGreatDoor

namespace Go.Proofs.YtdfambocenohgaaGreatDoor
open Go.RowKit Go.Deep Go.Shelf
set_option linter.unusedVariables false
set_option linter.unusedSimpArgs false
attribute [local go_sem] as58_58 as105_58 as101_58 as67_58 as58_105 as105_105 as101_105 as67_105 as58_101 as105_101 as101_101 as67_101 as58_67 as105_67 as101_67 as67_67
attribute [local go_sem] Oper.semAt_some

/- What is told of a row's elements. -/
def RowE (k : Nat) (s : ByteArray) (lo R off : Nat) (W : World) (ts us : List (ET k)) : Prop := us.length = ts.length ∧ ∀ (j : Nat) (t u : ET k), ts[j]? = some t → us[j]? = some u → eAt k u = (R, off + j * 8) ∧ ERd k W u ∧ LoE k lo u ∧ BarE k t u
def HBE (k : Nat) : Prop := ∀ (w0 : World) (l D : Nat) (rdy : Obj) (hy : YB l D rdy) (hD : w0.heap.size ≤ l) (hDl : D ≠ l) (s : ByteArray) (t : ET k) (W : World) (b o : Nat) (c : Array Value) (T : TypeId), ERd k w0 t → SmE k t →  Gl l D rdy W → Below w0.heap.size w0 W → w0.heap.size ≤ b → b ≠ D → b ≠ l → W.heap[b]? = some (.cells c T (0, 0)) → Cl c o (eH k t).cl →
    CallsIn Fence.wide 0 Tryz.prog 62 #[.iface 67 (.pointer (some ⟨b, o, none⟩)), .func (.yield l) #[] #[]] W fun e W' => e = .returned (.bool true) ∧ Gl l D rdy W' ∧ Fr W.heap.size b o 8 W W' ∧ ∃ u : ET k, eAt k u = (b, o) ∧ ERd k W' u ∧ LoE k W.heap.size u ∧ BarE k t u
structure IvE (k : Nat) (s : ByteArray) (W : World) (R off n : Nat) (ts : List (ET k)) (l D : Nat) (rdy : Obj) (j : Nat) (wr : World) : Prop where
  g : Gl l D rdy wr
  fr : Fr W.heap.size R off (n * 8) W wr
  done : ∃ us : List (ET k), us.length = j ∧ ∀ (i : Nat) (t u : ET k), ts[i]? = some t → us[i]? = some u → eAt k u = (R, off + i * 8) ∧ ERd k wr u ∧ LoE k W.heap.size u ∧ BarE k t u
  rest : ∃ c, wr.heap[R]? = some (.cells c 28 (0, 0)) ∧ ∀ (i : Nat) (t : ET k), j ≤ i → ts[i]? = some t → Cl c (off + i * 8) (eH k t).cl
theorem IvE.step {k : Nat} {s : ByteArray} {W : World} {R off n : Nat} {ts : List (ET k)} {l D : Nat} {rdy : Obj} {j : Nat} {wr W' : World} (h : IvE k s W R off n ts l D rdy j wr) {t : ET k} (ht : ts[j]? = some t) (hj : j < n) (hR : R < W.heap.size)
    (g : Gl l D rdy W') (f : Fr wr.heap.size R (off + j * 8) 8 wr W') (hu : ∃ u : ET k, eAt k u = (R, off + j * 8) ∧ ERd k W' u ∧ LoE k wr.heap.size u ∧ BarE k t u) : IvE k s W R off n ts l D rdy (j + 1) W' := by
  obtain ⟨us, hl, hd⟩ := h.done
  obtain ⟨c, hc, hr⟩ := h.rest
  obtain ⟨c', hc', hz, he⟩ := f.at' c 28 hc
  obtain ⟨u, u1, u2, u3, u4⟩ := hu
  have hjn : (j + 1) * 8 ≤ n * 8 := Nat.mul_le_mul_right _ hj
  refine ⟨g, h.fr.trans (f.mono h.fr.size (by omega) (by omega)), ⟨us ++ [u], by simp [hl], fun i t' u' e1 e2 => ?_⟩, ⟨c', hc', fun i t' hi e1 => ?_⟩⟩
  · rcases Nat.lt_or_ge i j with hij | hij
    · rw [List.getElem?_append_left (by omega)] at e2
      obtain ⟨v1, v2, v3, v4⟩ := hd i t' u' e1 e2
      have hij2 : (i + 1) * 8 ≤ j * 8 := Nat.mul_le_mul_right _ hij
      refine ⟨v1, keepE k v2 v3 (fun x h1 h2 => f.up x (by omega) h2) (fun m hm => ?_), v3, v4⟩
      rw [v1, cellT hc', cellT hc, he _ (by left; show off + i * 8 + m < _; omega)]
    · rw [List.getElem?_append_right (by omega)] at e2
      have h0 : i - us.length = 0 := by
        have := (List.getElem?_eq_some_iff.1 e2).1
        simp at this; omega
      have hij3 : i = j := by omega
      subst hij3
      rw [h0] at e2
      simp at e2
      subst e2
      rw [ht] at e1
      cases e1
      exact ⟨u1, u2, u3.mono h.fr.size, u4⟩
  · intro m v hv
    have hij2 : (j + 1) * 8 ≤ i * 8 := Nat.mul_le_mul_right _ hi
    rw [he _ (by right; omega)]
    exact hr i t' (by omega) e1 m v hv
set_option maxRecDepth 100000 in
set_option maxHeartbeats 1000000 in
theorem hbEs_of (k : Nat) (ih : HBE k) (w0 : World) (l D : Nat) (rdy : Obj) (hy : YB l D rdy) (hD : w0.heap.size ≤ l) (hDl : D ≠ l) (s : ByteArray) (R off n cap : Nat) (c : Array Value) (ts : List (ET k)) (W : World) (hn : n = ts.length) (hb : n ≤ 1000000) (hr : ∀ u ∈ ts, ERd k w0 u ∧ SmE k u) (hg : Gl l D rdy W) (hw : Below w0.heap.size w0 W) (hR : w0.heap.size ≤ R) (b1 : R ≠ D) (b2 : R ≠ l) (hc : W.heap[R]? = some (.cells c 28 (0, 0))) (hcl : ∀ (j : Nat) (t : ET k), ts[j]? = some t → Cl c (off + j * 8) (eH k t).cl) :
    CallsIn Fence.wide 0 Tryz.prog 91 #[.slice (some ⟨R, off, none⟩) n cap, .func (.yield l) #[] #[]] W fun e W' => e = .returned (.bool true) ∧ Gl l D rdy W' ∧ Fr W.heap.size R off (n * 8) W W' ∧ ∃ us, RowE k s W.heap.size R off W' ts us := by
  have hRW : R < W.heap.size := heap_lt hc
  have h0 : IvE k s W R off n ts l D rdy 0 W := ⟨hg, Fr.of (Below.refl W.heap.size W) hRW (Nat.le_refl _), ⟨[], rfl, fun i t u _ e => by simp at e⟩, ⟨c, hc, fun i t _ e => hcl i t e⟩⟩
  refine callsIn_of_wp Tryz.func91 rfl trivial ?_ rfl
  simp only [Tryz.ntmps91, List.size_toArray, List.length_cons, List.length_nil, Nat.reduceAdd, Nat.reduceSub, Array.replicate_succ, Array.replicate_zero, List.push_toArray, List.append_toArray, List.nil_append, List.cons_append]
  have hbI : (n : Int) ≤ 1000000 := by omega
  have HW := hid hw
  have HN := hid hn
  have HR := hid hr
  have H0 := hid h0
  have HRW := hid hRW
  have HH := hid (fun (t : ET k) (ht : t ∈ ts) (V : World) (hV : Below w0.heap.size w0 V) (gV : Gl l D rdy V) (j : Nat) (c2 : Array Value) (h2 : V.heap[R]? = some (.cells c2 28 (0, 0))) (h3 : Cl c2 (off + j * 8) (eH k t).cl) => ih w0 l D rdy hy hD hDl s t V R (off + j * 8) c2 28 (hr t ht).1 (hr t ht).2 gV hV hR b1 b2 h2 h3)
  clear hw hn hr hb hg hc hcl h0 hRW hy ih
  gi_wp2
  gi_loopw [8] (fun x wr => ∃ j : Nat, j ≤ n ∧ x = .int .i64 j ∧ IvE k s W R off n ts l D rdy j wr)
    (fun x _ => n - (intOf x).toNat)
  case atStart => exact ⟨0, Nat.zero_le _, rfl, H0.out⟩
  case round =>
    obtain ⟨j, hj, rfl, hI⟩ := hrel
    by_cases hlt : j < n
    · have hlt' : (j : Int) < (n : Int) := by omega
      have hj0 : (0 : Int) ≤ (j : Int) := by omega
      obtain ⟨t, ht⟩ : ∃ t, ts[j]? = some t := ⟨ts[j]'(by rw [← HN.out]; exact hlt), List.getElem?_eq_getElem _⟩
      obtain ⟨c2, h2, h3⟩ := hI.rest
      have hbw : Below w0.heap.size w0 wr := HW.out.trans (hI.fr.bel.mono hR)
      have K := hid (HH.out t (List.mem_of_getElem? ht) wr hbw hI.g j c2 h2 (h3 j t (Nat.le_refl _) ht))
      have HT := hid ht
      have HI := hid hI
      clear ht hI h2 h3 hbw
      gi_wp2_with (refine ⟨trivial, rfl, ?_⟩; gi_at_call 62; refine (Hid.out K).mono ?_; rintro e w1 ⟨rfl, g1, f1, hu1⟩)
      exact ⟨⟨j + 1, by omega, by go_num, HI.out.step HT.out hlt HRW.out g1 f1 hu1⟩, by simp [intOf]; omega⟩
    · obtain rfl : j = n := by omega
      gi_wp2
      go_ret
      obtain ⟨us, hl, hd⟩ := hI.done
      exact ⟨rfl, hI.g, hI.fr, us, by rw [hl, HN.out], hd⟩

/- What is told of a row's elements. -/
def RowS (k : Nat) (s : ByteArray) (lo R off : Nat) (W : World) (ts us : List (ST k)) : Prop := us.length = ts.length ∧ ∀ (j : Nat) (t u : ST k), ts[j]? = some t → us[j]? = some u → sAt k u = (R, off + j * 8) ∧ SRds k W u ∧ LoS k lo u ∧ BarS k t u
def HBS (k : Nat) : Prop := ∀ (w0 : World) (l D : Nat) (rdy : Obj) (hy : YB l D rdy) (hD : w0.heap.size ≤ l) (hDl : D ≠ l) (s : ByteArray) (t : ST k) (W : World) (b o : Nat) (c : Array Value) (T : TypeId), SRds k w0 t → SmS k t →  Gl l D rdy W → Below w0.heap.size w0 W → w0.heap.size ≤ b → b ≠ D → b ≠ l → W.heap[b]? = some (.cells c T (0, 0)) → Cl c o (sH k t).cl →
    CallsIn Fence.wide 0 Tryz.prog 62 #[.iface 101 (.pointer (some ⟨b, o, none⟩)), .func (.yield l) #[] #[]] W fun e W' => e = .returned (.bool true) ∧ Gl l D rdy W' ∧ Fr W.heap.size b o 8 W W' ∧ ∃ u : ST k, sAt k u = (b, o) ∧ SRds k W' u ∧ LoS k W.heap.size u ∧ BarS k t u
structure IvS (k : Nat) (s : ByteArray) (W : World) (R off n : Nat) (ts : List (ST k)) (l D : Nat) (rdy : Obj) (j : Nat) (wr : World) : Prop where
  g : Gl l D rdy wr
  fr : Fr W.heap.size R off (n * 8) W wr
  done : ∃ us : List (ST k), us.length = j ∧ ∀ (i : Nat) (t u : ST k), ts[i]? = some t → us[i]? = some u → sAt k u = (R, off + i * 8) ∧ SRds k wr u ∧ LoS k W.heap.size u ∧ BarS k t u
  rest : ∃ c, wr.heap[R]? = some (.cells c 49 (0, 0)) ∧ ∀ (i : Nat) (t : ST k), j ≤ i → ts[i]? = some t → Cl c (off + i * 8) (sH k t).cl
theorem IvS.step {k : Nat} {s : ByteArray} {W : World} {R off n : Nat} {ts : List (ST k)} {l D : Nat} {rdy : Obj} {j : Nat} {wr W' : World} (h : IvS k s W R off n ts l D rdy j wr) {t : ST k} (ht : ts[j]? = some t) (hj : j < n) (hR : R < W.heap.size)
    (g : Gl l D rdy W') (f : Fr wr.heap.size R (off + j * 8) 8 wr W') (hu : ∃ u : ST k, sAt k u = (R, off + j * 8) ∧ SRds k W' u ∧ LoS k wr.heap.size u ∧ BarS k t u) : IvS k s W R off n ts l D rdy (j + 1) W' := by
  obtain ⟨us, hl, hd⟩ := h.done
  obtain ⟨c, hc, hr⟩ := h.rest
  obtain ⟨c', hc', hz, he⟩ := f.at' c 49 hc
  obtain ⟨u, u1, u2, u3, u4⟩ := hu
  have hjn : (j + 1) * 8 ≤ n * 8 := Nat.mul_le_mul_right _ hj
  refine ⟨g, h.fr.trans (f.mono h.fr.size (by omega) (by omega)), ⟨us ++ [u], by simp [hl], fun i t' u' e1 e2 => ?_⟩, ⟨c', hc', fun i t' hi e1 => ?_⟩⟩
  · rcases Nat.lt_or_ge i j with hij | hij
    · rw [List.getElem?_append_left (by omega)] at e2
      obtain ⟨v1, v2, v3, v4⟩ := hd i t' u' e1 e2
      have hij2 : (i + 1) * 8 ≤ j * 8 := Nat.mul_le_mul_right _ hij
      refine ⟨v1, keepS k v2 v3 (fun x h1 h2 => f.up x (by omega) h2) (fun m hm => ?_), v3, v4⟩
      rw [v1, cellT hc', cellT hc, he _ (by left; show off + i * 8 + m < _; omega)]
    · rw [List.getElem?_append_right (by omega)] at e2
      have h0 : i - us.length = 0 := by
        have := (List.getElem?_eq_some_iff.1 e2).1
        simp at this; omega
      have hij3 : i = j := by omega
      subst hij3
      rw [h0] at e2
      simp at e2
      subst e2
      rw [ht] at e1
      cases e1
      exact ⟨u1, u2, u3.mono h.fr.size, u4⟩
  · intro m v hv
    have hij2 : (j + 1) * 8 ≤ i * 8 := Nat.mul_le_mul_right _ hi
    rw [he _ (by right; omega)]
    exact hr i t' (by omega) e1 m v hv
set_option maxRecDepth 100000 in
set_option maxHeartbeats 1000000 in
theorem hbSs_of (k : Nat) (ih : HBS k) (w0 : World) (l D : Nat) (rdy : Obj) (hy : YB l D rdy) (hD : w0.heap.size ≤ l) (hDl : D ≠ l) (s : ByteArray) (R off n cap : Nat) (c : Array Value) (ts : List (ST k)) (W : World) (hn : n = ts.length) (hb : n ≤ 1000000) (hr : ∀ u ∈ ts, SRds k w0 u ∧ SmS k u) (hg : Gl l D rdy W) (hw : Below w0.heap.size w0 W) (hR : w0.heap.size ≤ R) (b1 : R ≠ D) (b2 : R ≠ l) (hc : W.heap[R]? = some (.cells c 49 (0, 0))) (hcl : ∀ (j : Nat) (t : ST k), ts[j]? = some t → Cl c (off + j * 8) (sH k t).cl) :
    CallsIn Fence.wide 0 Tryz.prog 90 #[.slice (some ⟨R, off, none⟩) n cap, .func (.yield l) #[] #[]] W fun e W' => e = .returned (.bool true) ∧ Gl l D rdy W' ∧ Fr W.heap.size R off (n * 8) W W' ∧ ∃ us, RowS k s W.heap.size R off W' ts us := by
  have hRW : R < W.heap.size := heap_lt hc
  have h0 : IvS k s W R off n ts l D rdy 0 W := ⟨hg, Fr.of (Below.refl W.heap.size W) hRW (Nat.le_refl _), ⟨[], rfl, fun i t u _ e => by simp at e⟩, ⟨c, hc, fun i t _ e => hcl i t e⟩⟩
  refine callsIn_of_wp Tryz.func90 rfl trivial ?_ rfl
  simp only [Tryz.ntmps90, List.size_toArray, List.length_cons, List.length_nil, Nat.reduceAdd, Nat.reduceSub, Array.replicate_succ, Array.replicate_zero, List.push_toArray, List.append_toArray, List.nil_append, List.cons_append]
  have hbI : (n : Int) ≤ 1000000 := by omega
  have HW := hid hw
  have HN := hid hn
  have HR := hid hr
  have H0 := hid h0
  have HRW := hid hRW
  have HH := hid (fun (t : ST k) (ht : t ∈ ts) (V : World) (hV : Below w0.heap.size w0 V) (gV : Gl l D rdy V) (j : Nat) (c2 : Array Value) (h2 : V.heap[R]? = some (.cells c2 49 (0, 0))) (h3 : Cl c2 (off + j * 8) (sH k t).cl) => ih w0 l D rdy hy hD hDl s t V R (off + j * 8) c2 49 (hr t ht).1 (hr t ht).2 gV hV hR b1 b2 h2 h3)
  clear hw hn hr hb hg hc hcl h0 hRW hy ih
  gi_wp2
  gi_loopw [8] (fun x wr => ∃ j : Nat, j ≤ n ∧ x = .int .i64 j ∧ IvS k s W R off n ts l D rdy j wr)
    (fun x _ => n - (intOf x).toNat)
  case atStart => exact ⟨0, Nat.zero_le _, rfl, H0.out⟩
  case round =>
    obtain ⟨j, hj, rfl, hI⟩ := hrel
    by_cases hlt : j < n
    · have hlt' : (j : Int) < (n : Int) := by omega
      have hj0 : (0 : Int) ≤ (j : Int) := by omega
      obtain ⟨t, ht⟩ : ∃ t, ts[j]? = some t := ⟨ts[j]'(by rw [← HN.out]; exact hlt), List.getElem?_eq_getElem _⟩
      obtain ⟨c2, h2, h3⟩ := hI.rest
      have hbw : Below w0.heap.size w0 wr := HW.out.trans (hI.fr.bel.mono hR)
      have K := hid (HH.out t (List.mem_of_getElem? ht) wr hbw hI.g j c2 h2 (h3 j t (Nat.le_refl _) ht))
      have HT := hid ht
      have HI := hid hI
      clear ht hI h2 h3 hbw
      gi_wp2_with (refine ⟨trivial, rfl, ?_⟩; gi_at_call 62; refine (Hid.out K).mono ?_; rintro e w1 ⟨rfl, g1, f1, hu1⟩)
      exact ⟨⟨j + 1, by omega, by go_num, HI.out.step HT.out hlt HRW.out g1 f1 hu1⟩, by simp [intOf]; omega⟩
    · obtain rfl : j = n := by omega
      gi_wp2
      go_ret
      obtain ⟨us, hl, hd⟩ := hI.done
      exact ⟨rfl, hI.g, hI.fr, us, by rw [hl, HN.out], hd⟩

/- What is told of a row's elements. -/
def RowD (k : Nat) (s : ByteArray) (lo R off : Nat) (W : World) (ts us : List (DT k)) : Prop := us.length = ts.length ∧ ∀ (j : Nat) (t u : DT k), ts[j]? = some t → us[j]? = some u → dAt u = (R, off + j * 7) ∧ DRds k W u ∧ LoD lo u ∧ BarD t u ∧ u.1.sort = s
def HBD (k : Nat) : Prop := ∀ (w0 : World) (l D : Nat) (rdy : Obj) (hy : YB l D rdy) (hD : w0.heap.size ≤ l) (hDl : D ≠ l) (s : ByteArray) (t : DT k) (W : World) (b o : Nat) (c : Array Value) (T : TypeId), DRds k w0 t → SmD t →  t.1.sort = s → Gl l D rdy W → Below w0.heap.size w0 W → w0.heap.size ≤ b → b ≠ D → b ≠ l → W.heap[b]? = some (.cells c T (0, 0)) → Cl c o (Prod.fst t).cl →
    CallsIn Fence.wide 0 Tryz.prog 62 #[.iface 105 (.agg #[.string s, .pointer (some ⟨b, o, none⟩)]), .func (.yield l) #[] #[]] W fun e W' => e = .returned (.bool true) ∧ Gl l D rdy W' ∧ Fr W.heap.size b o 7 W W' ∧ ∃ u : DT k, dAt u = (b, o) ∧ DRds k W' u ∧ LoD W.heap.size u ∧ BarD t u ∧ u.1.sort = s
structure IvD (k : Nat) (s : ByteArray) (W : World) (R off n : Nat) (ts : List (DT k)) (l D : Nat) (rdy : Obj) (j : Nat) (wr : World) : Prop where
  g : Gl l D rdy wr
  fr : Fr W.heap.size R off (n * 7) W wr
  done : ∃ us : List (DT k), us.length = j ∧ ∀ (i : Nat) (t u : DT k), ts[i]? = some t → us[i]? = some u → dAt u = (R, off + i * 7) ∧ DRds k wr u ∧ LoD W.heap.size u ∧ BarD t u ∧ u.1.sort = s
  rest : ∃ c, wr.heap[R]? = some (.cells c 52 (0, 0)) ∧ ∀ (i : Nat) (t : DT k), j ≤ i → ts[i]? = some t → Cl c (off + i * 7) (Prod.fst t).cl
theorem IvD.step {k : Nat} {s : ByteArray} {W : World} {R off n : Nat} {ts : List (DT k)} {l D : Nat} {rdy : Obj} {j : Nat} {wr W' : World} (h : IvD k s W R off n ts l D rdy j wr) {t : DT k} (ht : ts[j]? = some t) (hj : j < n) (hR : R < W.heap.size)
    (g : Gl l D rdy W') (f : Fr wr.heap.size R (off + j * 7) 7 wr W') (hu : ∃ u : DT k, dAt u = (R, off + j * 7) ∧ DRds k W' u ∧ LoD wr.heap.size u ∧ BarD t u ∧ u.1.sort = s) : IvD k s W R off n ts l D rdy (j + 1) W' := by
  obtain ⟨us, hl, hd⟩ := h.done
  obtain ⟨c, hc, hr⟩ := h.rest
  obtain ⟨c', hc', hz, he⟩ := f.at' c 52 hc
  obtain ⟨u, u1, u2, u3, u4⟩ := hu
  have hjn : (j + 1) * 7 ≤ n * 7 := Nat.mul_le_mul_right _ hj
  refine ⟨g, h.fr.trans (f.mono h.fr.size (by omega) (by omega)), ⟨us ++ [u], by simp [hl], fun i t' u' e1 e2 => ?_⟩, ⟨c', hc', fun i t' hi e1 => ?_⟩⟩
  · rcases Nat.lt_or_ge i j with hij | hij
    · rw [List.getElem?_append_left (by omega)] at e2
      obtain ⟨v1, v2, v3, v4⟩ := hd i t' u' e1 e2
      have hij2 : (i + 1) * 7 ≤ j * 7 := Nat.mul_le_mul_right _ hij
      refine ⟨v1, keepD v2 v3 (fun x h1 h2 => f.up x (by omega) h2) (fun m hm => ?_), v3, v4⟩
      rw [v1, cellT hc', cellT hc, he _ (by left; show off + i * 7 + m < _; omega)]
    · rw [List.getElem?_append_right (by omega)] at e2
      have h0 : i - us.length = 0 := by
        have := (List.getElem?_eq_some_iff.1 e2).1
        simp at this; omega
      have hij3 : i = j := by omega
      subst hij3
      rw [h0] at e2
      simp at e2
      subst e2
      rw [ht] at e1
      cases e1
      exact ⟨u1, u2, u3.mono h.fr.size, u4⟩
  · intro m v hv
    have hij2 : (j + 1) * 7 ≤ i * 7 := Nat.mul_le_mul_right _ hi
    rw [he _ (by right; omega)]
    exact hr i t' (by omega) e1 m v hv
set_option maxRecDepth 100000 in
set_option maxHeartbeats 1000000 in
theorem hbDs_of (k : Nat) (ih : HBD k) (w0 : World) (l D : Nat) (rdy : Obj) (hy : YB l D rdy) (hD : w0.heap.size ≤ l) (hDl : D ≠ l) (s : ByteArray) (R off n cap : Nat) (c : Array Value) (ts : List (DT k)) (W : World) (hn : n = ts.length) (hb : n ≤ 1000000) (hr : ∀ u ∈ ts, DRds k w0 u ∧ SmD u ∧ u.1.sort = s) (hg : Gl l D rdy W) (hw : Below w0.heap.size w0 W) (hR : w0.heap.size ≤ R) (b1 : R ≠ D) (b2 : R ≠ l) (hc : W.heap[R]? = some (.cells c 52 (0, 0))) (hcl : ∀ (j : Nat) (t : DT k), ts[j]? = some t → Cl c (off + j * 7) (Prod.fst t).cl) :
    CallsIn Fence.wide 0 Tryz.prog 89 #[.string s, .slice (some ⟨R, off, none⟩) n cap, .func (.yield l) #[] #[]] W fun e W' => e = .returned (.bool true) ∧ Gl l D rdy W' ∧ Fr W.heap.size R off (n * 7) W W' ∧ ∃ us, RowD k s W.heap.size R off W' ts us := by
  have hRW : R < W.heap.size := heap_lt hc
  have h0 : IvD k s W R off n ts l D rdy 0 W := ⟨hg, Fr.of (Below.refl W.heap.size W) hRW (Nat.le_refl _), ⟨[], rfl, fun i t u _ e => by simp at e⟩, ⟨c, hc, fun i t _ e => hcl i t e⟩⟩
  refine callsIn_of_wp Tryz.func89 rfl trivial ?_ rfl
  simp only [Tryz.ntmps89, List.size_toArray, List.length_cons, List.length_nil, Nat.reduceAdd, Nat.reduceSub, Array.replicate_succ, Array.replicate_zero, List.push_toArray, List.append_toArray, List.nil_append, List.cons_append]
  have hbI : (n : Int) ≤ 1000000 := by omega
  have HW := hid hw
  have HN := hid hn
  have HR := hid hr
  have H0 := hid h0
  have HRW := hid hRW
  have HH := hid (fun (t : DT k) (ht : t ∈ ts) (V : World) (hV : Below w0.heap.size w0 V) (gV : Gl l D rdy V) (j : Nat) (c2 : Array Value) (h2 : V.heap[R]? = some (.cells c2 52 (0, 0))) (h3 : Cl c2 (off + j * 7) (Prod.fst t).cl) => ih w0 l D rdy hy hD hDl s t V R (off + j * 7) c2 52 (hr t ht).1 (hr t ht).2.1 (hr t ht).2.2 gV hV hR b1 b2 h2 h3)
  clear hw hn hr hb hg hc hcl h0 hRW hy ih
  gi_wp2
  gi_loopw [10] (fun x wr => ∃ j : Nat, j ≤ n ∧ x = .int .i64 j ∧ IvD k s W R off n ts l D rdy j wr)
    (fun x _ => n - (intOf x).toNat)
  case atStart => exact ⟨0, Nat.zero_le _, rfl, H0.out⟩
  case round =>
    obtain ⟨j, hj, rfl, hI⟩ := hrel
    by_cases hlt : j < n
    · have hlt' : (j : Int) < (n : Int) := by omega
      have hj0 : (0 : Int) ≤ (j : Int) := by omega
      obtain ⟨t, ht⟩ : ∃ t, ts[j]? = some t := ⟨ts[j]'(by rw [← HN.out]; exact hlt), List.getElem?_eq_getElem _⟩
      obtain ⟨c2, h2, h3⟩ := hI.rest
      have hbw : Below w0.heap.size w0 wr := HW.out.trans (hI.fr.bel.mono hR)
      have K := hid (HH.out t (List.mem_of_getElem? ht) wr hbw hI.g j c2 h2 (h3 j t (Nat.le_refl _) ht))
      have HT := hid ht
      have HI := hid hI
      clear ht hI h2 h3 hbw
      gi_wp2_with (refine ⟨trivial, rfl, ?_⟩; gi_at_call 62; refine (Hid.out K).mono ?_; rintro e w1 ⟨rfl, g1, f1, hu1⟩)
      exact ⟨⟨j + 1, by omega, by go_num, HI.out.step HT.out hlt HRW.out g1 f1 hu1⟩, by simp [intOf]; omega⟩
    · obtain rfl : j = n := by omega
      gi_wp2
      go_ret
      obtain ⟨us, hl, hd⟩ := hI.done
      exact ⟨rfl, hI.g, hI.fr, us, by rw [hl, HN.out], hd⟩
end Go.Proofs.YtdfambocenohgaaGreatDoor

namespace Go.Proofs.YtdfambocenohgaaGreatDoor
open Go.RowKit Go.Deep Go.Shelf
set_option linter.unusedVariables false
set_option linter.unusedSimpArgs false
attribute [local go_sem] as58_58 as105_58 as101_58 as67_58 as58_105 as105_105 as101_105 as67_105 as58_101 as105_101 as101_101 as67_101 as58_67 as105_67 as101_67 as67_67
attribute [local go_sem] Oper.semAt_some
theorem fl_len {α : Type} {z : Nat} {f : α → List Value} (hf : ∀ t, (f t).length = z) : ∀ ts : List α, (ts.flatMap f).length = ts.length * z
  | [] => by simp
  | t :: ts => by rw [List.flatMap_cons, List.length_append, hf, fl_len hf ts, List.length_cons, Nat.add_mul]; omega
theorem fl_at {α : Type} {z : Nat} {f : α → List Value} (hf : ∀ t, (f t).length = z) : ∀ (ts : List α) (j : Nat) (t : α), ts[j]? = some t → ∀ i, i < z → (ts.flatMap f)[j * z + i]? = (f t)[i]?
  | [], j, t, e => by simp at e
  | p :: ts, 0, t, e => fun i hi => by
    simp at e; subst e
    rw [List.flatMap_cons, Nat.zero_mul, Nat.zero_add, List.getElem?_append_left (by rw [hf]; exact hi)]
  | p :: ts, j + 1, t, e => fun i hi => by
    have e' : ts[j]? = some t := by simpa using e
    rw [List.flatMap_cons, List.getElem?_append_right (by rw [hf, Nat.add_mul]; omega), hf, show (j + 1) * z + i - z = j * z + i by rw [Nat.add_mul]; omega]
    exact fl_at hf ts j t e' i hi
theorem fl_of {α : Type} {z : Nat} {f : α → List Value} (z0 : 0 < z) (hf : ∀ t, (f t).length = z) {ts : List α} {q : Nat} {v : Value} (e : (ts.flatMap f)[q]? = some v) : ∃ t, ts[q / z]? = some t ∧ (f t)[q % z]? = some v := by
  have hq : q < ts.length * z := by rw [← fl_len hf]; exact (List.getElem?_eq_some_iff.1 e).1
  have hj : q / z < ts.length := (Nat.div_lt_iff_lt_mul z0).2 hq
  refine ⟨ts[q / z], List.getElem?_eq_getElem hj, ?_⟩
  rw [← fl_at hf ts (q / z) _ (List.getElem?_eq_getElem hj) (q % z) (Nat.mod_lt _ z0), show q / z * z + q % z = q by rw [Nat.mul_comm]; exact Nat.div_add_mod q z]
  exact e
theorem nrd_fl {α : Type} {z : Nat} {f : α → List Value} {at' : α → Nat × Nat} (z0 : 0 < z) (hf : ∀ t, (f t).length = z) {w : World} {a : Option Addr} {ts : List α} (hl : LiesAt z a at' ts) (hc : ∀ t ∈ ts, ∀ i v, (f t)[i]? = some v → w.cell? ⟨(at' t).1, (at' t).2 + i, none⟩ = some v) : NRd w a (ts.flatMap f) := fun q v e => by
  obtain ⟨t, h1, h2⟩ := fl_of z0 hf e
  obtain ⟨b, off, ea, h3⟩ := hl (q / z) t h1
  refine ⟨b, off, ea, ?_⟩
  have := hc t (List.mem_of_getElem? h1) (q % z) v h2
  rw [h3] at this
  rw [← this]
  congr 2
  show off + q = off + q / z * z + q % z
  have := Nat.div_add_mod q z
  rw [Nat.mul_comm] at this
  omega
theorem EHr.cls {w : World} {h : EH} (d : EHr w h) : ∀ i v, h.cl[i]? = some v → w.cell? ⟨h.b, h.o + i, none⟩ = some v
  | 0, v, e => by cases e; exact d.c0
  | 1, v, e => by cases e; exact d.c1
  | 2, v, e => by cases e; exact d.c2
  | 3, v, e => by cases e; exact d.c3
  | 4, v, e => by cases e; exact d.c4
  | 5, v, e => by cases e; exact d.c5
  | 6, v, e => by cases e; exact d.c6
  | 7, v, e => by cases e; exact d.c7
  | n + 8, v, e => by simp [EH.cl] at e
theorem SHr.cls {w : World} {h : SH} (d : SHr w h) : ∀ i v, h.cl[i]? = some v → w.cell? ⟨h.b, h.o + i, none⟩ = some v
  | 0, v, e => by cases e; exact d.c0
  | 1, v, e => by cases e; exact d.c1
  | 2, v, e => by cases e; exact d.c2
  | 3, v, e => by cases e; exact d.c3
  | 4, v, e => by cases e; exact d.c4
  | 5, v, e => by cases e; exact d.c5
  | 6, v, e => by cases e; exact d.c6
  | 7, v, e => by cases e; exact d.c7
  | n + 8, v, e => by simp [SH.cl] at e
theorem DHr.cls {w : World} {h : DH} (d : DHr w h) : ∀ i v, h.cl[i]? = some v → w.cell? ⟨h.b, h.o + i, none⟩ = some v
  | 0, v, e => by cases e; exact d.c0
  | 1, v, e => by cases e; exact d.c1
  | 2, v, e => by cases e; exact d.c2
  | 3, v, e => by cases e; exact d.c3
  | 4, v, e => by cases e; exact d.c4
  | 5, v, e => by cases e; exact d.c5
  | 6, v, e => by cases e; exact d.c6
  | n + 7, v, e => by simp [DH.cl] at e
/- What a row's walk leaves as it was. -/
structure Nb (V W W' : World) (a : Option Addr) : Prop where
  b : Below V.heap.size W W'
  k : ∀ j, j < W.heap.size → (∀ x, a = some x → j ≠ x.block) → W'.heap[j]? = W.heap[j]?

def RsE (k : Nat) (s : ByteArray) (W W' : World) (a : Option Addr) (ts us : List (ET k)) : Prop := us.length = ts.length ∧ LiesAt 8 a (eAt k) us ∧ (∀ u ∈ us, ERd k W' u ∧ LoE k W.heap.size u) ∧ AllP (BarE k) ts us
set_option maxRecDepth 100000 in
theorem zero91 (l : Nat) (W : World) (s : ByteArray) (a : Option Addr) (cap : Nat) : CallsIn Fence.wide 0 Tryz.prog 91 #[.slice a 0 cap, .func (.yield l) #[] #[]] W fun e W' => e = .returned (.bool true) ∧ W' = W := by
  refine callsIn_of_wp Tryz.func91 rfl trivial ?_ rfl
  simp only [Tryz.ntmps91, List.size_toArray, List.length_cons, List.length_nil, Nat.reduceAdd, Nat.reduceSub, Array.replicate_succ, Array.replicate_zero, List.push_toArray, List.append_toArray, List.nil_append, List.cons_append]
  gi_wp2
  gi_loopw [8] (fun x wr => x = .int .i64 0 ∧ wr = W) (fun x _ => 0)
  case atStart => exact ⟨rfl, rfl⟩
  case round =>
    obtain ⟨rfl, rfl⟩ := hrel
    gi_wp2
    go_ret
    exact ⟨rfl, rfl⟩
theorem rowsE (k : Nat) (ih : HBE k) (w0 : World) (l D : Nat) (rdy : Obj) (hy : YB l D rdy) (hD : w0.heap.size ≤ l) (hDl : D ≠ l) (s : ByteArray) (V W : World) (a : Option Addr) (n cap : Nat) (ts : List (ET k)) (hn : n = ts.length) (hb : n ≤ 1000000) (hr : ∀ u ∈ ts, ERd k w0 u ∧ SmE k u) (hg : Gl l D rdy W) (hw : Below w0.heap.size w0 W) (hV : w0.heap.size ≤ V.heap.size) (hVD : D < V.heap.size) (hVl : l < V.heap.size) (hVW : V.heap.size ≤ W.heap.size) (hrow : RowN V W n 28 (ts.flatMap fun t => (eH k t).cl) a) :
    CallsIn Fence.wide 0 Tryz.prog 91 #[.slice a n cap, .func (.yield l) #[] #[]] W fun e W' => e = .returned (.bool true) ∧ Gl l D rdy W' ∧ Nb V W W' a ∧ ∃ us, RsE k s W W' a ts us := by
  rcases Nat.eq_zero_or_pos n with h0 | h0
  · subst h0
    refine (zero91 l W s a cap).mono fun e W' ⟨h1, h2⟩ => ?_
    subst h2
    refine ⟨h1, hg, ⟨Below.refl _ _, fun _ _ _ => rfl⟩, [], by rw [← hn]; rfl, fun j t e => by simp at e, fun u hu => by simp at hu, by rw [← hn]; rfl, fun j x y _ e => by simp at e⟩
  · obtain ⟨A, cs, rfl, hA, hcs, hnews⟩ := hrow.2 h0
    refine (hbEs_of k ih w0 l D rdy hy hD hDl s A 0 n cap cs ts W hn hb hr hg hw (by omega) (by omega) (by omega) hcs (fun j t ht i v hv => ?_)).mono ?_
    · have hi : i < 8 := (List.getElem?_eq_some_iff.1 hv).1
      have := fl_at (z := 8) (f := fun t : ET k => (eH k t).cl) (fun _ => rfl) ts j t ht i hi
      rw [Nat.zero_add]
      exact hnews _ _ (this.trans hv)
    · rintro e W' ⟨h1, h2, h3, us, hl, hd⟩
      have hget : ∀ (u : ET k), u ∈ us → ∃ j t, ts[j]? = some t ∧ us[j]? = some u := fun u hu => by
        obtain ⟨j, hj⟩ := List.getElem?_of_mem hu
        have hjl := (List.getElem?_eq_some_iff.1 hj).1
        exact ⟨j, ts[j]'(by omega), List.getElem?_eq_getElem _, hj⟩
      refine ⟨h1, h2, ⟨h3.bel.mono hA, fun j hj hx => h3.ne hj (hx _ rfl)⟩, us, hl, fun j u hj => ?_, fun u hu => ?_, hl.symm, fun j t u ht hj => (hd j t u ht hj).2.2.2⟩
      · have hjl := (List.getElem?_eq_some_iff.1 hj).1
        exact ⟨A, 0, rfl, (hd j (ts[j]'(by omega)) u (List.getElem?_eq_getElem _) hj).1⟩
      · obtain ⟨j, t, ht, hj⟩ := hget u hu
        exact ⟨(hd j t u ht hj).2.1, (hd j t u ht hj).2.2.1⟩

def RsS (k : Nat) (s : ByteArray) (W W' : World) (a : Option Addr) (ts us : List (ST k)) : Prop := us.length = ts.length ∧ LiesAt 8 a (sAt k) us ∧ (∀ u ∈ us, SRds k W' u ∧ LoS k W.heap.size u) ∧ AllP (BarS k) ts us
set_option maxRecDepth 100000 in
theorem zero90 (l : Nat) (W : World) (s : ByteArray) (a : Option Addr) (cap : Nat) : CallsIn Fence.wide 0 Tryz.prog 90 #[.slice a 0 cap, .func (.yield l) #[] #[]] W fun e W' => e = .returned (.bool true) ∧ W' = W := by
  refine callsIn_of_wp Tryz.func90 rfl trivial ?_ rfl
  simp only [Tryz.ntmps90, List.size_toArray, List.length_cons, List.length_nil, Nat.reduceAdd, Nat.reduceSub, Array.replicate_succ, Array.replicate_zero, List.push_toArray, List.append_toArray, List.nil_append, List.cons_append]
  gi_wp2
  gi_loopw [8] (fun x wr => x = .int .i64 0 ∧ wr = W) (fun x _ => 0)
  case atStart => exact ⟨rfl, rfl⟩
  case round =>
    obtain ⟨rfl, rfl⟩ := hrel
    gi_wp2
    go_ret
    exact ⟨rfl, rfl⟩
theorem rowsS (k : Nat) (ih : HBS k) (w0 : World) (l D : Nat) (rdy : Obj) (hy : YB l D rdy) (hD : w0.heap.size ≤ l) (hDl : D ≠ l) (s : ByteArray) (V W : World) (a : Option Addr) (n cap : Nat) (ts : List (ST k)) (hn : n = ts.length) (hb : n ≤ 1000000) (hr : ∀ u ∈ ts, SRds k w0 u ∧ SmS k u) (hg : Gl l D rdy W) (hw : Below w0.heap.size w0 W) (hV : w0.heap.size ≤ V.heap.size) (hVD : D < V.heap.size) (hVl : l < V.heap.size) (hVW : V.heap.size ≤ W.heap.size) (hrow : RowN V W n 49 (ts.flatMap fun t => (sH k t).cl) a) :
    CallsIn Fence.wide 0 Tryz.prog 90 #[.slice a n cap, .func (.yield l) #[] #[]] W fun e W' => e = .returned (.bool true) ∧ Gl l D rdy W' ∧ Nb V W W' a ∧ ∃ us, RsS k s W W' a ts us := by
  rcases Nat.eq_zero_or_pos n with h0 | h0
  · subst h0
    refine (zero90 l W s a cap).mono fun e W' ⟨h1, h2⟩ => ?_
    subst h2
    refine ⟨h1, hg, ⟨Below.refl _ _, fun _ _ _ => rfl⟩, [], by rw [← hn]; rfl, fun j t e => by simp at e, fun u hu => by simp at hu, by rw [← hn]; rfl, fun j x y _ e => by simp at e⟩
  · obtain ⟨A, cs, rfl, hA, hcs, hnews⟩ := hrow.2 h0
    refine (hbSs_of k ih w0 l D rdy hy hD hDl s A 0 n cap cs ts W hn hb hr hg hw (by omega) (by omega) (by omega) hcs (fun j t ht i v hv => ?_)).mono ?_
    · have hi : i < 8 := (List.getElem?_eq_some_iff.1 hv).1
      have := fl_at (z := 8) (f := fun t : ST k => (sH k t).cl) (fun _ => rfl) ts j t ht i hi
      rw [Nat.zero_add]
      exact hnews _ _ (this.trans hv)
    · rintro e W' ⟨h1, h2, h3, us, hl, hd⟩
      have hget : ∀ (u : ST k), u ∈ us → ∃ j t, ts[j]? = some t ∧ us[j]? = some u := fun u hu => by
        obtain ⟨j, hj⟩ := List.getElem?_of_mem hu
        have hjl := (List.getElem?_eq_some_iff.1 hj).1
        exact ⟨j, ts[j]'(by omega), List.getElem?_eq_getElem _, hj⟩
      refine ⟨h1, h2, ⟨h3.bel.mono hA, fun j hj hx => h3.ne hj (hx _ rfl)⟩, us, hl, fun j u hj => ?_, fun u hu => ?_, hl.symm, fun j t u ht hj => (hd j t u ht hj).2.2.2⟩
      · have hjl := (List.getElem?_eq_some_iff.1 hj).1
        exact ⟨A, 0, rfl, (hd j (ts[j]'(by omega)) u (List.getElem?_eq_getElem _) hj).1⟩
      · obtain ⟨j, t, ht, hj⟩ := hget u hu
        exact ⟨(hd j t u ht hj).2.1, (hd j t u ht hj).2.2.1⟩

def RsD (k : Nat) (s : ByteArray) (W W' : World) (a : Option Addr) (ts us : List (DT k)) : Prop := us.length = ts.length ∧ LiesAt 7 a (dAt) us ∧ (∀ u ∈ us, DRds k W' u ∧ LoD W.heap.size u ∧ u.1.sort = s) ∧ AllP (BarD) ts us
set_option maxRecDepth 100000 in
theorem zero89 (l : Nat) (W : World) (s : ByteArray) (a : Option Addr) (cap : Nat) : CallsIn Fence.wide 0 Tryz.prog 89 #[.string s, .slice a 0 cap, .func (.yield l) #[] #[]] W fun e W' => e = .returned (.bool true) ∧ W' = W := by
  refine callsIn_of_wp Tryz.func89 rfl trivial ?_ rfl
  simp only [Tryz.ntmps89, List.size_toArray, List.length_cons, List.length_nil, Nat.reduceAdd, Nat.reduceSub, Array.replicate_succ, Array.replicate_zero, List.push_toArray, List.append_toArray, List.nil_append, List.cons_append]
  gi_wp2
  gi_loopw [10] (fun x wr => x = .int .i64 0 ∧ wr = W) (fun x _ => 0)
  case atStart => exact ⟨rfl, rfl⟩
  case round =>
    obtain ⟨rfl, rfl⟩ := hrel
    gi_wp2
    go_ret
    exact ⟨rfl, rfl⟩
theorem rowsD (k : Nat) (ih : HBD k) (w0 : World) (l D : Nat) (rdy : Obj) (hy : YB l D rdy) (hD : w0.heap.size ≤ l) (hDl : D ≠ l) (s : ByteArray) (V W : World) (a : Option Addr) (n cap : Nat) (ts : List (DT k)) (hn : n = ts.length) (hb : n ≤ 1000000) (hr : ∀ u ∈ ts, DRds k w0 u ∧ SmD u ∧ u.1.sort = s) (hg : Gl l D rdy W) (hw : Below w0.heap.size w0 W) (hV : w0.heap.size ≤ V.heap.size) (hVD : D < V.heap.size) (hVl : l < V.heap.size) (hVW : V.heap.size ≤ W.heap.size) (hrow : RowN V W n 52 (ts.flatMap fun t => (Prod.fst t).cl) a) :
    CallsIn Fence.wide 0 Tryz.prog 89 #[.string s, .slice a n cap, .func (.yield l) #[] #[]] W fun e W' => e = .returned (.bool true) ∧ Gl l D rdy W' ∧ Nb V W W' a ∧ ∃ us, RsD k s W W' a ts us := by
  rcases Nat.eq_zero_or_pos n with h0 | h0
  · subst h0
    refine (zero89 l W s a cap).mono fun e W' ⟨h1, h2⟩ => ?_
    subst h2
    refine ⟨h1, hg, ⟨Below.refl _ _, fun _ _ _ => rfl⟩, [], by rw [← hn]; rfl, fun j t e => by simp at e, fun u hu => by simp at hu, by rw [← hn]; rfl, fun j x y _ e => by simp at e⟩
  · obtain ⟨A, cs, rfl, hA, hcs, hnews⟩ := hrow.2 h0
    refine (hbDs_of k ih w0 l D rdy hy hD hDl s A 0 n cap cs ts W hn hb hr hg hw (by omega) (by omega) (by omega) hcs (fun j t ht i v hv => ?_)).mono ?_
    · have hi : i < 7 := (List.getElem?_eq_some_iff.1 hv).1
      have := fl_at (z := 7) (f := fun t : DT k => (Prod.fst t).cl) (fun _ => rfl) ts j t ht i hi
      rw [Nat.zero_add]
      exact hnews _ _ (this.trans hv)
    · rintro e W' ⟨h1, h2, h3, us, hl, hd⟩
      have hget : ∀ (u : DT k), u ∈ us → ∃ j t, ts[j]? = some t ∧ us[j]? = some u := fun u hu => by
        obtain ⟨j, hj⟩ := List.getElem?_of_mem hu
        have hjl := (List.getElem?_eq_some_iff.1 hj).1
        exact ⟨j, ts[j]'(by omega), List.getElem?_eq_getElem _, hj⟩
      refine ⟨h1, h2, ⟨h3.bel.mono hA, fun j hj hx => h3.ne hj (hx _ rfl)⟩, us, hl, fun j u hj => ?_, fun u hu => ?_, hl.symm, fun j t u ht hj => (hd j t u ht hj).2.2.2.1⟩
      · have hjl := (List.getElem?_eq_some_iff.1 hj).1
        exact ⟨A, 0, rfl, (hd j (ts[j]'(by omega)) u (List.getElem?_eq_getElem _) hj).1⟩
      · obtain ⟨j, t, ht, hj⟩ := hget u hu
        exact ⟨(hd j t u ht hj).2.1, (hd j t u ht hj).2.2.1, (hd j t u ht hj).2.2.2.2⟩

theorem kp_of {V W W' : World} {a : Option Addr} (h : Nb V W W' a) {l : List ByteArray} {c : Option Addr} (hc : Apart c a) (r : SLs W c l) : SLs W' c l := fun j s e => by
  obtain ⟨b, off, ea, hc1⟩ := r j s e
  refine ⟨b, off, ea, ?_⟩
  have h1 := World.block_lt_of_cell? W _ hc1
  rw [World.cell?_of_block (w := W) (w' := W') (a := ⟨b, off + j, none⟩) (h.k b h1 (fun x e2 => hc _ x ea e2))]
  exact hc1
set_option maxRecDepth 100000 in
set_option maxHeartbeats 1000000 in
theorem hbE_succ (k : Nat) (ih : HBE k) : HBE (k + 1) := by
  intro w0 l D rdy hy hD hDl s t W b o c T hr hsm hg hw hbn b1 b2 hc hcl
  obtain ⟨h, ts⟩ := t
  obtain ⟨dh, dn, dl, de⟩ := hr
  obtain ⟨sm, se⟩ := hsm
  simp only at dh dn dl de sm se
  have hyr := yE hy w0 W h b o c T hg hD b2 b1 hDl hw hbn hc hcl sm dh.nl dh.nb dh.nr dh.ab (ts.flatMap fun t => (eH k t).cl) (by rw [fl_len (z := 8) (fun _ => rfl), dn]) (nrd_fl (z := 8) (f := fun t : ET k => (eH k t).cl) (by omega) (fun _ => rfl) dl (fun t ht => (de t ht).h.cls))
  obtain ⟨fn', tmps, assign, body, hyr, hRd⟩ := hyr
  have HRd := hid hRd
  have hDW := heap_lt hg.d
  have hlW := heap_lt hg.l
  have hbW := heap_lt hc
  have KA := hid (fun (V1 : World) (g1 : Gl l D rdy V1) (B1 : BE W b o h (ts.flatMap fun t => (eH k t).cl) V1) (a1 : Option Addr) (cap : Nat) (r1 : RowN W V1 h.an 28 (ts.flatMap fun t => (eH k t).cl) a1) => rowsE k ih w0 l D rdy hy hD hDl s W V1 a1 h.an cap ts dn dh.ab (fun u hu => ⟨de u hu, se u hu⟩) g1 (hw.trans (B1.fr.bel.mono hbn)) hw.size hDW hlW B1.fr.size r1)
  have DH := hid dh
  have DN := hid dn
  clear hRd hg dh dn dl de hw ih hc hcl sm se
  refine callsIn_of_wp Tryz.func62 rfl trivial ?_ rfl
  simp only [Tryz.ntmps62, List.size_toArray, List.length_cons, List.length_nil, Nat.reduceAdd, Nat.reduceSub, Array.replicate_succ, Array.replicate_zero, List.push_toArray, List.append_toArray, List.nil_append, List.cons_append]
  gi_wp2
  refine ⟨rfl, (Hid.out HRd).mono ?_⟩
  rintro e W3 ⟨rfl, g3, B3⟩
  obtain ⟨na2, aa2, nc2, ac2, c3, T3, hb3, hc3, hR, hA, hN⟩ := B3.r
  have K3 := hid (Hid.out KA W3 g3 B3 aa2 ac2 hA)
  have c6 := cellT hb3 (o + 6)
  rw [hc3 6 _ rfl] at c6
  have HB3 := hid hb3
  have HC3 := hid hc3
  have HR := hid hR
  have HA := hid hA
  have HNA := hid hN
  have HBE := hid B3
  clear hb3 hc3 hR hA hN B3 g3
  gi_wp2_with (refine ⟨trivial, rfl, ?_⟩; gi_at_call 91; refine (Hid.out K3).mono ?_; rintro e W4 ⟨rfl, g4, n4, us, hl4, hli, hus, hal⟩)
  go_ret
  have dh := DH.out
  have hb4 := (n4.b.block b hbW).trans HB3.out
  refine ⟨rfl, g4, HBE.out.fr.trans (Fr.of n4.b hbW (Nat.le_refl _)), (({ h with b := b, o := o, na := na2, nc := nc2, aa := aa2, ac := ac2, pos := 0 } : EH), us), rfl, ⟨⟨?_, ?_, ?_, ?_, ?_, ?_, ?_, ?_, dh.i0, dh.i1, dh.t, dh.n, dh.nl, dh.nb, dh.ns, kp_of n4 HNA.out (HR.out.sls dh.nl), dh.ab⟩, by show h.an = us.length; rw [hl4]; exact DN.out, hli, fun u hu => (hus u hu).1⟩, ⟨fun x e => (HR.out.1 x e).1, fun x e => (HA.out.1 x e).1, fun u hu => (hus u hu).2.mono HBE.out.fr.size⟩, ?_, rfl, hal⟩
  · rw [cellT hb4]; exact HC3.out 0 _ rfl
  · rw [cellT hb4]; exact HC3.out 1 _ rfl
  · rw [cellT hb4]; exact HC3.out 2 _ rfl
  · rw [cellT hb4]; exact HC3.out 3 _ rfl
  · rw [cellT hb4]; exact HC3.out 4 _ rfl
  · rw [cellT hb4]; exact HC3.out 5 _ rfl
  · rw [cellT hb4]; exact HC3.out 6 _ rfl
  · rw [cellT hb4]; exact HC3.out 7 _ rfl
  · simp [alikeE]
theorem hbE_all : ∀ k, HBE k
  | 0 => fun w0 l D rdy hy hD hDl s t => Empty.elim t
  | k + 1 => hbE_succ k (hbE_all k)
end Go.Proofs.YtdfambocenohgaaGreatDoor

