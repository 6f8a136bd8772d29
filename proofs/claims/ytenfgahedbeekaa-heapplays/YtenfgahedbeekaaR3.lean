/- The document's Del, told with its blocks. -/
import Derived.Test.YtenfgahedbeekaaU3
namespace Go.Proofs.Ytenfgahedbeekaa
open Go.RowKit Go.Deep Go.Shelf
set_option linter.unusedVariables false
set_option linter.unusedSimpArgs false

def RsQ (k : Nat) (w : World) (A : Nat → Prop) (S : List (RC k)) (e : Ending) (w' : World) : Prop := ∃ fa fn fc, e = .returned (.agg #[.slice fa fn fc]) ∧ Below w.heap.size w w' ∧ fn ≤ fc ∧ StCP k w' (fun b => A b ∨ (w.heap.size ≤ b ∧ b < w'.heap.size)) fa fn S
set_option maxRecDepth 100000 in
set_option maxHeartbeats 2000000 in
theorem refDel_P (k : Nat) (w : World) (sa : Option Addr) (sn sc : Nat) (ms : List (Sl × Rw k)) (A : Nat → Prop) (hA : ∀ b, A b → b < w.heap.size) (hP : StP k w A sa sn ms) (hsc : sn ≤ sc) (m : Int) (kt : VT k) (hkP : RdP k w A kt) :
    Calls Try.prog 16 #[.agg #[.slice sa sn sc], .int .i64 m, (hdT k kt).v] w (RsQ k w A (if (placeR (fun p => cmpT k p.1 kt) (rowAt ms m)).2 = true then (ms.map fun q => rowC k q.2).set m.toNat (rowC k ((rowAt ms m).take (placeR (fun p => cmpT k p.1 kt) (rowAt ms m)).1 ++ (rowAt ms m).drop ((placeR (fun p => cmpT k p.1 kt) (rowAt ms m)).1 + 1))) else ms.map fun q => rowC k q.2)) := by
  have hd := hP.str
  have hk := hkP.rds k
  have DMP := hid hP.el
  have HP0 := hid hP
  have HA := hid hA
  have HKP := hid hkP
  clear hP hkP hA
  have D := hid hd
  have Hn := hid hd.n1
  have hle := hd.n2
  have hle2 : (sn : Int) ≤ 1000 := by omega
  have hle0 : (0 : Int) ≤ (sn : Int) := by omega
  have K42 := hid (fun (w1 : World) (hb : Below w.heap.size w w1) => refAt_any k w1 sa sn sc ms (hd.below (Nat.le_refl _) hb) m kt (Rds.below k hk (Nat.le_refl _) hb))
  clear hd hk
  generalize hdT k kt = hkt at *
  obtain ⟨kk, ki, kx, kr, ka, kn, kc⟩ := hkt
  simp only [Hd.v] at K42 ⊢
  obtain ⟨W0, hW0⟩ : ∃ W0, W0 = ((w.alloc (.cells #[.slice sa sn sc] 27)).alloc (.cells #[.int .i64 kk, .int .i64 ki, .string kx, .int .i64 kr, .slice ka kn kc] 31)).alloc (.cells #[.slice none 0 0] 27) := ⟨_, rfl⟩
  have pl' : ∀ {w : World} {o x : Obj} {k : Nat}, w.heap[k]? = some x → (w.alloc o).heap[k]? = some x := fun h => (Below.heap_alloc _ _ _ (Array.getElem?_eq_some_iff.1 h).1).trans h
  have n1 := heap_alloc_new w (.cells #[.slice sa sn sc] 27)
  have n2 := heap_alloc_new (w.alloc (.cells #[.slice sa sn sc] 27)) (.cells #[.int .i64 kk, .int .i64 ki, .string kx, .int .i64 kr, .slice ka kn kc] 31)
  have n3 := heap_alloc_new ((w.alloc (.cells #[.slice sa sn sc] 27)).alloc (.cells #[.int .i64 kk, .int .i64 ki, .string kx, .int .i64 kr, .slice ka kn kc] 31)) (.cells #[.slice none 0 0] 27)
  simp only [World.size_alloc] at n2 n3
  have q1 : W0.heap[w.heap.size]? = some (.cells #[.slice sa sn sc] 27 (0, 0)) := by rw [hW0]; exact pl' (pl' n1)
  have q2 : W0.heap[w.heap.size + 1]? = some (.cells #[.int .i64 kk, .int .i64 ki, .string kx, .int .i64 kr, .slice ka kn kc] 31 (0, 0)) := by rw [hW0]; exact pl' n2
  have q3 : W0.heap[w.heap.size + 1 + 1]? = some (.cells #[.slice none 0 0] 27 (0, 0)) := by rw [hW0]; exact n3
  have hb0 : Below w.heap.size w W0 := by rw [hW0]; exact (((Below.refl _ w).alloc (Nat.le_refl _) _).alloc (by simp) _).alloc (by simp; omega) _
  have hz0 : w.heap.size + 3 ≤ W0.heap.size := by rw [hW0]; simp
  have FX : Hid (∀ w2 : World, Below W0.heap.size W0 w2 → w2.cell? ⟨w.heap.size, 0, none⟩ = some (.slice sa sn sc) ∧ w2.heap[w.heap.size + 1 + 1]? = some (.cells #[.slice none 0 0] 27 (0, 0)) ∧ Below w.heap.size w w2) := hid (fun w2 hb => ⟨cellOf ((hb.block _ (Array.getElem?_eq_some_iff.1 q1).1).trans q1) 0, (hb.block _ (Array.getElem?_eq_some_iff.1 q3).1).trans q3, hb0.trans (hb.mono hb0.size)⟩)
  have TR : Hid (∀ {Z x y : World}, Below Z.heap.size Z x → Below x.heap.size x y → Below Z.heap.size Z y) := hid (fun h1 h2 => h1.trans (h2.mono h1.size))
  have c0 : W0.cell? ⟨w.heap.size, 0, none⟩ = some (.slice sa sn sc) := cellOf q1 0
  have k0 := cellOf q2 0
  have k1 := cellOf q2 1
  have k2 := cellOf q2 2
  have k3 := cellOf q2 3
  have k4 := cellOf q2 4
  simp only [List.getElem?_toArray, List.getElem?_cons_zero, List.getElem?_cons_succ] at k0 k1 k2 k3 k4
  have HB0 := hid hb0
  have HZ0 := hid hz0
  clear q1 q2 q3 n1 n2 n3 pl' hb0 hz0
  obtain ⟨pl, hpl⟩ : ∃ pl, pl = placeR (fun p => cmpT k p.1 kt) (rowAt ms m) := ⟨_, rfl⟩
  rw [← hpl] at K42 ⊢
  cases hok : pl.2 with
  | false =>
    rw [hok] at K42
    simp only [Bool.false_eq_true, if_false]
    go_enter Try.func16, Try.ntmps16
    go_upto_region 1 with fail
    rw [← hW0]
    clear hW0
    go_wp2_with (go_at_call 42; (refine (K42.out _ HB0.out).mono ?_; rintro e w1 ⟨rfl, hb1⟩; obtain ⟨c0', g2, bb⟩ := FX.out w1 hb1; have e0 := cellOf g2 0; have f0 := freeOf g2 0; simp only [List.getElem?_toArray, List.getElem?_cons_zero, List.getElem?_cons_succ] at e0; have G2 := hid g2; have BB := hid bb; clear g2 hb1))
    have h5 := set_cells G2.out (.slice sa sn sc)
    have r0 := cellOf h5 0
    simp only [List.getElem?_toArray, List.getElem?_cons_zero] at r0
    have hb5 := BB.out.setCell (p := ⟨w.heap.size + 1 + 1, 0, none⟩) (by show w.heap.size ≤ w.heap.size + 1 + 1; omega) (.slice sa sn sc)
    generalize w1.setCell ⟨w.heap.size + 1 + 1, 0, none⟩ (.slice sa sn sc) = W5 at *
    exact bodyPost_ret (v := .agg #[.slice sa sn sc]) (by simp [results, Try.results16, go_sem, r0]) rfl ⟨sa, sn, sc, rfl, hb5, hsc, ms, (HP0.out.keep (fun b hb => hb5.block b (HA.out b hb))).imp (fun b hb => .inl hb), rfl⟩
  | true =>
    have hlt := placeR_lt (fun p => cmpT k p.1 kt) (rowAt ms m) (by rw [← hpl]; exact hok)
    rw [← hpl] at hlt
    rw [hok] at K42
    simp only [if_true]
    have hm : 0 ≤ m ∧ m < (sn : Int) := by
      cases hh : hasB sn m with
      | false => rw [rowAt_no Hn.out hh] at hlt; simp at hlt
      | true => simpa [hasB] using hh
    obtain ⟨i0, rfl⟩ : ∃ i0 : Nat, m = (i0 : Int) := ⟨m.toNat, by omega⟩
    have hi0 := hm.1
    have hi1 := hm.2
    obtain ⟨p, hp⟩ : ∃ p, ms[i0]? = some p := ⟨ms[i0]'(by rw [← Hn.out]; omega), List.getElem?_eq_getElem _⟩
    rw [rowAt_yes hp] at hlt ⊢
    obtain ⟨b, off, ea, dc⟩ := D.out.rd i0 p.1 (by rw [List.getElem?_map, hp]; rfl)
    subst ea
    have hel := (D.out.el p (List.mem_of_getElem? hp)).1
    have HelP := hid (DMP.out p (List.mem_of_getElem? hp)).1
    have hcap := (D.out.el p (List.mem_of_getElem? hp)).2
    obtain ⟨⟨ma, mn, mc⟩, mr⟩ := p
    simp only [Sl.v] at dc
    simp only at hel hcap hlt ⊢
    obtain ⟨i, hi⟩ : ∃ i, i = pl.1 := ⟨_, rfl⟩
    rw [← hi] at hlt K42 ⊢
    have Hmn := hid hel.n1
    have hmn2 := hel.n2
    rw [← Hmn.out] at hlt
    have hlt1 : (i : Int) < (mn : Int) := by omega
    have hi00 : (0 : Int) ≤ (i : Int) := by omega
    have hmn3 : (mn : Int) ≤ 1000 := by omega
    have hcap1 : (mn : Int) ≤ (mc : Int) := by omega
    have hicp : (i : Int) ≤ (mc : Int) := by omega
    have hw1 : IntKind.i64.wrap ((i : Int) + 1) = (i : Int) + 1 := by rw [IntKind.wrap_i64]; omega
    have hd1 : (0 : Int) ≤ (i : Int) + 1 := by omega
    have hd2 : (i : Int) + 1 ≤ (mn : Int) := by omega
    obtain ⟨q, hq⟩ : ∃ q, mr[i]? = some q := ⟨mr[i]'(by rw [← Hmn.out]; exact hlt), List.getElem?_eq_getElem _⟩
    obtain ⟨b1, o1, ea, _⟩ := hel.rd i (enT k q) (by rw [List.getElem?_map, hq]; rfl)
    subst ea
    have Hel := hid hel
    have DX : Hid (∀ w2 : World, Below w.heap.size w w2 → w2.cell? ⟨b, off + i0, none⟩ = some (.slice (some ⟨b1, o1, none⟩) mn mc)) := hid (fun w2 hb => (hb.cell (p := ⟨b, off + i0, none⟩) (World.block_lt_of_cell? w _ dc)).trans dc)
    obtain ⟨row', hrow'⟩ : ∃ row', row' = mr.take i ++ mr.drop (i + 1) := ⟨_, rfl⟩
    rw [← hrow']
    have Hrow' := hid hrow'
    have hrlen : row'.length ≤ 1000 := by rw [hrow', List.length_append, List.length_take, List.length_drop, ← Hmn.out]; omega
    have Hmap : Hid (row'.map (enT k) = (mr.map (enT k)).take i ++ (mr.map (enT k)).drop (i + 1)) := hid (by rw [hrow', List.map_append, List.map_take, List.map_drop])
    have Hmem : Hid (∀ q ∈ row', q ∈ mr) := hid (fun q hq => by
      rw [hrow'] at hq
      rcases List.mem_append.1 hq with h | h
      · exact List.mem_of_mem_take h
      · exact List.mem_of_mem_drop h)
    have K43 : Hid (∀ (w1 : World), Below w.heap.size w w1 → ∀ (ra : Option Addr) (rn rc : Nat), RwR k w1 ra rn row' → rn ≤ rc → Calls Try.prog 43 #[.agg #[.slice (some ⟨b, off, none⟩) sn sc], .int .i64 (i0 : Int), .slice ra rn rc] w1 (RwT k w1 (ms.set i0 (⟨ra, rn, rc⟩, row')))) := hid (fun w1 hb ra rn rc hr hc => refWith_any k w1 _ sn sc ms (D.out.below (Nat.le_refl _) hb) i0 (by omega) ra rn rc row' hr hc)
    have DM : Hid (∀ m ∈ ms, RwR k w m.1.a m.1.n m.2 ∧ m.1.n ≤ m.1.cap) := hid D.out.el
    clear dc hp hm hq hok hpl hi hel hrow' D
    by_cases hcd : mc = i + 1
    · have hcdt := eq_true hcd
      have Hcd := hid hcd
      clear hcd
      go_enter Try.func16, Try.ntmps16
      go_upto_region 1 with fail
      rw [← hW0]
      clear hW0
      go_upto_region 5 with (first
        | (go_at_call 42; (refine (K42.out _ HB0.out).mono ?_; rintro e w1 ⟨rfl, hb1⟩; obtain ⟨c0', g2, bb⟩ := FX.out w1 hb1; have x0 := DX.out w1 bb; have HB1 := hid hb1; have BB := hid bb; clear g2 hb1))
        | (at_builtin; refine wpList_appH w1 rfl _ _ rfl ⟨b1, o1, none⟩ i mc (by rfl) (by rfl) ((mr.map (enT k)).take i) (by rw [List.length_take, List.length_map, ← Hmn.out]; omega) (by omega) (((Hel.out.below (Nat.le_refl _) BB.out).rd).take i) ?_; intro v2 w2 hr2 hg2; obtain ⟨fa, fc, e2, hc2⟩ := hr2.form; obtain ⟨fn, hfn⟩ : ∃ fn, fn = ((mr.map (enT k)).take i).length := ⟨_, rfl⟩; rw [← hfn] at e2; subst e2; have R2 := hid hr2; have B2 := hid (TR.out HB1.out (below_of_grown hg2)); have G2s := hid (Nat.le_trans HB1.out.size (Nat.le_refl _)); have G2z := hid hg2.size; clear hr2 hg2 hc2 hfn))
      have B2d := hid B2.out.drew
      have W2d := hid (FX.out _ B2d.out).2.2
      have SC2 : Hid (∀ W : World, Below W0.heap.size W0 W → W.cell? ⟨w.heap.size, 0, none⟩ = some (.slice (some ⟨b, off, none⟩) sn sc) ∧ W.cell? ⟨b, off + i0, none⟩ = some (.slice (some ⟨b1, o1, none⟩) mn mc)) := hid (fun W hb => ⟨(FX.out W hb).1, DX.out W (FX.out W hb).2.2⟩)
      obtain ⟨s0, s1⟩ := SC2.out _ B2.out
      go_region_held3 (fun W' => W'.cell? ⟨w.heap.size, 0, none⟩ = some (.slice (some ⟨b, off, none⟩) sn sc) ∧ W'.cell? ⟨b, off + i0, none⟩ = some (.slice (some ⟨b1, o1, none⟩) mn mc)) (first | with_reducible exact ⟨(World.cell?_of_block (Below.heap_setCell _ _ _ _ (by show w.heap.size ≠ w.heap.size + 1 + 1; omega))).trans (SC2.out _ B4.out).1, (World.cell?_of_block (Below.heap_setCell _ _ _ _ (by show b ≠ w.heap.size + 1 + 1; have := World.block_lt_of_cell? w _ (show w.cell? ⟨b, off + i0, none⟩ = some _ from DX.out w (Below.refl _ _)); simp at this; omega))).trans (SC2.out _ B4.out).2⟩ | with_reducible exact SC2.out _ B4.out | with_reducible exact SC2.out _ B3.out | with_reducible exact SC2.out _ B2d.out | go_keep) ((first
        | (go_at_call 43; (have hno := R3; refine (K43.out _ W3.out ga gn gc R3.out (by have := HGC.out; omega)).mono ?_; rintro e w4 ⟨jg, jn, jc, rfl, hb4, hjc, hjg, hjl, hjn, hj1, hst⟩; have B4 := hid (TR.out B3.out hb4); obtain ⟨_, x6, bb6⟩ := FX.out w4 B4.out; have x60 := cellOf x6 0; have x6f := freeOf x6 0; simp only [List.getElem?_toArray, List.getElem?_cons_zero] at x60; have X6 := hid x6; have BB6 := hid bb6; have HST := hid hst; have HB34 := hid hb4; have Hjn := hid hjn; clear hjn x6 bb6 hst hb4))
        | (refine step_appX (by rfl) _ _ (by rfl) (.slice fa fn fc) (by rfl) _ (by rfl) _ _ (R2.out.below (Nat.le_refl _) (Below.refl _ w2).drew) (by have := G2z.out; simpa using this) (some ⟨b1, o1, none⟩) mn mc (i + 1) (by unfold sliced; rw [if_pos Hcd.out]; rfl) (mr.map (enT k)) (by rw [List.length_map]; exact Hmn.out) hmn2 (by omega) hcap ((Hel.out.below (Nat.le_refl _) W2d.out).rd) (by rw [List.length_take, List.length_map]; omega) ?_; intro v3 w3 hr3 hg3; rw [← Hmap.out] at hr3; have B3 := hid (grw_below B2d.out (R2.out.below (Nat.le_refl _) (Below.refl _ w2).drew) hg3 (by have := HB1.out.size; omega)); obtain ⟨ga, gc, e5, hc5⟩ := hr3.form; obtain ⟨gn, hgn⟩ : ∃ gn, gn = (row'.map (enT k)).length := ⟨_, rfl⟩; rw [← hgn] at e5 hc5; subst e5; have HGC := hid hc5; have E3 := hid hr3; have W3 := hid (FX.out _ B3.out).2.2; have R3 : Hid (RwR k w3 ga gn row') := hid ⟨by rw [hgn, List.length_map], by rw [hgn, List.length_map]; exact hrlen, hr3.rd, fun q hq => (Hel.out.below (Nat.le_refl _) W3.out).el q (Hmem.out q hq)⟩; clear hr3 hg3 hc5 hgn)))
      go_wp2
      have h5 := set_cells X6.out (.slice (some ⟨jg, 0, none⟩) jn jc)
      have r0 := cellOf h5 0
      simp only [List.getElem?_toArray, List.getElem?_cons_zero] at r0
      have hb5 := BB6.out.setCell (p := ⟨w.heap.size + 1 + 1, 0, none⟩) (by show w.heap.size ≤ w.heap.size + 1 + 1; omega) (.slice (some ⟨jg, 0, none⟩) jn jc)
      have hs3 := B3.out.size
      have hkp : ∀ x, x ≠ w.heap.size + 1 + 1 → (w4.setCell ⟨w.heap.size + 1 + 1, 0, none⟩ (.slice (some ⟨jg, 0, none⟩) jn jc)).heap[x]? = w4.heap[x]? := fun x hx => Below.heap_setCell _ _ _ _ hx
      have hz9 : (w4.setCell ⟨w.heap.size + 1 + 1, 0, none⟩ (.slice (some ⟨jg, 0, none⟩) jn jc)).heap.size = w4.heap.size := by simp [World.setCell]
      have h34 := HB34.out.size
      generalize w4.setCell ⟨w.heap.size + 1 + 1, 0, none⟩ (.slice (some ⟨jg, 0, none⟩) jn jc) = W9 at *
      have hz := HZ0.out
      have mrd : MRd W9 (some ⟨jg, 0, none⟩) ((ms.set i0 (⟨ga, gn, gc⟩, row')).map (·.1)) := fun j x hx => by
        obtain ⟨b', off', e, hc⟩ := HST.out j x hx
        cases e
        refine ⟨_, _, rfl, ?_⟩
        rw [← hc]
        exact World.cell?_of_block (a := ⟨jg, 0 + j, none⟩) (hkp jg (by omega))
      have er9 : ERow W9 _ (.slice ga gn gc) (row'.map (enT k)) := (E3.out.below (Nat.le_refl _) HB34.out).same (fun q e => hkp q (by have h1 := (E3.out.own q e).1; (try simp at h1); have := HB1.out.size; omega))
      refine bodyPost_ret (v := .agg #[.slice (some ⟨jg, 0, none⟩) jn jc]) (by simp [results, Try.results16, go_sem, r0]) rfl ⟨_, jn, jc, rfl, hb5, hjc, ms.set i0 (⟨ga, gn, gc⟩, row'), StP.put HA.out DMP.out hb5 (fun x hx => HelP.out.el x (Hmem.out x hx)) R3.out.n1 R3.out.n2 HGC.out er9.rd (fun x e ne => ?_) mrd (by omega) (by omega) Hjn.out hj1, ?_⟩
      · subst e
        rcases er9.2 with ⟨e, _⟩ | ⟨g9, c9, cur9, e, hb9, hg9, _⟩
        · cases e
        · cases e
          refine ⟨?_, (Array.getElem?_eq_some_iff.1 hg9).1⟩
          show w.heap.size ≤ g9
          have := HB1.out.size
          omega
      · rw [List.map_set]; rfl
    · go_enter Try.func16, Try.ntmps16
      go_upto_region 1 with fail
      rw [← hW0]
      clear hW0
      go_upto_region 5 with (first
        | (go_at_call 42; (refine (K42.out _ HB0.out).mono ?_; rintro e w1 ⟨rfl, hb1⟩; obtain ⟨c0', g2, bb⟩ := FX.out w1 hb1; have x0 := DX.out w1 bb; have HB1 := hid hb1; have BB := hid bb; clear g2 hb1))
        | (at_builtin; refine wpList_appH w1 rfl _ _ rfl ⟨b1, o1, none⟩ i mc (by rfl) (by rfl) ((mr.map (enT k)).take i) (by rw [List.length_take, List.length_map, ← Hmn.out]; omega) (by omega) (((Hel.out.below (Nat.le_refl _) BB.out).rd).take i) ?_; intro v2 w2 hr2 hg2; obtain ⟨fa, fc, e2, hc2⟩ := hr2.form; obtain ⟨fn, hfn⟩ : ∃ fn, fn = ((mr.map (enT k)).take i).length := ⟨_, rfl⟩; rw [← hfn] at e2; subst e2; have R2 := hid hr2; have B2 := hid (TR.out HB1.out (below_of_grown hg2)); have G2s := hid (Nat.le_trans HB1.out.size (Nat.le_refl _)); have G2z := hid hg2.size; clear hr2 hg2 hc2 hfn))
      have B2d := hid B2.out.drew
      have W2d := hid (FX.out _ B2d.out).2.2
      have SC2 : Hid (∀ W : World, Below W0.heap.size W0 W → W.cell? ⟨w.heap.size, 0, none⟩ = some (.slice (some ⟨b, off, none⟩) sn sc) ∧ W.cell? ⟨b, off + i0, none⟩ = some (.slice (some ⟨b1, o1, none⟩) mn mc)) := hid (fun W hb => ⟨(FX.out W hb).1, DX.out W (FX.out W hb).2.2⟩)
      obtain ⟨s0, s1⟩ := SC2.out _ B2.out
      go_region_held3 (fun W' => W'.cell? ⟨w.heap.size, 0, none⟩ = some (.slice (some ⟨b, off, none⟩) sn sc) ∧ W'.cell? ⟨b, off + i0, none⟩ = some (.slice (some ⟨b1, o1, none⟩) mn mc)) (first | with_reducible exact ⟨(World.cell?_of_block (Below.heap_setCell _ _ _ _ (by show w.heap.size ≠ w.heap.size + 1 + 1; omega))).trans (SC2.out _ B4.out).1, (World.cell?_of_block (Below.heap_setCell _ _ _ _ (by show b ≠ w.heap.size + 1 + 1; have := World.block_lt_of_cell? w _ (show w.cell? ⟨b, off + i0, none⟩ = some _ from DX.out w (Below.refl _ _)); simp at this; omega))).trans (SC2.out _ B4.out).2⟩ | with_reducible exact SC2.out _ B4.out | with_reducible exact SC2.out _ B3.out | with_reducible exact SC2.out _ B2d.out | go_keep) ((first
        | (go_at_call 43; (have hno := R3; refine (K43.out _ W3.out ga gn gc R3.out (by have := HGC.out; omega)).mono ?_; rintro e w4 ⟨jg, jn, jc, rfl, hb4, hjc, hjg, hjl, hjn, hj1, hst⟩; have B4 := hid (TR.out B3.out hb4); obtain ⟨_, x6, bb6⟩ := FX.out w4 B4.out; have x60 := cellOf x6 0; have x6f := freeOf x6 0; simp only [List.getElem?_toArray, List.getElem?_cons_zero] at x60; have X6 := hid x6; have BB6 := hid bb6; have HST := hid hst; have HB34 := hid hb4; have Hjn := hid hjn; clear hjn x6 bb6 hst hb4))
        | (refine step_appX (by rfl) _ _ (by rfl) (.slice fa fn fc) (by rfl) _ (by rfl) _ _ (R2.out.below (Nat.le_refl _) (Below.refl _ w2).drew) (by have := G2z.out; simpa using this) (some ⟨b1, o1, none⟩) mn mc (i + 1) (by unfold sliced; rw [if_neg hcd]; first | rfl | (simp [Addr.add_lit]; rfl)) (mr.map (enT k)) (by rw [List.length_map]; exact Hmn.out) hmn2 (by omega) hcap ((Hel.out.below (Nat.le_refl _) W2d.out).rd) (by rw [List.length_take, List.length_map]; omega) ?_; intro v3 w3 hr3 hg3; rw [← Hmap.out] at hr3; have B3 := hid (grw_below B2d.out (R2.out.below (Nat.le_refl _) (Below.refl _ w2).drew) hg3 (by have := HB1.out.size; omega)); obtain ⟨ga, gc, e5, hc5⟩ := hr3.form; obtain ⟨gn, hgn⟩ : ∃ gn, gn = (row'.map (enT k)).length := ⟨_, rfl⟩; rw [← hgn] at e5 hc5; subst e5; have HGC := hid hc5; have E3 := hid hr3; have W3 := hid (FX.out _ B3.out).2.2; have R3 : Hid (RwR k w3 ga gn row') := hid ⟨by rw [hgn, List.length_map], by rw [hgn, List.length_map]; exact hrlen, hr3.rd, fun q hq => (Hel.out.below (Nat.le_refl _) W3.out).el q (Hmem.out q hq)⟩; clear hr3 hg3 hc5 hgn)))
      go_wp2
      have h5 := set_cells X6.out (.slice (some ⟨jg, 0, none⟩) jn jc)
      have r0 := cellOf h5 0
      simp only [List.getElem?_toArray, List.getElem?_cons_zero] at r0
      have hb5 := BB6.out.setCell (p := ⟨w.heap.size + 1 + 1, 0, none⟩) (by show w.heap.size ≤ w.heap.size + 1 + 1; omega) (.slice (some ⟨jg, 0, none⟩) jn jc)
      have hs3 := B3.out.size
      have hkp : ∀ x, x ≠ w.heap.size + 1 + 1 → (w4.setCell ⟨w.heap.size + 1 + 1, 0, none⟩ (.slice (some ⟨jg, 0, none⟩) jn jc)).heap[x]? = w4.heap[x]? := fun x hx => Below.heap_setCell _ _ _ _ hx
      have hz9 : (w4.setCell ⟨w.heap.size + 1 + 1, 0, none⟩ (.slice (some ⟨jg, 0, none⟩) jn jc)).heap.size = w4.heap.size := by simp [World.setCell]
      have h34 := HB34.out.size
      generalize w4.setCell ⟨w.heap.size + 1 + 1, 0, none⟩ (.slice (some ⟨jg, 0, none⟩) jn jc) = W9 at *
      have hz := HZ0.out
      have mrd : MRd W9 (some ⟨jg, 0, none⟩) ((ms.set i0 (⟨ga, gn, gc⟩, row')).map (·.1)) := fun j x hx => by
        obtain ⟨b', off', e, hc⟩ := HST.out j x hx
        cases e
        refine ⟨_, _, rfl, ?_⟩
        rw [← hc]
        exact World.cell?_of_block (a := ⟨jg, 0 + j, none⟩) (hkp jg (by omega))
      have er9 : ERow W9 _ (.slice ga gn gc) (row'.map (enT k)) := (E3.out.below (Nat.le_refl _) HB34.out).same (fun q e => hkp q (by have h1 := (E3.out.own q e).1; (try simp at h1); have := HB1.out.size; omega))
      refine bodyPost_ret (v := .agg #[.slice (some ⟨jg, 0, none⟩) jn jc]) (by simp [results, Try.results16, go_sem, r0]) rfl ⟨_, jn, jc, rfl, hb5, hjc, ms.set i0 (⟨ga, gn, gc⟩, row'), StP.put HA.out DMP.out hb5 (fun x hx => HelP.out.el x (Hmem.out x hx)) R3.out.n1 R3.out.n2 HGC.out er9.rd (fun x e ne => ?_) mrd (by omega) (by omega) Hjn.out hj1, ?_⟩
      · subst e
        rcases er9.2 with ⟨e, _⟩ | ⟨g9, c9, cur9, e, hb9, hg9, _⟩
        · cases e
        · cases e
          refine ⟨?_, (Array.getElem?_eq_some_iff.1 hg9).1⟩
          show w.heap.size ≤ g9
          have := HB1.out.size
          omega
      · rw [List.map_set]; rfl
end Go.Proofs.Ytenfgahedbeekaa
