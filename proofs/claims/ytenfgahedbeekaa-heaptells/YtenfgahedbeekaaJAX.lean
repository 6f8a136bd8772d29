/- The document's side: Del. -/
import Derived.Test.YtenfgahedbeekaaJAW
namespace Go.Proofs.Ytenfgahedbeekaa
open Go.RowKit Go.Deep Go.Shelf
set_option linter.unusedVariables false
set_option linter.unusedSimpArgs false

theorem run_appH (w : World) (ty : TypeId) (ad : Addr) (n c : Nat) (es : List En) (hn : n = es.length) (hle : n ≤ 1000) (hrd : ERd w (some ad) es) :
    ∃ v' w', (Builtin.append_ #[70, 70] ty #[.slice none 0 0, .slice (some ad) n c]).run Try.prog w = .ok v' w' ∧ ERow w' w.heap.size v' es ∧ w.grownBy w' none := by
  obtain ⟨i0, hi, hz0, hz1, hz2⟩ := info_parts info81
  obtain ⟨v', w', hrun, hown, hgr, _, hat⟩ := run_append_own_at (P := Try.prog) w w.heap.size 70 ty 81 i0 zeroE 10 128 Try.underlying70 hi hz0 hz1 hz2 rfl (by decide) (.slice none 0 0) 0 [] (World.ownsRow_nil _ _ _ _) ad n c (ee es) (by rw [ee_length, hn]) hrd.cells_0 (ee_one _) (by unfold maxLen; omega) (by omega) (Nat.le_refl _)
  refine ⟨v', w', hrun, ?_, hgr⟩
  unfold ERow
  rw [Nat.zero_add, List.nil_append, hn] at hown
  exact hown
theorem wpList_appH {ops : Array Oper} {rest : List Oper} {o : Oper} {a : Act} {Q : Exit → Act → World → Prop} (w : World) (hgd : o.guard = none) (s x : Operand)
    (ho : o.op = .call { callee := .builtin .append, args := #[s, x], argTypes := #[70, 70] }) (ad : Addr) (n cap : Nat) (hs : a.eval s = .slice none 0 0) (hx : a.eval x = .slice (some ad) n cap)
    (es : List En) (hn : n = es.length) (hle : n ≤ 1000) (hrd : ERd w (some ad) es)
    (k : ∀ v' w', ERow w' w.heap.size v' es → w.grownBy w' none → wpList Try.prog ops Q rest (a.put o.dst v') w') :
    wpList Try.prog ops Q (o :: rest) a w := by
  refine wpList_plain hgd fun K hK => ?_
  obtain ⟨v', w', hrun, h2, h3⟩ := run_appH w o.type ad n cap es hn hle hrd
  unfold Oper.wp execOp
  simp only [ho, resolve, invoke, builtin, Sem.run_bind, Sem.run_pure, Result.andThen_ok, List.map_toArray, List.map_cons, List.map_nil, hs, hx, hrun]
  exact hK _ _ (k v' w' h2 h3)
/- A state told by what it holds, in whatever memory. -/
def RsP (k : Nat) (w : World) (S : List (RC k)) (e : Ending) (w' : World) : Prop := ∃ fa fn fc, e = .returned (.agg #[.slice fa fn fc]) ∧ Below w.heap.size w w' ∧ fn ≤ fc ∧ StCR k w' fa fn S

set_option maxRecDepth 100000 in
set_option maxHeartbeats 2000000 in
theorem refDel_any (k : Nat) (w : World) (sa : Option Addr) (sn sc : Nat) (ms : List (Sl × Rw k)) (hd : StR k w sa sn ms) (hsc : sn ≤ sc) (m : Int) (kt : VT k) (hk : Rds k w kt) :
    Calls Try.prog 16 #[.agg #[.slice sa sn sc], .int .i64 m, (hdT k kt).v] w (RsP k w (if (placeR (fun p => cmpT k p.1 kt) (rowAt ms m)).2 = true then (ms.map fun q => rowC k q.2).set m.toNat (rowC k ((rowAt ms m).take (placeR (fun p => cmpT k p.1 kt) (rowAt ms m)).1 ++ (rowAt ms m).drop ((placeR (fun p => cmpT k p.1 kt) (rowAt ms m)).1 + 1))) else ms.map fun q => rowC k q.2)) := by
  have D := hid hd
  have Hn := hid hd.n1
  have hle := hd.n2
  have hle2 : (sn : Int) ≤ 1000 := by omega
  have hle0 : (0 : Int) ≤ (sn : Int) := by omega
  have K42 := hid (fun (w1 : World) (hb : Below w.heap.size w w1) => refAt_any k w1 sa sn sc ms (hd.below (Nat.le_refl _) hb) m kt (Rds.below k hk (Nat.le_refl _) hb))
  clear hd hk
  generalize hdT k kt = hkt at *
  obtain ⟨kk, ki, kx, kr, ka, kn, kc⟩ := hkt
  simp only [Hd.v] at K42 ⊢
  obtain ⟨W0, hW0⟩ : ∃ W0, W0 = ((w.alloc (.cells #[.slice sa sn sc] 27)).alloc (.cells #[.int .i64 kk, .int .i64 ki, .string kx, .int .i64 kr, .slice ka kn kc] 31)).alloc (.cells #[.slice none 0 0] 27) := ⟨_, rfl⟩
  have pl' : ∀ {w : World} {o x : Obj} {k : Nat}, w.heap[k]? = some x → (w.alloc o).heap[k]? = some x := fun h => (Below.heap_alloc _ _ _ (Array.getElem?_eq_some_iff.1 h).1).trans h
  have n1 := heap_alloc_new w (.cells #[.slice sa sn sc] 27)
  have n2 := heap_alloc_new (w.alloc (.cells #[.slice sa sn sc] 27)) (.cells #[.int .i64 kk, .int .i64 ki, .string kx, .int .i64 kr, .slice ka kn kc] 31)
  have n3 := heap_alloc_new ((w.alloc (.cells #[.slice sa sn sc] 27)).alloc (.cells #[.int .i64 kk, .int .i64 ki, .string kx, .int .i64 kr, .slice ka kn kc] 31)) (.cells #[.slice none 0 0] 27)
  simp only [World.size_alloc] at n2 n3
  have q1 : W0.heap[w.heap.size]? = some (.cells #[.slice sa sn sc] 27 (0, 0)) := by rw [hW0]; exact pl' (pl' n1)
  have q2 : W0.heap[w.heap.size + 1]? = some (.cells #[.int .i64 kk, .int .i64 ki, .string kx, .int .i64 kr, .slice ka kn kc] 31 (0, 0)) := by rw [hW0]; exact pl' n2
  have q3 : W0.heap[w.heap.size + 1 + 1]? = some (.cells #[.slice none 0 0] 27 (0, 0)) := by rw [hW0]; exact n3
  have hb0 : Below w.heap.size w W0 := by rw [hW0]; exact (((Below.refl _ w).alloc (Nat.le_refl _) _).alloc (by simp) _).alloc (by simp; omega) _
  have hz0 : w.heap.size + 3 ≤ W0.heap.size := by rw [hW0]; simp
  have FX : Hid (∀ w2 : World, Below W0.heap.size W0 w2 → w2.cell? ⟨w.heap.size, 0, none⟩ = some (.slice sa sn sc) ∧ w2.heap[w.heap.size + 1 + 1]? = some (.cells #[.slice none 0 0] 27 (0, 0)) ∧ Below w.heap.size w w2) := hid (fun w2 hb => ⟨cellOf ((hb.block _ (Array.getElem?_eq_some_iff.1 q1).1).trans q1) 0, (hb.block _ (Array.getElem?_eq_some_iff.1 q3).1).trans q3, hb0.trans (hb.mono hb0.size)⟩)
  have TR : Hid (∀ {Z x y : World}, Below Z.heap.size Z x → Below x.heap.size x y → Below Z.heap.size Z y) := hid (fun h1 h2 => h1.trans (h2.mono h1.size))
  have c0 : W0.cell? ⟨w.heap.size, 0, none⟩ = some (.slice sa sn sc) := cellOf q1 0
  have k0 := cellOf q2 0
  have k1 := cellOf q2 1
  have k2 := cellOf q2 2
  have k3 := cellOf q2 3
  have k4 := cellOf q2 4
  simp only [List.getElem?_toArray, List.getElem?_cons_zero, List.getElem?_cons_succ] at k0 k1 k2 k3 k4
  have HB0 := hid hb0
  have HZ0 := hid hz0
  clear q1 q2 q3 n1 n2 n3 pl' hb0 hz0
  obtain ⟨pl, hpl⟩ : ∃ pl, pl = placeR (fun p => cmpT k p.1 kt) (rowAt ms m) := ⟨_, rfl⟩
  rw [← hpl] at K42 ⊢
  cases hok : pl.2 with
  | false =>
    rw [hok] at K42
    simp only [Bool.false_eq_true, if_false]
    go_enter Try.func16, Try.ntmps16
    go_upto_region 1 with fail
    rw [← hW0]
    clear hW0
    go_wp2_with (go_at_call 42; (refine (K42.out _ HB0.out).mono ?_; rintro e w1 ⟨rfl, hb1⟩; obtain ⟨c0', g2, bb⟩ := FX.out w1 hb1; have e0 := cellOf g2 0; have f0 := freeOf g2 0; simp only [List.getElem?_toArray, List.getElem?_cons_zero, List.getElem?_cons_succ] at e0; have G2 := hid g2; have BB := hid bb; clear g2 hb1))
    have h5 := set_cells G2.out (.slice sa sn sc)
    have r0 := cellOf h5 0
    simp only [List.getElem?_toArray, List.getElem?_cons_zero] at r0
    have hb5 := BB.out.setCell (p := ⟨w.heap.size + 1 + 1, 0, none⟩) (by show w.heap.size ≤ w.heap.size + 1 + 1; omega) (.slice sa sn sc)
    generalize w1.setCell ⟨w.heap.size + 1 + 1, 0, none⟩ (.slice sa sn sc) = W5 at *
    exact bodyPost_ret (v := .agg #[.slice sa sn sc]) (by simp [results, Try.results16, go_sem, r0]) rfl ⟨sa, sn, sc, rfl, hb5, hsc, ms, D.out.below (Nat.le_refl _) hb5, rfl⟩
  | true =>
    have hlt := placeR_lt (fun p => cmpT k p.1 kt) (rowAt ms m) (by rw [← hpl]; exact hok)
    rw [← hpl] at hlt
    rw [hok] at K42
    simp only [if_true]
    have hm : 0 ≤ m ∧ m < (sn : Int) := by
      cases hh : hasB sn m with
      | false => rw [rowAt_no Hn.out hh] at hlt; simp at hlt
      | true => simpa [hasB] using hh
    obtain ⟨i0, rfl⟩ : ∃ i0 : Nat, m = (i0 : Int) := ⟨m.toNat, by omega⟩
    have hi0 := hm.1
    have hi1 := hm.2
    obtain ⟨p, hp⟩ : ∃ p, ms[i0]? = some p := ⟨ms[i0]'(by rw [← Hn.out]; omega), List.getElem?_eq_getElem _⟩
    rw [rowAt_yes hp] at hlt ⊢
    obtain ⟨b, off, ea, dc⟩ := D.out.rd i0 p.1 (by rw [List.getElem?_map, hp]; rfl)
    subst ea
    have hel := (D.out.el p (List.mem_of_getElem? hp)).1
    have hcap := (D.out.el p (List.mem_of_getElem? hp)).2
    obtain ⟨⟨ma, mn, mc⟩, mr⟩ := p
    simp only [Sl.v] at dc
    simp only at hel hcap hlt ⊢
    obtain ⟨i, hi⟩ : ∃ i, i = pl.1 := ⟨_, rfl⟩
    rw [← hi] at hlt K42 ⊢
    have Hmn := hid hel.n1
    have hmn2 := hel.n2
    rw [← Hmn.out] at hlt
    have hlt1 : (i : Int) < (mn : Int) := by omega
    have hi00 : (0 : Int) ≤ (i : Int) := by omega
    have hmn3 : (mn : Int) ≤ 1000 := by omega
    have hcap1 : (mn : Int) ≤ (mc : Int) := by omega
    have hicp : (i : Int) ≤ (mc : Int) := by omega
    have hw1 : IntKind.i64.wrap ((i : Int) + 1) = (i : Int) + 1 := by rw [IntKind.wrap_i64]; omega
    have hd1 : (0 : Int) ≤ (i : Int) + 1 := by omega
    have hd2 : (i : Int) + 1 ≤ (mn : Int) := by omega
    obtain ⟨q, hq⟩ : ∃ q, mr[i]? = some q := ⟨mr[i]'(by rw [← Hmn.out]; exact hlt), List.getElem?_eq_getElem _⟩
    obtain ⟨b1, o1, ea, _⟩ := hel.rd i (enT k q) (by rw [List.getElem?_map, hq]; rfl)
    subst ea
    have Hel := hid hel
    have DX : Hid (∀ w2 : World, Below w.heap.size w w2 → w2.cell? ⟨b, off + i0, none⟩ = some (.slice (some ⟨b1, o1, none⟩) mn mc)) := hid (fun w2 hb => (hb.cell (p := ⟨b, off + i0, none⟩) (World.block_lt_of_cell? w _ dc)).trans dc)
    obtain ⟨row', hrow'⟩ : ∃ row', row' = mr.take i ++ mr.drop (i + 1) := ⟨_, rfl⟩
    rw [← hrow']
    have Hrow' := hid hrow'
    have hrlen : row'.length ≤ 1000 := by rw [hrow', List.length_append, List.length_take, List.length_drop, ← Hmn.out]; omega
    have Hmap : Hid (row'.map (enT k) = (mr.map (enT k)).take i ++ (mr.map (enT k)).drop (i + 1)) := hid (by rw [hrow', List.map_append, List.map_take, List.map_drop])
    have Hmem : Hid (∀ q ∈ row', q ∈ mr) := hid (fun q hq => by
      rw [hrow'] at hq
      rcases List.mem_append.1 hq with h | h
      · exact List.mem_of_mem_take h
      · exact List.mem_of_mem_drop h)
    have K43 : Hid (∀ (w1 : World), Below w.heap.size w w1 → ∀ (ra : Option Addr) (rn rc : Nat), RwR k w1 ra rn row' → rn ≤ rc → Calls Try.prog 43 #[.agg #[.slice (some ⟨b, off, none⟩) sn sc], .int .i64 (i0 : Int), .slice ra rn rc] w1 (RwT k w1 (ms.set i0 (⟨ra, rn, rc⟩, row')))) := hid (fun w1 hb ra rn rc hr hc => refWith_any k w1 _ sn sc ms (D.out.below (Nat.le_refl _) hb) i0 (by omega) ra rn rc row' hr hc)
    have DM : Hid (∀ m ∈ ms, RwR k w m.1.a m.1.n m.2 ∧ m.1.n ≤ m.1.cap) := hid D.out.el
    clear dc hp hm hq hok hpl hi hel hrow' D
    by_cases hcd : mc = i + 1
    · have hcdt := eq_true hcd
      have Hcd := hid hcd
      clear hcd
      go_enter Try.func16, Try.ntmps16
      go_upto_region 1 with fail
      rw [← hW0]
      clear hW0
      go_upto_region 5 with (first
        | (go_at_call 42; (refine (K42.out _ HB0.out).mono ?_; rintro e w1 ⟨rfl, hb1⟩; obtain ⟨c0', g2, bb⟩ := FX.out w1 hb1; have x0 := DX.out w1 bb; have HB1 := hid hb1; have BB := hid bb; clear g2 hb1))
        | (at_builtin; refine wpList_appH w1 rfl _ _ rfl ⟨b1, o1, none⟩ i mc (by rfl) (by rfl) ((mr.map (enT k)).take i) (by rw [List.length_take, List.length_map, ← Hmn.out]; omega) (by omega) (((Hel.out.below (Nat.le_refl _) BB.out).rd).take i) ?_; intro v2 w2 hr2 hg2; obtain ⟨fa, fc, e2, hc2⟩ := hr2.form; obtain ⟨fn, hfn⟩ : ∃ fn, fn = ((mr.map (enT k)).take i).length := ⟨_, rfl⟩; rw [← hfn] at e2; subst e2; have R2 := hid hr2; have B2 := hid (TR.out HB1.out (below_of_grown hg2)); have G2s := hid (Nat.le_trans HB1.out.size (Nat.le_refl _)); have G2z := hid hg2.size; clear hr2 hg2 hc2 hfn))
      have B2d := hid B2.out.drew
      have W2d := hid (FX.out _ B2d.out).2.2
      have SC2 : Hid (∀ W : World, Below W0.heap.size W0 W → W.cell? ⟨w.heap.size, 0, none⟩ = some (.slice (some ⟨b, off, none⟩) sn sc) ∧ W.cell? ⟨b, off + i0, none⟩ = some (.slice (some ⟨b1, o1, none⟩) mn mc)) := hid (fun W hb => ⟨(FX.out W hb).1, DX.out W (FX.out W hb).2.2⟩)
      obtain ⟨s0, s1⟩ := SC2.out _ B2.out
      go_region_held3 (fun W' => W'.cell? ⟨w.heap.size, 0, none⟩ = some (.slice (some ⟨b, off, none⟩) sn sc) ∧ W'.cell? ⟨b, off + i0, none⟩ = some (.slice (some ⟨b1, o1, none⟩) mn mc)) (first | with_reducible exact ⟨(World.cell?_of_block (Below.heap_setCell _ _ _ _ (by show w.heap.size ≠ w.heap.size + 1 + 1; omega))).trans (SC2.out _ B4.out).1, (World.cell?_of_block (Below.heap_setCell _ _ _ _ (by show b ≠ w.heap.size + 1 + 1; have := World.block_lt_of_cell? w _ (show w.cell? ⟨b, off + i0, none⟩ = some _ from DX.out w (Below.refl _ _)); simp at this; omega))).trans (SC2.out _ B4.out).2⟩ | with_reducible exact SC2.out _ B4.out | with_reducible exact SC2.out _ B3.out | with_reducible exact SC2.out _ B2d.out | go_keep) ((first
        | (go_at_call 43; (have hno := R3; refine (K43.out _ W3.out ga gn gc R3.out (by have := HGC.out; omega)).mono ?_; rintro e w4 ⟨jg, jn, jc, rfl, hb4, hjc, hjg, hjl, hjn, hj1, hst⟩; have B4 := hid (TR.out B3.out hb4); obtain ⟨_, x6, bb6⟩ := FX.out w4 B4.out; have x60 := cellOf x6 0; have x6f := freeOf x6 0; simp only [List.getElem?_toArray, List.getElem?_cons_zero] at x60; have X6 := hid x6; have BB6 := hid bb6; have HST := hid hst; have HB34 := hid hb4; have Hjn := hid hjn; clear hjn x6 bb6 hst hb4))
        | (refine step_appX (by rfl) _ _ (by rfl) (.slice fa fn fc) (by rfl) _ (by rfl) _ _ (R2.out.below (Nat.le_refl _) (Below.refl _ w2).drew) (by have := G2z.out; simpa using this) (some ⟨b1, o1, none⟩) mn mc (i + 1) (by unfold sliced; rw [if_pos Hcd.out]; rfl) (mr.map (enT k)) (by rw [List.length_map]; exact Hmn.out) hmn2 (by omega) hcap ((Hel.out.below (Nat.le_refl _) W2d.out).rd) (by rw [List.length_take, List.length_map]; omega) ?_; intro v3 w3 hr3 hg3; rw [← Hmap.out] at hr3; have B3 := hid (grw_below B2d.out (R2.out.below (Nat.le_refl _) (Below.refl _ w2).drew) hg3 (by have := HB1.out.size; omega)); obtain ⟨ga, gc, e5, hc5⟩ := hr3.form; obtain ⟨gn, hgn⟩ : ∃ gn, gn = (row'.map (enT k)).length := ⟨_, rfl⟩; rw [← hgn] at e5 hc5; subst e5; have HGC := hid hc5; have E3 := hid hr3; have W3 := hid (FX.out _ B3.out).2.2; have R3 : Hid (RwR k w3 ga gn row') := hid ⟨by rw [hgn, List.length_map], by rw [hgn, List.length_map]; exact hrlen, hr3.rd, fun q hq => (Hel.out.below (Nat.le_refl _) W3.out).el q (Hmem.out q hq)⟩; clear hr3 hg3 hc5 hgn)))
      go_wp2
      have h5 := set_cells X6.out (.slice (some ⟨jg, 0, none⟩) jn jc)
      have r0 := cellOf h5 0
      simp only [List.getElem?_toArray, List.getElem?_cons_zero] at r0
      have hb5 := BB6.out.setCell (p := ⟨w.heap.size + 1 + 1, 0, none⟩) (by show w.heap.size ≤ w.heap.size + 1 + 1; omega) (.slice (some ⟨jg, 0, none⟩) jn jc)
      have hs3 := B3.out.size
      have hkp : ∀ x, x ≠ w.heap.size + 1 + 1 → (w4.setCell ⟨w.heap.size + 1 + 1, 0, none⟩ (.slice (some ⟨jg, 0, none⟩) jn jc)).heap[x]? = w4.heap[x]? := fun x hx => Below.heap_setCell _ _ _ _ hx
      generalize w4.setCell ⟨w.heap.size + 1 + 1, 0, none⟩ (.slice (some ⟨jg, 0, none⟩) jn jc) = W9 at *
      have hz := HZ0.out
      have mrd : MRd W9 (some ⟨jg, 0, none⟩) ((ms.set i0 (⟨ga, gn, gc⟩, row')).map (·.1)) := fun j x hx => by
        obtain ⟨b', off', e, hc⟩ := HST.out j x hx
        cases e
        refine ⟨_, _, rfl, ?_⟩
        rw [← hc]
        exact World.cell?_of_block (a := ⟨jg, 0 + j, none⟩) (hkp jg (by omega))
      have er9 : ERow W9 _ (.slice ga gn gc) (row'.map (enT k)) := (E3.out.below (Nat.le_refl _) HB34.out).same (fun q e => hkp q (by have h1 := (E3.out.own q e).1; (try simp at h1); have := HB1.out.size; omega))
      refine bodyPost_ret (v := .agg #[.slice (some ⟨jg, 0, none⟩) jn jc]) (by simp [results, Try.results16, go_sem, r0]) rfl ⟨_, jn, jc, rfl, hb5, hjc, ms.set i0 (⟨ga, gn, gc⟩, row'), ⟨Hjn.out, hj1, mrd, fun m hm => ?_⟩, ?_⟩
      · rcases List.mem_or_eq_of_mem_set hm with hm | hm
        · exact ⟨((DM.out m hm).1).below (Nat.le_refl _) hb5, (DM.out m hm).2⟩
        · subst hm
          exact ⟨⟨R3.out.n1, R3.out.n2, er9.rd, fun q hq => (Hel.out.below (Nat.le_refl _) hb5).el q (Hmem.out q hq)⟩, HGC.out⟩
      · rw [List.map_set]; rfl
    · go_enter Try.func16, Try.ntmps16
      go_upto_region 1 with fail
      rw [← hW0]
      clear hW0
      go_upto_region 5 with (first
        | (go_at_call 42; (refine (K42.out _ HB0.out).mono ?_; rintro e w1 ⟨rfl, hb1⟩; obtain ⟨c0', g2, bb⟩ := FX.out w1 hb1; have x0 := DX.out w1 bb; have HB1 := hid hb1; have BB := hid bb; clear g2 hb1))
        | (at_builtin; refine wpList_appH w1 rfl _ _ rfl ⟨b1, o1, none⟩ i mc (by rfl) (by rfl) ((mr.map (enT k)).take i) (by rw [List.length_take, List.length_map, ← Hmn.out]; omega) (by omega) (((Hel.out.below (Nat.le_refl _) BB.out).rd).take i) ?_; intro v2 w2 hr2 hg2; obtain ⟨fa, fc, e2, hc2⟩ := hr2.form; obtain ⟨fn, hfn⟩ : ∃ fn, fn = ((mr.map (enT k)).take i).length := ⟨_, rfl⟩; rw [← hfn] at e2; subst e2; have R2 := hid hr2; have B2 := hid (TR.out HB1.out (below_of_grown hg2)); have G2s := hid (Nat.le_trans HB1.out.size (Nat.le_refl _)); have G2z := hid hg2.size; clear hr2 hg2 hc2 hfn))
      have B2d := hid B2.out.drew
      have W2d := hid (FX.out _ B2d.out).2.2
      have SC2 : Hid (∀ W : World, Below W0.heap.size W0 W → W.cell? ⟨w.heap.size, 0, none⟩ = some (.slice (some ⟨b, off, none⟩) sn sc) ∧ W.cell? ⟨b, off + i0, none⟩ = some (.slice (some ⟨b1, o1, none⟩) mn mc)) := hid (fun W hb => ⟨(FX.out W hb).1, DX.out W (FX.out W hb).2.2⟩)
      obtain ⟨s0, s1⟩ := SC2.out _ B2.out
      go_region_held3 (fun W' => W'.cell? ⟨w.heap.size, 0, none⟩ = some (.slice (some ⟨b, off, none⟩) sn sc) ∧ W'.cell? ⟨b, off + i0, none⟩ = some (.slice (some ⟨b1, o1, none⟩) mn mc)) (first | with_reducible exact ⟨(World.cell?_of_block (Below.heap_setCell _ _ _ _ (by show w.heap.size ≠ w.heap.size + 1 + 1; omega))).trans (SC2.out _ B4.out).1, (World.cell?_of_block (Below.heap_setCell _ _ _ _ (by show b ≠ w.heap.size + 1 + 1; have := World.block_lt_of_cell? w _ (show w.cell? ⟨b, off + i0, none⟩ = some _ from DX.out w (Below.refl _ _)); simp at this; omega))).trans (SC2.out _ B4.out).2⟩ | with_reducible exact SC2.out _ B4.out | with_reducible exact SC2.out _ B3.out | with_reducible exact SC2.out _ B2d.out | go_keep) ((first
        | (go_at_call 43; (have hno := R3; refine (K43.out _ W3.out ga gn gc R3.out (by have := HGC.out; omega)).mono ?_; rintro e w4 ⟨jg, jn, jc, rfl, hb4, hjc, hjg, hjl, hjn, hj1, hst⟩; have B4 := hid (TR.out B3.out hb4); obtain ⟨_, x6, bb6⟩ := FX.out w4 B4.out; have x60 := cellOf x6 0; have x6f := freeOf x6 0; simp only [List.getElem?_toArray, List.getElem?_cons_zero] at x60; have X6 := hid x6; have BB6 := hid bb6; have HST := hid hst; have HB34 := hid hb4; have Hjn := hid hjn; clear hjn x6 bb6 hst hb4))
        | (refine step_appX (by rfl) _ _ (by rfl) (.slice fa fn fc) (by rfl) _ (by rfl) _ _ (R2.out.below (Nat.le_refl _) (Below.refl _ w2).drew) (by have := G2z.out; simpa using this) (some ⟨b1, o1, none⟩) mn mc (i + 1) (by unfold sliced; rw [if_neg hcd]; first | rfl | (simp [Addr.add_lit]; rfl)) (mr.map (enT k)) (by rw [List.length_map]; exact Hmn.out) hmn2 (by omega) hcap ((Hel.out.below (Nat.le_refl _) W2d.out).rd) (by rw [List.length_take, List.length_map]; omega) ?_; intro v3 w3 hr3 hg3; rw [← Hmap.out] at hr3; have B3 := hid (grw_below B2d.out (R2.out.below (Nat.le_refl _) (Below.refl _ w2).drew) hg3 (by have := HB1.out.size; omega)); obtain ⟨ga, gc, e5, hc5⟩ := hr3.form; obtain ⟨gn, hgn⟩ : ∃ gn, gn = (row'.map (enT k)).length := ⟨_, rfl⟩; rw [← hgn] at e5 hc5; subst e5; have HGC := hid hc5; have E3 := hid hr3; have W3 := hid (FX.out _ B3.out).2.2; have R3 : Hid (RwR k w3 ga gn row') := hid ⟨by rw [hgn, List.length_map], by rw [hgn, List.length_map]; exact hrlen, hr3.rd, fun q hq => (Hel.out.below (Nat.le_refl _) W3.out).el q (Hmem.out q hq)⟩; clear hr3 hg3 hc5 hgn)))
      go_wp2
      have h5 := set_cells X6.out (.slice (some ⟨jg, 0, none⟩) jn jc)
      have r0 := cellOf h5 0
      simp only [List.getElem?_toArray, List.getElem?_cons_zero] at r0
      have hb5 := BB6.out.setCell (p := ⟨w.heap.size + 1 + 1, 0, none⟩) (by show w.heap.size ≤ w.heap.size + 1 + 1; omega) (.slice (some ⟨jg, 0, none⟩) jn jc)
      have hs3 := B3.out.size
      have hkp : ∀ x, x ≠ w.heap.size + 1 + 1 → (w4.setCell ⟨w.heap.size + 1 + 1, 0, none⟩ (.slice (some ⟨jg, 0, none⟩) jn jc)).heap[x]? = w4.heap[x]? := fun x hx => Below.heap_setCell _ _ _ _ hx
      generalize w4.setCell ⟨w.heap.size + 1 + 1, 0, none⟩ (.slice (some ⟨jg, 0, none⟩) jn jc) = W9 at *
      have hz := HZ0.out
      have mrd : MRd W9 (some ⟨jg, 0, none⟩) ((ms.set i0 (⟨ga, gn, gc⟩, row')).map (·.1)) := fun j x hx => by
        obtain ⟨b', off', e, hc⟩ := HST.out j x hx
        cases e
        refine ⟨_, _, rfl, ?_⟩
        rw [← hc]
        exact World.cell?_of_block (a := ⟨jg, 0 + j, none⟩) (hkp jg (by omega))
      have er9 : ERow W9 _ (.slice ga gn gc) (row'.map (enT k)) := (E3.out.below (Nat.le_refl _) HB34.out).same (fun q e => hkp q (by have h1 := (E3.out.own q e).1; (try simp at h1); have := HB1.out.size; omega))
      refine bodyPost_ret (v := .agg #[.slice (some ⟨jg, 0, none⟩) jn jc]) (by simp [results, Try.results16, go_sem, r0]) rfl ⟨_, jn, jc, rfl, hb5, hjc, ms.set i0 (⟨ga, gn, gc⟩, row'), ⟨Hjn.out, hj1, mrd, fun m hm => ?_⟩, ?_⟩
      · rcases List.mem_or_eq_of_mem_set hm with hm | hm
        · exact ⟨((DM.out m hm).1).below (Nat.le_refl _) hb5, (DM.out m hm).2⟩
        · subst hm
          exact ⟨⟨R3.out.n1, R3.out.n2, er9.rd, fun q hq => (Hel.out.below (Nat.le_refl _) hb5).el q (Hmem.out q hq)⟩, HGC.out⟩
      · rw [List.map_set]; rfl
end Go.Proofs.Ytenfgahedbeekaa

namespace Go.Proofs.Ytenfgahedbeekaa
open Go.RowKit Go.Deep Go.Shelf
set_option linter.unusedVariables false
set_option linter.unusedSimpArgs false

theorem five_cell_out (w : World) (b o : Nat) (h : Hd) (p : Addr) (hp : p.block = b → p.off < o ∨ o + 5 ≤ p.off) : (five w b o h).cell? p = w.cell? p := by
  have st : ∀ (W : World) (i : Nat) (v : Value), i < 5 → (W.setCell ⟨b, o + i, none⟩ v).cell? p = W.cell? p := fun W i v hi =>
    World.cell?_setCell_other _ _ _ _ (by
      intro e
      have e1 := congrArg Addr.block e
      have e2 := congrArg Addr.off e
      simp only at e1 e2
      rcases hp (by first | exact e1.symm | exact e1) with h1 | h1 <;> omega)
  unfold Go.Proofs.Ytenfgahedbeekaa.five
  have s0 := fun W v => st W 0 v (by omega)
  simp only [Nat.add_zero] at s0
  rw [st _ 4 _ (by omega), st _ 3 _ (by omega), st _ 2 _ (by omega), st _ 1 _ (by omega), s0]
theorem five_cell_in (w : World) (b o : Nat) (h : Hd) (hs : ∀ i, i < 5 → (w.cell? ⟨b, o + i, none⟩).isSome = true) (i : Nat) (hi : i < 5) : (five w b o h).cell? ⟨b, o + i, none⟩ = h.cs[i]? := by
  have ot : ∀ (W : World) (j j' : Nat) (v : Value), j ≠ j' → (W.setCell ⟨b, o + j, none⟩ v).cell? ⟨b, o + j', none⟩ = W.cell? ⟨b, o + j', none⟩ := fun W j j' v hne =>
    World.cell?_setCell_other _ _ _ _ (by
      intro e
      have e2 := congrArg Addr.off e
      simp only at e2
      omega)
  have h0 := hs 0 (by omega)
  have h1 := hs 1 (by omega)
  have h2 := hs 2 (by omega)
  have h3 := hs 3 (by omega)
  have h4 := hs 4 (by omega)
  have e : five w b o h = ((((w.setCell ⟨b, o + 0, none⟩ (.int .i64 h.kind)).setCell ⟨b, o + 1, none⟩ (.int .i64 h.int)).setCell ⟨b, o + 2, none⟩ (.string h.text)).setCell ⟨b, o + 3, none⟩ (.int .i64 h.rc)).setCell ⟨b, o + 4, none⟩ (.slice h.a h.n h.cap) := rfl
  rw [e]
  match i, hi with
  | 0, _ => rw [ot _ 4 0 _ (by omega), ot _ 3 0 _ (by omega), ot _ 2 0 _ (by omega), ot _ 1 0 _ (by omega), World.cell?_setCell_same' _ _ _ h0]; rfl
  | 1, _ => rw [ot _ 4 1 _ (by omega), ot _ 3 1 _ (by omega), ot _ 2 1 _ (by omega), World.cell?_setCell_same' _ _ _ (by rw [ot _ 0 1 _ (by omega)]; exact h1)]; rfl
  | 2, _ => rw [ot _ 4 2 _ (by omega), ot _ 3 2 _ (by omega), World.cell?_setCell_same' _ _ _ (by rw [ot _ 1 2 _ (by omega), ot _ 0 2 _ (by omega)]; exact h2)]; rfl
  | 3, _ => rw [ot _ 4 3 _ (by omega), World.cell?_setCell_same' _ _ _ (by rw [ot _ 2 3 _ (by omega), ot _ 1 3 _ (by omega), ot _ 0 3 _ (by omega)]; exact h3)]; rfl
  | 4, _ => rw [World.cell?_setCell_same' _ _ _ (by rw [ot _ 3 4 _ (by omega), ot _ 2 4 _ (by omega), ot _ 1 4 _ (by omega), ot _ 0 4 _ (by omega)]; exact h4)]; rfl
theorem ERd.setv {w : World} {g : Nat} {es : List En} (h : ERd w (some ⟨g, 0, none⟩) es) (i : Nat) (x : En) (hi : es[i]? = some x) (y : Hd) : ERd (five w g (i * 10 + 5) y) (some ⟨g, 0, none⟩) (es.set i ⟨x.key, y⟩) := by
  have hl := (List.getElem?_eq_some_iff.1 hi).1
  have hcell : ∀ (j : Nat) (z : En), es[j]? = some z → ∀ t, t < 10 → w.cell? ⟨g, j * 10 + t, none⟩ = z.cs[t]? := fun j z hz t ht => by
    obtain ⟨b, off, e, hc⟩ := h j z hz
    cases e
    have := hc t ht
    rw [Nat.zero_add] at this
    exact this
  intro j z hz
  refine ⟨g, 0, rfl, fun t ht => ?_⟩
  rw [Nat.zero_add]
  by_cases hj : i = j
  · subst hj
    rw [List.getElem?_set_self hl] at hz
    cases hz
    rcases Nat.lt_or_ge t 5 with h5 | h5
    · rw [five_cell_out _ _ _ _ _ (fun _ => .inl (by show i * 10 + t < i * 10 + 5; omega)), hcell i x hi t ht]
      match t, h5 with
      | 0, _ => rfl
      | 1, _ => rfl
      | 2, _ => rfl
      | 3, _ => rfl
      | 4, _ => rfl
    · obtain ⟨u, rfl⟩ : ∃ u, t = 5 + u := ⟨t - 5, by omega⟩
      have := five_cell_in w g (i * 10 + 5) y (fun a ha => by
        rw [show i * 10 + 5 + a = i * 10 + (5 + a) from by omega, hcell i x hi (5 + a) (by omega)]
        match a, ha with
        | 0, _ => rfl
        | 1, _ => rfl
        | 2, _ => rfl
        | 3, _ => rfl
        | 4, _ => rfl) u (by omega)
      rw [show i * 10 + (5 + u) = i * 10 + 5 + u from by omega, this]
      have hu5 : u < 5 := by omega
      clear this hcell h ht h5 hi hl
      rcases u with _ | _ | _ | _ | _ | u
      · rfl
      · rfl
      · rfl
      · rfl
      · rfl
      · omega
  · rw [List.getElem?_set_ne hj] at hz
    rw [five_cell_out _ _ _ _ _ (fun _ => by show j * 10 + t < i * 10 + 5 ∨ i * 10 + 5 + 5 ≤ j * 10 + t; omega), hcell j z hz t ht]
end Go.Proofs.Ytenfgahedbeekaa

namespace Go.Proofs.Ytenfgahedbeekaa
open Go.RowKit Go.Deep Go.Shelf
set_option linter.unusedVariables false
set_option linter.unusedSimpArgs false

set_option maxRecDepth 100000 in
set_option maxHeartbeats 1000000 in
theorem refPut_nomap (k : Nat) (w : World) (sa : Option Addr) (sn sc : Nat) (ms : List (Sl × Rw k)) (hd : StR k w sa sn ms) (m : Int) (kt vt : VT k) (hk : Rds k w kt) (hv : Rds k w vt) (hh : hasB sn m = false) :
    Calls Try.prog 13 #[.agg #[.slice sa sn sc], .int .i64 m, (hdT k kt).v, (hdT k vt).v] w fun e w' => e = .returned (.tuple #[.agg #[.slice none 0 0], .int .i64 42]) ∧ Below w.heap.size w w' := by
  have D := hid hd
  have Hn := hid hd.n1
  have hle := hd.n2
  have hle2 : (sn : Int) ≤ 1000 := by omega
  have hle0 : (0 : Int) ≤ (sn : Int) := by omega
  have DV := hid hv
  have K42 := hid (fun (w1 : World) (hb : Below w.heap.size w w1) => refAt_any k w1 sa sn sc ms (hd.below (Nat.le_refl _) hb) m kt (Rds.below k hk (Nat.le_refl _) hb))
  clear hd hk hv
  generalize hdT k kt = hkt at *
  obtain ⟨kk, ki, kx, kr, ka, kn, kc⟩ := hkt
  obtain ⟨hvt, ehvt⟩ : ∃ h, h = hdT k vt := ⟨_, rfl⟩
  have Ev := hid ehvt
  rw [← ehvt]
  clear ehvt
  obtain ⟨vk, vi, vx, vr, va, vn, vc⟩ := hvt
  simp only [Hd.v] at K42 ⊢
  obtain ⟨W0, hW0⟩ : ∃ W0, W0 = (((w.alloc (.cells #[.slice sa sn sc] 27)).alloc (.cells #[.int .i64 kk, .int .i64 ki, .string kx, .int .i64 kr, .slice ka kn kc] 31)).alloc (.cells #[.int .i64 vk, .int .i64 vi, .string vx, .int .i64 vr, .slice va vn vc] 31)).alloc (.cells #[.slice none 0 0] 27) := ⟨_, rfl⟩
  have pl' : ∀ {w : World} {o x : Obj} {k : Nat}, w.heap[k]? = some x → (w.alloc o).heap[k]? = some x := fun h => (Below.heap_alloc _ _ _ (Array.getElem?_eq_some_iff.1 h).1).trans h
  have n1 := heap_alloc_new w (.cells #[.slice sa sn sc] 27)
  have n2 := heap_alloc_new (w.alloc (.cells #[.slice sa sn sc] 27)) (.cells #[.int .i64 kk, .int .i64 ki, .string kx, .int .i64 kr, .slice ka kn kc] 31)
  have n3 := heap_alloc_new ((w.alloc (.cells #[.slice sa sn sc] 27)).alloc (.cells #[.int .i64 kk, .int .i64 ki, .string kx, .int .i64 kr, .slice ka kn kc] 31)) (.cells #[.int .i64 vk, .int .i64 vi, .string vx, .int .i64 vr, .slice va vn vc] 31)
  have n4 := heap_alloc_new (((w.alloc (.cells #[.slice sa sn sc] 27)).alloc (.cells #[.int .i64 kk, .int .i64 ki, .string kx, .int .i64 kr, .slice ka kn kc] 31)).alloc (.cells #[.int .i64 vk, .int .i64 vi, .string vx, .int .i64 vr, .slice va vn vc] 31)) (.cells #[.slice none 0 0] 27)
  simp only [World.size_alloc] at n2 n3 n4
  have q1 : W0.heap[w.heap.size]? = some (.cells #[.slice sa sn sc] 27 (0, 0)) := by rw [hW0]; exact pl' (pl' (pl' n1))
  have q2 : W0.heap[w.heap.size + 1]? = some (.cells #[.int .i64 kk, .int .i64 ki, .string kx, .int .i64 kr, .slice ka kn kc] 31 (0, 0)) := by rw [hW0]; exact pl' (pl' n2)
  have q3 : W0.heap[w.heap.size + 1 + 1]? = some (.cells #[.int .i64 vk, .int .i64 vi, .string vx, .int .i64 vr, .slice va vn vc] 31 (0, 0)) := by rw [hW0]; exact pl' n3
  have q4 : W0.heap[w.heap.size + 1 + 1 + 1]? = some (.cells #[.slice none 0 0] 27 (0, 0)) := by rw [hW0]; exact n4
  have hb0 : Below w.heap.size w W0 := by rw [hW0]; exact ((((Below.refl _ w).alloc (Nat.le_refl _) _).alloc (by simp) _).alloc (by simp; omega) _).alloc (by simp; omega) _
  have hz0 : w.heap.size + 4 ≤ W0.heap.size := by rw [hW0]; simp
  have FX : Hid (∀ w2 : World, Below W0.heap.size W0 w2 → (w2.cell? ⟨w.heap.size, 0, none⟩ = some (.slice sa sn sc) ∧ w2.cell? ⟨w.heap.size + 1 + 1, 0, none⟩ = some (.int .i64 vk) ∧ w2.cell? ⟨w.heap.size + 1 + 1, 1, none⟩ = some (.int .i64 vi) ∧ w2.cell? ⟨w.heap.size + 1 + 1, 2, none⟩ = some (.string vx) ∧ w2.cell? ⟨w.heap.size + 1 + 1, 3, none⟩ = some (.int .i64 vr) ∧ w2.cell? ⟨w.heap.size + 1 + 1, 4, none⟩ = some (.slice va vn vc)) ∧ w2.heap[w.heap.size + 1 + 1 + 1]? = some (.cells #[.slice none 0 0] 27 (0, 0)) ∧ Below w.heap.size w w2) := hid (fun w2 hb => by
    have bx := (hb.block _ (Array.getElem?_eq_some_iff.1 q1).1).trans q1
    have bz := (hb.block _ (Array.getElem?_eq_some_iff.1 q3).1).trans q3
    exact ⟨⟨cellOf bx 0, cellOf bz 0, cellOf bz 1, cellOf bz 2, cellOf bz 3, cellOf bz 4⟩, (hb.block _ (Array.getElem?_eq_some_iff.1 q4).1).trans q4, hb0.trans (hb.mono hb0.size)⟩)
  have TR : Hid (∀ {Z x y : World}, Below Z.heap.size Z x → Below x.heap.size x y → Below Z.heap.size Z y) := hid (fun h1 h2 => h1.trans (h2.mono h1.size))
  have c0 : W0.cell? ⟨w.heap.size, 0, none⟩ = some (.slice sa sn sc) := cellOf q1 0
  have k0 := cellOf q2 0
  have k1 := cellOf q2 1
  have k2 := cellOf q2 2
  have k3 := cellOf q2 3
  have k4 := cellOf q2 4
  have e0 := cellOf q4 0
  have f0 := freeOf q4 0
  simp only [List.getElem?_toArray, List.getElem?_cons_zero, List.getElem?_cons_succ] at k0 k1 k2 k3 k4 e0
  have HB0 := hid hb0
  have HZ0 := hid hz0
  have Q4 := hid q4
  clear q1 q2 q3 q4 n1 n2 n3 n4 pl' hb0 hz0

  by_cases hm0 : m < 0
  · go_enter Try.func13, Try.ntmps13
    go_upto_region 1 with fail
    rw [← hW0]
    clear hW0
    go_wp2
    have h5 := set_cells Q4.out (.slice none 0 0)
    have r0 := cellOf h5 0
    simp only [List.getElem?_toArray, List.getElem?_cons_zero] at r0
    have hb5 := HB0.out.setCell (p := ⟨w.heap.size + 1 + 1 + 1, 0, none⟩) (by show w.heap.size ≤ w.heap.size + 1 + 1 + 1; omega) (.slice none 0 0)
    generalize W0.setCell ⟨w.heap.size + 1 + 1 + 1, 0, none⟩ (.slice none 0 0) = W5 at *
    exact bodyPost_ret (v := .tuple #[.agg #[.slice none 0 0], .int .i64 42]) (by simp [results, Try.results13, go_sem, r0]) rfl ⟨rfl, hb5⟩
  · have hm1 : (sn : Int) ≤ m := by
      have : ¬ (0 ≤ m ∧ m < (sn : Int)) := by simpa [hasB] using hh
      omega
    go_enter Try.func13, Try.ntmps13
    go_upto_region 1 with fail
    rw [← hW0]
    clear hW0
    go_wp2
    have h5 := set_cells Q4.out (.slice none 0 0)
    have r0 := cellOf h5 0
    simp only [List.getElem?_toArray, List.getElem?_cons_zero] at r0
    have hb5 := HB0.out.setCell (p := ⟨w.heap.size + 1 + 1 + 1, 0, none⟩) (by show w.heap.size ≤ w.heap.size + 1 + 1 + 1; omega) (.slice none 0 0)
    generalize W0.setCell ⟨w.heap.size + 1 + 1 + 1, 0, none⟩ (.slice none 0 0) = W5 at *
    exact bodyPost_ret (v := .tuple #[.agg #[.slice none 0 0], .int .i64 42]) (by simp [results, Try.results13, go_sem, r0]) rfl ⟨rfl, hb5⟩

set_option maxRecDepth 100000 in
set_option maxHeartbeats 1000000 in
theorem refPut_full (k : Nat) (w : World) (sa : Option Addr) (sn sc : Nat) (ms : List (Sl × Rw k)) (hd : StR k w sa sn ms) (m : Int) (kt vt : VT k) (hk : Rds k w kt) (hv : Rds k w vt) (hh : hasB sn m = true) (hnt : (placeR (fun p => cmpT k p.1 kt) (rowAt ms m)).2 = false) (hfl : 24 ≤ (rowAt ms m).length) :
    Calls Try.prog 13 #[.agg #[.slice sa sn sc], .int .i64 m, (hdT k kt).v, (hdT k vt).v] w fun e w' => e = .returned (.tuple #[.agg #[.slice none 0 0], .int .i64 41]) ∧ Below w.heap.size w w' := by
  have D := hid hd
  have Hn := hid hd.n1
  have hle := hd.n2
  have hle2 : (sn : Int) ≤ 1000 := by omega
  have hle0 : (0 : Int) ≤ (sn : Int) := by omega
  have DV := hid hv
  have K42 := hid (fun (w1 : World) (hb : Below w.heap.size w w1) => refAt_any k w1 sa sn sc ms (hd.below (Nat.le_refl _) hb) m kt (Rds.below k hk (Nat.le_refl _) hb))
  clear hd hk hv
  generalize hdT k kt = hkt at *
  obtain ⟨kk, ki, kx, kr, ka, kn, kc⟩ := hkt
  obtain ⟨hvt, ehvt⟩ : ∃ h, h = hdT k vt := ⟨_, rfl⟩
  have Ev := hid ehvt
  rw [← ehvt]
  clear ehvt
  obtain ⟨vk, vi, vx, vr, va, vn, vc⟩ := hvt
  simp only [Hd.v] at K42 ⊢
  obtain ⟨W0, hW0⟩ : ∃ W0, W0 = (((w.alloc (.cells #[.slice sa sn sc] 27)).alloc (.cells #[.int .i64 kk, .int .i64 ki, .string kx, .int .i64 kr, .slice ka kn kc] 31)).alloc (.cells #[.int .i64 vk, .int .i64 vi, .string vx, .int .i64 vr, .slice va vn vc] 31)).alloc (.cells #[.slice none 0 0] 27) := ⟨_, rfl⟩
  have pl' : ∀ {w : World} {o x : Obj} {k : Nat}, w.heap[k]? = some x → (w.alloc o).heap[k]? = some x := fun h => (Below.heap_alloc _ _ _ (Array.getElem?_eq_some_iff.1 h).1).trans h
  have n1 := heap_alloc_new w (.cells #[.slice sa sn sc] 27)
  have n2 := heap_alloc_new (w.alloc (.cells #[.slice sa sn sc] 27)) (.cells #[.int .i64 kk, .int .i64 ki, .string kx, .int .i64 kr, .slice ka kn kc] 31)
  have n3 := heap_alloc_new ((w.alloc (.cells #[.slice sa sn sc] 27)).alloc (.cells #[.int .i64 kk, .int .i64 ki, .string kx, .int .i64 kr, .slice ka kn kc] 31)) (.cells #[.int .i64 vk, .int .i64 vi, .string vx, .int .i64 vr, .slice va vn vc] 31)
  have n4 := heap_alloc_new (((w.alloc (.cells #[.slice sa sn sc] 27)).alloc (.cells #[.int .i64 kk, .int .i64 ki, .string kx, .int .i64 kr, .slice ka kn kc] 31)).alloc (.cells #[.int .i64 vk, .int .i64 vi, .string vx, .int .i64 vr, .slice va vn vc] 31)) (.cells #[.slice none 0 0] 27)
  simp only [World.size_alloc] at n2 n3 n4
  have q1 : W0.heap[w.heap.size]? = some (.cells #[.slice sa sn sc] 27 (0, 0)) := by rw [hW0]; exact pl' (pl' (pl' n1))
  have q2 : W0.heap[w.heap.size + 1]? = some (.cells #[.int .i64 kk, .int .i64 ki, .string kx, .int .i64 kr, .slice ka kn kc] 31 (0, 0)) := by rw [hW0]; exact pl' (pl' n2)
  have q3 : W0.heap[w.heap.size + 1 + 1]? = some (.cells #[.int .i64 vk, .int .i64 vi, .string vx, .int .i64 vr, .slice va vn vc] 31 (0, 0)) := by rw [hW0]; exact pl' n3
  have q4 : W0.heap[w.heap.size + 1 + 1 + 1]? = some (.cells #[.slice none 0 0] 27 (0, 0)) := by rw [hW0]; exact n4
  have hb0 : Below w.heap.size w W0 := by rw [hW0]; exact ((((Below.refl _ w).alloc (Nat.le_refl _) _).alloc (by simp) _).alloc (by simp; omega) _).alloc (by simp; omega) _
  have hz0 : w.heap.size + 4 ≤ W0.heap.size := by rw [hW0]; simp
  have FX : Hid (∀ w2 : World, Below W0.heap.size W0 w2 → (w2.cell? ⟨w.heap.size, 0, none⟩ = some (.slice sa sn sc) ∧ w2.cell? ⟨w.heap.size + 1 + 1, 0, none⟩ = some (.int .i64 vk) ∧ w2.cell? ⟨w.heap.size + 1 + 1, 1, none⟩ = some (.int .i64 vi) ∧ w2.cell? ⟨w.heap.size + 1 + 1, 2, none⟩ = some (.string vx) ∧ w2.cell? ⟨w.heap.size + 1 + 1, 3, none⟩ = some (.int .i64 vr) ∧ w2.cell? ⟨w.heap.size + 1 + 1, 4, none⟩ = some (.slice va vn vc)) ∧ w2.heap[w.heap.size + 1 + 1 + 1]? = some (.cells #[.slice none 0 0] 27 (0, 0)) ∧ Below w.heap.size w w2) := hid (fun w2 hb => by
    have bx := (hb.block _ (Array.getElem?_eq_some_iff.1 q1).1).trans q1
    have bz := (hb.block _ (Array.getElem?_eq_some_iff.1 q3).1).trans q3
    exact ⟨⟨cellOf bx 0, cellOf bz 0, cellOf bz 1, cellOf bz 2, cellOf bz 3, cellOf bz 4⟩, (hb.block _ (Array.getElem?_eq_some_iff.1 q4).1).trans q4, hb0.trans (hb.mono hb0.size)⟩)
  have TR : Hid (∀ {Z x y : World}, Below Z.heap.size Z x → Below x.heap.size x y → Below Z.heap.size Z y) := hid (fun h1 h2 => h1.trans (h2.mono h1.size))
  have c0 : W0.cell? ⟨w.heap.size, 0, none⟩ = some (.slice sa sn sc) := cellOf q1 0
  have k0 := cellOf q2 0
  have k1 := cellOf q2 1
  have k2 := cellOf q2 2
  have k3 := cellOf q2 3
  have k4 := cellOf q2 4
  have e0 := cellOf q4 0
  have f0 := freeOf q4 0
  simp only [List.getElem?_toArray, List.getElem?_cons_zero, List.getElem?_cons_succ] at k0 k1 k2 k3 k4 e0
  have HB0 := hid hb0
  have HZ0 := hid hz0
  have Q4 := hid q4
  clear q1 q2 q3 q4 n1 n2 n3 n4 pl' hb0 hz0

  have hm : 0 ≤ m ∧ m < (sn : Int) := by simpa [hasB] using hh
  obtain ⟨i0, rfl⟩ : ∃ i0 : Nat, m = (i0 : Int) := ⟨m.toNat, by omega⟩
  have hi0 := hm.1
  have hi1 := hm.2
  have hi2 : ¬ (i0 : Int) < 0 := by omega
  have hi3 : ¬ (sn : Int) ≤ (i0 : Int) := by omega
  obtain ⟨p, hp⟩ : ∃ p, ms[i0]? = some p := ⟨ms[i0]'(by rw [← Hn.out]; omega), List.getElem?_eq_getElem _⟩
  have hrp : rowAt ms (i0 : Int) = p.2 := rowAt_yes hp
  rw [hrp] at K42 hnt hfl
  obtain ⟨b, off, ea, dc⟩ := D.out.rd i0 p.1 (by rw [List.getElem?_map, hp]; rfl)
  subst ea
  have hel := (D.out.el p (List.mem_of_getElem? hp)).1
  have hcap := (D.out.el p (List.mem_of_getElem? hp)).2
  obtain ⟨⟨ma, mn, mc⟩, mr⟩ := p
  simp only [Sl.v] at dc
  simp only at hel hcap K42 hnt hfl
  obtain ⟨i, hi⟩ : ∃ i, i = (placeR (fun p => cmpT k p.1 kt) mr).1 := ⟨_, rfl⟩
  have Hmn := hid hel.n1
  have hmn2 := hel.n2
  have hmn3 : (mn : Int) ≤ 1000 := by omega
  have Hel := hid hel
  have DX : Hid (∀ w2 : World, Below w.heap.size w w2 → w2.cell? ⟨b, off + i0, none⟩ = some (.slice ma mn mc)) := hid (fun w2 hb => (hb.cell (p := ⟨b, off + i0, none⟩) (World.block_lt_of_cell? w _ dc)).trans dc)
  rw [← hi] at K42

  rw [hnt] at K42
  rw [← Hmn.out] at hfl
  have hfl2 : (24 : Int) ≤ (mn : Int) := by omega
  obtain ⟨q, hq⟩ : ∃ q, mr[0]? = some q := ⟨mr[0]'(by rw [← Hmn.out]; omega), List.getElem?_eq_getElem _⟩
  obtain ⟨b1, o1, ea, _⟩ := hel.rd 0 (enT k q) (by rw [List.getElem?_map, hq]; rfl)
  subst ea
  clear dc hp hm hh hrp hnt hel hq hi D
  go_enter Try.func13, Try.ntmps13
  go_upto_region 1 with fail
  rw [← hW0]
  clear hW0
  go_wp2_with (first
    | (go_at_call 42; (refine (K42.out _ HB0.out).mono ?_; rintro e w1 ⟨rfl, hb1⟩; obtain ⟨⟨c0', z0, z1, z2, z3, z4⟩, g2, bb⟩ := FX.out w1 hb1; have x0 := DX.out w1 bb; have HB1 := hid hb1; have BB := hid bb; clear g2 hb1))
    | (at_builtin; refine wpList_appH w1 rfl _ _ rfl ⟨b1, o1, none⟩ mn mc (by rfl) (by rfl) (mr.map (enT k)) (by rw [List.length_map]; exact Hmn.out) hmn2 ((Hel.out.below (Nat.le_refl _) BB.out).rd) ?_; intro v2 w2 hr2 hg2; obtain ⟨fa, fc, e2, hc2⟩ := hr2.form; rw [List.length_map, ← Hmn.out] at e2; subst e2; have B2 := hid (TR.out HB1.out (below_of_grown hg2)); obtain ⟨_, x2, bb2⟩ := FX.out w2 B2.out; have e0 := cellOf x2 0; have f0 := freeOf x2 0; simp only [List.getElem?_toArray, List.getElem?_cons_zero] at e0; have X2 := hid x2; have BB2 := hid bb2; clear hr2 hg2 hc2 x2 bb2))
  have h5 := set_cells X2.out (.slice none 0 0)
  have r0 := cellOf h5 0
  simp only [List.getElem?_toArray, List.getElem?_cons_zero] at r0
  have hb5 := BB2.out.setCell (p := ⟨w.heap.size + 1 + 1 + 1, 0, none⟩) (by show w.heap.size ≤ w.heap.size + 1 + 1 + 1; omega) (.slice none 0 0)
  generalize w2.setCell ⟨w.heap.size + 1 + 1 + 1, 0, none⟩ (.slice none 0 0) = W5 at *
  exact bodyPost_ret (v := .tuple #[.agg #[.slice none 0 0], .int .i64 41]) (by simp [results, Try.results13, go_sem, r0]) rfl ⟨rfl, hb5⟩
end Go.Proofs.Ytenfgahedbeekaa

namespace Go.Proofs.Ytenfgahedbeekaa
open Go.RowKit Go.Deep Go.Shelf
set_option linter.unusedVariables false
set_option linter.unusedSimpArgs false


theorem wpList_appG {ops : Array Oper} {rest : List Oper} {o : Oper} {a : Act} {Q : Exit → Act → World → Prop} (w : World) (hgd : o.guard = none) (s x : Operand)
    (ho : o.op = .call { callee := .builtin .append, args := #[s, x], argTypes := #[70, 70] }) (ad : Addr) (n cap : Nat) (hs : a.eval s = .slice none 0 0) (hx : a.eval x = .slice (some ad) n cap)
    (es : List En) (hn : n = es.length) (hle : n ≤ 1000) (h0 : 0 < n) (hrd : ERd w (some ad) es)
    (k : ∀ g c' cur w', ERd w' (some ⟨g, 0, none⟩) es → w'.heap[g]? = some (.cells cur 81 (0, 0)) → w.heap.size ≤ g → n ≤ c' → w.grownBy w' none → wpList Try.prog ops Q rest (a.put o.dst (.slice (some ⟨g, 0, none⟩) n c')) w') :
    wpList Try.prog ops Q (o :: rest) a w := by
  refine wpList_appH w hgd s x ho ad n cap hs hx es hn hle hrd ?_
  intro v' w' hr hg
  rcases hr.2 with ⟨_, hz⟩ | ⟨g, c', cur, e, hb, hgg, hc, _⟩
  · omega
  · subst e
    rw [← hn] at hc ⊢
    exact k g c' cur w' hr.rd hgg hb hc hg
set_option maxRecDepth 100000 in
set_option maxHeartbeats 2000000 in
theorem refPut_there (k : Nat) (w : World) (sa : Option Addr) (sn sc : Nat) (ms : List (Sl × Rw k)) (hd : StR k w sa sn ms) (m : Int) (kt vt : VT k) (hk : Rds k w kt) (hv : Rds k w vt) (hh : hasB sn m = true) (hth : (placeR (fun p => cmpT k p.1 kt) (rowAt ms m)).2 = true) :
    Calls Try.prog 13 #[.agg #[.slice sa sn sc], .int .i64 m, (hdT k kt).v, (hdT k vt).v] w (fun e w' => ∃ fa fn fc, e = .returned (.tuple #[.agg #[.slice fa fn fc], .int .i64 0]) ∧ Below w.heap.size w w' ∧ fn ≤ fc ∧ StCR k w' fa fn ((ms.map fun q => rowC k q.2).set m.toNat ((rowC k (rowAt ms m)).modify (placeR (fun p => cmpT k p.1 kt) (rowAt ms m)).1 (fun q => (q.1, ofT k vt))))) := by
  have D := hid hd
  have Hn := hid hd.n1
  have hle := hd.n2
  have hle2 : (sn : Int) ≤ 1000 := by omega
  have hle0 : (0 : Int) ≤ (sn : Int) := by omega
  have DV := hid hv
  have K42 := hid (fun (w1 : World) (hb : Below w.heap.size w w1) => refAt_any k w1 sa sn sc ms (hd.below (Nat.le_refl _) hb) m kt (Rds.below k hk (Nat.le_refl _) hb))
  clear hd hk hv
  generalize hdT k kt = hkt at *
  obtain ⟨kk, ki, kx, kr, ka, kn, kc⟩ := hkt
  obtain ⟨hvt, ehvt⟩ : ∃ h, h = hdT k vt := ⟨_, rfl⟩
  have Ev := hid ehvt
  rw [← ehvt]
  clear ehvt
  obtain ⟨vk, vi, vx, vr, va, vn, vc⟩ := hvt
  simp only [Hd.v] at K42 ⊢
  obtain ⟨W0, hW0⟩ : ∃ W0, W0 = (((w.alloc (.cells #[.slice sa sn sc] 27)).alloc (.cells #[.int .i64 kk, .int .i64 ki, .string kx, .int .i64 kr, .slice ka kn kc] 31)).alloc (.cells #[.int .i64 vk, .int .i64 vi, .string vx, .int .i64 vr, .slice va vn vc] 31)).alloc (.cells #[.slice none 0 0] 27) := ⟨_, rfl⟩
  have pl' : ∀ {w : World} {o x : Obj} {k : Nat}, w.heap[k]? = some x → (w.alloc o).heap[k]? = some x := fun h => (Below.heap_alloc _ _ _ (Array.getElem?_eq_some_iff.1 h).1).trans h
  have n1 := heap_alloc_new w (.cells #[.slice sa sn sc] 27)
  have n2 := heap_alloc_new (w.alloc (.cells #[.slice sa sn sc] 27)) (.cells #[.int .i64 kk, .int .i64 ki, .string kx, .int .i64 kr, .slice ka kn kc] 31)
  have n3 := heap_alloc_new ((w.alloc (.cells #[.slice sa sn sc] 27)).alloc (.cells #[.int .i64 kk, .int .i64 ki, .string kx, .int .i64 kr, .slice ka kn kc] 31)) (.cells #[.int .i64 vk, .int .i64 vi, .string vx, .int .i64 vr, .slice va vn vc] 31)
  have n4 := heap_alloc_new (((w.alloc (.cells #[.slice sa sn sc] 27)).alloc (.cells #[.int .i64 kk, .int .i64 ki, .string kx, .int .i64 kr, .slice ka kn kc] 31)).alloc (.cells #[.int .i64 vk, .int .i64 vi, .string vx, .int .i64 vr, .slice va vn vc] 31)) (.cells #[.slice none 0 0] 27)
  simp only [World.size_alloc] at n2 n3 n4
  have q1 : W0.heap[w.heap.size]? = some (.cells #[.slice sa sn sc] 27 (0, 0)) := by rw [hW0]; exact pl' (pl' (pl' n1))
  have q2 : W0.heap[w.heap.size + 1]? = some (.cells #[.int .i64 kk, .int .i64 ki, .string kx, .int .i64 kr, .slice ka kn kc] 31 (0, 0)) := by rw [hW0]; exact pl' (pl' n2)
  have q3 : W0.heap[w.heap.size + 1 + 1]? = some (.cells #[.int .i64 vk, .int .i64 vi, .string vx, .int .i64 vr, .slice va vn vc] 31 (0, 0)) := by rw [hW0]; exact pl' n3
  have q4 : W0.heap[w.heap.size + 1 + 1 + 1]? = some (.cells #[.slice none 0 0] 27 (0, 0)) := by rw [hW0]; exact n4
  have hb0 : Below w.heap.size w W0 := by rw [hW0]; exact ((((Below.refl _ w).alloc (Nat.le_refl _) _).alloc (by simp) _).alloc (by simp; omega) _).alloc (by simp; omega) _
  have hz0 : w.heap.size + 4 ≤ W0.heap.size := by rw [hW0]; simp
  have FX : Hid (∀ w2 : World, Below W0.heap.size W0 w2 → (w2.cell? ⟨w.heap.size, 0, none⟩ = some (.slice sa sn sc) ∧ w2.cell? ⟨w.heap.size + 1 + 1, 0, none⟩ = some (.int .i64 vk) ∧ w2.cell? ⟨w.heap.size + 1 + 1, 1, none⟩ = some (.int .i64 vi) ∧ w2.cell? ⟨w.heap.size + 1 + 1, 2, none⟩ = some (.string vx) ∧ w2.cell? ⟨w.heap.size + 1 + 1, 3, none⟩ = some (.int .i64 vr) ∧ w2.cell? ⟨w.heap.size + 1 + 1, 4, none⟩ = some (.slice va vn vc)) ∧ w2.heap[w.heap.size + 1 + 1 + 1]? = some (.cells #[.slice none 0 0] 27 (0, 0)) ∧ Below w.heap.size w w2) := hid (fun w2 hb => by
    have bx := (hb.block _ (Array.getElem?_eq_some_iff.1 q1).1).trans q1
    have bz := (hb.block _ (Array.getElem?_eq_some_iff.1 q3).1).trans q3
    exact ⟨⟨cellOf bx 0, cellOf bz 0, cellOf bz 1, cellOf bz 2, cellOf bz 3, cellOf bz 4⟩, (hb.block _ (Array.getElem?_eq_some_iff.1 q4).1).trans q4, hb0.trans (hb.mono hb0.size)⟩)
  have TR : Hid (∀ {Z x y : World}, Below Z.heap.size Z x → Below x.heap.size x y → Below Z.heap.size Z y) := hid (fun h1 h2 => h1.trans (h2.mono h1.size))
  have c0 : W0.cell? ⟨w.heap.size, 0, none⟩ = some (.slice sa sn sc) := cellOf q1 0
  have k0 := cellOf q2 0
  have k1 := cellOf q2 1
  have k2 := cellOf q2 2
  have k3 := cellOf q2 3
  have k4 := cellOf q2 4
  have e0 := cellOf q4 0
  have f0 := freeOf q4 0
  simp only [List.getElem?_toArray, List.getElem?_cons_zero, List.getElem?_cons_succ] at k0 k1 k2 k3 k4 e0
  have HB0 := hid hb0
  have HZ0 := hid hz0
  have Q4 := hid q4
  clear q1 q2 q3 q4 n1 n2 n3 n4 pl' hb0 hz0

  rw [show (Int.toNat m) = m.toNat from rfl]
  have hm : 0 ≤ m ∧ m < (sn : Int) := by simpa [hasB] using hh
  obtain ⟨i0, rfl⟩ : ∃ i0 : Nat, m = (i0 : Int) := ⟨m.toNat, by omega⟩
  have hi0 := hm.1
  have hi1 := hm.2
  have hi2 : ¬ (i0 : Int) < 0 := by omega
  have hi3 : ¬ (sn : Int) ≤ (i0 : Int) := by omega
  obtain ⟨p, hp⟩ : ∃ p, ms[i0]? = some p := ⟨ms[i0]'(by rw [← Hn.out]; omega), List.getElem?_eq_getElem _⟩
  have hrp : rowAt ms (i0 : Int) = p.2 := rowAt_yes hp
  rw [hrp] at K42 hth
  obtain ⟨b, off, ea, dc⟩ := D.out.rd i0 p.1 (by rw [List.getElem?_map, hp]; rfl)
  subst ea
  have hel := (D.out.el p (List.mem_of_getElem? hp)).1
  have hcap := (D.out.el p (List.mem_of_getElem? hp)).2
  obtain ⟨⟨ma, mn, mc⟩, mr⟩ := p
  simp only [Sl.v] at dc
  simp only at hel hcap K42 hth
  obtain ⟨i, hi⟩ : ∃ i, i = (placeR (fun p => cmpT k p.1 kt) mr).1 := ⟨_, rfl⟩
  have Hmn := hid hel.n1
  have hmn2 := hel.n2
  have hmn3 : (mn : Int) ≤ 1000 := by omega
  have Hel := hid hel
  have DX : Hid (∀ w2 : World, Below w.heap.size w w2 → w2.cell? ⟨b, off + i0, none⟩ = some (.slice ma mn mc)) := hid (fun w2 hb => (hb.cell (p := ⟨b, off + i0, none⟩) (World.block_lt_of_cell? w _ dc)).trans dc)
  rw [← hi] at K42

  have hlt : i < mn := by rw [hi, Hmn.out]; exact placeR_lt _ _ hth
  rw [hth] at K42
  rw [hrp]
  simp only
  rw [← hi]
  have hlt1 : (i : Int) < (mn : Int) := by omega
  have hi00 : (0 : Int) ≤ (i : Int) := by omega
  obtain ⟨q, hq⟩ : ∃ q, mr[i]? = some q := ⟨mr[i]'(by rw [← Hmn.out]; exact hlt), List.getElem?_eq_getElem _⟩
  obtain ⟨b1, o1, ea, _⟩ := hel.rd i (enT k q) (by rw [List.getElem?_map, hq]; rfl)
  subst ea
  obtain ⟨row', hrow'⟩ : ∃ row', row' = mr.set i (q.1, vt) := ⟨_, rfl⟩
  have hrc : (rowC k mr).modify i (fun q => (q.1, ofT k vt)) = rowC k row' := by
    rw [hrow']
    unfold rowC
    rw [List.map_set]
    apply List.ext_getElem?
    intro j
    rw [List.getElem?_modify, List.getElem?_set, List.getElem?_map]
    by_cases hj : i = j
    · subst hj
      have hil : i < mr.length := by rw [← Hmn.out]; exact hlt
      rw [hq]
      simp [ofP, hil]
    · simp [hj]
  rw [hrc]
  have Hrow' := hid hrow'
  have Hq := hid hq
  have hrlen : row'.length = mn := by rw [hrow', List.length_set]; exact Hmn.out.symm
  have Hrl := hid hrlen
  have Hel' : Hid (∀ (w1 : World), Below w.heap.size w w1 → ∀ x ∈ row', Rds k w1 x.1 ∧ Rds k w1 x.2) := hid (fun w1 hb x hx => by
    have hel1 := Hel.out.below (Nat.le_refl _) hb
    rw [Hrow'.out] at hx
    rcases List.mem_or_eq_of_mem_set hx with hx | hx
    · exact hel1.el x hx
    · subst hx
      exact ⟨(hel1.el q (List.mem_of_getElem? Hq.out)).1, Rds.below k DV.out (Nat.le_refl _) hb⟩)
  have K43 : Hid (∀ (w1 : World), Below w.heap.size w w1 → ∀ (ra : Option Addr) (rn rc : Nat), RwR k w1 ra rn row' → rn ≤ rc → Calls Try.prog 43 #[.agg #[.slice (some ⟨b, off, none⟩) sn sc], .int .i64 (i0 : Int), .slice ra rn rc] w1 (RwT k w1 (ms.set i0 (⟨ra, rn, rc⟩, row')))) := hid (fun w1 hb ra rn rc hr hc => refWith_any k w1 _ sn sc ms (D.out.below (Nat.le_refl _) hb) i0 (by omega) ra rn rc row' hr hc)
  have DM : Hid (∀ m ∈ ms, RwR k w m.1.a m.1.n m.2 ∧ m.1.n ≤ m.1.cap) := hid D.out.el
  clear dc hp hm hh hrp hth hel hq hi D hrow' hrc hrlen
  go_enter Try.func13, Try.ntmps13
  go_upto_region 1 with fail
  rw [← hW0]
  clear hW0
  go_upto_region 7 with (first
    | (go_at_call 42; (refine (K42.out _ HB0.out).mono ?_; rintro e w1 ⟨rfl, hb1⟩; obtain ⟨⟨c0', z0, z1, z2, z3, z4⟩, g2, bb⟩ := FX.out w1 hb1; have x0 := DX.out w1 bb; have HB1 := hid hb1; have BB := hid bb; clear g2 hb1 z0 z1 z2 z3 z4))
    | (at_builtin; refine wpList_appG w1 rfl _ _ rfl ⟨b1, o1, none⟩ mn mc (by rfl) (by rfl) (mr.map (enT k)) (by rw [List.length_map]; exact Hmn.out) hmn2 (by omega) ((Hel.out.below (Nat.le_refl _) BB.out).rd) ?_; intro g fc cur w2 hr2 hgg hgb hgc hg2; have R2 := hid hr2; have B2 := hid (TR.out HB1.out (below_of_grown hg2)); obtain ⟨⟨c2', z0, z1, z2, z3, z4⟩, x2, bb2⟩ := FX.out w2 B2.out; obtain ⟨bq, oq, eq', dq⟩ := hr2 i (enT k q) (by rw [List.getElem?_map, Hq.out]; rfl); cases eq'; have d5 := dq 5 (by omega); have d6 := dq 6 (by omega); have d7 := dq 7 (by omega); have d8 := dq 8 (by omega); have d9 := dq 9 (by omega); simp only [En.cs, enT, List.getElem?_cons_zero, List.getElem?_cons_succ, Nat.zero_add] at d5 d6 d7 d8 d9; have u5 := freeOf hgg (i * 10 + 5); have u6 := freeOf hgg (i * 10 + 6); have u7 := freeOf hgg (i * 10 + 7); have u8 := freeOf hgg (i * 10 + 8); have u9 := freeOf hgg (i * 10 + 9); have HGB := hid hgb; have HGL := hid (Array.getElem?_eq_some_iff.1 hgg).1; have HGC := hid hgc; have BB2 := hid bb2; clear hr2 hg2 x2 bb2 dq hgg hgb hgc))
  change Code.wp _ _ _ _ (five w2 g (i * 10 + 5) ⟨vk, vi, vx, vr, va, vn, vc⟩)
  have hgW : W0.heap.size ≤ g := Nat.le_trans HB1.out.size HGB.out
  have hb3 : Below W0.heap.size W0 (five w2 g (i * 10 + 5) ⟨vk, vi, vx, vr, va, vn, vc⟩) := five_below B2.out hgW _
  have hs3 : (five w2 g (i * 10 + 5) ⟨vk, vi, vx, vr, va, vn, vc⟩).heap.size = w2.heap.size := by simp [five, World.setCell]
  have er3 : ERd (five w2 g (i * 10 + 5) ⟨vk, vi, vx, vr, va, vn, vc⟩) (some ⟨g, 0, none⟩) (row'.map (enT k)) := by
    have := R2.out.setv i (enT k q) (by rw [List.getElem?_map, Hq.out]; rfl) ⟨vk, vi, vx, vr, va, vn, vc⟩
    rw [Hrow'.out, List.map_set]
    rw [Ev.out] at this ⊢
    exact this
  generalize five w2 g (i * 10 + 5) ⟨vk, vi, vx, vr, va, vn, vc⟩ = W3 at *
  obtain ⟨⟨c3', _⟩, x3, bb3⟩ := FX.out W3 hb3
  have hrw3 : RwR k W3 (some ⟨g, 0, none⟩) mn row' := ⟨Hrl.out.symm, hmn2, er3, fun x hx => Hel'.out W3 bb3 x hx⟩
  have C43 := hid (K43.out W3 bb3 _ mn fc hrw3 HGC.out)
  have HB3 := hid hb3
  have ER3 := hid er3
  have HS3 := hid hs3
  clear hb3 er3 hrw3 x3 bb3 hs3 d5 d6 d7 d8 d9 u5 u6 u7 u8 u9 z0 z1 z2 z3 z4
  go_wp2_with (go_at_call 43; (refine (C43.out).mono ?_; rintro e w4 ⟨jg, jn, jc, rfl, hb4, hjc, hjg, hjl, hjn, hj1, hst⟩; have B4 := hid (TR.out HB3.out hb4); obtain ⟨_, x6, bb6⟩ := FX.out w4 B4.out; have x60 := cellOf x6 0; have x6f := freeOf x6 0; simp only [List.getElem?_toArray, List.getElem?_cons_zero] at x60; have X6 := hid x6; have BB6 := hid bb6; have HST := hid hst; have HB34 := hid hb4; have Hjn := hid hjn; clear hjn x6 bb6 hst hb4))
  have h5 := set_cells X6.out (.slice (some ⟨jg, 0, none⟩) jn jc)
  have r0 := cellOf h5 0
  simp only [List.getElem?_toArray, List.getElem?_cons_zero] at r0
  have hb5 := BB6.out.setCell (p := ⟨w.heap.size + 1 + 1 + 1, 0, none⟩) (by show w.heap.size ≤ w.heap.size + 1 + 1 + 1; omega) (.slice (some ⟨jg, 0, none⟩) jn jc)
  have hkp : ∀ x, x ≠ w.heap.size + 1 + 1 + 1 → (w4.setCell ⟨w.heap.size + 1 + 1 + 1, 0, none⟩ (.slice (some ⟨jg, 0, none⟩) jn jc)).heap[x]? = w4.heap[x]? := fun x hx => Below.heap_setCell _ _ _ _ hx
  generalize w4.setCell ⟨w.heap.size + 1 + 1 + 1, 0, none⟩ (.slice (some ⟨jg, 0, none⟩) jn jc) = W9 at *
  have hz := HZ0.out
  have hsW3 := HB3.out.size
  have mrd : MRd W9 (some ⟨jg, 0, none⟩) ((ms.set i0 (⟨some ⟨g, 0, none⟩, mn, fc⟩, row')).map (·.1)) := fun j x hx => by
    obtain ⟨b', off', e, hc⟩ := HST.out j x hx
    cases e
    refine ⟨_, _, rfl, ?_⟩
    rw [← hc]
    exact World.cell?_of_block (a := ⟨jg, 0 + j, none⟩) (hkp jg (by omega))
  have er9 : ERd W9 (some ⟨g, 0, none⟩) (row'.map (enT k)) := (ER3.out.below (Nat.le_refl _) HB34.out).keep (fun x e _ => by cases e; exact hkp g (by omega))
  refine bodyPost_ret (v := .tuple #[.agg #[.slice (some ⟨jg, 0, none⟩) jn jc], .int .i64 0]) (by simp [results, Try.results13, go_sem, r0]) rfl ⟨_, jn, jc, rfl, hb5, hjc, ms.set i0 (⟨some ⟨g, 0, none⟩, mn, fc⟩, row'), ⟨Hjn.out, hj1, mrd, fun m hm => ?_⟩, ?_⟩
  · rcases List.mem_or_eq_of_mem_set hm with hm | hm
    · exact ⟨((DM.out m hm).1).below (Nat.le_refl _) hb5, (DM.out m hm).2⟩
    · subst hm
      exact ⟨⟨Hrl.out.symm, hmn2, er9, fun x hx => Hel'.out W9 hb5 x hx⟩, HGC.out⟩
  · rw [List.map_set]; rfl
end Go.Proofs.Ytenfgahedbeekaa

