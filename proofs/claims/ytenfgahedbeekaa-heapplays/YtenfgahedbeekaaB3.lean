/- HeapPlays: the walk. -/
import Derived.Test.YtenfgahedbeekaaC3
import Derived.BigQuiet
import Derived.Deep.DeepCutAuto
import Derived.Deep.CutBlock
namespace Go.Proofs.Ytenfgahedbeekaa
open Go.RowKit Go.Deep Go.Shelf
set_option linter.unusedVariables false
set_option linter.unusedSimpArgs false

theorem four_alloc (w : World) (o0 o1 o2 o3 : Obj) : ((((w.alloc o0).alloc o1).alloc o2).alloc o3).drew.heap[w.heap.size]? = some o0 ∧ ((((w.alloc o0).alloc o1).alloc o2).alloc o3).drew.heap[w.heap.size + 1]? = some o1 ∧ ((((w.alloc o0).alloc o1).alloc o2).alloc o3).drew.heap[w.heap.size + 1 + 1]? = some o2 ∧ ((((w.alloc o0).alloc o1).alloc o2).alloc o3).drew.heap[w.heap.size + 1 + 1 + 1]? = some o3 ∧ Below w.heap.size w ((((w.alloc o0).alloc o1).alloc o2).alloc o3).drew := by
  have n1 := heap_alloc_new (w.alloc o0) o1
  have n2 := heap_alloc_new ((w.alloc o0).alloc o1) o2
  have n3 := heap_alloc_new (((w.alloc o0).alloc o1).alloc o2) o3
  simp only [World.size_alloc] at n1 n2 n3
  have pl' : ∀ {w : World} {o x : Obj} {k : Nat}, w.heap[k]? = some x → (w.alloc o).heap[k]? = some x := fun h => (Below.heap_alloc _ _ _ (Array.getElem?_eq_some_iff.1 h).1).trans h
  exact ⟨pl' (pl' (pl' (heap_alloc_new w o0))), pl' (pl' n1), pl' n2, n3, (((((Below.refl _ w).alloc (Nat.le_refl _) _).alloc (by simp) _).alloc (by simp; omega) _).alloc (by simp; omega) _).drew⟩

def R5 (w1 : World) (n : Nat) (v5 v6 : Value) (wc : World) : Prop := ∃ Bs Br ga gb, v5 = .pointer (some ⟨Bs, 0, none⟩) ∧ v6 = .pointer (some ⟨Br, 0, none⟩) ∧ Bs ≠ Br ∧ w1.heap.size ≤ Bs ∧ w1.heap.size ≤ Br ∧ w1.heap.size ≤ ga ∧ w1.heap.size ≤ gb ∧ wc.heap[Bs]? = some (.cells #[.slice (some ⟨ga, 0, none⟩) n n] 27 (0, 0)) ∧ wc.heap[Br]? = some (.cells #[.slice (some ⟨gb, 0, none⟩) n n] 27 (0, 0)) ∧ wc.heap[ga]? = some (.cells (Array.replicate n (.slice none 0 0)) 70 (0, 0)) ∧ wc.heap[gb]? = some (.cells (Array.replicate n (.slice none 0 0)) 70 (0, 0)) ∧ Below w1.heap.size w1 wc
theorem R5.mk {w1 W : World} {n Bs Br ga gb : Nat} (hne : Bs ≠ Br) (l1 : w1.heap.size ≤ Bs) (l2 : w1.heap.size ≤ Br) (l3 : w1.heap.size ≤ ga) (l4 : w1.heap.size ≤ gb) (h1 : W.heap[Bs]? = some (.cells #[.slice (some ⟨ga, 0, none⟩) n n] 27 (0, 0))) (h2 : W.heap[Br]? = some (.cells #[.slice (some ⟨gb, 0, none⟩) n n] 27 (0, 0))) (h3 : W.heap[ga]? = some (.cells (Array.replicate n (.slice none 0 0)) 70 (0, 0))) (h4 : W.heap[gb]? = some (.cells (Array.replicate n (.slice none 0 0)) 70 (0, 0))) (hb : Below w1.heap.size w1 W) : R5 w1 n (.pointer (some ⟨Bs, 0, none⟩)) (.pointer (some ⟨Br, 0, none⟩)) W := ⟨Bs, Br, ga, gb, rfl, rfl, hne, l1, l2, l3, l4, h1, h2, h3, h4, hb⟩
theorem fin5 {Rest : World → Prop} (w : World) (o0 o1 o2 o3 : Obj) (h : ∀ W : World, W.heap[w.heap.size]? = some o0 → W.heap[w.heap.size + 1]? = some o1 → W.heap[w.heap.size + 1 + 1]? = some o2 → W.heap[w.heap.size + 1 + 1 + 1]? = some o3 → Below w.heap.size w W → Rest W) : Rest ((((w.alloc o0).alloc o1).alloc o2).alloc o3).drew := by
  obtain ⟨f0, f1, f2, f3, fb⟩ := four_alloc w o0 o1 o2 o3
  exact h _ f0 f1 f2 f3 fb
theorem bx1 {wc w2 : World} {o : Obj} (hb : Below ((wc.alloc o).drew).heap.size ((wc.alloc o).drew) w2) : w2.heap[wc.heap.size]? = some o := (hb.block _ (by show wc.heap.size < (wc.alloc o).heap.size; simp)).trans (heap_alloc_new wc o)
theorem bx2 {wc w2 : World} {o p : Obj} (hb : Below (((wc.alloc o).alloc p).drew).heap.size (((wc.alloc o).alloc p).drew) w2) : w2.heap[wc.heap.size]? = some o ∧ w2.heap[wc.heap.size + 1]? = some p := by
  have n1 := heap_alloc_new (wc.alloc o) p
  simp only [World.size_alloc] at n1
  exact ⟨(hb.block _ (by show wc.heap.size < ((wc.alloc o).alloc p).heap.size; simp; omega)).trans ((Below.heap_alloc _ _ _ (by simp)).trans (heap_alloc_new wc o)), (hb.block _ (by show wc.heap.size + 1 < ((wc.alloc o).alloc p).heap.size; simp)).trans n1⟩
theorem al1 {W : World} {b : Nat} {c : Array Value} {t : TypeId} (h : W.heap[b]? = some (.cells c t (0, 0))) (o : Obj) : (W.alloc o).heap[b]? = some (.cells c t (0, 0)) := (Below.heap_alloc _ _ _ (Array.getElem?_eq_some_iff.1 h).1).trans h
def R6 (w wc : World) (Bs Br ga gb n : Nat) (v7 v8 : Value) (wd : World) : Prop := ∃ Bw Bo wa wn wcp, v7 = .pointer (some ⟨Bw, 0, none⟩) ∧ v8 = .pointer (some ⟨Bo, 0, none⟩) ∧ Below wc.heap.size wc wd ∧ PL w wd Bs Br Bw Bo (some ⟨ga, 0, none⟩) n n (some ⟨gb, 0, none⟩) n n wa wn wcp (some ⟨ga, 0, none⟩) n n (List.replicate n []) (List.replicate n []) (List.replicate n [])
theorem rdcp_of {w0 W' : World} {Bs Br Bw Bo : Nat} {t : VT 3} (h : Rds 3 w0 t) (hb : Below w0.heap.size w0 W') (lo : w0.heap.size ≤ Bs ∧ w0.heap.size ≤ Br ∧ w0.heap.size ≤ Bw ∧ w0.heap.size ≤ Bo) : RdCP 3 W' (Av Bs Br Bw Bo W') (hdT 3 t) (ofT 3 t) :=
  ⟨t, rfl, ((rdP_of 3 h).keep 3 (fun b hb' => hb.block b hb')).imp 3 (fun b hb' => ⟨Nat.lt_of_lt_of_le hb' hb.size, by omega, by omega, by omega, by omega⟩), rfl⟩
theorem st_none (W : World) : StCR 3 W none 0 [] := ⟨[], ⟨rfl, by omega, fun j m hm => by simp at hm, fun m hm => by cases hm⟩, rfl⟩
structure Ini (w wc : World) (Bs Br ga gb n : Nat) : Prop where
  bel : Below w.heap.size w wc
  ne : Bs ≠ Br
  l : w.heap.size ≤ Bs ∧ w.heap.size ≤ Br
  h1 : wc.heap[Bs]? = some (.cells #[.slice (some ⟨ga, 0, none⟩) n n] 27 (0, 0))
  h2 : wc.heap[Br]? = some (.cells #[.slice (some ⟨gb, 0, none⟩) n n] 27 (0, 0))
  e : ga ≠ Bs ∧ ga ≠ Br ∧ gb ≠ Bs ∧ gb ≠ Br
  g : ga < wc.heap.size ∧ gb < wc.heap.size
  sg : StCP 3 wc (fun b => b = ga) (some ⟨ga, 0, none⟩) n (List.replicate n [])
  sr : StCP 3 wc (fun b => b = gb) (some ⟨gb, 0, none⟩) n (List.replicate n [])
theorem R6.mk {w wc w2 W5 : World} {Bs Br ga gb n : Nat} (I : Ini w wc Bs Br ga gb n) {Bw Bo x : Nat} {fa : Option Addr} {fn fc : Nat} (hb5 : Below wc.heap.size wc W5) (lw : wc.heap.size ≤ Bw) (lo : wc.heap.size ≤ Bo) (ne : Bw ≠ Bo) (e7 : W5.heap[Bw]? = some (.cells #[.slice fa fn fc] 27 (0, 0))) (e8 : W5.heap[Bo]? = some (.cells #[.slice (some ⟨ga, 0, none⟩) n n] 27 (0, 0)))
    (st : StCP 3 w2 (fun b => x ≤ b ∧ b < w2.heap.size) fa fn (List.replicate n [])) (hx : wc.heap.size ≤ x) (h25 : w2.heap.size ≤ W5.heap.size) (k : ∀ b, x ≤ b → b < w2.heap.size → W5.heap[b]? = w2.heap[b]? ∧ b ≠ Bw ∧ b ≠ Bo) : R6 w wc Bs Br ga gb n (.pointer (some ⟨Bw, 0, none⟩)) (.pointer (some ⟨Bo, 0, none⟩)) W5 := by
  have b1 := (Array.getElem?_eq_some_iff.1 I.h1).1
  have b2 := (Array.getElem?_eq_some_iff.1 I.h2).1
  have s5 := hb5.size
  have g1 := I.g.1
  have g2 := I.g.2
  have eg : StCP 3 W5 (Av Bs Br Bw Bo W5) (some ⟨ga, 0, none⟩) n (List.replicate n []) := st_keep I.sg (fun b hb => by subst hb; exact hb5.block _ I.g.1) (fun b hb => by subst hb; exact ⟨by omega, I.e.1, I.e.2.1, by omega, by omega⟩)
  have er : StCP 3 W5 (Av Bs Br Bw Bo W5) (some ⟨gb, 0, none⟩) n (List.replicate n []) := st_keep I.sr (fun b hb => by subst hb; exact hb5.block _ I.g.2) (fun b hb => by subst hb; exact ⟨by omega, I.e.2.2.1, I.e.2.2.2, by omega, by omega⟩)
  refine ⟨Bw, Bo, fa, fn, fc, rfl, rfl, hb5, ⟨I.bel.trans (hb5.mono I.bel.size), ⟨I.l.1, I.l.2, by have := I.bel.size; omega, by have := I.bel.size; omega⟩, ⟨I.ne, by omega, by omega, by omega, by omega, ne⟩, (hb5.block _ b1).trans I.h1, (hb5.block _ b2).trans I.h2, e7, e8, Nat.le_refl _, Nat.le_refl _, eg, er, st_keep st (fun b hb => (k b hb.1 hb.2).1) (fun b hb => ⟨by omega, by omega, by omega, (k b hb.1 hb.2).2⟩), eg, fun l hl => by rw [List.eq_of_mem_replicate hl]; exact List.Pairwise.nil⟩⟩
set_option maxRecDepth 100000 in
set_option maxHeartbeats 8000000 in
theorem plays_any (w : World) (n : Nat) (hn5 : n ≤ 5) (la : Option Addr) (ln lc : Nat) (ss : List Sp) (hn : ln = ss.length) (hn2 : ln ≤ 9223372036854775807) (hv : SpRd w la ss) (hd : SpIn w ss) :
    Calls Try.prog 3 #[.int .i64 (n : Int), .slice la ln lc] w fun e w' => e = .returned (.bool true) ∧ Below w.heap.size w w' := by
  have K10 := hid (fun (w1 : World) (hb : Below w.heap.size w w1) (hd1 : SpIn w1 ss) => few_any w1 la ln lc ss hn hn2 (hv.below (Nat.le_refl _) hb) hd1)
  have Hn := hid hn
  have Hv := hid hv
  have Hd' := hid hd
  have hm1 : ¬ ((n : Int) < 0) := by omega
  have hm2 : ¬ ((5 : Int) < (n : Int)) := by omega
  have hm3 : (n : Int) ≤ 5 := by omega
  have hm0 : (0 : Int) ≤ (n : Int) := by omega
  have DB : Hid (∀ w1 : World, Below w.heap.size w w1 → SpIn w1 ss) := hid (fun w1 hb x hx => by
    obtain ⟨⟨fs, gs, h1⟩, ⟨fs2, gs2, h2⟩, h3⟩ := hd x hx
    exact ⟨⟨fs, gs, h1.below (Nat.le_refl _) hb⟩, ⟨fs2, gs2, h2.below (Nat.le_refl _) hb⟩, h3⟩)
  have MK : Hid (∀ W : World, (Instr.makeSlice 25 (.int .i64 (n : Int)) (.int .i64 (n : Int))).run Try.prog W = .ok (.slice (some ⟨W.heap.size, 0, none⟩) n n) (W.alloc (.cells (List.replicate n (.slice none 0 0)).toArray 70))) := hid (fun W => run_mk W n (by omega))
  have BT : Hid (∀ {Z x y : World}, Below Z.heap.size Z x → Below x.heap.size x y → Below Z.heap.size Z y) := hid (fun h1 h2 => h1.trans (h2.mono h1.size))
  clear hn hv hd
  go_enter Try.func3, Try.ntmps3
  go_upto_region 5 with (first
    | (go_at_call 9; (refine (known_any _).mono ?_; rintro e w0 ⟨rfl, hb0⟩))
    | (go_at_call 10; (refine (K10.out w0 hb0 (DB.out w0 hb0)).mono ?_; rintro e w1 ⟨⟨fb, rfl, hfb⟩, hb1⟩; have Hfb := hid hfb; clear hfb; cases fb)))
  · go_ret
    exact ⟨rfl, hb0.trans (hb1.mono hb0.size)⟩
  · have hbw : Below w.heap.size w w1 := hb0.trans (hb1.mono hb0.size)
    have HBW := hid hbw
    have HB0w := hid hb0
    have HB01 := hid hb1
    clear hb0 hb1 hbw
    go_cut [5, 6] (R5 w1 n)
    case first =>
      as_aux_lemma =>
        have mk := MK.out
        refine wp_region_noPanic ?_
        go_region_with (fail)
        all_goals (refine NoPanic.normal ?_; go_wp2_with fail; go_meet; refine fin5 (Rest := R5 w1 n _ _) w1 _ _ _ _ ?_; intro W f0 f1 f2 f3 fb; apply R5.mk; (case h1 => with_reducible first | exact f0 | exact f1 | exact f2 | exact f3); (case h2 => with_reducible first | exact f0 | exact f1 | exact f2 | exact f3); (case h3 => with_reducible first | exact f0 | exact f1 | exact f2 | exact f3); (case h4 => with_reducible first | exact f0 | exact f1 | exact f2 | exact f3); (case hb => exact fb); all_goals omega)

    case rest =>
      obtain ⟨Bs, Br, ga, gb, rfl, rfl, hne, l1, l2, l3, l4, h1, h2, h3, h4, hbc⟩ := hcut
      have e3 : ga ≠ Bs := by rintro rfl; rw [h1] at h3; simp at h3
      have e4 : ga ≠ Br := by rintro rfl; rw [h2] at h3; simp at h3
      have e5 : gb ≠ Bs := by rintro rfl; rw [h1] at h4; simp at h4
      have e6 : gb ≠ Br := by rintro rfl; rw [h2] at h4; simp at h4
      have sg : StCP 3 wc (fun b => b = ga) (some ⟨ga, 0, none⟩) n (List.replicate n []) := st_make (by rw [List.toArray_replicate]; exact h3) rfl (by omega)
      have sr : StCP 3 wc (fun b => b = gb) (some ⟨gb, 0, none⟩) n (List.replicate n []) := st_make (by rw [List.toArray_replicate]; exact h4) rfl (by omega)
      have c1 := cellOf h1 0
      have c2 := cellOf h2 0
      simp only [List.getElem?_toArray, List.getElem?_cons_zero] at c1 c2
      have SE : Hid (∀ W' : World, Below wc.heap.size wc W' → W'.cell? ⟨Bs, 0, none⟩ = some (.slice (some ⟨ga, 0, none⟩) n n) ∧ W'.cell? ⟨Br, 0, none⟩ = some (.slice (some ⟨gb, 0, none⟩) n n)) := hid (fun W' h => ⟨(h.cell (World.block_lt_of_cell? wc _ c1)).trans c1, (h.cell (World.block_lt_of_cell? wc _ c2)).trans c2⟩)
      have K11 : Hid (∀ W' : World, Below wc.heap.size wc W' → Calls Try.prog 11 #[.agg #[.slice (some ⟨gb, 0, none⟩) n n]] W' (StTold 3 W' (List.replicate n []))) := hid (fun W' h => refCopy_c 3 W' _ n n _ (sr.cr.below (Nat.le_refl _) h))
      have B0 := hid ((Below.refl wc.heap.size wc).drew)
      have B1 : Hid (∀ o, Below wc.heap.size wc (wc.alloc o).drew) := hid (fun o => ((Below.refl wc.heap.size wc).alloc (Nat.le_refl _) o).drew)
      have B2 : Hid (∀ o p, Below wc.heap.size wc ((wc.alloc o).alloc p).drew) := hid (fun o p => (((Below.refl wc.heap.size wc).alloc (Nat.le_refl _) o).alloc (by simp) p).drew)
      have INI : Hid (Ini w0 wc Bs Br ga gb n) := hid ⟨HB01.out.trans (hbc.mono HB01.out.size), hne, ⟨by have := HB01.out.size; omega, by have := HB01.out.size; omega⟩, h1, h2, ⟨e3, e4, e5, e6⟩, ⟨(Array.getElem?_eq_some_iff.1 h3).1, (Array.getElem?_eq_some_iff.1 h4).1⟩, sg, sr⟩
      have H1 := hid h1
      have H2 := hid h2
      have H3 := hid h3
      have H4 := hid h4
      have SG := hid sg
      have SR := hid sr
      have HBC := hid hbc
      clear h1 h2 h3 h4 sg sr hbc
      go_upto_region 6 with fail
      go_cut [7, 8] (R6 w0 wc Bs Br ga gb n)
      case first =>
        as_aux_lemma =>
          go_region_held3 (fun W' => W'.cell? ⟨Bs, 0, none⟩ = some (.slice (some ⟨ga, 0, none⟩) n n) ∧ W'.cell? ⟨Br, 0, none⟩ = some (.slice (some ⟨gb, 0, none⟩) n n)) (first | with_reducible exact SE.out _ B0.out | with_reducible exact SE.out _ (B1.out _) | with_reducible exact SE.out _ (B2.out _ _) | with_reducible exact SE.out _ B3.out | with_reducible exact SE.out _ (B3a.out _) | with_reducible exact SE.out _ (B3b.out _ _) | with_reducible exact SE.out _ (B3c.out _) | with_reducible exact SE.out _ (B3d.out _) | with_reducible exact SE.out _ (B3e.out _ _) | with_reducible exact SE.out _ (B3f.out _ _) | with_reducible exact SE.out _ (B3g.out _ _) | with_reducible exact SE.out _ (B3h.out _ _) | with_reducible exact SE.out _ (B3i.out _ _ _) | go_keep) ((first
            | (go_at_call 11; (with_reducible first | refine (K11.out _ B0.out).mono ?_ | refine (K11.out _ (B1.out _)).mono ?_ | refine (K11.out _ (B2.out _ _)).mono ?_); (rintro e w2 ⟨fa, fn, fc, rfl, hb2, hfc, hst⟩; have B3 := hid (BT.out (by with_reducible first | exact B0.out | exact B1.out _ | exact B2.out _ _) hb2); have hs2 := B3.out.size; have B3a : Hid (∀ o, Below wc.heap.size wc (w2.alloc o)) := hid (fun o => B3.out.alloc B3.out.size o); have B3b : Hid (∀ o p, Below wc.heap.size wc ((w2.alloc o).alloc p)) := hid (fun o p => (B3a.out o).alloc (B3a.out o).size p); have B3c : Hid (∀ v, Below wc.heap.size wc (w2.setCell ⟨wc.heap.size, 0, none⟩ v)) := hid (fun v => B3.out.setCell (p := ⟨wc.heap.size, 0, none⟩) (Nat.le_refl _) v); have B3d : Hid (∀ v, Below wc.heap.size wc (w2.setCell ⟨wc.heap.size + 1, 0, none⟩ v)) := hid (fun v => B3.out.setCell (p := ⟨wc.heap.size + 1, 0, none⟩) (Nat.le_succ _) v); have B3e : Hid (∀ u v, Below wc.heap.size wc ((w2.setCell ⟨wc.heap.size, 0, none⟩ u).setCell ⟨wc.heap.size + 1, 0, none⟩ v)) := hid (fun u v => (B3c.out u).setCell (p := ⟨wc.heap.size + 1, 0, none⟩) (Nat.le_succ _) v); have B3f : Hid (∀ u v, Below wc.heap.size wc ((w2.setCell ⟨wc.heap.size + 1, 0, none⟩ u).setCell ⟨wc.heap.size, 0, none⟩ v)) := hid (fun u v => (B3d.out u).setCell (p := ⟨wc.heap.size, 0, none⟩) (Nat.le_refl _) v); have B3g : Hid (∀ o v, Below wc.heap.size wc ((w2.alloc o).setCell ⟨wc.heap.size, 0, none⟩ v)) := hid (fun o v => (B3a.out o).setCell (p := ⟨wc.heap.size, 0, none⟩) (Nat.le_refl _) v); have B3i : Hid (∀ o u v, Below wc.heap.size wc (((w2.alloc o).setCell ⟨wc.heap.size, 0, none⟩ u).setCell ⟨w2.heap.size, 0, none⟩ v)) := hid (fun o u v => (B3g.out o u).setCell (p := ⟨w2.heap.size, 0, none⟩) B3.out.size v); have B3h : Hid (∀ v o, Below wc.heap.size wc ((w2.setCell ⟨wc.heap.size, 0, none⟩ v).alloc o)) := hid (fun v o => (B3c.out v).alloc (B3c.out v).size o); (try (have p0 := bx1 hb2; have z0 := cellOf p0 0; have f0 := freeOf p0 0; have z0a := fun o => cellOf (al1 p0 o) 0; have f0a := fun o => freeOf (al1 p0 o) 0; simp only [List.getElem?_toArray, List.getElem?_cons_zero] at z0 z0a; have P0 := hid p0; have q2 : ∀ (x v : Value), ((w2.alloc (.cells #[x] 27)).setCell ⟨wc.heap.size, 0, none⟩ v).heap[w2.heap.size]? = some (.cells #[x] 27 (0, 0)) := fun x v => (set_off (by have := (Array.getElem?_eq_some_iff.1 p0).1; omega)).trans (heap_alloc_new w2 _); have q2c := fun x v => cellOf (q2 x v) 0; have q2f := fun x v => freeOf (q2 x v) 0; simp only [List.getElem?_toArray, List.getElem?_cons_zero] at q2c; clear p0 q2)); (try (obtain ⟨p0, p1⟩ := bx2 hb2; have z0 := cellOf p0 0; have f0 := freeOf p0 0; have z1 := cellOf p1 0; have f1 := freeOf p1 0; simp only [List.getElem?_toArray, List.getElem?_cons_zero] at z0 z1; have P0 := hid p0; have P1 := hid p1; have r1 := fun v => cellOf ((set_off (v := v) (show wc.heap.size + 1 ≠ wc.heap.size from by omega)).trans p1) 0; have r1f := fun v => freeOf ((set_off (v := v) (show wc.heap.size + 1 ≠ wc.heap.size from by omega)).trans p1) 0; have r0 := fun v => cellOf ((set_off (v := v) (show wc.heap.size ≠ wc.heap.size + 1 from by omega)).trans p0) 0; have r0f := fun v => freeOf ((set_off (v := v) (show wc.heap.size ≠ wc.heap.size + 1 from by omega)).trans p0) 0; simp only [List.getElem?_toArray, List.getElem?_cons_zero] at r0 r1; clear p0 p1)); have ST := hid hst; have HB2 := hid hb2; clear hst hb2))))
          · go_wp2_with fail
            go_meet
            exact R6.mk INI.out (B3b.out _ _) hs2 (by omega) (by omega) ((Below.heap_alloc _ _ _ (by simp)).trans (heap_alloc_new w2 _)) (by have := heap_alloc_new (w2.alloc (.cells #[.slice fa fn fc] 27)) (.cells #[.slice (some ⟨ga, 0, none⟩) n n] 27); rw [World.size_alloc] at this; exact this) ST.out (Nat.le_refl _) (by simp; omega) (fun b h1 h2 => ⟨(Below.heap_alloc _ _ _ (by simp; omega)).trans (Below.heap_alloc _ _ _ h2), by omega, by omega⟩)
          · go_wp2_with fail
            go_meet
            exact R6.mk INI.out (B3b.out _ _) (by omega) hs2 (by omega) (by have := heap_alloc_new (w2.alloc (.cells #[.slice (some ⟨ga, 0, none⟩) n n] 27)) (.cells #[.slice fa fn fc] 27); rw [World.size_alloc] at this; exact this) ((Below.heap_alloc _ _ _ (by simp)).trans (heap_alloc_new w2 _)) ST.out (Nat.le_refl _) (by simp; omega) (fun b h1 h2 => ⟨(Below.heap_alloc _ _ _ (by simp; omega)).trans (Below.heap_alloc _ _ _ h2), by omega, by omega⟩)
          · go_wp2_with fail
            go_meet
            have hp := (Array.getElem?_eq_some_iff.1 P0.out).1
            exact R6.mk INI.out (B3i.out _ _ _) (Nat.le_refl _) hs2 (by omega) ((set_off (by omega)).trans (set_cells (al1 P0.out _) _)) (set_cells ((set_off (by omega)).trans (heap_alloc_new w2 _)) _) ST.out (by show wc.heap.size ≤ (wc.alloc _).heap.size; simp) (by rw [set_size, set_size]; simp) (fun b h1 h2 => by
              have h1' : wc.heap.size + 1 ≤ b := by have h1' := h1; simp at h1'; exact h1'
              exact ⟨(set_off (by omega)).trans ((set_off (by omega)).trans (Below.heap_alloc _ _ _ h2)), by omega, by omega⟩)
          · go_wp2_with fail
            go_meet
            have hp := (Array.getElem?_eq_some_iff.1 P1.out).1
            exact R6.mk INI.out (B3e.out _ _) (Nat.le_refl _) (by omega) (by omega) ((set_off (by omega)).trans (set_cells P0.out _)) (set_cells ((set_off (by omega)).trans P1.out) _) ST.out (by show wc.heap.size ≤ ((wc.alloc _).alloc _).heap.size; simp; omega) (by rw [set_size, set_size]; omega) (fun b h1 h2 => by
              have h1' : wc.heap.size + 1 + 1 ≤ b := by have h1' := h1; simp at h1'; exact h1'
              exact ⟨(set_off (by omega)).trans (set_off (by omega)), by omega, by omega⟩)
          · go_wp2_with fail
            go_meet
            have hp := (Array.getElem?_eq_some_iff.1 P0.out).1
            exact R6.mk INI.out (B3g.out _ _) hs2 (Nat.le_refl _) (by omega) ((set_off (by omega)).trans (heap_alloc_new w2 _)) (set_cells (al1 P0.out _) _) ST.out (by show wc.heap.size ≤ (wc.alloc _).heap.size; simp) (by rw [set_size]; simp) (fun b h1 h2 => by
              have h1' : wc.heap.size + 1 ≤ b := by have h1' := h1; simp at h1'; exact h1'
              exact ⟨(set_off (by omega)).trans (Below.heap_alloc _ _ _ h2), by omega, by omega⟩)
          · go_wp2_with fail
            go_meet
            have hp := (Array.getElem?_eq_some_iff.1 P1.out).1
            exact R6.mk INI.out (B3f.out _ _) (by omega) (Nat.le_refl _) (by omega) ((set_off (by omega)).trans (set_cells P1.out _)) (set_cells ((set_off (by omega)).trans P0.out) _) ST.out (by show wc.heap.size ≤ ((wc.alloc _).alloc _).heap.size; simp; omega) (by rw [set_size, set_size]; omega) (fun b h1 h2 => by
              have h1' : wc.heap.size + 1 + 1 ≤ b := by have h1' := h1; simp at h1'; exact h1'
              exact ⟨(set_off (by omega)).trans (set_off (by omega)), by omega, by omega⟩)
      case rest =>
        obtain ⟨Bw, Bo, wa0, wn0, wc0, rfl, rfl, hbd, hpl⟩ := hcut
        have HPL := hid hpl
        have hl60 : ln ≤ 60 := by rw [Hn.out]; exact (Hfb.out trivial).1
        have SMW : Hid (∀ x ∈ ss, Sm w0 x.key ∧ Sm w0 x.val) := hid (Hfb.out trivial).2
        have hlI : (ln : Int) ≤ 60 := by omega
        clear hbd hpl Hfb SE K11 B0 B1 B2 INI H1 H2 H3 H4 SG SR HBC c1 c2 MK
        go_wp2_with fail
        go_loopg [9] ln (fun g ii wr => ∃ i : Nat, i + g = ln ∧ ii = .int .i64 (i : Int) ∧ ∃ sa sn sc ra rn rc wa wn wq oa on oc S T, PL w0 wr Bs Br Bw Bo sa sn sc ra rn rc wa wn wq oa on oc S S T)
        case atStart => exact ⟨0, by omega, rfl, _, _, _, _, _, _, _, _, _, _, _, _, _, _, HPL.out⟩
        case round =>
          obtain ⟨i, hi', rfl, sa, sn, sc, ra, rn, rc, wa, wn, wq, oa, on, oc, S, T, hp⟩ := hrel
          have HP := hid hp
          cases gk with
          | zero =>
            have hin2 : i = ln := by omega
            subst hin2
            clear hp hi'
            go_wp2
            go_ret
            exact ⟨rfl, HB0w.out.trans (HP.out.bel.mono HB0w.out.size)⟩
          | succ gi =>
            have hlt0 : i < ln := by omega
            have hlt : (i : Int) < (ln : Int) := by omega
            have hi00 : (0 : Int) ≤ (i : Int) := by omega
            have Hi := hid hi'
            obtain ⟨x, hx⟩ : ∃ x, ss[i]? = some x := ⟨ss[i]'(by rw [← Hn.out]; exact hlt0), List.getElem?_eq_getElem _⟩
            have hmem := List.mem_of_getElem? hx
            obtain ⟨b1, o1, ea, dx⟩ := ((Hv.out.below (Nat.le_refl _) HB0w.out).below (Nat.le_refl _) hp.bel) i x hx
            subst ea
            have bM := (Hd'.out x hmem).2.2
            obtain ⟨tk, ek, rk⟩ := tree_of (SMW.out x hmem).1
            obtain ⟨tv, ev, rv⟩ := tree_of (SMW.out x hmem).2
            have LO := hid hp.lo
            have KK : Hid (∀ W' : World, Below w0.heap.size w0 W' → RdCP 3 W' (Av Bs Br Bw Bo W') x.key (ofT 3 tk)) := hid (fun W' hb => ek ▸ rdcp_of rk hb LO.out)
            have VV : Hid (∀ W' : World, Below w0.heap.size w0 W' → RdCP 3 W' (Av Bs Br Bw Bo W') x.val (ofT 3 tv)) := hid (fun W' hb => ev ▸ rdcp_of rv hb LO.out)
            generalize ofT 3 tk = ck at *
            generalize ofT 3 tv = cv at *
            have d0 := dx 0 (by omega)
            have d1 := dx 1 (by omega)
            have d2 := dx 2 (by omega)
            have d3 := dx 3 (by omega)
            have d4 := dx 4 (by omega)
            have d5 := dx 5 (by omega)
            have d6 := dx 6 (by omega)
            have d7 := dx 7 (by omega)
            have d8 := dx 8 (by omega)
            have d9 := dx 9 (by omega)
            have d10 := dx 10 (by omega)
            have d11 := dx 11 (by omega)
            obtain ⟨fw, fm, ⟨kk, ki, kx, kr, ka, kn, kc⟩, ⟨vk, vi, vx, vr, va, vn, vc⟩⟩ := x
            simp only [Sp.cs, List.getElem?_cons_zero, List.getElem?_cons_succ, Nat.add_zero] at d0 d1 d2 d3 d4 d5 d6 d7 d8 d9 d10 d11
            simp only at bM KK VV
            obtain ⟨bm1, bm2, bw1, bw2⟩ := bM
            clear dx hmem hx ek ev rk rv hi' hp
            go_upto_block 2 with fail
            obtain ⟨wx, hwx⟩ : ∃ wx, wx = wr.alloc (.cells #[.int .i64 fw, .int .i64 fm, .int .i64 kk, .int .i64 ki, .string kx, .int .i64 kr, .slice ka kn kc, .int .i64 vk, .int .i64 vi, .string vx, .int .i64 vr, .slice va vn vc] 33) := ⟨_, rfl⟩
            rw [← hwx]
            have qx : wx.heap[wr.heap.size]? = some (.cells #[.int .i64 fw, .int .i64 fm, .int .i64 kk, .int .i64 ki, .string kx, .int .i64 kr, .slice ka kn kc, .int .i64 vk, .int .i64 vi, .string vx, .int .i64 vr, .slice va vn vc] 33 (0, 0)) := by rw [hwx]; exact heap_alloc_new wr _
            have hbx : Below wr.heap.size wr wx := by rw [hwx]; exact (Below.refl _ wr).alloc (Nat.le_refl _) _
            have PX := hid (HP.out.below hbx)
            have XL : Hid (Bs ≠ wr.heap.size ∧ Br ≠ wr.heap.size ∧ Bw ≠ wr.heap.size ∧ Bo ≠ wr.heap.size) := hid ⟨fun e => by have := (Array.getElem?_eq_some_iff.1 HP.out.bs).1; omega, fun e => by have := (Array.getElem?_eq_some_iff.1 HP.out.br).1; omega, fun e => by have := (Array.getElem?_eq_some_iff.1 HP.out.bw).1; omega, fun e => by have := (Array.getElem?_eq_some_iff.1 HP.out.bo).1; omega⟩
            have XC : Hid (∀ W' : World, W'.heap[wr.heap.size]? = some (.cells #[.int .i64 fw, .int .i64 fm, .int .i64 kk, .int .i64 ki, .string kx, .int .i64 kr, .slice ka kn kc, .int .i64 vk, .int .i64 vi, .string vx, .int .i64 vr, .slice va vn vc] 33 (0, 0)) → (W'.cell? ⟨wr.heap.size, 1, none⟩ = some (.int .i64 fm) ∧ W'.cell? ⟨wr.heap.size, 2, none⟩ = some (.int .i64 kk) ∧ W'.cell? ⟨wr.heap.size, 3, none⟩ = some (.int .i64 ki) ∧ W'.cell? ⟨wr.heap.size, 4, none⟩ = some (.string kx) ∧ W'.cell? ⟨wr.heap.size, 5, none⟩ = some (.int .i64 kr) ∧ W'.cell? ⟨wr.heap.size, 6, none⟩ = some (.slice ka kn kc) ∧ W'.cell? ⟨wr.heap.size, 7, none⟩ = some (.int .i64 vk) ∧ W'.cell? ⟨wr.heap.size, 8, none⟩ = some (.int .i64 vi) ∧ W'.cell? ⟨wr.heap.size, 9, none⟩ = some (.string vx) ∧ W'.cell? ⟨wr.heap.size, 10, none⟩ = some (.int .i64 vr) ∧ W'.cell? ⟨wr.heap.size, 11, none⟩ = some (.slice va vn vc))) := hid (fun W' h => ⟨cellOf h 1, cellOf h 2, cellOf h 3, cellOf h 4, cellOf h 5, cellOf h 6, cellOf h 7, cellOf h 8, cellOf h 9, cellOf h 10, cellOf h 11⟩)
            have QX := hid qx
            clear d0 d1 d2 d3 d4 d5 d6 d7 d8 d9 d10 d11 hwx hbx qx
            go_cut [] (fun wd => ∃ sa sn sc ra rn rc wa wn wq oa on oc S T, PL w0 wd Bs Br Bw Bo sa sn sc ra rn rc wa wn wq oa on oc S S T ∧ wd.heap[wr.heap.size]? = some (.cells #[.int .i64 fw, .int .i64 fm, .int .i64 kk, .int .i64 ki, .string kx, .int .i64 kr, .slice ka kn kc, .int .i64 vk, .int .i64 vi, .string vx, .int .i64 vr, .slice va vn vc] 33 (0, 0)))
            case first =>
              go_upto_if 61 with fail
              go_cut [60, 61] (fun v60 v61 wd => v60 = .int .i64 fw ∧ v61 = .bool (fw == 0 || fw == 1 || fw == 2 || fw == 3) ∧ wd = wx)
              case first =>
                as_aux_lemma =>
                  cases h0 : (fw == 0) with
                  | true =>
                    go_wp2_with fail
                    go_meet
                    exact ⟨rfl, by rw [h0]; rfl, rfl⟩
                  | false =>
                    cases h1 : (fw == 1) with
                    | true =>
                      go_wp2_with fail
                      go_meet
                      exact ⟨rfl, by rw [h0, h1]; rfl, rfl⟩
                    | false =>
                      cases h2 : (fw == 2) with
                      | true =>
                        go_wp2_with fail
                        go_meet
                        exact ⟨rfl, by rw [h0, h1, h2]; rfl, rfl⟩
                      | false =>
                        cases h3 : (fw == 3) with
                        | true =>
                          go_wp2_with fail
                          go_meet
                          exact ⟨rfl, by rw [h0, h1, h2, h3]; rfl, rfl⟩
                        | false =>
                          go_wp2_with fail
                          go_meet
                          exact ⟨rfl, by rw [h0, h1, h2, h3]; rfl, rfl⟩
              case rest =>
                obtain ⟨rfl, rfl, hwd⟩ := hcut
                rw [hwd]
                clear hwd
                cases hq : (fw == 0 || fw == 1 || fw == 2 || fw == 3) with
                | true =>
                  have lens : Hid (sn = rn) := hid (by have := PX.out.ss.cr.len; have := PX.out.rr.cr.len; omega)
                  have sB := cellOf PX.out.bs 0
                  have rB := cellOf PX.out.br 0
                  simp only [List.getElem?_toArray, List.getElem?_cons_zero] at sB rB
                  obtain ⟨x1, x2, x3, x4, x5, x6, x7, x8, x9, x10, x11⟩ := XC.out wx QX.out
                  have hno : Hid (∀ (h : hasB sn fm = false), hasB rn fm = false) := hid (fun h => by rw [← lens.out]; exact h)
                  have hyes : Hid (∀ (h : hasB sn fm = true), hasB rn fm = true) := hid (fun h => by rw [← lens.out]; exact h)
                  cases hm0 : hasB sn fm with
                  | false =>
                    have hm := hid hm0
                    clear hm0
                    as_aux_lemma =>
                      clear hyes
                      have K12 : Hid (Calls Try.prog 12 #[.agg #[.slice sa sn sc], .int .i64 fm, .agg #[.int .i64 kk, .int .i64 ki, .string kx, .int .i64 kr, .slice ka kn kc], .agg #[.int .i64 vk, .int .i64 vi, .string vx, .int .i64 vr, .slice va vn vc]] wx fun e w' => e = .returned (.tuple #[.agg #[.slice none 0 0], .int .i64 42]) ∧ Below wx.heap.size wx w') := hid (put_c_nomap 3 wx sa sn sc S PX.out.ss.cr fm ⟨kk, ki, kx, kr, ka, kn, kc⟩ ⟨vk, vi, vx, vr, va, vn, vc⟩ ck cv (KK.out wx PX.out.bel).rdc (VV.out wx PX.out.bel).rdc hm.out)
                      have K13 : Hid (∀ W' : World, Below wx.heap.size wx W' → Calls Try.prog 13 #[.agg #[.slice ra rn rc], .int .i64 fm, .agg #[.int .i64 kk, .int .i64 ki, .string kx, .int .i64 kr, .slice ka kn kc], .agg #[.int .i64 vk, .int .i64 vi, .string vx, .int .i64 vr, .slice va vn vc]] W' fun e w' => e = .returned (.tuple #[.agg #[.slice none 0 0], .int .i64 42]) ∧ Below W'.heap.size W' w') := hid (fun W' hb => refPut_c_nomap 3 W' ra rn rc S (PX.out.below hb).rr.cr fm ⟨kk, ki, kx, kr, ka, kn, kc⟩ ⟨vk, vi, vx, vr, va, vn, vc⟩ ck cv (KK.out W' (PX.out.below hb).bel).rdc (VV.out W' (PX.out.below hb).bel).rdc (hno.out hm.out))
                      have K14 : Hid (∀ W' : World, Calls Try.prog 14 #[.agg #[.slice none 0 0], .agg #[.slice none 0 0]] W' fun e w' => e = .returned (.bool true) ∧ Below W'.heap.size W' w') := hid (fun W' => refStSame_c 3 W' none 0 0 none 0 0 [] (st_none W') (st_none W'))
                      go_wp2_with (first
                        | (go_at_call 12; (refine (K12.out).mono ?_; rintro e w2 ⟨rfl, hb2⟩; have B2 := hid hb2; have B3 : Hid (Below wx.heap.size wx (w2.alloc (.cells #[.slice none 0 0] 27))) := hid (hb2.alloc hb2.size _); have P3 := hid (PX.out.below B3.out); have r3 := cellOf P3.out.br 0; simp only [List.getElem?_toArray, List.getElem?_cons_zero] at r3; obtain ⟨y1, y2, y3, y4, y5, y6, y7, y8, y9, y10, y11⟩ := XC.out (w2.alloc (.cells #[.slice none 0 0] 27)) ((B3.out.block _ (Array.getElem?_eq_some_iff.1 QX.out).1).trans QX.out); have tb : (w2.alloc (.cells #[.slice none 0 0] 27)).heap[w2.heap.size]? = some (.cells #[.slice none 0 0] 27 (0, 0)) := heap_alloc_new w2 _; have TB := hid tb; clear tb hb2 x1 x2 x3 x4 x5 x6 x7 x8 x9 x10 x11 sB rB))
                        | (go_at_call 13; (refine (K13.out _ B3.out).mono ?_; rintro e w4 ⟨rfl, hb4⟩; have B4 := hid (BT.out B3.out hb4); have B5 : Hid (Below wx.heap.size wx (w4.alloc (.cells #[.slice none 0 0] 27))) := hid (B4.out.alloc B4.out.size _); have tb5 : (w4.alloc (.cells #[.slice none 0 0] 27)).heap[w2.heap.size]? = some (.cells #[.slice none 0 0] 27 (0, 0)) := (Below.heap_alloc _ _ _ (Nat.lt_of_lt_of_le (Array.getElem?_eq_some_iff.1 TB.out).1 hb4.size)).trans ((hb4.block _ (Array.getElem?_eq_some_iff.1 TB.out).1).trans TB.out); have t5 := cellOf tb5 0; simp only [List.getElem?_toArray, List.getElem?_cons_zero] at t5; have TB5 := hid tb5; have UB5 : Hid ((w4.alloc (.cells #[.slice none 0 0] 27)).heap[w4.heap.size]? = some (.cells #[.slice none 0 0] 27 (0, 0))) := hid (heap_alloc_new w4 _); have H4 := hid hb4; clear hb4 tb5 y1 y2 y3 y4 y5 y6 y7 y8 y9 y10 y11 r3))
                        | (go_at_call 14; (refine (K14.out _).mono ?_; rintro e w6 ⟨rfl, hb6⟩; have B6 := hid (BT.out B5.out hb6); clear hb6 t5)))
                      go_meet
                      exact ⟨_, _, _, _, _, _, _, _, _, _, _, _, _, _, PX.out.below B6.out, (B6.out.block _ (Array.getElem?_eq_some_iff.1 QX.out).1).trans QX.out⟩
                  | true =>
                    have hm := hid hm0
                    clear hm0
                    by_cases hok0 : (placeR (fun q => cmpC 3 q.1 ck) (rowOf S fm)).2 = true ∨ (rowOf S fm).length < 24
                    · have hok := hid hok0
                      clear hok0
                      as_aux_lemma =>
                        obtain ⟨S', hS'⟩ : ∃ S', S' = S.set fm.toNat (putR (fun q => cmpC 3 q.1 ck) (ck, cv) (rowOf S fm)) := ⟨_, rfl⟩
                        have HRI : Hid (RiseS 3 S') := hid (by rw [hS']; exact PX.out.ri.set _ (rise_putR ck cv _ (rise_of PX.out.ri fm)))
                        have K12 : Hid (Calls Try.prog 12 #[.agg #[.slice sa sn sc], .int .i64 fm, .agg #[.int .i64 kk, .int .i64 ki, .string kx, .int .i64 kr, .slice ka kn kc], .agg #[.int .i64 vk, .int .i64 vi, .string vx, .int .i64 vr, .slice va vn vc]] wx (PutTold 3 wx S')) := hid (by rw [hS']; exact put_c_ok 3 wx sa sn sc S PX.out.ss.cr fm ⟨kk, ki, kx, kr, ka, kn, kc⟩ ⟨vk, vi, vx, vr, va, vn, vc⟩ ck cv (KK.out wx PX.out.bel).rdc (VV.out wx PX.out.bel).rdc hm.out hok.out)
                        have K13 : Hid (∀ W' : World, Below wx.heap.size wx W' → Calls Try.prog 13 #[.agg #[.slice ra rn rc], .int .i64 fm, .agg #[.int .i64 kk, .int .i64 ki, .string kx, .int .i64 kr, .slice ka kn kc], .agg #[.int .i64 vk, .int .i64 vi, .string vx, .int .i64 vr, .slice va vn vc]] W' (RpQ 3 W' (Av Bs Br Bw Bo W') S')) := hid (fun W' hb => by rw [hS']; exact refPut_q_ok 3 W' ra rn rc S (Av Bs Br Bw Bo W') (fun b h => h.1) (PX.out.below hb).rr fm ⟨kk, ki, kx, kr, ka, kn, kc⟩ ⟨vk, vi, vx, vr, va, vn, vc⟩ ck cv (KK.out W' (PX.out.below hb).bel) (VV.out W' (PX.out.below hb).bel) (by rw [← lens.out]; exact hm.out) hok.out)
                        clear hS'
                        go_upto_region 21 with (first
                          | (go_at_call 12; (refine (K12.out).mono ?_; rintro e w2 ⟨ta, tn, tc, rfl, hb2, htc, hst⟩; have ST := hid hst; have HTC := hid htc; clear hst htc; have B2 := hid hb2; have B3 : Hid (Below wx.heap.size wx (w2.alloc (.cells #[.slice ta tn tc] 27))) := hid (hb2.alloc hb2.size _); have P3 := hid (PX.out.below B3.out); have r3 := cellOf P3.out.br 0; simp only [List.getElem?_toArray, List.getElem?_cons_zero] at r3; obtain ⟨y1, y2, y3, y4, y5, y6, y7, y8, y9, y10, y11⟩ := XC.out (w2.alloc (.cells #[.slice ta tn tc] 27)) ((B3.out.block _ (Array.getElem?_eq_some_iff.1 QX.out).1).trans QX.out); have tb : (w2.alloc (.cells #[.slice ta tn tc] 27)).heap[w2.heap.size]? = some (.cells #[.slice ta tn tc] 27 (0, 0)) := heap_alloc_new w2 _; have TB := hid tb; clear tb hb2 x1 x2 x3 x4 x5 x6 x7 x8 x9 x10 x11 sB rB))
                          | (go_at_call 13; (refine (K13.out _ B3.out).mono ?_; rintro e w4 ⟨ua, un, uc, rfl, hb4, huc, hsu⟩; have SU := hid hsu; have HUC := hid huc; clear hsu huc; have B4 := hid (BT.out B3.out hb4); have B5 : Hid (Below wx.heap.size wx (w4.alloc (.cells #[.slice ua un uc] 27))) := hid (B4.out.alloc B4.out.size _); have tb5 : (w4.alloc (.cells #[.slice ua un uc] 27)).heap[w2.heap.size]? = some (.cells #[.slice ta tn tc] 27 (0, 0)) := (Below.heap_alloc _ _ _ (Nat.lt_of_lt_of_le (Array.getElem?_eq_some_iff.1 TB.out).1 hb4.size)).trans ((hb4.block _ (Array.getElem?_eq_some_iff.1 TB.out).1).trans TB.out); have t5 := cellOf tb5 0; simp only [List.getElem?_toArray, List.getElem?_cons_zero] at t5; have TB5 := hid tb5; have UB5 : Hid ((w4.alloc (.cells #[.slice ua un uc] 27)).heap[w4.heap.size]? = some (.cells #[.slice ua un uc] 27 (0, 0))) := hid (heap_alloc_new w4 _); have H4 := hid hb4; clear hb4 tb5 y1 y2 y3 y4 y5 y6 y7 y8 y9 y10 y11 r3; have K14 : Hid (Calls Try.prog 14 #[.agg #[.slice ta tn tc], .agg #[.slice ua un uc]] (w4.alloc (.cells #[.slice ua un uc] 27)) fun e w' => e = .returned (.bool true) ∧ Below (w4.alloc (.cells #[.slice ua un uc] 27)).heap.size (w4.alloc (.cells #[.slice ua un uc] 27)) w') := hid (refStSame_c 3 _ ta tn tc ua un uc S' (((ST.out.cr.below (Nat.le_refl _) ((Below.refl _ w2).alloc (Nat.le_refl _) _)).below (Nat.le_refl _) H4.out).below (Nat.le_refl _) ((Below.refl _ w4).alloc (Nat.le_refl _) _)) (SU.out.cr.below (Nat.le_refl _) ((Below.refl _ w4).alloc (Nat.le_refl _) _)))))
                          | (go_at_call 14; (refine (K14.out).mono ?_; rintro e w6 ⟨rfl, hb6⟩; have B6 := hid (BT.out B5.out hb6); have t6 := cellOf ((hb6.block _ (Array.getElem?_eq_some_iff.1 TB5.out).1).trans TB5.out) 0; have u6 := cellOf ((hb6.block _ (Array.getElem?_eq_some_iff.1 UB5.out).1).trans UB5.out) 0; simp only [List.getElem?_toArray, List.getElem?_cons_zero] at t6 u6; have H6 := hid hb6; clear hb6 t5)))
                        have P6 := hid (PX.out.below B6.out)
                        have s6 : w6.drew.cell? ⟨Bs, 0, none⟩ = some (.slice sa sn sc) := cellOf P6.out.bs 0
                        have sf6 : w6.drew.frozen? ⟨Bs, 0, none⟩ = false := freeOf P6.out.bs 0
                        have r6 : ∀ v, (w6.setCell ⟨Bs, 0, none⟩ v).drew.cell? ⟨Br, 0, none⟩ = some (.slice ra rn rc) := fun v => cellOf ((set_off (v := v) (Ne.symm P6.out.ne.1)).trans P6.out.br) 0
                        have rf6 : ∀ v, (w6.setCell ⟨Bs, 0, none⟩ v).drew.frozen? ⟨Br, 0, none⟩ = false := fun v => freeOf ((set_off (v := v) (Ne.symm P6.out.ne.1)).trans P6.out.br) 0
                        have l2 : Hid (wx.heap.size ≤ w2.heap.size) := hid B2.out.size
                        have l4 : Hid (w2.heap.size + 1 ≤ w4.heap.size) := hid (by have := H4.out.size; simpa using this)
                        have l6 : Hid (w4.heap.size + 1 ≤ w6.heap.size) := hid (by have := H6.out.size; simpa using this)
                        have bb : Hid (Bs < wx.heap.size ∧ Br < wx.heap.size ∧ Bw < wx.heap.size ∧ Bo < wx.heap.size) := hid ⟨(Array.getElem?_eq_some_iff.1 PX.out.bs).1, (Array.getElem?_eq_some_iff.1 PX.out.br).1, (Array.getElem?_eq_some_iff.1 PX.out.bw).1, (Array.getElem?_eq_some_iff.1 PX.out.bo).1⟩
                        have SE : Hid (∀ v, (w6.setCell ⟨Bs, 0, none⟩ v).drew.cell? ⟨w2.heap.size, 0, none⟩ = some (.slice ta tn tc) ∧ (w6.setCell ⟨Bs, 0, none⟩ v).drew.cell? ⟨w4.heap.size, 0, none⟩ = some (.slice ua un uc)) := hid (fun v => ⟨(World.cell?_of_block (w := w6) (a := ⟨w2.heap.size, 0, none⟩) (set_off (by show w2.heap.size ≠ Bs; have := l2.out; have := bb.out; omega))).trans t6, (World.cell?_of_block (w := w6) (a := ⟨w4.heap.size, 0, none⟩) (set_off (by show w4.heap.size ≠ Bs; have := l2.out; have := l4.out; have := bb.out; omega))).trans u6⟩)
                        have SE2 : Hid (∀ v u, ((w6.setCell ⟨Bs, 0, none⟩ v).setCell ⟨Br, 0, none⟩ u).drew.cell? ⟨w2.heap.size, 0, none⟩ = some (.slice ta tn tc) ∧ ((w6.setCell ⟨Bs, 0, none⟩ v).setCell ⟨Br, 0, none⟩ u).drew.cell? ⟨w4.heap.size, 0, none⟩ = some (.slice ua un uc)) := hid (fun v u => ⟨(World.cell?_of_block (w := (w6.setCell ⟨Bs, 0, none⟩ v)) (a := ⟨w2.heap.size, 0, none⟩) (set_off (by show w2.heap.size ≠ Br; have := l2.out; have := bb.out; omega))).trans (SE.out v).1, (World.cell?_of_block (w := (w6.setCell ⟨Bs, 0, none⟩ v)) (a := ⟨w4.heap.size, 0, none⟩) (set_off (by show w4.heap.size ≠ Br; have := l2.out; have := l4.out; have := bb.out; omega))).trans (SE.out v).2⟩)
                        go_region_held3 (fun W' => W'.cell? ⟨w2.heap.size, 0, none⟩ = some (.slice ta tn tc) ∧ W'.cell? ⟨w4.heap.size, 0, none⟩ = some (.slice ua un uc)) (first | exact ⟨t6, u6⟩ | with_reducible exact SE.out _ | with_reducible exact SE2.out _ _ | go_keep) (fail)
                        go_wp2_with fail
                        go_meet
                        have stT : StCP 3 w6 (fun b => (wx.heap.size ≤ b ∧ b < w2.heap.size)) ta tn S' := st_keep ST.out (fun b hb => by
                          have h1 := (Below.heap_alloc w2 (.cells #[.slice ta tn tc] 27) b hb.2)
                          have h2 := H4.out.block b (by simp; omega)
                          have h3 := (Below.heap_alloc w4 (.cells #[.slice ua un uc] 27) b (by have := l4.out; omega))
                          have h4 := H6.out.block b (by have := l4.out; simp; omega)
                          exact h4.trans (h3.trans (h2.trans h1))) (fun b hb => hb)
                        have stU : StCP 3 w6 (fun b => Av Bs Br Bw Bo (w2.alloc (.cells #[.slice ta tn tc] 27)) b ∨ ((w2.alloc (.cells #[.slice ta tn tc] 27)).heap.size ≤ b ∧ b < w4.heap.size)) ua un S' := st_keep SU.out (fun b hb => by
                          have hl : b < w4.heap.size := by
                            rcases hb with hb | hb
                            · have h1 : b < w2.heap.size + 1 := by have := hb.1; simpa using this
                              have := l4.out
                              omega
                            · exact hb.2
                          have h3 := (Below.heap_alloc w4 (.cells #[.slice ua un uc] 27) b hl)
                          have h4 := H6.out.block b (by simp; omega)
                          exact h4.trans h3) (fun b hb => hb)
                        have l6' := l6.out
                        have l4' := l4.out
                        have l2' := l2.out
                        have bb' := bb.out
                        refine ⟨ta, tn, tc, ua, un, uc, _, _, _, _, _, _, S', _, PL.below ((P6.out.setS stT (fun b hb => ⟨by show b < w6.heap.size; omega, by omega, by omega, by omega, by omega⟩) HTC.out).setR (st_keep stU (fun b hb => ?_) (fun b hb => hb)) (fun b hb => ?_) HUC.out HRI.out) (Below.refl _ _).drew, ?_⟩
                        · refine set_off ?_
                          rcases hb with hb | hb
                          · exact hb.2.1
                          · have := hb.1; simp at this; omega
                        · refine av_set ?_
                          rcases hb with hb | hb
                          · have h1 := hb.1
                            simp at h1
                            exact ⟨by show b < w6.heap.size; omega, hb.2⟩
                          · have h1 := hb.1
                            have h2 := hb.2
                            simp at h1
                            exact ⟨by show b < w6.heap.size; omega, by omega, by omega, by omega, by omega⟩
                        · exact (set_off (Ne.symm XL.out.2.1)).trans ((set_off (Ne.symm XL.out.1)).trans ((B6.out.block _ (Array.getElem?_eq_some_iff.1 QX.out).1).trans QX.out))
                    · have hnt0 : (placeR (fun q => cmpC 3 q.1 ck) (rowOf S fm)).2 = false := by
                        cases h : (placeR (fun q => cmpC 3 q.1 ck) (rowOf S fm)).2 with
                        | true => exact absurd (.inl h) hok0
                        | false => rfl
                      have hfl0 : 24 ≤ (rowOf S fm).length := by
                        rcases Nat.lt_or_ge (rowOf S fm).length 24 with h | h
                        · exact absurd (.inr h) hok0
                        · exact h
                      have hnt := hid hnt0
                      have hfl := hid hfl0
                      clear hnt0 hfl0 hok0
                      as_aux_lemma =>
                        have K12 : Hid (Calls Try.prog 12 #[.agg #[.slice sa sn sc], .int .i64 fm, .agg #[.int .i64 kk, .int .i64 ki, .string kx, .int .i64 kr, .slice ka kn kc], .agg #[.int .i64 vk, .int .i64 vi, .string vx, .int .i64 vr, .slice va vn vc]] wx fun e w' => e = .returned (.tuple #[.agg #[.slice none 0 0], .int .i64 41]) ∧ Below wx.heap.size wx w') := hid (put_c_full 3 wx sa sn sc S PX.out.ss.cr fm ⟨kk, ki, kx, kr, ka, kn, kc⟩ ⟨vk, vi, vx, vr, va, vn, vc⟩ ck cv (KK.out wx PX.out.bel).rdc (VV.out wx PX.out.bel).rdc hm.out hnt.out hfl.out)
                        have K13 : Hid (∀ W' : World, Below wx.heap.size wx W' → Calls Try.prog 13 #[.agg #[.slice ra rn rc], .int .i64 fm, .agg #[.int .i64 kk, .int .i64 ki, .string kx, .int .i64 kr, .slice ka kn kc], .agg #[.int .i64 vk, .int .i64 vi, .string vx, .int .i64 vr, .slice va vn vc]] W' fun e w' => e = .returned (.tuple #[.agg #[.slice none 0 0], .int .i64 41]) ∧ Below W'.heap.size W' w') := hid (fun W' hb => refPut_c_full 3 W' ra rn rc S (PX.out.below hb).rr.cr fm ⟨kk, ki, kx, kr, ka, kn, kc⟩ ⟨vk, vi, vx, vr, va, vn, vc⟩ ck cv (KK.out W' (PX.out.below hb).bel).rdc (VV.out W' (PX.out.below hb).bel).rdc (hyes.out hm.out) hnt.out hfl.out)
                        have K14 : Hid (∀ W' : World, Calls Try.prog 14 #[.agg #[.slice none 0 0], .agg #[.slice none 0 0]] W' fun e w' => e = .returned (.bool true) ∧ Below W'.heap.size W' w') := hid (fun W' => refStSame_c 3 W' none 0 0 none 0 0 [] (st_none W') (st_none W'))
                        go_wp2_with (first
                          | (go_at_call 12; (refine (K12.out).mono ?_; rintro e w2 ⟨rfl, hb2⟩; have B2 := hid hb2; have B3 : Hid (Below wx.heap.size wx (w2.alloc (.cells #[.slice none 0 0] 27))) := hid (hb2.alloc hb2.size _); have P3 := hid (PX.out.below B3.out); have r3 := cellOf P3.out.br 0; simp only [List.getElem?_toArray, List.getElem?_cons_zero] at r3; obtain ⟨y1, y2, y3, y4, y5, y6, y7, y8, y9, y10, y11⟩ := XC.out (w2.alloc (.cells #[.slice none 0 0] 27)) ((B3.out.block _ (Array.getElem?_eq_some_iff.1 QX.out).1).trans QX.out); have tb : (w2.alloc (.cells #[.slice none 0 0] 27)).heap[w2.heap.size]? = some (.cells #[.slice none 0 0] 27 (0, 0)) := heap_alloc_new w2 _; have TB := hid tb; clear tb hb2 x1 x2 x3 x4 x5 x6 x7 x8 x9 x10 x11 sB rB))
                          | (go_at_call 13; (refine (K13.out _ B3.out).mono ?_; rintro e w4 ⟨rfl, hb4⟩; have B4 := hid (BT.out B3.out hb4); have B5 : Hid (Below wx.heap.size wx (w4.alloc (.cells #[.slice none 0 0] 27))) := hid (B4.out.alloc B4.out.size _); have tb5 : (w4.alloc (.cells #[.slice none 0 0] 27)).heap[w2.heap.size]? = some (.cells #[.slice none 0 0] 27 (0, 0)) := (Below.heap_alloc _ _ _ (Nat.lt_of_lt_of_le (Array.getElem?_eq_some_iff.1 TB.out).1 hb4.size)).trans ((hb4.block _ (Array.getElem?_eq_some_iff.1 TB.out).1).trans TB.out); have t5 := cellOf tb5 0; simp only [List.getElem?_toArray, List.getElem?_cons_zero] at t5; have TB5 := hid tb5; have UB5 : Hid ((w4.alloc (.cells #[.slice none 0 0] 27)).heap[w4.heap.size]? = some (.cells #[.slice none 0 0] 27 (0, 0))) := hid (heap_alloc_new w4 _); have H4 := hid hb4; clear hb4 tb5 y1 y2 y3 y4 y5 y6 y7 y8 y9 y10 y11 r3))
                          | (go_at_call 14; (refine (K14.out _).mono ?_; rintro e w6 ⟨rfl, hb6⟩; have B6 := hid (BT.out B5.out hb6); clear hb6 t5)))
                        go_meet
                        exact ⟨_, _, _, _, _, _, _, _, _, _, _, _, _, _, PX.out.below B6.out, (B6.out.block _ (Array.getElem?_eq_some_iff.1 QX.out).1).trans QX.out⟩
                | false =>
                  cases h4 : (fw == 4) with
                  | true =>
                    as_aux_lemma =>
                      obtain ⟨S', hS'⟩ : ∃ S', S' = (if 0 ≤ fm then S.set fm.toNat ((rowOf S fm).filter fun q => !(cmpC 3 q.1 ck == 0)) else S) := ⟨_, rfl⟩
                      have HRI : Hid (RiseS 3 S') := hid (by
                        rw [hS']
                        split
                        · exact PX.out.ri.set _ (rise_filter _ (rise_of PX.out.ri fm))
                        · exact PX.out.ri)
                      have sB := cellOf PX.out.bs 0
                      have rB := cellOf PX.out.br 0
                      simp only [List.getElem?_toArray, List.getElem?_cons_zero] at sB rB
                      have sBd : wx.drew.cell? ⟨Bs, 0, none⟩ = some (.slice sa sn sc) := sB
                      have rBd : wx.drew.cell? ⟨Br, 0, none⟩ = some (.slice ra rn rc) := rB
                      have B0 := hid ((Below.refl wx.heap.size wx).drew)
                      have PD := hid (PX.out.below B0.out)
                      have K15 : Hid (Calls Try.prog 15 #[.agg #[.slice sa sn sc], .int .i64 fm, .agg #[.int .i64 kk, .int .i64 ki, .string kx, .int .i64 kr, .slice ka kn kc]] wx.drew (StTold 3 wx.drew S')) := hid (by rw [hS']; exact del_c 3 wx.drew sa sn sc S PD.out.ss.cr fm ⟨kk, ki, kx, kr, ka, kn, kc⟩ ck (KK.out _ PD.out.bel).rdc)
                      have K16 : Hid (∀ W' : World, Below wx.heap.size wx W' → Calls Try.prog 16 #[.agg #[.slice ra rn rc], .int .i64 fm, .agg #[.int .i64 kk, .int .i64 ki, .string kx, .int .i64 kr, .slice ka kn kc]] W' (RsQ 3 W' (Av Bs Br Bw Bo W') S')) := hid (fun W' hb => by rw [hS']; exact refDel_q 3 W' ra rn rc S (Av Bs Br Bw Bo W') (fun b h => h.1) (PX.out.below hb).rr PX.out.nr PX.out.ri fm ⟨kk, ki, kx, kr, ka, kn, kc⟩ ck (KK.out W' (PX.out.below hb).bel))
                      have XD : Hid (∀ W' : World, W'.heap[wr.heap.size]? = some (.cells #[.int .i64 fw, .int .i64 fm, .int .i64 kk, .int .i64 ki, .string kx, .int .i64 kr, .slice ka kn kc, .int .i64 vk, .int .i64 vi, .string vx, .int .i64 vr, .slice va vn vc] 33 (0, 0)) → (W'.cell? ⟨wr.heap.size, 1, none⟩ = some (.int .i64 fm) ∧ W'.cell? ⟨wr.heap.size, 2, none⟩ = some (.int .i64 kk) ∧ W'.cell? ⟨wr.heap.size, 3, none⟩ = some (.int .i64 ki) ∧ W'.cell? ⟨wr.heap.size, 4, none⟩ = some (.string kx) ∧ W'.cell? ⟨wr.heap.size, 5, none⟩ = some (.int .i64 kr) ∧ W'.cell? ⟨wr.heap.size, 6, none⟩ = some (.slice ka kn kc))) := hid (fun W' h => ⟨cellOf h 1, cellOf h 2, cellOf h 3, cellOf h 4, cellOf h 5, cellOf h 6⟩)
                      have XW0 : Hid (wx.drew.cell? ⟨wr.heap.size, 1, none⟩ = some (.int .i64 fm) ∧ wx.drew.cell? ⟨wr.heap.size, 2, none⟩ = some (.int .i64 kk) ∧ wx.drew.cell? ⟨wr.heap.size, 3, none⟩ = some (.int .i64 ki) ∧ wx.drew.cell? ⟨wr.heap.size, 4, none⟩ = some (.string kx) ∧ wx.drew.cell? ⟨wr.heap.size, 5, none⟩ = some (.int .i64 kr) ∧ wx.drew.cell? ⟨wr.heap.size, 6, none⟩ = some (.slice ka kn kc)) := hid (XD.out wx.drew QX.out)
                      clear hS'
                      go_upto_region 23 with fail
                      refine wp_region_held_drew (S := fun W' => W'.cell? ⟨wr.heap.size, 1, none⟩ = some (.int .i64 fm) ∧ W'.cell? ⟨wr.heap.size, 2, none⟩ = some (.int .i64 kk) ∧ W'.cell? ⟨wr.heap.size, 3, none⟩ = some (.int .i64 ki) ∧ W'.cell? ⟨wr.heap.size, 4, none⟩ = some (.string kx) ∧ W'.cell? ⟨wr.heap.size, 5, none⟩ = some (.int .i64 kr) ∧ W'.cell? ⟨wr.heap.size, 6, none⟩ = some (.slice ka kn kc)) (by kernel_rfl) XW0.out (fun hHeld => ?_)
                      refine wpAnyH_take (i := 1) (oi := { dst := some 104, op := Op.fieldAddr 33 (Operand.tmp 10) 1, type := 0, pos := "exact.go:62", after := #[], guard := none }) (v := .pointer (some ⟨wr.heap.size, 1, none⟩)) rfl (by kernel_rfl) (by kernel_rfl) (by kernel_rfl) (fun _ _ _ h => h) (Or.inl ⟨by rfl, ?_⟩) (by assumption) ?_
                      · intro w hSw; (try dsimp only at hSw); go_simp
                      try simp only [Act.put, List.setIfInBounds_toArray, List.set_cons_zero, List.set_cons_succ]
                      refine wpAnyH_take (i := 2) (oi := { dst := some 105, op := Op.load 3 (Operand.tmp 104), type := 3, pos := "exact.go:62", after := #[{ on := 1, ground := Ground.data }], guard := none }) (v := .int .i64 fm) rfl (by kernel_rfl) (by kernel_rfl) (by kernel_rfl) (fun _ _ _ h => h) (Or.inl ⟨by rfl, ?_⟩) (by assumption) ?_
                      · intro w hSw; (try dsimp only at hSw); go_simp
                      try simp only [Act.put, List.setIfInBounds_toArray, List.set_cons_zero, List.set_cons_succ]
                      refine wpAnyH_take (i := 3) (oi := { dst := some 106, op := Op.fieldAddr 33 (Operand.tmp 10) 2, type := 0, pos := "exact.go:62", after := #[], guard := none }) (v := .pointer (some ⟨wr.heap.size, 2, none⟩)) rfl (by kernel_rfl) (by kernel_rfl) (by kernel_rfl) (fun _ _ _ h => h) (Or.inl ⟨by rfl, ?_⟩) (by assumption) ?_
                      · intro w hSw; (try dsimp only at hSw); go_simp
                      try simp only [Act.put, List.setIfInBounds_toArray, List.set_cons_zero, List.set_cons_succ]
                      refine wpAnyH_take (i := 4) (oi := { dst := some 107, op := Op.load 31 (Operand.tmp 106), type := 31, pos := "exact.go:62", after := #[{ on := 3, ground := Ground.data }], guard := none }) (v := .agg #[.int .i64 kk, .int .i64 ki, .string kx, .int .i64 kr, .slice ka kn kc]) rfl (by kernel_rfl) (by kernel_rfl) (by kernel_rfl) (fun _ _ _ h => h) (Or.inl ⟨by rfl, ?_⟩) (by assumption) ?_
                      · intro w hSw; (try dsimp only at hSw); go_simp
                      try simp only [Act.put, List.setIfInBounds_toArray, List.set_cons_zero, List.set_cons_succ]
                      refine wpAnyH_take (i := 7) (oi := { dst := some 110, op := Op.fieldAddr 33 (Operand.tmp 10) 1, type := 0, pos := "exact.go:62", after := #[], guard := none }) (v := .pointer (some ⟨wr.heap.size, 1, none⟩)) rfl (by kernel_rfl) (by kernel_rfl) (by kernel_rfl) (fun _ _ _ h => h) (Or.inl ⟨by rfl, ?_⟩) (by assumption) ?_
                      · intro w hSw; (try dsimp only at hSw); go_simp
                      try simp only [Act.put, List.setIfInBounds_toArray, List.set_cons_zero, List.set_cons_succ]
                      refine wpAnyH_take (i := 8) (oi := { dst := some 111, op := Op.load 3 (Operand.tmp 110), type := 3, pos := "exact.go:62", after := #[{ on := 7, ground := Ground.data }], guard := none }) (v := .int .i64 fm) rfl (by kernel_rfl) (by kernel_rfl) (by kernel_rfl) (fun _ _ _ h => h) (Or.inl ⟨by rfl, ?_⟩) (by assumption) ?_
                      · intro w hSw; (try dsimp only at hSw); go_simp
                      try simp only [Act.put, List.setIfInBounds_toArray, List.set_cons_zero, List.set_cons_succ]
                      refine wpAnyH_take (i := 9) (oi := { dst := some 112, op := Op.fieldAddr 33 (Operand.tmp 10) 2, type := 0, pos := "exact.go:62", after := #[], guard := none }) (v := .pointer (some ⟨wr.heap.size, 2, none⟩)) rfl (by kernel_rfl) (by kernel_rfl) (by kernel_rfl) (fun _ _ _ h => h) (Or.inl ⟨by rfl, ?_⟩) (by assumption) ?_
                      · intro w hSw; (try dsimp only at hSw); go_simp
                      try simp only [Act.put, List.setIfInBounds_toArray, List.set_cons_zero, List.set_cons_succ]
                      refine wpAnyH_take (i := 10) (oi := { dst := some 113, op := Op.load 31 (Operand.tmp 112), type := 31, pos := "exact.go:62", after := #[{ on := 9, ground := Ground.data }], guard := none }) (v := .agg #[.int .i64 kk, .int .i64 ki, .string kx, .int .i64 kr, .slice ka kn kc]) rfl (by kernel_rfl) (by kernel_rfl) (by kernel_rfl) (fun _ _ _ h => h) (Or.inl ⟨by rfl, ?_⟩) (by assumption) ?_
                      · intro w hSw; (try dsimp only at hSw); go_simp
                      try simp only [Act.put, List.setIfInBounds_toArray, List.set_cons_zero, List.set_cons_succ]
                      refine wpAnyH_ready (rs := [0, 6]) (by kernel_rfl) (by simp) ?_
                      refine AllReadyH.cons (o := { dst := some 103, op := Op.load 27 (Operand.tmp 5), type := 27, pos := "exact.go:62", after := #[], guard := none }) rfl (fun K hK => ?_) ?_
                      · go_simp
                        refine hK.out _ _ (XW0.out) (fun hHeldN => ?_)
                        clear hK K hHeld
                        have hHeld := hHeldN
                        clear hHeldN
                        try simp only [Act.put, List.setIfInBounds_toArray, List.set_cons_zero, List.set_cons_succ]
                        refine wpAnyH_ready (rs := [5, 6]) (by kernel_rfl) (by simp) ?_
                        refine AllReadyH.cons (o := { dst := some 108, op := Op.call { callee := Callee.value (Operand.func 15), args := #[Operand.tmp 103, Operand.tmp 105, Operand.tmp 107], argTypes := #[27, 3, 31] }, type := 27, pos := "exact.go:62", after := #[{ on := 0, ground := Ground.data }, { on := 2, ground := Ground.data }, { on := 4, ground := Ground.data }], guard := none }) rfl (fun K hK => ?_) ?_
                        · as_aux_lemma =>
                            go_simp
                            refine (K15.out).mono ?_
                            rintro e w2 ⟨ta, tn, tc, rfl, hb2, htc, hst⟩
                            go_wp2_with fail
                            have B2 := hid (BT.out B0.out hb2)
                            have P2 := hid (PX.out.below B2.out)
                            have ST := hid hst
                            have HTC := hid htc
                            have HB2 := hid hb2
                            have r2 := cellOf P2.out.br 0
                            simp only [List.getElem?_toArray, List.getElem?_cons_zero] at r2
                            clear hb2 hst htc
                            have XW2 := hid (XD.out w2 ((B2.out.block _ (Array.getElem?_eq_some_iff.1 QX.out).1).trans QX.out))
                            refine hK.out _ _ (XW2.out) (fun hHeldN => ?_)
                            clear hK K hHeld
                            have hHeld := hHeldN
                            clear hHeldN
                            try simp only [Act.put, List.setIfInBounds_toArray, List.set_cons_zero, List.set_cons_succ]
                            refine wpAnyH_ready (rs := [6]) (by kernel_rfl) (by simp) ?_
                            refine AllReadyH.cons (o := { dst := some 109, op := Op.load 27 (Operand.tmp 6), type := 27, pos := "exact.go:62", after := #[], guard := none }) rfl (fun K hK => ?_) AllReadyH.nil
                            go_simp
                            refine hK.out _ _ (XW2.out) (fun hHeldN => ?_)
                            clear hK K hHeld
                            have hHeld := hHeldN
                            clear hHeldN
                            try simp only [Act.put, List.setIfInBounds_toArray, List.set_cons_zero, List.set_cons_succ]
                            refine wpAnyH_ready (rs := [11]) (by kernel_rfl) (by simp) ?_
                            refine AllReadyH.cons (o := { dst := some 114, op := Op.call { callee := Callee.value (Operand.func 16), args := #[Operand.tmp 109, Operand.tmp 111, Operand.tmp 113], argTypes := #[27, 3, 31] }, type := 27, pos := "exact.go:62", after := #[{ on := 6, ground := Ground.data }, { on := 8, ground := Ground.data }, { on := 10, ground := Ground.data }, { on := 5, ground := Ground.chain }], guard := none }) rfl (fun K hK => ?_) AllReadyH.nil
                            go_simp
                            refine (K16.out w2 B2.out).mono ?_
                            rintro e w4 ⟨ua, un, uc, rfl, hb4, huc, hsu⟩
                            go_wp2_with fail
                            have B4 := hid (BT.out B2.out hb4)
                            have P4 := hid (PX.out.below B4.out)
                            have SU := hid hsu
                            have HUC := hid huc
                            have HB4 := hid hb4
                            have s4 := cellOf P4.out.bs 0
                            have sf4 := freeOf P4.out.bs 0
                            have r4 := fun v => cellOf ((set_off (v := v) (Ne.symm P4.out.ne.1)).trans P4.out.br) 0
                            have rf4 := fun v => freeOf ((set_off (v := v) (Ne.symm P4.out.ne.1)).trans P4.out.br) 0
                            simp only [List.getElem?_toArray, List.getElem?_cons_zero] at s4 r4
                            clear hb4 hsu huc r2
                            have x4 := hid ((B4.out.block _ (Array.getElem?_eq_some_iff.1 QX.out).1).trans QX.out)
                            refine hK.out _ _ (XD.out w4 x4.out) (fun hHeldN => ?_)
                            clear hK K hHeld
                            have hHeld := hHeldN
                            clear hHeldN
                            try simp only [Act.put, List.setIfInBounds_toArray, List.set_cons_zero, List.set_cons_succ]
                            refine wpAnyH_ready (rs := [12]) (by kernel_rfl) (by simp) ?_
                            refine AllReadyH.cons (o := { dst := none, op := Op.store 27 (Operand.tmp 5) (Operand.tmp 108), type := 0, pos := "exact.go:62", after := #[{ on := 5, ground := Ground.data }, { on := 11, ground := Ground.chain }, { on := 0, ground := Ground.phase }, { on := 1, ground := Ground.phase }, { on := 2, ground := Ground.phase }, { on := 3, ground := Ground.phase }, { on := 4, ground := Ground.phase }, { on := 5, ground := Ground.phase }, { on := 6, ground := Ground.textOnly Departure.lateStores }, { on := 7, ground := Ground.textOnly Departure.lateStores }, { on := 8, ground := Ground.textOnly Departure.lateStores }, { on := 9, ground := Ground.textOnly Departure.lateStores }, { on := 10, ground := Ground.textOnly Departure.lateStores }, { on := 11, ground := Ground.textOnly Departure.lateStoresUnsure }], guard := none }) rfl (fun K hK => ?_) AllReadyH.nil
                            go_simp
                            refine hK.out _ _ (XD.out _ ((set_off (Ne.symm XL.out.1)).trans x4.out)) (fun hHeldN => ?_)
                            clear hK K hHeld
                            have hHeld := hHeldN
                            clear hHeldN
                            try simp only [Act.put, List.setIfInBounds_toArray, List.set_cons_zero, List.set_cons_succ]
                            refine wpAnyH_ready (rs := [13]) (by kernel_rfl) (by simp) ?_
                            refine AllReadyH.cons (o := { dst := none, op := Op.store 27 (Operand.tmp 6) (Operand.tmp 114), type := 0, pos := "exact.go:62", after := #[{ on := 11, ground := Ground.data }, { on := 12, ground := Ground.chain }, { on := 0, ground := Ground.phase }, { on := 1, ground := Ground.phase }, { on := 2, ground := Ground.phase }, { on := 3, ground := Ground.phase }, { on := 4, ground := Ground.phase }, { on := 5, ground := Ground.phase }, { on := 6, ground := Ground.phase }, { on := 7, ground := Ground.phase }, { on := 8, ground := Ground.phase }, { on := 9, ground := Ground.phase }, { on := 10, ground := Ground.phase }, { on := 11, ground := Ground.phase }, { on := 12, ground := Ground.phase }], guard := none }) rfl (fun K hK => ?_) AllReadyH.nil
                            go_simp
                            refine hK.out _ _ (XD.out _ ((set_off (Ne.symm XL.out.2.1)).trans ((set_off (Ne.symm XL.out.1)).trans x4.out))) (fun hHeldN => ?_)
                            clear hK K hHeld
                            have hHeld := hHeldN
                            clear hHeldN
                            try simp only [Act.put, List.setIfInBounds_toArray, List.set_cons_zero, List.set_cons_succ]
                            refine wpAnyH_done (by kernel_rfl) ?_ _
                            go_wp2_with fail
                            go_meet
                            have l2 := HB2.out.size
                            have l4 := HB4.out.size
                            have bb1 := (Array.getElem?_eq_some_iff.1 PX.out.bs).1
                            have bb2 := (Array.getElem?_eq_some_iff.1 PX.out.br).1
                            have bb3 := (Array.getElem?_eq_some_iff.1 PX.out.bw).1
                            have bb4 := (Array.getElem?_eq_some_iff.1 PX.out.bo).1
                            have l2' : wx.heap.size ≤ w2.heap.size := l2
                            have stT : StCP 3 w4 (fun b => wx.heap.size ≤ b ∧ b < w2.heap.size) ta tn S' := st_keep ST.out (fun b hb => HB4.out.block b hb.2) (fun b hb => hb)
                            exact ⟨ta, tn, tc, ua, un, uc, _, _, _, _, _, _, S', _, ((P4.out.setS stT (fun b hb => ⟨by omega, by omega, by omega, by omega, by omega⟩) HTC.out).setR (st_keep SU.out (fun b hb => set_off (by
                              rcases hb with hb | hb
                              · exact hb.2.1
                              · omega)) (fun b hb => hb)) (fun b hb => av_set (by
                              rcases hb with hb | hb
                              · exact ⟨by have := hb.1; omega, hb.2⟩
                              · exact ⟨by omega, by omega, by omega, by omega, by omega⟩)) HUC.out HRI.out), (set_off (Ne.symm XL.out.2.1)).trans ((set_off (Ne.symm XL.out.1)).trans x4.out)⟩
                        refine AllReadyH.cons (o := { dst := some 109, op := Op.load 27 (Operand.tmp 6), type := 27, pos := "exact.go:62", after := #[], guard := none }) rfl (fun K hK => ?_) AllReadyH.nil
                        as_aux_lemma =>
                          go_simp
                          refine hK.out _ _ (XW0.out) (fun hHeldN => ?_)
                          clear hK K hHeld
                          have hHeld := hHeldN
                          clear hHeldN
                          try simp only [Act.put, List.setIfInBounds_toArray, List.set_cons_zero, List.set_cons_succ]
                          refine wpAnyH_ready (rs := [5]) (by kernel_rfl) (by simp) ?_
                          refine AllReadyH.cons (o := { dst := some 108, op := Op.call { callee := Callee.value (Operand.func 15), args := #[Operand.tmp 103, Operand.tmp 105, Operand.tmp 107], argTypes := #[27, 3, 31] }, type := 27, pos := "exact.go:62", after := #[{ on := 0, ground := Ground.data }, { on := 2, ground := Ground.data }, { on := 4, ground := Ground.data }], guard := none }) rfl (fun K hK => ?_) AllReadyH.nil
                          go_simp
                          refine (K15.out).mono ?_
                          rintro e w2 ⟨ta, tn, tc, rfl, hb2, htc, hst⟩
                          go_wp2_with fail
                          have B2 := hid (BT.out B0.out hb2)
                          have P2 := hid (PX.out.below B2.out)
                          have ST := hid hst
                          have HTC := hid htc
                          have HB2 := hid hb2
                          have r2 := cellOf P2.out.br 0
                          simp only [List.getElem?_toArray, List.getElem?_cons_zero] at r2
                          clear hb2 hst htc
                          have XW2 := hid (XD.out w2 ((B2.out.block _ (Array.getElem?_eq_some_iff.1 QX.out).1).trans QX.out))
                          refine hK.out _ _ (XW2.out) (fun hHeldN => ?_)
                          clear hK K hHeld
                          have hHeld := hHeldN
                          clear hHeldN
                          try simp only [Act.put, List.setIfInBounds_toArray, List.set_cons_zero, List.set_cons_succ]
                          refine wpAnyH_ready (rs := [11]) (by kernel_rfl) (by simp) ?_
                          refine AllReadyH.cons (o := { dst := some 114, op := Op.call { callee := Callee.value (Operand.func 16), args := #[Operand.tmp 109, Operand.tmp 111, Operand.tmp 113], argTypes := #[27, 3, 31] }, type := 27, pos := "exact.go:62", after := #[{ on := 6, ground := Ground.data }, { on := 8, ground := Ground.data }, { on := 10, ground := Ground.data }, { on := 5, ground := Ground.chain }], guard := none }) rfl (fun K hK => ?_) AllReadyH.nil
                          go_simp
                          refine (K16.out w2 B2.out).mono ?_
                          rintro e w4 ⟨ua, un, uc, rfl, hb4, huc, hsu⟩
                          go_wp2_with fail
                          have B4 := hid (BT.out B2.out hb4)
                          have P4 := hid (PX.out.below B4.out)
                          have SU := hid hsu
                          have HUC := hid huc
                          have HB4 := hid hb4
                          have s4 := cellOf P4.out.bs 0
                          have sf4 := freeOf P4.out.bs 0
                          have r4 := fun v => cellOf ((set_off (v := v) (Ne.symm P4.out.ne.1)).trans P4.out.br) 0
                          have rf4 := fun v => freeOf ((set_off (v := v) (Ne.symm P4.out.ne.1)).trans P4.out.br) 0
                          simp only [List.getElem?_toArray, List.getElem?_cons_zero] at s4 r4
                          clear hb4 hsu huc r2
                          have x4 := hid ((B4.out.block _ (Array.getElem?_eq_some_iff.1 QX.out).1).trans QX.out)
                          refine hK.out _ _ (XD.out w4 x4.out) (fun hHeldN => ?_)
                          clear hK K hHeld
                          have hHeld := hHeldN
                          clear hHeldN
                          try simp only [Act.put, List.setIfInBounds_toArray, List.set_cons_zero, List.set_cons_succ]
                          refine wpAnyH_ready (rs := [12]) (by kernel_rfl) (by simp) ?_
                          refine AllReadyH.cons (o := { dst := none, op := Op.store 27 (Operand.tmp 5) (Operand.tmp 108), type := 0, pos := "exact.go:62", after := #[{ on := 5, ground := Ground.data }, { on := 11, ground := Ground.chain }, { on := 0, ground := Ground.phase }, { on := 1, ground := Ground.phase }, { on := 2, ground := Ground.phase }, { on := 3, ground := Ground.phase }, { on := 4, ground := Ground.phase }, { on := 5, ground := Ground.phase }, { on := 6, ground := Ground.textOnly Departure.lateStores }, { on := 7, ground := Ground.textOnly Departure.lateStores }, { on := 8, ground := Ground.textOnly Departure.lateStores }, { on := 9, ground := Ground.textOnly Departure.lateStores }, { on := 10, ground := Ground.textOnly Departure.lateStores }, { on := 11, ground := Ground.textOnly Departure.lateStoresUnsure }], guard := none }) rfl (fun K hK => ?_) AllReadyH.nil
                          go_simp
                          refine hK.out _ _ (XD.out _ ((set_off (Ne.symm XL.out.1)).trans x4.out)) (fun hHeldN => ?_)
                          clear hK K hHeld
                          have hHeld := hHeldN
                          clear hHeldN
                          try simp only [Act.put, List.setIfInBounds_toArray, List.set_cons_zero, List.set_cons_succ]
                          refine wpAnyH_ready (rs := [13]) (by kernel_rfl) (by simp) ?_
                          refine AllReadyH.cons (o := { dst := none, op := Op.store 27 (Operand.tmp 6) (Operand.tmp 114), type := 0, pos := "exact.go:62", after := #[{ on := 11, ground := Ground.data }, { on := 12, ground := Ground.chain }, { on := 0, ground := Ground.phase }, { on := 1, ground := Ground.phase }, { on := 2, ground := Ground.phase }, { on := 3, ground := Ground.phase }, { on := 4, ground := Ground.phase }, { on := 5, ground := Ground.phase }, { on := 6, ground := Ground.phase }, { on := 7, ground := Ground.phase }, { on := 8, ground := Ground.phase }, { on := 9, ground := Ground.phase }, { on := 10, ground := Ground.phase }, { on := 11, ground := Ground.phase }, { on := 12, ground := Ground.phase }], guard := none }) rfl (fun K hK => ?_) AllReadyH.nil
                          go_simp
                          refine hK.out _ _ (XD.out _ ((set_off (Ne.symm XL.out.2.1)).trans ((set_off (Ne.symm XL.out.1)).trans x4.out))) (fun hHeldN => ?_)
                          clear hK K hHeld
                          have hHeld := hHeldN
                          clear hHeldN
                          try simp only [Act.put, List.setIfInBounds_toArray, List.set_cons_zero, List.set_cons_succ]
                          refine wpAnyH_done (by kernel_rfl) ?_ _
                          go_wp2_with fail
                          go_meet
                          have l2 := HB2.out.size
                          have l4 := HB4.out.size
                          have bb1 := (Array.getElem?_eq_some_iff.1 PX.out.bs).1
                          have bb2 := (Array.getElem?_eq_some_iff.1 PX.out.br).1
                          have bb3 := (Array.getElem?_eq_some_iff.1 PX.out.bw).1
                          have bb4 := (Array.getElem?_eq_some_iff.1 PX.out.bo).1
                          have l2' : wx.heap.size ≤ w2.heap.size := l2
                          have stT : StCP 3 w4 (fun b => wx.heap.size ≤ b ∧ b < w2.heap.size) ta tn S' := st_keep ST.out (fun b hb => HB4.out.block b hb.2) (fun b hb => hb)
                          exact ⟨ta, tn, tc, ua, un, uc, _, _, _, _, _, _, S', _, ((P4.out.setS stT (fun b hb => ⟨by omega, by omega, by omega, by omega, by omega⟩) HTC.out).setR (st_keep SU.out (fun b hb => set_off (by
                            rcases hb with hb | hb
                            · exact hb.2.1
                            · omega)) (fun b hb => hb)) (fun b hb => av_set (by
                            rcases hb with hb | hb
                            · exact ⟨by have := hb.1; omega, hb.2⟩
                            · exact ⟨by omega, by omega, by omega, by omega, by omega⟩)) HUC.out HRI.out), (set_off (Ne.symm XL.out.2.1)).trans ((set_off (Ne.symm XL.out.1)).trans x4.out)⟩
                      refine AllReadyH.cons (o := { dst := some 109, op := Op.load 27 (Operand.tmp 6), type := 27, pos := "exact.go:62", after := #[], guard := none }) rfl (fun K hK => ?_) AllReadyH.nil
                      as_aux_lemma =>
                        go_simp
                        refine hK.out _ _ (XW0.out) (fun hHeldN => ?_)
                        clear hK K hHeld
                        have hHeld := hHeldN
                        clear hHeldN
                        try simp only [Act.put, List.setIfInBounds_toArray, List.set_cons_zero, List.set_cons_succ]
                        refine wpAnyH_ready (rs := [0]) (by kernel_rfl) (by simp) ?_
                        refine AllReadyH.cons (o := { dst := some 103, op := Op.load 27 (Operand.tmp 5), type := 27, pos := "exact.go:62", after := #[], guard := none }) rfl (fun K hK => ?_) AllReadyH.nil
                        go_simp
                        refine hK.out _ _ (XW0.out) (fun hHeldN => ?_)
                        clear hK K hHeld
                        have hHeld := hHeldN
                        clear hHeldN
                        try simp only [Act.put, List.setIfInBounds_toArray, List.set_cons_zero, List.set_cons_succ]
                        refine wpAnyH_ready (rs := [5]) (by kernel_rfl) (by simp) ?_
                        refine AllReadyH.cons (o := { dst := some 108, op := Op.call { callee := Callee.value (Operand.func 15), args := #[Operand.tmp 103, Operand.tmp 105, Operand.tmp 107], argTypes := #[27, 3, 31] }, type := 27, pos := "exact.go:62", after := #[{ on := 0, ground := Ground.data }, { on := 2, ground := Ground.data }, { on := 4, ground := Ground.data }], guard := none }) rfl (fun K hK => ?_) AllReadyH.nil
                        go_simp
                        refine (K15.out).mono ?_
                        rintro e w2 ⟨ta, tn, tc, rfl, hb2, htc, hst⟩
                        go_wp2_with fail
                        have B2 := hid (BT.out B0.out hb2)
                        have P2 := hid (PX.out.below B2.out)
                        have ST := hid hst
                        have HTC := hid htc
                        have HB2 := hid hb2
                        have r2 := cellOf P2.out.br 0
                        simp only [List.getElem?_toArray, List.getElem?_cons_zero] at r2
                        clear hb2 hst htc
                        have XW2 := hid (XD.out w2 ((B2.out.block _ (Array.getElem?_eq_some_iff.1 QX.out).1).trans QX.out))
                        refine hK.out _ _ (XW2.out) (fun hHeldN => ?_)
                        clear hK K hHeld
                        have hHeld := hHeldN
                        clear hHeldN
                        try simp only [Act.put, List.setIfInBounds_toArray, List.set_cons_zero, List.set_cons_succ]
                        refine wpAnyH_ready (rs := [11]) (by kernel_rfl) (by simp) ?_
                        refine AllReadyH.cons (o := { dst := some 114, op := Op.call { callee := Callee.value (Operand.func 16), args := #[Operand.tmp 109, Operand.tmp 111, Operand.tmp 113], argTypes := #[27, 3, 31] }, type := 27, pos := "exact.go:62", after := #[{ on := 6, ground := Ground.data }, { on := 8, ground := Ground.data }, { on := 10, ground := Ground.data }, { on := 5, ground := Ground.chain }], guard := none }) rfl (fun K hK => ?_) AllReadyH.nil
                        go_simp
                        refine (K16.out w2 B2.out).mono ?_
                        rintro e w4 ⟨ua, un, uc, rfl, hb4, huc, hsu⟩
                        go_wp2_with fail
                        have B4 := hid (BT.out B2.out hb4)
                        have P4 := hid (PX.out.below B4.out)
                        have SU := hid hsu
                        have HUC := hid huc
                        have HB4 := hid hb4
                        have s4 := cellOf P4.out.bs 0
                        have sf4 := freeOf P4.out.bs 0
                        have r4 := fun v => cellOf ((set_off (v := v) (Ne.symm P4.out.ne.1)).trans P4.out.br) 0
                        have rf4 := fun v => freeOf ((set_off (v := v) (Ne.symm P4.out.ne.1)).trans P4.out.br) 0
                        simp only [List.getElem?_toArray, List.getElem?_cons_zero] at s4 r4
                        clear hb4 hsu huc r2
                        have x4 := hid ((B4.out.block _ (Array.getElem?_eq_some_iff.1 QX.out).1).trans QX.out)
                        refine hK.out _ _ (XD.out w4 x4.out) (fun hHeldN => ?_)
                        clear hK K hHeld
                        have hHeld := hHeldN
                        clear hHeldN
                        try simp only [Act.put, List.setIfInBounds_toArray, List.set_cons_zero, List.set_cons_succ]
                        refine wpAnyH_ready (rs := [12]) (by kernel_rfl) (by simp) ?_
                        refine AllReadyH.cons (o := { dst := none, op := Op.store 27 (Operand.tmp 5) (Operand.tmp 108), type := 0, pos := "exact.go:62", after := #[{ on := 5, ground := Ground.data }, { on := 11, ground := Ground.chain }, { on := 0, ground := Ground.phase }, { on := 1, ground := Ground.phase }, { on := 2, ground := Ground.phase }, { on := 3, ground := Ground.phase }, { on := 4, ground := Ground.phase }, { on := 5, ground := Ground.phase }, { on := 6, ground := Ground.textOnly Departure.lateStores }, { on := 7, ground := Ground.textOnly Departure.lateStores }, { on := 8, ground := Ground.textOnly Departure.lateStores }, { on := 9, ground := Ground.textOnly Departure.lateStores }, { on := 10, ground := Ground.textOnly Departure.lateStores }, { on := 11, ground := Ground.textOnly Departure.lateStoresUnsure }], guard := none }) rfl (fun K hK => ?_) AllReadyH.nil
                        go_simp
                        refine hK.out _ _ (XD.out _ ((set_off (Ne.symm XL.out.1)).trans x4.out)) (fun hHeldN => ?_)
                        clear hK K hHeld
                        have hHeld := hHeldN
                        clear hHeldN
                        try simp only [Act.put, List.setIfInBounds_toArray, List.set_cons_zero, List.set_cons_succ]
                        refine wpAnyH_ready (rs := [13]) (by kernel_rfl) (by simp) ?_
                        refine AllReadyH.cons (o := { dst := none, op := Op.store 27 (Operand.tmp 6) (Operand.tmp 114), type := 0, pos := "exact.go:62", after := #[{ on := 11, ground := Ground.data }, { on := 12, ground := Ground.chain }, { on := 0, ground := Ground.phase }, { on := 1, ground := Ground.phase }, { on := 2, ground := Ground.phase }, { on := 3, ground := Ground.phase }, { on := 4, ground := Ground.phase }, { on := 5, ground := Ground.phase }, { on := 6, ground := Ground.phase }, { on := 7, ground := Ground.phase }, { on := 8, ground := Ground.phase }, { on := 9, ground := Ground.phase }, { on := 10, ground := Ground.phase }, { on := 11, ground := Ground.phase }, { on := 12, ground := Ground.phase }], guard := none }) rfl (fun K hK => ?_) AllReadyH.nil
                        go_simp
                        refine hK.out _ _ (XD.out _ ((set_off (Ne.symm XL.out.2.1)).trans ((set_off (Ne.symm XL.out.1)).trans x4.out))) (fun hHeldN => ?_)
                        clear hK K hHeld
                        have hHeld := hHeldN
                        clear hHeldN
                        try simp only [Act.put, List.setIfInBounds_toArray, List.set_cons_zero, List.set_cons_succ]
                        refine wpAnyH_done (by kernel_rfl) ?_ _
                        go_wp2_with fail
                        go_meet
                        have l2 := HB2.out.size
                        have l4 := HB4.out.size
                        have bb1 := (Array.getElem?_eq_some_iff.1 PX.out.bs).1
                        have bb2 := (Array.getElem?_eq_some_iff.1 PX.out.br).1
                        have bb3 := (Array.getElem?_eq_some_iff.1 PX.out.bw).1
                        have bb4 := (Array.getElem?_eq_some_iff.1 PX.out.bo).1
                        have l2' : wx.heap.size ≤ w2.heap.size := l2
                        have stT : StCP 3 w4 (fun b => wx.heap.size ≤ b ∧ b < w2.heap.size) ta tn S' := st_keep ST.out (fun b hb => HB4.out.block b hb.2) (fun b hb => hb)
                        exact ⟨ta, tn, tc, ua, un, uc, _, _, _, _, _, _, S', _, ((P4.out.setS stT (fun b hb => ⟨by omega, by omega, by omega, by omega, by omega⟩) HTC.out).setR (st_keep SU.out (fun b hb => set_off (by
                          rcases hb with hb | hb
                          · exact hb.2.1
                          · omega)) (fun b hb => hb)) (fun b hb => av_set (by
                          rcases hb with hb | hb
                          · exact ⟨by have := hb.1; omega, hb.2⟩
                          · exact ⟨by omega, by omega, by omega, by omega, by omega⟩)) HUC.out HRI.out), (set_off (Ne.symm XL.out.2.1)).trans ((set_off (Ne.symm XL.out.1)).trans x4.out)⟩
                  | false =>
                    cases h5 : (fw == 5) with
                    | true =>
                      as_aux_lemma =>
                        have sB := cellOf PX.out.bs 0
                        have rB := cellOf PX.out.br 0
                        simp only [List.getElem?_toArray, List.getElem?_cons_zero] at sB rB
                        have SE : Hid (∀ W' : World, Below wx.heap.size wx W' → W'.cell? ⟨Bs, 0, none⟩ = some (.slice sa sn sc) ∧ W'.cell? ⟨Br, 0, none⟩ = some (.slice ra rn rc)) := hid (fun W' h => ⟨(h.cell (World.block_lt_of_cell? wx _ sB)).trans sB, (h.cell (World.block_lt_of_cell? wx _ rB)).trans rB⟩)
                        have K11 : Hid (Calls Try.prog 11 #[.agg #[.slice ra rn rc]] wx.drew (StTold 3 wx.drew S)) := hid (refCopy_c 3 wx.drew ra rn rc S (PX.out.rr.cr.below (Nat.le_refl _) (Below.refl _ wx).drew))
                        have B0 := hid ((Below.refl wx.heap.size wx).drew)
                        go_upto_region 25 with fail
                        go_region_held3 (fun W' => W'.cell? ⟨Bs, 0, none⟩ = some (.slice sa sn sc) ∧ W'.cell? ⟨Br, 0, none⟩ = some (.slice ra rn rc)) (first | with_reducible exact SE.out _ B0.out | with_reducible exact SE.out _ B2.out | with_reducible exact SO.out _ | with_reducible exact SW.out _ _ | go_keep) ((first
                          | (go_at_call 11; (refine (K11.out).mono ?_; rintro e w2 ⟨fa, fn, fc, rfl, hb2, hfc, hst⟩; have B2 := hid (BT.out B0.out hb2); have P2 := hid (PX.out.below B2.out); have o2 := cellOf P2.out.bo 0; have of2 := freeOf P2.out.bo 0; have q2 := fun v => cellOf ((set_off (v := v) P2.out.ne.2.2.2.2.2).trans P2.out.bw) 0; have qf2 := fun v => freeOf ((set_off (v := v) P2.out.ne.2.2.2.2.2).trans P2.out.bw) 0; simp only [List.getElem?_toArray, List.getElem?_cons_zero] at o2 q2; have SO : Hid (∀ v, (w2.setCell ⟨Bo, 0, none⟩ v).cell? ⟨Bs, 0, none⟩ = some (.slice sa sn sc) ∧ (w2.setCell ⟨Bo, 0, none⟩ v).cell? ⟨Br, 0, none⟩ = some (.slice ra rn rc)) := hid (fun v => ⟨(World.cell?_of_block (a := ⟨Bs, 0, none⟩) (set_off P2.out.ne.2.2.1)).trans (SE.out _ B2.out).1, (World.cell?_of_block (a := ⟨Br, 0, none⟩) (set_off P2.out.ne.2.2.2.2.1)).trans (SE.out _ B2.out).2⟩); have SW : Hid (∀ v u, ((w2.setCell ⟨Bo, 0, none⟩ v).setCell ⟨Bw, 0, none⟩ u).cell? ⟨Bs, 0, none⟩ = some (.slice sa sn sc) ∧ ((w2.setCell ⟨Bo, 0, none⟩ v).setCell ⟨Bw, 0, none⟩ u).cell? ⟨Br, 0, none⟩ = some (.slice ra rn rc)) := hid (fun v u => ⟨(World.cell?_of_block (a := ⟨Bs, 0, none⟩) (set_off P2.out.ne.2.1)).trans (SO.out v).1, (World.cell?_of_block (a := ⟨Br, 0, none⟩) (set_off P2.out.ne.2.2.2.1)).trans (SO.out v).2⟩); have ST := hid hst; have HB2 := hid hb2; clear hst hb2))))
                        go_wp2_with fail
                        go_meet
                        have l2 := HB2.out.size
                        have bb1 := (Array.getElem?_eq_some_iff.1 PX.out.bs).1
                        have bb2 := (Array.getElem?_eq_some_iff.1 PX.out.br).1
                        have bb3 := (Array.getElem?_eq_some_iff.1 PX.out.bw).1
                        have bb4 := (Array.getElem?_eq_some_iff.1 PX.out.bo).1
                        refine ⟨sa, sn, sc, ra, rn, rc, fa, fn, fc, sa, sn, sc, S, S, P2.out.setWO ST.out (fun b hb => ?_), (set_off (Ne.symm XL.out.2.2.1)).trans ((set_off (Ne.symm XL.out.2.2.2)).trans ((B2.out.block _ (Array.getElem?_eq_some_iff.1 QX.out).1).trans QX.out))⟩
                        have h1 : wx.heap.size ≤ b := hb.1
                        exact ⟨hb.2, by omega, by omega, by omega, by omega⟩

                    | false =>
                      go_wp2_with fail
                      go_meet
                      exact ⟨_, _, _, _, _, _, _, _, _, _, _, _, _, _, PX.out, QX.out⟩
            case rest =>
              as_aux_lemma =>
                clear PX QX HP
                obtain ⟨sa, sn, sc, ra, rn, rc, wa, wn, wq, oa, on, oc, S, T, hp2, hx2⟩ := hcut
                have PX := hid hp2
                have QX := hid hx2
                obtain ⟨wd, hwd⟩ : ∃ wd, wd = wc := ⟨_, rfl⟩
                rw [← hwd] at PX QX
                rw [← hwd]
                clear hp2 hx2 hwd
                obtain ⟨G, hG⟩ : ∃ G : Option (CT 3), G = ((rowOf S fm).find? (fun q => cmpC 3 q.1 ck == 0)).map (·.2) := ⟨_, rfl⟩
                obtain ⟨N, hN⟩ : ∃ N : Option (CT 3), N = ((rowOf S fm).find? (fun q => decide (0 < cmpC 3 q.1 ck))).map (·.1) := ⟨_, rfl⟩
                obtain ⟨F, hF⟩ : ∃ F : Option (CT 3), F = (rowOf S fm).head?.map (·.1) := ⟨_, rfl⟩
                have K17 : Hid (∀ W' : World, Below wd.heap.size wd W' → Calls Try.prog 17 #[.agg #[.slice sa sn sc], .int .i64 fm, .agg #[.int .i64 kk, .int .i64 ki, .string kx, .int .i64 kr, .slice ka kn kc]] W' (GP W' G)) := hid (fun W' hb => by rw [hG]; exact (get_c 3 W' sa sn sc S (PX.out.below hb).ss.cr fm ⟨kk, ki, kx, kr, ka, kn, kc⟩ ck (KK.out W' (PX.out.below hb).bel).rdc).mono (fun e w' h => gp_of_mb h))
                have K18 : Hid (∀ W' : World, Below wd.heap.size wd W' → Calls Try.prog 18 #[.agg #[.slice ra rn rc], .int .i64 fm, .agg #[.int .i64 kk, .int .i64 ki, .string kx, .int .i64 kr, .slice ka kn kc]] W' (GP W' G)) := hid (fun W' hb => by rw [hG]; exact (refGet_c 3 W' ra rn rc S (PX.out.below hb).rr.cr PX.out.ri fm ⟨kk, ki, kx, kr, ka, kn, kc⟩ ck (KK.out W' (PX.out.below hb).bel).rdc).mono (fun e w' h => gp_of_rb h))
                have K19 : Hid (∀ W' : World, Below wd.heap.size wd W' → Calls Try.prog 19 #[.agg #[.slice sa sn sc], .int .i64 fm, .agg #[.int .i64 kk, .int .i64 ki, .string kx, .int .i64 kr, .slice ka kn kc]] W' (GP W' N)) := hid (fun W' hb => by rw [hN]; exact (next_c 3 W' sa sn sc S (PX.out.below hb).ss.cr fm ⟨kk, ki, kx, kr, ka, kn, kc⟩ ck (KK.out W' (PX.out.below hb).bel).rdc).mono (fun e w' h => gp_of_mb h))
                have K20 : Hid (∀ W' : World, Below wd.heap.size wd W' → Calls Try.prog 20 #[.agg #[.slice ra rn rc], .int .i64 fm, .agg #[.int .i64 kk, .int .i64 ki, .string kx, .int .i64 kr, .slice ka kn kc]] W' (GP W' N)) := hid (fun W' hb => by rw [hN]; exact (refNext_c 3 W' ra rn rc S (PX.out.below hb).rr.cr PX.out.ri fm ⟨kk, ki, kx, kr, ka, kn, kc⟩ ck (KK.out W' (PX.out.below hb).bel).rdc).mono (fun e w' h => gp_of_rb h))
                have K21 : Hid (∀ W' : World, Below wd.heap.size wd W' → Calls Try.prog 21 #[.agg #[.slice sa sn sc], .int .i64 fm] W' (GP W' F)) := hid (fun W' hb => by rw [hF]; exact (first_c 3 W' sa sn sc S (PX.out.below hb).ss.cr fm).mono (fun e w' h => gp_of_mb h))
                have K22 : Hid (∀ W' : World, Below wd.heap.size wd W' → Calls Try.prog 22 #[.agg #[.slice ra rn rc], .int .i64 fm] W' (GP W' F)) := hid (fun W' hb => by rw [hF]; exact (refFirst_c 3 W' ra rn rc S (PX.out.below hb).rr.cr fm).mono (fun e w' h => gp_of_rb h))
                clear hG hN hF
                obtain ⟨gb1, hgb1⟩ : ∃ b, b = G.isSome := ⟨_, rfl⟩
                obtain ⟨gb2, hgb2⟩ : ∃ b, b = N.isSome := ⟨_, rfl⟩
                obtain ⟨gb3, hgb3⟩ : ∃ b, b = F.isSome := ⟨_, rfl⟩
                have G1 := hid hgb1
                have G2 := hid hgb2
                have G3 := hid hgb3
                clear hgb1 hgb2 hgb3
                have B0 := hid (Below.refl wd.heap.size wd)
                have cz := cellOf PX.out.bs 0
                simp only [List.getElem?_toArray, List.getElem?_cons_zero] at cz
                obtain ⟨zx1, zx2, zx3, zx4, zx5, zx6, zx7, zx8, zx9, zx10, zx11⟩ := XC.out wd QX.out
                clear zx7 zx8 zx9 zx10 zx11
                go_upto_region 32 with (first
                  | (go_at_call 17; (refine (K17.out _ B0.out).mono ?_; rintro e ua ⟨hb, ⟨avk, avi, avx, avr, ava, avn, avc⟩, rfl, hr⟩; rw [← G1.out]; simp only [Hd.v]; have N1 : Hid (Below (wd).heap.size (wd) (ua.alloc (.cells #[.int .i64 avk, .int .i64 avi, .string avx, .int .i64 avr, .slice ava avn avc] 31))) := hid (hb.alloc hb.size _); have R1 := hid hr; have E1 : Hid (Below wd.heap.size wd (ua.alloc (.cells #[.int .i64 avk, .int .i64 avi, .string avx, .int .i64 avr, .slice ava avn avc] 31))) := hid ((BT.out B0.out hb).alloc (BT.out B0.out hb).size _); have L1 : Hid ((ua.alloc (.cells #[.int .i64 avk, .int .i64 avi, .string avx, .int .i64 avr, .slice ava avn avc] 31)).heap[ua.heap.size]? = some (.cells #[.int .i64 avk, .int .i64 avi, .string avx, .int .i64 avr, .slice ava avn avc] 31 (0, 0))) := hid (heap_alloc_new ua _); clear hb hr cz zx1 zx2 zx3 zx4 zx5 zx6; have cq0 := cellOf (PX.out.below E1.out).br 0; simp only [List.getElem?_toArray, List.getElem?_cons_zero] at cq0; obtain ⟨q0x1, q0x2, q0x3, q0x4, q0x5, q0x6, q0x7, q0x8, q0x9, q0x10, q0x11⟩ := XC.out (ua.alloc (.cells #[.int .i64 avk, .int .i64 avi, .string avx, .int .i64 avr, .slice ava avn avc] 31)) ((E1.out.block _ (Array.getElem?_eq_some_iff.1 QX.out).1).trans QX.out); clear q0x7 q0x8 q0x9 q0x10 q0x11))
                  | (go_at_call 18; (refine (K18.out _ E1.out).mono ?_; rintro e ub ⟨hb, ⟨bvk, bvi, bvx, bvr, bva, bvn, bvc⟩, rfl, hr⟩; rw [← G1.out]; simp only [Hd.v]; have N2 : Hid (Below ((ua.alloc (.cells #[.int .i64 avk, .int .i64 avi, .string avx, .int .i64 avr, .slice ava avn avc] 31))).heap.size ((ua.alloc (.cells #[.int .i64 avk, .int .i64 avi, .string avx, .int .i64 avr, .slice ava avn avc] 31))) (ub.alloc (.cells #[.int .i64 bvk, .int .i64 bvi, .string bvx, .int .i64 bvr, .slice bva bvn bvc] 31))) := hid (hb.alloc hb.size _); have R2 := hid hr; have E2 : Hid (Below wd.heap.size wd (ub.alloc (.cells #[.int .i64 bvk, .int .i64 bvi, .string bvx, .int .i64 bvr, .slice bva bvn bvc] 31))) := hid ((BT.out E1.out hb).alloc (BT.out E1.out hb).size _); have L2 : Hid ((ub.alloc (.cells #[.int .i64 bvk, .int .i64 bvi, .string bvx, .int .i64 bvr, .slice bva bvn bvc] 31)).heap[ub.heap.size]? = some (.cells #[.int .i64 bvk, .int .i64 bvi, .string bvx, .int .i64 bvr, .slice bva bvn bvc] 31 (0, 0))) := hid (heap_alloc_new ub _); clear hb hr cq0 q0x1 q0x2 q0x3 q0x4 q0x5 q0x6; have cq1 := cellOf (PX.out.below E2.out).bs 0; simp only [List.getElem?_toArray, List.getElem?_cons_zero] at cq1; obtain ⟨q1x1, q1x2, q1x3, q1x4, q1x5, q1x6, q1x7, q1x8, q1x9, q1x10, q1x11⟩ := XC.out (ub.alloc (.cells #[.int .i64 bvk, .int .i64 bvi, .string bvx, .int .i64 bvr, .slice bva bvn bvc] 31)) ((E2.out.block _ (Array.getElem?_eq_some_iff.1 QX.out).1).trans QX.out); clear q1x7 q1x8 q1x9 q1x10 q1x11))
                  | (go_at_call 19; (refine (K19.out _ E2.out).mono ?_; rintro e uc ⟨hb, ⟨cvk, cvi, cvx, cvr, cva, cvn, cvc⟩, rfl, hr⟩; rw [← G2.out]; simp only [Hd.v]; have N3 : Hid (Below ((ub.alloc (.cells #[.int .i64 bvk, .int .i64 bvi, .string bvx, .int .i64 bvr, .slice bva bvn bvc] 31))).heap.size ((ub.alloc (.cells #[.int .i64 bvk, .int .i64 bvi, .string bvx, .int .i64 bvr, .slice bva bvn bvc] 31))) (uc.alloc (.cells #[.int .i64 cvk, .int .i64 cvi, .string cvx, .int .i64 cvr, .slice cva cvn cvc] 31))) := hid (hb.alloc hb.size _); have R3 := hid hr; have E3 : Hid (Below wd.heap.size wd (uc.alloc (.cells #[.int .i64 cvk, .int .i64 cvi, .string cvx, .int .i64 cvr, .slice cva cvn cvc] 31))) := hid ((BT.out E2.out hb).alloc (BT.out E2.out hb).size _); have L3 : Hid ((uc.alloc (.cells #[.int .i64 cvk, .int .i64 cvi, .string cvx, .int .i64 cvr, .slice cva cvn cvc] 31)).heap[uc.heap.size]? = some (.cells #[.int .i64 cvk, .int .i64 cvi, .string cvx, .int .i64 cvr, .slice cva cvn cvc] 31 (0, 0))) := hid (heap_alloc_new uc _); clear hb hr cq1 q1x1 q1x2 q1x3 q1x4 q1x5 q1x6; have cq2 := cellOf (PX.out.below E3.out).br 0; simp only [List.getElem?_toArray, List.getElem?_cons_zero] at cq2; obtain ⟨q2x1, q2x2, q2x3, q2x4, q2x5, q2x6, q2x7, q2x8, q2x9, q2x10, q2x11⟩ := XC.out (uc.alloc (.cells #[.int .i64 cvk, .int .i64 cvi, .string cvx, .int .i64 cvr, .slice cva cvn cvc] 31)) ((E3.out.block _ (Array.getElem?_eq_some_iff.1 QX.out).1).trans QX.out); clear q2x7 q2x8 q2x9 q2x10 q2x11))
                  | (go_at_call 20; (refine (K20.out _ E3.out).mono ?_; rintro e ud ⟨hb, ⟨dvk, dvi, dvx, dvr, dva, dvn, dvc⟩, rfl, hr⟩; rw [← G2.out]; simp only [Hd.v]; have N4 : Hid (Below ((uc.alloc (.cells #[.int .i64 cvk, .int .i64 cvi, .string cvx, .int .i64 cvr, .slice cva cvn cvc] 31))).heap.size ((uc.alloc (.cells #[.int .i64 cvk, .int .i64 cvi, .string cvx, .int .i64 cvr, .slice cva cvn cvc] 31))) (ud.alloc (.cells #[.int .i64 dvk, .int .i64 dvi, .string dvx, .int .i64 dvr, .slice dva dvn dvc] 31))) := hid (hb.alloc hb.size _); have R4 := hid hr; have E4 : Hid (Below wd.heap.size wd (ud.alloc (.cells #[.int .i64 dvk, .int .i64 dvi, .string dvx, .int .i64 dvr, .slice dva dvn dvc] 31))) := hid ((BT.out E3.out hb).alloc (BT.out E3.out hb).size _); have L4 : Hid ((ud.alloc (.cells #[.int .i64 dvk, .int .i64 dvi, .string dvx, .int .i64 dvr, .slice dva dvn dvc] 31)).heap[ud.heap.size]? = some (.cells #[.int .i64 dvk, .int .i64 dvi, .string dvx, .int .i64 dvr, .slice dva dvn dvc] 31 (0, 0))) := hid (heap_alloc_new ud _); clear hb hr cq2 q2x1 q2x2 q2x3 q2x4 q2x5 q2x6; have cq3 := cellOf (PX.out.below E4.out).bs 0; simp only [List.getElem?_toArray, List.getElem?_cons_zero] at cq3; obtain ⟨q3x1, q3x2, q3x3, q3x4, q3x5, q3x6, q3x7, q3x8, q3x9, q3x10, q3x11⟩ := XC.out (ud.alloc (.cells #[.int .i64 dvk, .int .i64 dvi, .string dvx, .int .i64 dvr, .slice dva dvn dvc] 31)) ((E4.out.block _ (Array.getElem?_eq_some_iff.1 QX.out).1).trans QX.out); clear q3x7 q3x8 q3x9 q3x10 q3x11))
                  | (go_at_call 21; (refine (K21.out _ E4.out).mono ?_; rintro e ug ⟨hb, ⟨gvk, gvi, gvx, gvr, gva, gvn, gvc⟩, rfl, hr⟩; rw [← G3.out]; simp only [Hd.v]; have N5 : Hid (Below ((ud.alloc (.cells #[.int .i64 dvk, .int .i64 dvi, .string dvx, .int .i64 dvr, .slice dva dvn dvc] 31))).heap.size ((ud.alloc (.cells #[.int .i64 dvk, .int .i64 dvi, .string dvx, .int .i64 dvr, .slice dva dvn dvc] 31))) (ug.alloc (.cells #[.int .i64 gvk, .int .i64 gvi, .string gvx, .int .i64 gvr, .slice gva gvn gvc] 31))) := hid (hb.alloc hb.size _); have R5 := hid hr; have E5 : Hid (Below wd.heap.size wd (ug.alloc (.cells #[.int .i64 gvk, .int .i64 gvi, .string gvx, .int .i64 gvr, .slice gva gvn gvc] 31))) := hid ((BT.out E4.out hb).alloc (BT.out E4.out hb).size _); have L5 : Hid ((ug.alloc (.cells #[.int .i64 gvk, .int .i64 gvi, .string gvx, .int .i64 gvr, .slice gva gvn gvc] 31)).heap[ug.heap.size]? = some (.cells #[.int .i64 gvk, .int .i64 gvi, .string gvx, .int .i64 gvr, .slice gva gvn gvc] 31 (0, 0))) := hid (heap_alloc_new ug _); clear hb hr cq3 q3x1 q3x2 q3x3 q3x4 q3x5 q3x6; have cq4 := cellOf (PX.out.below E5.out).br 0; simp only [List.getElem?_toArray, List.getElem?_cons_zero] at cq4; obtain ⟨q4x1, q4x2, q4x3, q4x4, q4x5, q4x6, q4x7, q4x8, q4x9, q4x10, q4x11⟩ := XC.out (ug.alloc (.cells #[.int .i64 gvk, .int .i64 gvi, .string gvx, .int .i64 gvr, .slice gva gvn gvc] 31)) ((E5.out.block _ (Array.getElem?_eq_some_iff.1 QX.out).1).trans QX.out); clear q4x7 q4x8 q4x9 q4x10 q4x11))
                  | (go_at_call 22; (refine (K22.out _ E5.out).mono ?_; rintro e uj ⟨hb, ⟨jvk, jvi, jvx, jvr, jva, jvn, jvc⟩, rfl, hr⟩; rw [← G3.out]; simp only [Hd.v]; have N6 : Hid (Below ((ug.alloc (.cells #[.int .i64 gvk, .int .i64 gvi, .string gvx, .int .i64 gvr, .slice gva gvn gvc] 31))).heap.size ((ug.alloc (.cells #[.int .i64 gvk, .int .i64 gvi, .string gvx, .int .i64 gvr, .slice gva gvn gvc] 31))) (uj.alloc (.cells #[.int .i64 jvk, .int .i64 jvi, .string jvx, .int .i64 jvr, .slice jva jvn jvc] 31))) := hid (hb.alloc hb.size _); have R6 := hid hr; have E6 : Hid (Below wd.heap.size wd (uj.alloc (.cells #[.int .i64 jvk, .int .i64 jvi, .string jvx, .int .i64 jvr, .slice jva jvn jvc] 31))) := hid ((BT.out E5.out hb).alloc (BT.out E5.out hb).size _); have L6 : Hid ((uj.alloc (.cells #[.int .i64 jvk, .int .i64 jvi, .string jvx, .int .i64 jvr, .slice jva jvn jvc] 31)).heap[uj.heap.size]? = some (.cells #[.int .i64 jvk, .int .i64 jvi, .string jvx, .int .i64 jvr, .slice jva jvn jvc] 31 (0, 0))) := hid (heap_alloc_new uj _); clear hb hr cq4 q4x1 q4x2 q4x3 q4x4 q4x5 q4x6)))
                have UP : Hid (∀ W', Below (uj.alloc (.cells #[.int .i64 jvk, .int .i64 jvi, .string jvx, .int .i64 jvr, .slice jva jvn jvc] 31)).heap.size (uj.alloc (.cells #[.int .i64 jvk, .int .i64 jvi, .string jvx, .int .i64 jvr, .slice jva jvn jvc] 31)) W' → (∀ k, k < 6 → True) → Below wd.heap.size wd W' ∧ W'.heap[ua.heap.size]? = some (.cells #[.int .i64 avk, .int .i64 avi, .string avx, .int .i64 avr, .slice ava avn avc] 31 (0, 0)) ∧ W'.heap[ub.heap.size]? = some (.cells #[.int .i64 bvk, .int .i64 bvi, .string bvx, .int .i64 bvr, .slice bva bvn bvc] 31 (0, 0)) ∧ W'.heap[uc.heap.size]? = some (.cells #[.int .i64 cvk, .int .i64 cvi, .string cvx, .int .i64 cvr, .slice cva cvn cvc] 31 (0, 0)) ∧ W'.heap[ud.heap.size]? = some (.cells #[.int .i64 dvk, .int .i64 dvi, .string dvx, .int .i64 dvr, .slice dva dvn dvc] 31 (0, 0)) ∧ W'.heap[ug.heap.size]? = some (.cells #[.int .i64 gvk, .int .i64 gvi, .string gvx, .int .i64 gvr, .slice gva gvn gvc] 31 (0, 0)) ∧ W'.heap[uj.heap.size]? = some (.cells #[.int .i64 jvk, .int .i64 jvi, .string jvx, .int .i64 jvr, .slice jva jvn jvc] 31 (0, 0))) := hid (fun W' h _ => by
                    have t5 := BT.out N6.out h
                    have t4 := BT.out N5.out t5
                    have t3 := BT.out N4.out t4
                    have t2 := BT.out N3.out t3
                    have t1 := BT.out N2.out t2
                    have t0 := BT.out E6.out h
                    exact ⟨t0, (t1.block _ (Array.getElem?_eq_some_iff.1 L1.out).1).trans L1.out, (t2.block _ (Array.getElem?_eq_some_iff.1 L2.out).1).trans L2.out, (t3.block _ (Array.getElem?_eq_some_iff.1 L3.out).1).trans L3.out, (t4.block _ (Array.getElem?_eq_some_iff.1 L4.out).1).trans L4.out, (t5.block _ (Array.getElem?_eq_some_iff.1 L5.out).1).trans L5.out, (h.block _ (Array.getElem?_eq_some_iff.1 L6.out).1).trans L6.out⟩)
                have B6 := hid (Below.refl (uj.alloc (.cells #[.int .i64 jvk, .int .i64 jvi, .string jvx, .int .i64 jvr, .slice jva jvn jvc] 31)).heap.size (uj.alloc (.cells #[.int .i64 jvk, .int .i64 jvi, .string jvx, .int .i64 jvr, .slice jva jvn jvc] 31)))
                have SA : Hid (∀ W', Below (uj.alloc (.cells #[.int .i64 jvk, .int .i64 jvi, .string jvx, .int .i64 jvr, .slice jva jvn jvc] 31)).heap.size (uj.alloc (.cells #[.int .i64 jvk, .int .i64 jvi, .string jvx, .int .i64 jvr, .slice jva jvn jvc] 31)) W' → Calls Try.prog 23 #[.agg #[.int .i64 avk, .int .i64 avi, .string avx, .int .i64 avr, .slice ava avn avc], .agg #[.int .i64 bvk, .int .i64 bvi, .string bvx, .int .i64 bvr, .slice bva bvn bvc]] W' fun e w' => e = .returned (.bool true) ∧ Below W'.heap.size W' w') := hid (fun W' h => by
                  have t6 := h
                  have t5 := BT.out N6.out t6
                  have t4 := BT.out N5.out t5
                  have t3 := BT.out N4.out t4
                  have t2 := BT.out N3.out t3
                  have t1 := BT.out N2.out t2
                  exact refSame_c 3 W' ⟨avk, avi, avx, avr, ava, avn, avc⟩ ⟨bvk, bvi, bvx, bvr, bva, bvn, bvc⟩ (G.getD zC) ((R1.out.below (Nat.le_refl _) ((Below.refl _ ua).alloc (Nat.le_refl _) _)).below (Nat.le_refl _) t1) ((R2.out.below (Nat.le_refl _) ((Below.refl _ ub).alloc (Nat.le_refl _) _)).below (Nat.le_refl _) t2))
                have SB : Hid (∀ W', Below (uj.alloc (.cells #[.int .i64 jvk, .int .i64 jvi, .string jvx, .int .i64 jvr, .slice jva jvn jvc] 31)).heap.size (uj.alloc (.cells #[.int .i64 jvk, .int .i64 jvi, .string jvx, .int .i64 jvr, .slice jva jvn jvc] 31)) W' → Calls Try.prog 23 #[.agg #[.int .i64 cvk, .int .i64 cvi, .string cvx, .int .i64 cvr, .slice cva cvn cvc], .agg #[.int .i64 dvk, .int .i64 dvi, .string dvx, .int .i64 dvr, .slice dva dvn dvc]] W' fun e w' => e = .returned (.bool true) ∧ Below W'.heap.size W' w') := hid (fun W' h => by
                  have t6 := h
                  have t5 := BT.out N6.out t6
                  have t4 := BT.out N5.out t5
                  have t3 := BT.out N4.out t4
                  exact refSame_c 3 W' ⟨cvk, cvi, cvx, cvr, cva, cvn, cvc⟩ ⟨dvk, dvi, dvx, dvr, dva, dvn, dvc⟩ (N.getD zC) ((R3.out.below (Nat.le_refl _) ((Below.refl _ uc).alloc (Nat.le_refl _) _)).below (Nat.le_refl _) t3) ((R4.out.below (Nat.le_refl _) ((Below.refl _ ud).alloc (Nat.le_refl _) _)).below (Nat.le_refl _) t4))
                have SC : Hid (∀ W', Below (uj.alloc (.cells #[.int .i64 jvk, .int .i64 jvi, .string jvx, .int .i64 jvr, .slice jva jvn jvc] 31)).heap.size (uj.alloc (.cells #[.int .i64 jvk, .int .i64 jvi, .string jvx, .int .i64 jvr, .slice jva jvn jvc] 31)) W' → Calls Try.prog 23 #[.agg #[.int .i64 gvk, .int .i64 gvi, .string gvx, .int .i64 gvr, .slice gva gvn gvc], .agg #[.int .i64 jvk, .int .i64 jvi, .string jvx, .int .i64 jvr, .slice jva jvn jvc]] W' fun e w' => e = .returned (.bool true) ∧ Below W'.heap.size W' w') := hid (fun W' h => by
                  have t6 := h
                  have t5 := BT.out N6.out t6
                  exact refSame_c 3 W' ⟨gvk, gvi, gvx, gvr, gva, gvn, gvc⟩ ⟨jvk, jvi, jvx, jvr, jva, jvn, jvc⟩ (F.getD zC) ((R5.out.below (Nat.le_refl _) ((Below.refl _ ug).alloc (Nat.le_refl _) _)).below (Nat.le_refl _) t5) ((R6.out.below (Nat.le_refl _) ((Below.refl _ uj).alloc (Nat.le_refl _) _)).below (Nat.le_refl _) t6))
                have S14 : Hid (∀ W', Below wd.heap.size wd W' → Calls Try.prog 14 #[.agg #[.slice sa sn sc], .agg #[.slice ra rn rc]] W' fun e w' => e = .returned (.bool true) ∧ Below W'.heap.size W' w') := hid (fun W' hb => refStSame_c 3 W' sa sn sc ra rn rc S (PX.out.below hb).ss.cr (PX.out.below hb).rr.cr)
                have T14 : Hid (∀ W', Below wd.heap.size wd W' → Calls Try.prog 14 #[.agg #[.slice oa on oc], .agg #[.slice wa wn wq]] W' fun e w' => e = .returned (.bool true) ∧ Below W'.heap.size W' w') := hid (fun W' hb => refStSame_c 3 W' oa on oc wa wn wq T (PX.out.below hb).oo.cr (PX.out.below hb).ww.cr)
                have S24 : Hid (∀ W', Below wd.heap.size wd W' → Calls Try.prog 24 #[.agg #[.slice sa sn sc], .agg #[.slice ra rn rc]] W' fun e w' => e = .returned (.bool true) ∧ Below W'.heap.size W' w') := hid (fun W' hb => same_c2 3 W' sa sn sc ra rn rc S (PX.out.below hb).ss.cr (PX.out.below hb).rr.cr)
                have up := UP.out (uj.alloc (.cells #[.int .i64 jvk, .int .i64 jvi, .string jvx, .int .i64 jvr, .slice jva jvn jvc] 31)) B6.out (fun _ _ => trivial)
                have m10 := cellOf (up.2.1) 0
                have m11 := cellOf (up.2.1) 1
                have m12 := cellOf (up.2.1) 2
                have m13 := cellOf (up.2.1) 3
                have m14 := cellOf (up.2.1) 4
                have m20 := cellOf (up.2.2.1) 0
                have m21 := cellOf (up.2.2.1) 1
                have m22 := cellOf (up.2.2.1) 2
                have m23 := cellOf (up.2.2.1) 3
                have m24 := cellOf (up.2.2.1) 4
                simp only [List.getElem?_toArray, List.getElem?_cons_zero, List.getElem?_cons_succ] at m10 m11 m12 m13 m14 m20 m21 m22 m23 m24
                have U6 := hid up.1
                clear up
                go_wp2_with (first
                  | (go_at_call 23; (refine (SA.out _ B6.out).mono ?_; rintro e z1 ⟨rfl, hb⟩; have Z1 := hid (BT.out B6.out hb); have up := UP.out z1 Z1.out (fun _ _ => trivial); have n30 := cellOf (up.2.2.2.1) 0; have n31 := cellOf (up.2.2.2.1) 1; have n32 := cellOf (up.2.2.2.1) 2; have n33 := cellOf (up.2.2.2.1) 3; have n34 := cellOf (up.2.2.2.1) 4; have n40 := cellOf (up.2.2.2.2.1) 0; have n41 := cellOf (up.2.2.2.2.1) 1; have n42 := cellOf (up.2.2.2.2.1) 2; have n43 := cellOf (up.2.2.2.2.1) 3; have n44 := cellOf (up.2.2.2.2.1) 4; simp only [List.getElem?_toArray, List.getElem?_cons_zero, List.getElem?_cons_succ] at n30 n31 n32 n33 n34 n40 n41 n42 n43 n44; clear hb up SA m10 m11 m12 m13 m14 m20 m21 m22 m23 m24))
                  | (go_at_call 23; (refine (SB.out _ Z1.out).mono ?_; rintro e z2 ⟨rfl, hb⟩; have Z2 := hid (BT.out Z1.out hb); have up := UP.out z2 Z2.out (fun _ _ => trivial); have p50 := cellOf (up.2.2.2.2.2.1) 0; have p51 := cellOf (up.2.2.2.2.2.1) 1; have p52 := cellOf (up.2.2.2.2.2.1) 2; have p53 := cellOf (up.2.2.2.2.2.1) 3; have p54 := cellOf (up.2.2.2.2.2.1) 4; have p60 := cellOf (up.2.2.2.2.2.2) 0; have p61 := cellOf (up.2.2.2.2.2.2) 1; have p62 := cellOf (up.2.2.2.2.2.2) 2; have p63 := cellOf (up.2.2.2.2.2.2) 3; have p64 := cellOf (up.2.2.2.2.2.2) 4; simp only [List.getElem?_toArray, List.getElem?_cons_zero, List.getElem?_cons_succ] at p50 p51 p52 p53 p54 p60 p61 p62 p63 p64; clear hb up SB n30 n31 n32 n33 n34 n40 n41 n42 n43 n44))
                  | (go_at_call 23; (refine (SC.out _ Z2.out).mono ?_; rintro e z3 ⟨rfl, hb⟩; have Z3 := hid (BT.out Z2.out hb); have D3 := hid (UP.out z3 Z3.out (fun _ _ => trivial)).1; have i1 := cellOf (PX.out.below D3.out).bs 0; have i2 := cellOf (PX.out.below D3.out).br 0; simp only [List.getElem?_toArray, List.getElem?_cons_zero] at i1 i2; clear hb SC p50 p51 p52 p53 p54 p60 p61 p62 p63 p64))
                  | (go_at_call 14; (refine (S14.out _ D3.out).mono ?_; rintro e z4 ⟨rfl, hb⟩; have D4 := hid (BT.out D3.out hb); have o1 := cellOf (PX.out.below D4.out).bo 0; have o2 := cellOf (PX.out.below D4.out).bw 0; simp only [List.getElem?_toArray, List.getElem?_cons_zero] at o1 o2; clear hb S14 i1 i2))
                  | (go_at_call 14; (refine (T14.out _ D4.out).mono ?_; rintro e z5 ⟨rfl, hb⟩; have D5 := hid (BT.out D4.out hb); have y1 := cellOf (PX.out.below D5.out).bs 0; have y2 := cellOf (PX.out.below D5.out).br 0; simp only [List.getElem?_toArray, List.getElem?_cons_zero] at y1 y2; clear hb T14 o1 o2))
                  | (go_at_call 24; (refine (S24.out _ D5.out).mono ?_; rintro e z6 ⟨rfl, hb⟩; have D6 := hid (BT.out D5.out hb); clear hb y1 y2)))
                go_roundg gi
                case measure => omega
                case rel => exact ⟨i + 1, by have := Hi.out; omega, by go_num, _, _, _, _, _, _, _, _, _, _, _, _, _, _, PX.out.below D6.out⟩

end Go.Proofs.Ytenfgahedbeekaa
