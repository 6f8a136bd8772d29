/- The document's side: Next. -/
import Derived.Test.YtenfgahedbeekaaM2
namespace Go.Proofs.Ytenfgahedbeekaa
open Go.RowKit Go.Deep Go.Shelf
set_option linter.unusedVariables false
set_option linter.unusedSimpArgs false

set_option maxRecDepth 100000 in
set_option maxHeartbeats 2000000 in
theorem refNext_any (k : Nat) (w : World) (sa : Option Addr) (sn sc : Nat) (ms : List (Sl × Rw k)) (hd : StR k w sa sn ms) (m : Int) (kt : VT k) (hk : Rds k w kt) :
    Calls Try.prog 20 #[.agg #[.slice sa sn sc], .int .i64 m, (hdT k kt).v] w (RbP k w ((rowAt ms m)[if (placeR (fun p => cmpT k p.1 kt) (rowAt ms m)).2 then (placeR (fun p => cmpT k p.1 kt) (rowAt ms m)).1 + 1 else (placeR (fun p => cmpT k p.1 kt) (rowAt ms m)).1]?.map (fun p => ofT k p.1))) := by
  have D := hid hd
  have Hn := hid hd.n1
  have hle := hd.n2
  have hle2 : (sn : Int) ≤ 1000 := by omega
  have hle0 : (0 : Int) ≤ (sn : Int) := by omega
  have K42 := hid (fun (w1 : World) (hb : Below w.heap.size w w1) => refAt_any k w1 sa sn sc ms (hd.below (Nat.le_refl _) hb) m kt (Rds.below k hk (Nat.le_refl _) hb))
  clear hd hk
  generalize hdT k kt = hkt at *
  obtain ⟨kk, ki, kx, kr, ka, kn, kc⟩ := hkt
  simp only [Hd.v] at K42 ⊢
  obtain ⟨W0, hW0⟩ : ∃ W0, W0 = ((w.alloc (.cells #[.slice sa sn sc] 27)).alloc (.cells #[.int .i64 kk, .int .i64 ki, .string kx, .int .i64 kr, .slice ka kn kc] 31)).alloc (.cells #[.int .i64 0, .int .i64 0, .string ⟨#[]⟩, .int .i64 0, .slice none 0 0] 31) := ⟨_, rfl⟩
  have pl' : ∀ {w : World} {o x : Obj} {k : Nat}, w.heap[k]? = some x → (w.alloc o).heap[k]? = some x := fun h => (Below.heap_alloc _ _ _ (Array.getElem?_eq_some_iff.1 h).1).trans h
  have n1 := heap_alloc_new w (.cells #[.slice sa sn sc] 27)
  have n2 := heap_alloc_new (w.alloc (.cells #[.slice sa sn sc] 27)) (.cells #[.int .i64 kk, .int .i64 ki, .string kx, .int .i64 kr, .slice ka kn kc] 31)
  have n3 := heap_alloc_new ((w.alloc (.cells #[.slice sa sn sc] 27)).alloc (.cells #[.int .i64 kk, .int .i64 ki, .string kx, .int .i64 kr, .slice ka kn kc] 31)) (.cells #[.int .i64 0, .int .i64 0, .string ⟨#[]⟩, .int .i64 0, .slice none 0 0] 31)
  simp only [World.size_alloc] at n2 n3
  have q1 : W0.heap[w.heap.size]? = some (.cells #[.slice sa sn sc] 27 (0, 0)) := by rw [hW0]; exact pl' (pl' n1)
  have q2 : W0.heap[w.heap.size + 1]? = some (.cells #[.int .i64 kk, .int .i64 ki, .string kx, .int .i64 kr, .slice ka kn kc] 31 (0, 0)) := by rw [hW0]; exact pl' n2
  have q3 : W0.heap[w.heap.size + 1 + 1]? = some (.cells #[.int .i64 0, .int .i64 0, .string ⟨#[]⟩, .int .i64 0, .slice none 0 0] 31 (0, 0)) := by rw [hW0]; exact n3
  have hb0 : Below w.heap.size w W0 := by rw [hW0]; exact (((Below.refl _ w).alloc (Nat.le_refl _) _).alloc (by simp) _).alloc (by simp; omega) _
  have FX : Hid (∀ w2 : World, Below W0.heap.size W0 w2 → w2.cell? ⟨w.heap.size, 0, none⟩ = some (.slice sa sn sc) ∧ w2.heap[w.heap.size + 1 + 1]? = some (.cells #[.int .i64 0, .int .i64 0, .string ⟨#[]⟩, .int .i64 0, .slice none 0 0] 31 (0, 0)) ∧ Below w.heap.size w w2) := hid (fun w2 hb => ⟨cellOf ((hb.block _ (Array.getElem?_eq_some_iff.1 q1).1).trans q1) 0, (hb.block _ (Array.getElem?_eq_some_iff.1 q3).1).trans q3, hb0.trans (hb.mono hb0.size)⟩)
  have c0 : W0.cell? ⟨w.heap.size, 0, none⟩ = some (.slice sa sn sc) := cellOf q1 0
  have k0 := cellOf q2 0
  have k1 := cellOf q2 1
  have k2 := cellOf q2 2
  have k3 := cellOf q2 3
  have k4 := cellOf q2 4
  have e0 := cellOf q3 0
  have e1 := cellOf q3 1
  have e2 := cellOf q3 2
  have e3 := cellOf q3 3
  have e4 := cellOf q3 4
  have f0 := freeOf q3 0
  have f1 := freeOf q3 1
  have f2 := freeOf q3 2
  have f3 := freeOf q3 3
  have f4 := freeOf q3 4
  simp only [List.getElem?_toArray, List.getElem?_cons_zero, List.getElem?_cons_succ] at k0 k1 k2 k3 k4 e0 e1 e2 e3 e4
  have HB0 := hid hb0
  have Q3 := hid q3
  clear q1 q2 q3 n1 n2 n3 pl' hb0
  cases hh : hasB sn m with
  | false =>
    rw [rowAt_no Hn.out hh]
    show Calls _ _ _ _ (RbP k w none)
    by_cases hm0 : m < 0
    · go_enter Try.func20, Try.ntmps20
      go_upto_region 1 with fail
      rw [← hW0]
      clear hW0
      go_wp2
      have h5 := five_new Q3.out ⟨0, 0, ⟨#[]⟩, 0, none, 0, 0⟩
      have hb5 : Below w.heap.size w (five W0 (w.heap.size + 1 + 1) 0 ⟨0, 0, ⟨#[]⟩, 0, none, 0, 0⟩) := five_below HB0.out (by omega) _
      change bodyPost _ _ _ _ _ (five W0 (w.heap.size + 1 + 1) 0 ⟨0, 0, ⟨#[]⟩, 0, none, 0, 0⟩)
      have r0 := cellOf h5 0
      have r1 := cellOf h5 1
      have r2 := cellOf h5 2
      have r3 := cellOf h5 3
      have r4 := cellOf h5 4
      simp only [List.getElem?_toArray, List.getElem?_cons_zero, List.getElem?_cons_succ] at r0 r1 r2 r3 r4
      generalize five W0 (w.heap.size + 1 + 1) 0 ⟨0, 0, ⟨#[]⟩, 0, none, 0, 0⟩ = W5 at *
      exact bodyPost_ret (v := .tuple #[.agg #[.int .i64 0, .int .i64 0, .string ⟨#[]⟩, .int .i64 0, .slice none 0 0], .bool false]) (by simp [results, Try.results20, go_sem, r0, r1, r2, r3, r4]) rfl ⟨hb5, rfl⟩
    · have hm1 : (sn : Int) ≤ m := by
        have : ¬ (0 ≤ m ∧ m < (sn : Int)) := by simpa [hasB] using hh
        omega
      go_enter Try.func20, Try.ntmps20
      go_upto_region 1 with fail
      rw [← hW0]
      clear hW0
      go_wp2
      have h5 := five_new Q3.out ⟨0, 0, ⟨#[]⟩, 0, none, 0, 0⟩
      have hb5 : Below w.heap.size w (five W0 (w.heap.size + 1 + 1) 0 ⟨0, 0, ⟨#[]⟩, 0, none, 0, 0⟩) := five_below HB0.out (by omega) _
      change bodyPost _ _ _ _ _ (five W0 (w.heap.size + 1 + 1) 0 ⟨0, 0, ⟨#[]⟩, 0, none, 0, 0⟩)
      have r0 := cellOf h5 0
      have r1 := cellOf h5 1
      have r2 := cellOf h5 2
      have r3 := cellOf h5 3
      have r4 := cellOf h5 4
      simp only [List.getElem?_toArray, List.getElem?_cons_zero, List.getElem?_cons_succ] at r0 r1 r2 r3 r4
      generalize five W0 (w.heap.size + 1 + 1) 0 ⟨0, 0, ⟨#[]⟩, 0, none, 0, 0⟩ = W5 at *
      exact bodyPost_ret (v := .tuple #[.agg #[.int .i64 0, .int .i64 0, .string ⟨#[]⟩, .int .i64 0, .slice none 0 0], .bool false]) (by simp [results, Try.results20, go_sem, r0, r1, r2, r3, r4]) rfl ⟨hb5, rfl⟩
  | true =>
    have hm : 0 ≤ m ∧ m < (sn : Int) := by simpa [hasB] using hh
    obtain ⟨i0, rfl⟩ : ∃ i0 : Nat, m = (i0 : Int) := ⟨m.toNat, by omega⟩
    have hi0 := hm.1
    have hi1 := hm.2
    have hi2 : ¬ (i0 : Int) < 0 := by omega
    have hi3 : ¬ (sn : Int) ≤ (i0 : Int) := by omega
    obtain ⟨p, hp⟩ : ∃ p, ms[i0]? = some p := ⟨ms[i0]'(by rw [← Hn.out]; omega), List.getElem?_eq_getElem _⟩
    rw [rowAt_yes hp]
    have hrp : rowAt ms (i0 : Int) = p.2 := rowAt_yes hp
    rw [hrp] at K42
    obtain ⟨b, off, ea, dc⟩ := D.out.rd i0 p.1 (by rw [List.getElem?_map, hp]; rfl)
    subst ea
    have hel := (D.out.el p (List.mem_of_getElem? hp)).1
    obtain ⟨⟨ma, mn, mc⟩, mr⟩ := p
    simp only [Sl.v] at dc
    simp only at hel K42 ⊢
    obtain ⟨pl, hpl⟩ : ∃ pl, pl = placeR (fun p => cmpT k p.1 kt) mr := ⟨_, rfl⟩
    rw [← hpl] at K42 ⊢
    have hple := placeR_le (fun p => cmpT k p.1 kt) mr
    rw [← hpl] at hple
    have Hmn := hid hel.n1
    have hmn2 := hel.n2
    rw [← Hmn.out] at hple
    have hmn3 : (mn : Int) ≤ 1000 := by omega
    have DX : Hid (∀ w2 : World, Below w.heap.size w w2 → w2.cell? ⟨b, off + i0, none⟩ = some (.slice ma mn mc)) := hid (fun w2 hb => (hb.cell (p := ⟨b, off + i0, none⟩) (World.block_lt_of_cell? w _ dc)).trans dc)
    obtain ⟨i, hi⟩ : ∃ i, i = pl.1 := ⟨_, rfl⟩
    rw [← hi] at hple K42 ⊢
    clear hp hm hh hrp hpl hi
    cases hok : pl.2 with
    | false =>
      rw [hok] at K42
      simp only [Bool.false_eq_true, if_false]
      cases hq : mr[i]? with
      | none =>
        have hge : mn ≤ i := by rw [Hmn.out]; exact List.getElem?_eq_none_iff.1 hq
        have hge1 : (mn : Int) ≤ (i : Int) := by omega
        clear hq hel D dc
        go_enter Try.func20, Try.ntmps20
        go_upto_region 1 with fail
        rw [← hW0]
        clear hW0
        go_wp2_with (go_at_call 42; (refine (K42.out _ HB0.out).mono ?_; rintro e w1 ⟨rfl, hb1⟩; obtain ⟨c0', g2, bb⟩ := FX.out w1 hb1; have e0 := cellOf g2 0; have e1 := cellOf g2 1; have e2 := cellOf g2 2; have e3 := cellOf g2 3; have e4 := cellOf g2 4; have f0 := freeOf g2 0; have f1 := freeOf g2 1; have f2 := freeOf g2 2; have f3 := freeOf g2 3; have f4 := freeOf g2 4; simp only [List.getElem?_toArray, List.getElem?_cons_zero, List.getElem?_cons_succ] at e0 e1 e2 e3 e4; have G2 := hid g2; have BB := hid bb; clear g2 hb1; have x0 := DX.out w1 bb))
        have h5 := five_new G2.out ⟨0, 0, ⟨#[]⟩, 0, none, 0, 0⟩
        have hb5 : Below w.heap.size w (five w1 (w.heap.size + 1 + 1) 0 ⟨0, 0, ⟨#[]⟩, 0, none, 0, 0⟩) := five_below BB.out (by omega) _
        change bodyPost _ _ _ _ _ (five w1 (w.heap.size + 1 + 1) 0 ⟨0, 0, ⟨#[]⟩, 0, none, 0, 0⟩)
        have r0 := cellOf h5 0
        have r1 := cellOf h5 1
        have r2 := cellOf h5 2
        have r3 := cellOf h5 3
        have r4 := cellOf h5 4
        simp only [List.getElem?_toArray, List.getElem?_cons_zero, List.getElem?_cons_succ] at r0 r1 r2 r3 r4
        generalize five w1 (w.heap.size + 1 + 1) 0 ⟨0, 0, ⟨#[]⟩, 0, none, 0, 0⟩ = W5 at *
        exact bodyPost_ret (v := .tuple #[.agg #[.int .i64 0, .int .i64 0, .string ⟨#[]⟩, .int .i64 0, .slice none 0 0], .bool false]) (by simp [results, Try.results20, go_sem, r0, r1, r2, r3, r4]) rfl ⟨hb5, rfl⟩
      | some q =>
        have hlt : i < mn := by rw [Hmn.out]; exact (List.getElem?_eq_some_iff.1 hq).1
        have hlt1 : ¬ (mn : Int) ≤ (i : Int) := by omega
        have hlt2 : (i : Int) < (mn : Int) := by omega
        have hi00 : (0 : Int) ≤ (i : Int) := by omega
        obtain ⟨b1, o1, ea, dh⟩ := hel.rd i (enT k q) (by rw [List.getElem?_map, hq]; rfl)
        subst ea
        have hrq := (hel.el q (List.mem_of_getElem? hq)).1
        have DY : Hid (∀ w2 : World, Below w.heap.size w w2 → (∀ j v, j < 10 → (enT k q).cs[j]? = some v → w2.cell? ⟨b1, o1 + i * 10 + j, none⟩ = some v) ∧ Rds k w2 q.1) := hid (fun w2 hb => ⟨fun j v hj hv => by
          have h1 := (dh j hj).trans hv
          exact (hb.cell (p := ⟨b1, o1 + i * 10 + j, none⟩) (World.block_lt_of_cell? w _ h1)).trans h1, Rds.below k hrq (Nat.le_refl _) hb⟩)
        obtain ⟨hq2, ehq2⟩ : ∃ h, h = hdT k q.1 := ⟨_, rfl⟩
        have Eh := hid ehq2
        have hcs : ∀ j v, ([.int .i64 hq2.kind, .int .i64 hq2.int, .string hq2.text, .int .i64 hq2.rc, .slice hq2.a hq2.n hq2.cap] : List Value)[j]? = some v → (enT k q).cs[j]? = some v := fun j v h => by
          rw [ehq2] at h
          have hj : j < 5 := by have := (List.getElem?_eq_some_iff.1 h).1; simpa using this
          show ([Value.int .i64 (hdT k q.1).kind, .int .i64 (hdT k q.1).int, .string (hdT k q.1).text, .int .i64 (hdT k q.1).rc, .slice (hdT k q.1).a (hdT k q.1).n (hdT k q.1).cap] ++ [Value.int .i64 (hdT k q.2).kind, .int .i64 (hdT k q.2).int, .string (hdT k q.2).text, .int .i64 (hdT k q.2).rc, .slice (hdT k q.2).a (hdT k q.2).n (hdT k q.2).cap])[j]? = some v
          rw [List.getElem?_append_left (by simpa using hj)]
          exact h
        have Hcs := hid hcs
        clear ehq2 hcs hq hel D dc dh hrq
        obtain ⟨yk, yi, yt, yr, ya, yn, yc⟩ := hq2
        go_enter Try.func20, Try.ntmps20
        go_upto_region 1 with fail
        rw [← hW0]
        clear hW0
        go_wp2_with (go_at_call 42; (refine (K42.out _ HB0.out).mono ?_; rintro e w1 ⟨rfl, hb1⟩; obtain ⟨c0', g2, bb⟩ := FX.out w1 hb1; have e0 := cellOf g2 0; have e1 := cellOf g2 1; have e2 := cellOf g2 2; have e3 := cellOf g2 3; have e4 := cellOf g2 4; have f0 := freeOf g2 0; have f1 := freeOf g2 1; have f2 := freeOf g2 2; have f3 := freeOf g2 3; have f4 := freeOf g2 4; simp only [List.getElem?_toArray, List.getElem?_cons_zero, List.getElem?_cons_succ] at e0 e1 e2 e3 e4; have G2 := hid g2; have BB := hid bb; clear g2 hb1; have x0 := DX.out w1 bb; obtain ⟨xd, xr⟩ := DY.out w1 bb; have d5 := xd 0 _ (by omega) (Hcs.out 0 _ rfl); have d6 := xd 1 _ (by omega) (Hcs.out 1 _ rfl); have d7 := xd 2 _ (by omega) (Hcs.out 2 _ rfl); have d8 := xd 3 _ (by omega) (Hcs.out 3 _ rfl); have d9 := xd 4 _ (by omega) (Hcs.out 4 _ rfl); simp only [Nat.add_zero] at d5 d6 d7 d8 d9; clear xd xr))
        have h5 := five_new G2.out ⟨yk, yi, yt, yr, ya, yn, yc⟩
        have hb5 : Below w.heap.size w (five w1 (w.heap.size + 1 + 1) 0 ⟨yk, yi, yt, yr, ya, yn, yc⟩) := five_below BB.out (by omega) _
        change bodyPost _ _ _ _ _ (five w1 (w.heap.size + 1 + 1) 0 ⟨yk, yi, yt, yr, ya, yn, yc⟩)
        have r0 := cellOf h5 0
        have r1 := cellOf h5 1
        have r2 := cellOf h5 2
        have r3 := cellOf h5 3
        have r4 := cellOf h5 4
        simp only [List.getElem?_toArray, List.getElem?_cons_zero, List.getElem?_cons_succ] at r0 r1 r2 r3 r4
        generalize five w1 (w.heap.size + 1 + 1) 0 ⟨yk, yi, yt, yr, ya, yn, yc⟩ = W5 at *
        refine bodyPost_ret (v := .tuple #[.agg #[.int .i64 yk, .int .i64 yi, .string yt, .int .i64 yr, .slice ya yn yc], .bool true]) (by simp [results, Try.results20, go_sem, r0, r1, r2, r3, r4]) rfl ⟨hb5, q.1, ?_, (DY.out W5 hb5).2, rfl⟩
        rw [← Eh.out]; rfl
    | true =>
      rw [hok] at K42
      simp only [if_true]
      have hw1 : IntKind.i64.wrap ((i : Int) + 1) = (i : Int) + 1 := by rw [IntKind.wrap_i64]; omega
      obtain ⟨i1, hi1'⟩ : ∃ i1, i1 = i + 1 := ⟨_, rfl⟩
      rw [← hi1']
      have hw2 : (i : Int) + 1 = (i1 : Int) := by omega
      have hw3 : IntKind.i64.wrap ((i : Int) + 1) = (i1 : Int) := by rw [hw1]; exact hw2
      clear hi1' hw1 hw2
      cases hq : mr[i1]? with
      | none =>
        have hge : mn ≤ i1 := by rw [Hmn.out]; exact List.getElem?_eq_none_iff.1 hq
        have hge1 : (mn : Int) ≤ (i1 : Int) := by omega
        clear hq hel D dc
        go_enter Try.func20, Try.ntmps20
        go_upto_region 1 with fail
        rw [← hW0]
        clear hW0
        go_wp2_with (go_at_call 42; (refine (K42.out _ HB0.out).mono ?_; rintro e w1 ⟨rfl, hb1⟩; obtain ⟨c0', g2, bb⟩ := FX.out w1 hb1; have e0 := cellOf g2 0; have e1 := cellOf g2 1; have e2 := cellOf g2 2; have e3 := cellOf g2 3; have e4 := cellOf g2 4; have f0 := freeOf g2 0; have f1 := freeOf g2 1; have f2 := freeOf g2 2; have f3 := freeOf g2 3; have f4 := freeOf g2 4; simp only [List.getElem?_toArray, List.getElem?_cons_zero, List.getElem?_cons_succ] at e0 e1 e2 e3 e4; have G2 := hid g2; have BB := hid bb; clear g2 hb1; have x0 := DX.out w1 bb))
        have h5 := five_new G2.out ⟨0, 0, ⟨#[]⟩, 0, none, 0, 0⟩
        have hb5 : Below w.heap.size w (five w1 (w.heap.size + 1 + 1) 0 ⟨0, 0, ⟨#[]⟩, 0, none, 0, 0⟩) := five_below BB.out (by omega) _
        change bodyPost _ _ _ _ _ (five w1 (w.heap.size + 1 + 1) 0 ⟨0, 0, ⟨#[]⟩, 0, none, 0, 0⟩)
        have r0 := cellOf h5 0
        have r1 := cellOf h5 1
        have r2 := cellOf h5 2
        have r3 := cellOf h5 3
        have r4 := cellOf h5 4
        simp only [List.getElem?_toArray, List.getElem?_cons_zero, List.getElem?_cons_succ] at r0 r1 r2 r3 r4
        generalize five w1 (w.heap.size + 1 + 1) 0 ⟨0, 0, ⟨#[]⟩, 0, none, 0, 0⟩ = W5 at *
        exact bodyPost_ret (v := .tuple #[.agg #[.int .i64 0, .int .i64 0, .string ⟨#[]⟩, .int .i64 0, .slice none 0 0], .bool false]) (by simp [results, Try.results20, go_sem, r0, r1, r2, r3, r4]) rfl ⟨hb5, rfl⟩
      | some q =>
        have hlt : i1 < mn := by rw [Hmn.out]; exact (List.getElem?_eq_some_iff.1 hq).1
        have hlt1 : ¬ (mn : Int) ≤ (i1 : Int) := by omega
        have hlt2 : (i1 : Int) < (mn : Int) := by omega
        have hi00 : (0 : Int) ≤ (i1 : Int) := by omega
        obtain ⟨b1, o1, ea, dh⟩ := hel.rd i1 (enT k q) (by rw [List.getElem?_map, hq]; rfl)
        subst ea
        have hrq := (hel.el q (List.mem_of_getElem? hq)).1
        have DY : Hid (∀ w2 : World, Below w.heap.size w w2 → (∀ j v, j < 10 → (enT k q).cs[j]? = some v → w2.cell? ⟨b1, o1 + i1 * 10 + j, none⟩ = some v) ∧ Rds k w2 q.1) := hid (fun w2 hb => ⟨fun j v hj hv => by
          have h1 := (dh j hj).trans hv
          exact (hb.cell (p := ⟨b1, o1 + i1 * 10 + j, none⟩) (World.block_lt_of_cell? w _ h1)).trans h1, Rds.below k hrq (Nat.le_refl _) hb⟩)
        obtain ⟨hq2, ehq2⟩ : ∃ h, h = hdT k q.1 := ⟨_, rfl⟩
        have Eh := hid ehq2
        have hcs : ∀ j v, ([.int .i64 hq2.kind, .int .i64 hq2.int, .string hq2.text, .int .i64 hq2.rc, .slice hq2.a hq2.n hq2.cap] : List Value)[j]? = some v → (enT k q).cs[j]? = some v := fun j v h => by
          rw [ehq2] at h
          have hj : j < 5 := by have := (List.getElem?_eq_some_iff.1 h).1; simpa using this
          show ([Value.int .i64 (hdT k q.1).kind, .int .i64 (hdT k q.1).int, .string (hdT k q.1).text, .int .i64 (hdT k q.1).rc, .slice (hdT k q.1).a (hdT k q.1).n (hdT k q.1).cap] ++ [Value.int .i64 (hdT k q.2).kind, .int .i64 (hdT k q.2).int, .string (hdT k q.2).text, .int .i64 (hdT k q.2).rc, .slice (hdT k q.2).a (hdT k q.2).n (hdT k q.2).cap])[j]? = some v
          rw [List.getElem?_append_left (by simpa using hj)]
          exact h
        have Hcs := hid hcs
        clear ehq2 hcs hq hel D dc dh hrq
        obtain ⟨yk, yi, yt, yr, ya, yn, yc⟩ := hq2
        go_enter Try.func20, Try.ntmps20
        go_upto_region 1 with fail
        rw [← hW0]
        clear hW0
        go_wp2_with (go_at_call 42; (refine (K42.out _ HB0.out).mono ?_; rintro e w1 ⟨rfl, hb1⟩; obtain ⟨c0', g2, bb⟩ := FX.out w1 hb1; have e0 := cellOf g2 0; have e1 := cellOf g2 1; have e2 := cellOf g2 2; have e3 := cellOf g2 3; have e4 := cellOf g2 4; have f0 := freeOf g2 0; have f1 := freeOf g2 1; have f2 := freeOf g2 2; have f3 := freeOf g2 3; have f4 := freeOf g2 4; simp only [List.getElem?_toArray, List.getElem?_cons_zero, List.getElem?_cons_succ] at e0 e1 e2 e3 e4; have G2 := hid g2; have BB := hid bb; clear g2 hb1; have x0 := DX.out w1 bb; obtain ⟨xd, xr⟩ := DY.out w1 bb; have d5 := xd 0 _ (by omega) (Hcs.out 0 _ rfl); have d6 := xd 1 _ (by omega) (Hcs.out 1 _ rfl); have d7 := xd 2 _ (by omega) (Hcs.out 2 _ rfl); have d8 := xd 3 _ (by omega) (Hcs.out 3 _ rfl); have d9 := xd 4 _ (by omega) (Hcs.out 4 _ rfl); simp only [Nat.add_zero] at d5 d6 d7 d8 d9; clear xd xr))
        have h5 := five_new G2.out ⟨yk, yi, yt, yr, ya, yn, yc⟩
        have hb5 : Below w.heap.size w (five w1 (w.heap.size + 1 + 1) 0 ⟨yk, yi, yt, yr, ya, yn, yc⟩) := five_below BB.out (by omega) _
        change bodyPost _ _ _ _ _ (five w1 (w.heap.size + 1 + 1) 0 ⟨yk, yi, yt, yr, ya, yn, yc⟩)
        have r0 := cellOf h5 0
        have r1 := cellOf h5 1
        have r2 := cellOf h5 2
        have r3 := cellOf h5 3
        have r4 := cellOf h5 4
        simp only [List.getElem?_toArray, List.getElem?_cons_zero, List.getElem?_cons_succ] at r0 r1 r2 r3 r4
        generalize five w1 (w.heap.size + 1 + 1) 0 ⟨yk, yi, yt, yr, ya, yn, yc⟩ = W5 at *
        refine bodyPost_ret (v := .tuple #[.agg #[.int .i64 yk, .int .i64 yi, .string yt, .int .i64 yr, .slice ya yn yc], .bool true]) (by simp [results, Try.results20, go_sem, r0, r1, r2, r3, r4]) rfl ⟨hb5, q.1, ?_, (DY.out W5 hb5).2, rfl⟩
        rw [← Eh.out]; rfl
end Go.Proofs.Ytenfgahedbeekaa
