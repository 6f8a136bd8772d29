/- The document's side: Get, Next. -/
import Derived.Test.YtenfgahedbeekaaJAV
namespace Go.Proofs.Ytenfgahedbeekaa
open Go.RowKit Go.Deep Go.Shelf
set_option linter.unusedVariables false
set_option linter.unusedSimpArgs false

/- A value told, in whatever memory; or none. -/
def RbP (k : Nat) (w : World) (c : Option (CT k)) (e : Ending) (w' : World) : Prop := Below w.heap.size w w' ∧ match c with
  | none => e = .returned (.tuple #[.agg #[.int .i64 0, .int .i64 0, .string ⟨#[]⟩, .int .i64 0, .slice none 0 0], .bool false])
  | some c => ∃ t : VT k, e = .returned (.tuple #[(hdT k t).v, .bool true]) ∧ Rds k w' t ∧ ofT k t = c

set_option maxRecDepth 100000 in
set_option maxHeartbeats 2000000 in
theorem refGet_any (k : Nat) (w : World) (sa : Option Addr) (sn sc : Nat) (ms : List (Sl × Rw k)) (hd : StR k w sa sn ms) (m : Int) (kt : VT k) (hk : Rds k w kt) :
    Calls Try.prog 18 #[.agg #[.slice sa sn sc], .int .i64 m, (hdT k kt).v] w (RbP k w (if (placeR (fun p => cmpT k p.1 kt) (rowAt ms m)).2 then ((rowAt ms m)[(placeR (fun p => cmpT k p.1 kt) (rowAt ms m)).1]?).map (fun p => ofT k p.2) else none)) := by
  have D := hid hd
  have Hn := hid hd.n1
  have hle := hd.n2
  have hle2 : (sn : Int) ≤ 1000 := by omega
  have hle0 : (0 : Int) ≤ (sn : Int) := by omega
  have K42 := hid (fun (w1 : World) (hb : Below w.heap.size w w1) => refAt_any k w1 sa sn sc ms (hd.below (Nat.le_refl _) hb) m kt (Rds.below k hk (Nat.le_refl _) hb))
  clear hd hk
  generalize hdT k kt = hkt at *
  obtain ⟨kk, ki, kx, kr, ka, kn, kc⟩ := hkt
  simp only [Hd.v] at K42 ⊢
  obtain ⟨W0, hW0⟩ : ∃ W0, W0 = ((w.alloc (.cells #[.slice sa sn sc] 27)).alloc (.cells #[.int .i64 kk, .int .i64 ki, .string kx, .int .i64 kr, .slice ka kn kc] 31)).alloc (.cells #[.int .i64 0, .int .i64 0, .string ⟨#[]⟩, .int .i64 0, .slice none 0 0] 31) := ⟨_, rfl⟩
  have pl' : ∀ {w : World} {o x : Obj} {k : Nat}, w.heap[k]? = some x → (w.alloc o).heap[k]? = some x := fun h => (Below.heap_alloc _ _ _ (Array.getElem?_eq_some_iff.1 h).1).trans h
  have n1 := heap_alloc_new w (.cells #[.slice sa sn sc] 27)
  have n2 := heap_alloc_new (w.alloc (.cells #[.slice sa sn sc] 27)) (.cells #[.int .i64 kk, .int .i64 ki, .string kx, .int .i64 kr, .slice ka kn kc] 31)
  have n3 := heap_alloc_new ((w.alloc (.cells #[.slice sa sn sc] 27)).alloc (.cells #[.int .i64 kk, .int .i64 ki, .string kx, .int .i64 kr, .slice ka kn kc] 31)) (.cells #[.int .i64 0, .int .i64 0, .string ⟨#[]⟩, .int .i64 0, .slice none 0 0] 31)
  simp only [World.size_alloc] at n2 n3
  have q1 : W0.heap[w.heap.size]? = some (.cells #[.slice sa sn sc] 27 (0, 0)) := by rw [hW0]; exact pl' (pl' n1)
  have q2 : W0.heap[w.heap.size + 1]? = some (.cells #[.int .i64 kk, .int .i64 ki, .string kx, .int .i64 kr, .slice ka kn kc] 31 (0, 0)) := by rw [hW0]; exact pl' n2
  have q3 : W0.heap[w.heap.size + 1 + 1]? = some (.cells #[.int .i64 0, .int .i64 0, .string ⟨#[]⟩, .int .i64 0, .slice none 0 0] 31 (0, 0)) := by rw [hW0]; exact n3
  have hb0 : Below w.heap.size w W0 := by rw [hW0]; exact (((Below.refl _ w).alloc (Nat.le_refl _) _).alloc (by simp) _).alloc (by simp; omega) _
  have FX : Hid (∀ w2 : World, Below W0.heap.size W0 w2 → w2.cell? ⟨w.heap.size, 0, none⟩ = some (.slice sa sn sc) ∧ w2.heap[w.heap.size + 1 + 1]? = some (.cells #[.int .i64 0, .int .i64 0, .string ⟨#[]⟩, .int .i64 0, .slice none 0 0] 31 (0, 0)) ∧ Below w.heap.size w w2) := hid (fun w2 hb => ⟨cellOf ((hb.block _ (Array.getElem?_eq_some_iff.1 q1).1).trans q1) 0, (hb.block _ (Array.getElem?_eq_some_iff.1 q3).1).trans q3, hb0.trans (hb.mono hb0.size)⟩)
  have c0 : W0.cell? ⟨w.heap.size, 0, none⟩ = some (.slice sa sn sc) := cellOf q1 0
  have k0 := cellOf q2 0
  have k1 := cellOf q2 1
  have k2 := cellOf q2 2
  have k3 := cellOf q2 3
  have k4 := cellOf q2 4
  have e0 := cellOf q3 0
  have e1 := cellOf q3 1
  have e2 := cellOf q3 2
  have e3 := cellOf q3 3
  have e4 := cellOf q3 4
  have f0 := freeOf q3 0
  have f1 := freeOf q3 1
  have f2 := freeOf q3 2
  have f3 := freeOf q3 3
  have f4 := freeOf q3 4
  simp only [List.getElem?_toArray, List.getElem?_cons_zero, List.getElem?_cons_succ] at k0 k1 k2 k3 k4 e0 e1 e2 e3 e4
  have HB0 := hid hb0
  have Q3 := hid q3
  clear q1 q2 q3 n1 n2 n3 pl' hb0
  obtain ⟨pl, hpl⟩ : ∃ pl, pl = placeR (fun p => cmpT k p.1 kt) (rowAt ms m) := ⟨_, rfl⟩
  rw [← hpl] at K42 ⊢
  cases hok : pl.2 with
  | false =>
    rw [hok] at K42
    simp only [Bool.false_eq_true, if_false]
    go_enter Try.func18, Try.ntmps18
    go_upto_region 1 with fail
    rw [← hW0]
    clear hW0
    go_wp2_with (go_at_call 42; (refine (K42.out _ HB0.out).mono ?_; rintro e w1 ⟨rfl, hb1⟩; obtain ⟨c0', g2, bb⟩ := FX.out w1 hb1; have e0 := cellOf g2 0; have e1 := cellOf g2 1; have e2 := cellOf g2 2; have e3 := cellOf g2 3; have e4 := cellOf g2 4; have f0 := freeOf g2 0; have f1 := freeOf g2 1; have f2 := freeOf g2 2; have f3 := freeOf g2 3; have f4 := freeOf g2 4; simp only [List.getElem?_toArray, List.getElem?_cons_zero, List.getElem?_cons_succ] at e0 e1 e2 e3 e4; have G2 := hid g2; have BB := hid bb; clear g2 hb1))
    have h5 := five_new G2.out ⟨0, 0, ⟨#[]⟩, 0, none, 0, 0⟩
    have hb5 : Below w.heap.size w (five w1 (w.heap.size + 1 + 1) 0 ⟨0, 0, ⟨#[]⟩, 0, none, 0, 0⟩) := five_below BB.out (by omega) _
    change bodyPost _ _ _ _ _ (five w1 (w.heap.size + 1 + 1) 0 ⟨0, 0, ⟨#[]⟩, 0, none, 0, 0⟩)
    have r0 := cellOf h5 0
    have r1 := cellOf h5 1
    have r2 := cellOf h5 2
    have r3 := cellOf h5 3
    have r4 := cellOf h5 4
    simp only [List.getElem?_toArray, List.getElem?_cons_zero, List.getElem?_cons_succ] at r0 r1 r2 r3 r4
    generalize five w1 (w.heap.size + 1 + 1) 0 ⟨0, 0, ⟨#[]⟩, 0, none, 0, 0⟩ = W5 at *
    exact bodyPost_ret (v := .tuple #[.agg #[.int .i64 0, .int .i64 0, .string ⟨#[]⟩, .int .i64 0, .slice none 0 0], .bool false]) (by simp [results, Try.results18, go_sem, r0, r1, r2, r3, r4]) rfl ⟨hb5, rfl⟩
  | true =>
    have hlt := placeR_lt (fun p => cmpT k p.1 kt) (rowAt ms m) (by rw [← hpl]; exact hok)
    rw [← hpl] at hlt
    have hok' := hok
    rw [hok] at K42
    simp only [if_true]
    have hm : 0 ≤ m ∧ m < (sn : Int) := by
      cases hh : hasB sn m with
      | false => rw [rowAt_no Hn.out hh] at hlt; simp at hlt
      | true => simpa [hasB] using hh
    obtain ⟨i0, rfl⟩ : ∃ i0 : Nat, m = (i0 : Int) := ⟨m.toNat, by omega⟩
    have hi0 := hm.1
    have hi1 := hm.2
    obtain ⟨p, hp⟩ : ∃ p, ms[i0]? = some p := ⟨ms[i0]'(by rw [← Hn.out]; omega), List.getElem?_eq_getElem _⟩
    rw [rowAt_yes hp] at hlt ⊢
    obtain ⟨b, off, ea, dc⟩ := D.out.rd i0 p.1 (by rw [List.getElem?_map, hp]; rfl)
    subst ea
    have hel := (D.out.el p (List.mem_of_getElem? hp)).1
    obtain ⟨⟨ma, mn, mc⟩, mr⟩ := p
    simp only [Sl.v] at dc
    simp only at hel hlt ⊢
    obtain ⟨i, hi⟩ : ∃ i, i = pl.1 := ⟨_, rfl⟩
    rw [← hi] at hlt K42 ⊢
    have Hmn := hid hel.n1
    have hmn2 := hel.n2
    rw [← Hmn.out] at hlt
    have hlt1 : (i : Int) < (mn : Int) := by omega
    have hi00 : (0 : Int) ≤ (i : Int) := by omega
    have hmn3 : (mn : Int) ≤ 1000 := by omega
    obtain ⟨q, hq⟩ : ∃ q, mr[i]? = some q := ⟨mr[i]'(by rw [← Hmn.out]; exact hlt), List.getElem?_eq_getElem _⟩
    rw [hq]
    obtain ⟨b1, o1, ea, dh⟩ := hel.rd i (enT k q) (by rw [List.getElem?_map, hq]; rfl)
    subst ea
    have hrq := (hel.el q (List.mem_of_getElem? hq)).2
    have DX : Hid (∀ w2 : World, Below w.heap.size w w2 → w2.cell? ⟨b, off + i0, none⟩ = some (.slice (some ⟨b1, o1, none⟩) mn mc) ∧ (∀ j v, j < 10 → (enT k q).cs[j]? = some v → w2.cell? ⟨b1, o1 + i * 10 + j, none⟩ = some v) ∧ Rds k w2 q.2) := hid (fun w2 hb => ⟨(hb.cell (p := ⟨b, off + i0, none⟩) (World.block_lt_of_cell? w _ dc)).trans dc, fun j v hj hv => by
      have h1 := (dh j hj).trans hv
      exact (hb.cell (p := ⟨b1, o1 + i * 10 + j, none⟩) (World.block_lt_of_cell? w _ h1)).trans h1, Rds.below k hrq (Nat.le_refl _) hb⟩)
    clear dc dh hrq hp hm hq hok hok' hpl hi hel D
    obtain ⟨hq2, ehq2⟩ : ∃ h, h = hdT k q.2 := ⟨_, rfl⟩
    have Eh := hid ehq2
    have hcs : ∀ j v, ([.int .i64 hq2.kind, .int .i64 hq2.int, .string hq2.text, .int .i64 hq2.rc, .slice hq2.a hq2.n hq2.cap] : List Value)[j]? = some v → (enT k q).cs[j + 5]? = some v := fun j v h => by rw [ehq2] at h; exact h
    have Hcs := hid hcs
    clear ehq2 hcs
    obtain ⟨yk, yi, yt, yr, ya, yn, yc⟩ := hq2
    go_enter Try.func18, Try.ntmps18
    go_upto_region 1 with fail
    rw [← hW0]
    clear hW0
    go_wp2_with (go_at_call 42; (refine (K42.out _ HB0.out).mono ?_; rintro e w1 ⟨rfl, hb1⟩; obtain ⟨c0', g2, bb⟩ := FX.out w1 hb1; have e0 := cellOf g2 0; have e1 := cellOf g2 1; have e2 := cellOf g2 2; have e3 := cellOf g2 3; have e4 := cellOf g2 4; have f0 := freeOf g2 0; have f1 := freeOf g2 1; have f2 := freeOf g2 2; have f3 := freeOf g2 3; have f4 := freeOf g2 4; simp only [List.getElem?_toArray, List.getElem?_cons_zero, List.getElem?_cons_succ] at e0 e1 e2 e3 e4; have G2 := hid g2; have BB := hid bb; clear g2 hb1; obtain ⟨x0, xd, xr⟩ := DX.out w1 bb; have d5 := xd 5 _ (by omega) (Hcs.out 0 _ rfl); have d6 := xd 6 _ (by omega) (Hcs.out 1 _ rfl); have d7 := xd 7 _ (by omega) (Hcs.out 2 _ rfl); have d8 := xd 8 _ (by omega) (Hcs.out 3 _ rfl); have d9 := xd 9 _ (by omega) (Hcs.out 4 _ rfl); simp only at d5 d6 d7 d8 d9; clear xd xr))
    have h5 := five_new G2.out ⟨yk, yi, yt, yr, ya, yn, yc⟩
    have hb5 : Below w.heap.size w (five w1 (w.heap.size + 1 + 1) 0 ⟨yk, yi, yt, yr, ya, yn, yc⟩) := five_below BB.out (by omega) _
    change bodyPost _ _ _ _ _ (five w1 (w.heap.size + 1 + 1) 0 ⟨yk, yi, yt, yr, ya, yn, yc⟩)
    have r0 := cellOf h5 0
    have r1 := cellOf h5 1
    have r2 := cellOf h5 2
    have r3 := cellOf h5 3
    have r4 := cellOf h5 4
    simp only [List.getElem?_toArray, List.getElem?_cons_zero, List.getElem?_cons_succ] at r0 r1 r2 r3 r4
    generalize five w1 (w.heap.size + 1 + 1) 0 ⟨yk, yi, yt, yr, ya, yn, yc⟩ = W5 at *
    refine bodyPost_ret (v := .tuple #[.agg #[.int .i64 yk, .int .i64 yi, .string yt, .int .i64 yr, .slice ya yn yc], .bool true]) (by simp [results, Try.results18, go_sem, r0, r1, r2, r3, r4]) rfl ⟨hb5, q.2, ?_, (DX.out W5 hb5).2.2, rfl⟩
    rw [← Eh.out]; rfl
end Go.Proofs.Ytenfgahedbeekaa

namespace Go.Proofs.Ytenfgahedbeekaa
open Go.RowKit Go.Deep Go.Shelf
set_option linter.unusedVariables false
set_option linter.unusedSimpArgs false

set_option maxRecDepth 100000 in
set_option maxHeartbeats 2000000 in
theorem refNext_any (k : Nat) (w : World) (sa : Option Addr) (sn sc : Nat) (ms : List (Sl × Rw k)) (hd : StR k w sa sn ms) (m : Int) (kt : VT k) (hk : Rds k w kt) :
    Calls Try.prog 20 #[.agg #[.slice sa sn sc], .int .i64 m, (hdT k kt).v] w (RbP k w ((rowAt ms m)[if (placeR (fun p => cmpT k p.1 kt) (rowAt ms m)).2 then (placeR (fun p => cmpT k p.1 kt) (rowAt ms m)).1 + 1 else (placeR (fun p => cmpT k p.1 kt) (rowAt ms m)).1]?.map (fun p => ofT k p.1))) := by
  have D := hid hd
  have Hn := hid hd.n1
  have hle := hd.n2
  have hle2 : (sn : Int) ≤ 1000 := by omega
  have hle0 : (0 : Int) ≤ (sn : Int) := by omega
  have K42 := hid (fun (w1 : World) (hb : Below w.heap.size w w1) => refAt_any k w1 sa sn sc ms (hd.below (Nat.le_refl _) hb) m kt (Rds.below k hk (Nat.le_refl _) hb))
  clear hd hk
  generalize hdT k kt = hkt at *
  obtain ⟨kk, ki, kx, kr, ka, kn, kc⟩ := hkt
  simp only [Hd.v] at K42 ⊢
  obtain ⟨W0, hW0⟩ : ∃ W0, W0 = ((w.alloc (.cells #[.slice sa sn sc] 27)).alloc (.cells #[.int .i64 kk, .int .i64 ki, .string kx, .int .i64 kr, .slice ka kn kc] 31)).alloc (.cells #[.int .i64 0, .int .i64 0, .string ⟨#[]⟩, .int .i64 0, .slice none 0 0] 31) := ⟨_, rfl⟩
  have pl' : ∀ {w : World} {o x : Obj} {k : Nat}, w.heap[k]? = some x → (w.alloc o).heap[k]? = some x := fun h => (Below.heap_alloc _ _ _ (Array.getElem?_eq_some_iff.1 h).1).trans h
  have n1 := heap_alloc_new w (.cells #[.slice sa sn sc] 27)
  have n2 := heap_alloc_new (w.alloc (.cells #[.slice sa sn sc] 27)) (.cells #[.int .i64 kk, .int .i64 ki, .string kx, .int .i64 kr, .slice ka kn kc] 31)
  have n3 := heap_alloc_new ((w.alloc (.cells #[.slice sa sn sc] 27)).alloc (.cells #[.int .i64 kk, .int .i64 ki, .string kx, .int .i64 kr, .slice ka kn kc] 31)) (.cells #[.int .i64 0, .int .i64 0, .string ⟨#[]⟩, .int .i64 0, .slice none 0 0] 31)
  simp only [World.size_alloc] at n2 n3
  have q1 : W0.heap[w.heap.size]? = some (.cells #[.slice sa sn sc] 27 (0, 0)) := by rw [hW0]; exact pl' (pl' n1)
  have q2 : W0.heap[w.heap.size + 1]? = some (.cells #[.int .i64 kk, .int .i64 ki, .string kx, .int .i64 kr, .slice ka kn kc] 31 (0, 0)) := by rw [hW0]; exact pl' n2
  have q3 : W0.heap[w.heap.size + 1 + 1]? = some (.cells #[.int .i64 0, .int .i64 0, .string ⟨#[]⟩, .int .i64 0, .slice none 0 0] 31 (0, 0)) := by rw [hW0]; exact n3
  have hb0 : Below w.heap.size w W0 := by rw [hW0]; exact (((Below.refl _ w).alloc (Nat.le_refl _) _).alloc (by simp) _).alloc (by simp; omega) _
  have FX : Hid (∀ w2 : World, Below W0.heap.size W0 w2 → w2.cell? ⟨w.heap.size, 0, none⟩ = some (.slice sa sn sc) ∧ w2.heap[w.heap.size + 1 + 1]? = some (.cells #[.int .i64 0, .int .i64 0, .string ⟨#[]⟩, .int .i64 0, .slice none 0 0] 31 (0, 0)) ∧ Below w.heap.size w w2) := hid (fun w2 hb => ⟨cellOf ((hb.block _ (Array.getElem?_eq_some_iff.1 q1).1).trans q1) 0, (hb.block _ (Array.getElem?_eq_some_iff.1 q3).1).trans q3, hb0.trans (hb.mono hb0.size)⟩)
  have c0 : W0.cell? ⟨w.heap.size, 0, none⟩ = some (.slice sa sn sc) := cellOf q1 0
  have k0 := cellOf q2 0
  have k1 := cellOf q2 1
  have k2 := cellOf q2 2
  have k3 := cellOf q2 3
  have k4 := cellOf q2 4
  have e0 := cellOf q3 0
  have e1 := cellOf q3 1
  have e2 := cellOf q3 2
  have e3 := cellOf q3 3
  have e4 := cellOf q3 4
  have f0 := freeOf q3 0
  have f1 := freeOf q3 1
  have f2 := freeOf q3 2
  have f3 := freeOf q3 3
  have f4 := freeOf q3 4
  simp only [List.getElem?_toArray, List.getElem?_cons_zero, List.getElem?_cons_succ] at k0 k1 k2 k3 k4 e0 e1 e2 e3 e4
  have HB0 := hid hb0
  have Q3 := hid q3
  clear q1 q2 q3 n1 n2 n3 pl' hb0
  cases hh : hasB sn m with
  | false =>
    rw [rowAt_no Hn.out hh]
    show Calls _ _ _ _ (RbP k w none)
    by_cases hm0 : m < 0
    · go_enter Try.func20, Try.ntmps20
      go_upto_region 1 with fail
      rw [← hW0]
      clear hW0
      go_wp2
      have h5 := five_new Q3.out ⟨0, 0, ⟨#[]⟩, 0, none, 0, 0⟩
      have hb5 : Below w.heap.size w (five W0 (w.heap.size + 1 + 1) 0 ⟨0, 0, ⟨#[]⟩, 0, none, 0, 0⟩) := five_below HB0.out (by omega) _
      change bodyPost _ _ _ _ _ (five W0 (w.heap.size + 1 + 1) 0 ⟨0, 0, ⟨#[]⟩, 0, none, 0, 0⟩)
      have r0 := cellOf h5 0
      have r1 := cellOf h5 1
      have r2 := cellOf h5 2
      have r3 := cellOf h5 3
      have r4 := cellOf h5 4
      simp only [List.getElem?_toArray, List.getElem?_cons_zero, List.getElem?_cons_succ] at r0 r1 r2 r3 r4
      generalize five W0 (w.heap.size + 1 + 1) 0 ⟨0, 0, ⟨#[]⟩, 0, none, 0, 0⟩ = W5 at *
      exact bodyPost_ret (v := .tuple #[.agg #[.int .i64 0, .int .i64 0, .string ⟨#[]⟩, .int .i64 0, .slice none 0 0], .bool false]) (by simp [results, Try.results20, go_sem, r0, r1, r2, r3, r4]) rfl ⟨hb5, rfl⟩
    · have hm1 : (sn : Int) ≤ m := by
        have : ¬ (0 ≤ m ∧ m < (sn : Int)) := by simpa [hasB] using hh
        omega
      go_enter Try.func20, Try.ntmps20
      go_upto_region 1 with fail
      rw [← hW0]
      clear hW0
      go_wp2
      have h5 := five_new Q3.out ⟨0, 0, ⟨#[]⟩, 0, none, 0, 0⟩
      have hb5 : Below w.heap.size w (five W0 (w.heap.size + 1 + 1) 0 ⟨0, 0, ⟨#[]⟩, 0, none, 0, 0⟩) := five_below HB0.out (by omega) _
      change bodyPost _ _ _ _ _ (five W0 (w.heap.size + 1 + 1) 0 ⟨0, 0, ⟨#[]⟩, 0, none, 0, 0⟩)
      have r0 := cellOf h5 0
      have r1 := cellOf h5 1
      have r2 := cellOf h5 2
      have r3 := cellOf h5 3
      have r4 := cellOf h5 4
      simp only [List.getElem?_toArray, List.getElem?_cons_zero, List.getElem?_cons_succ] at r0 r1 r2 r3 r4
      generalize five W0 (w.heap.size + 1 + 1) 0 ⟨0, 0, ⟨#[]⟩, 0, none, 0, 0⟩ = W5 at *
      exact bodyPost_ret (v := .tuple #[.agg #[.int .i64 0, .int .i64 0, .string ⟨#[]⟩, .int .i64 0, .slice none 0 0], .bool false]) (by simp [results, Try.results20, go_sem, r0, r1, r2, r3, r4]) rfl ⟨hb5, rfl⟩
  | true =>
    have hm : 0 ≤ m ∧ m < (sn : Int) := by simpa [hasB] using hh
    obtain ⟨i0, rfl⟩ : ∃ i0 : Nat, m = (i0 : Int) := ⟨m.toNat, by omega⟩
    have hi0 := hm.1
    have hi1 := hm.2
    have hi2 : ¬ (i0 : Int) < 0 := by omega
    have hi3 : ¬ (sn : Int) ≤ (i0 : Int) := by omega
    obtain ⟨p, hp⟩ : ∃ p, ms[i0]? = some p := ⟨ms[i0]'(by rw [← Hn.out]; omega), List.getElem?_eq_getElem _⟩
    rw [rowAt_yes hp]
    have hrp : rowAt ms (i0 : Int) = p.2 := rowAt_yes hp
    rw [hrp] at K42
    obtain ⟨b, off, ea, dc⟩ := D.out.rd i0 p.1 (by rw [List.getElem?_map, hp]; rfl)
    subst ea
    have hel := (D.out.el p (List.mem_of_getElem? hp)).1
    obtain ⟨⟨ma, mn, mc⟩, mr⟩ := p
    simp only [Sl.v] at dc
    simp only at hel K42 ⊢
    obtain ⟨pl, hpl⟩ : ∃ pl, pl = placeR (fun p => cmpT k p.1 kt) mr := ⟨_, rfl⟩
    rw [← hpl] at K42 ⊢
    have hple := placeR_le (fun p => cmpT k p.1 kt) mr
    rw [← hpl] at hple
    have Hmn := hid hel.n1
    have hmn2 := hel.n2
    rw [← Hmn.out] at hple
    have hmn3 : (mn : Int) ≤ 1000 := by omega
    have DX : Hid (∀ w2 : World, Below w.heap.size w w2 → w2.cell? ⟨b, off + i0, none⟩ = some (.slice ma mn mc)) := hid (fun w2 hb => (hb.cell (p := ⟨b, off + i0, none⟩) (World.block_lt_of_cell? w _ dc)).trans dc)
    obtain ⟨i, hi⟩ : ∃ i, i = pl.1 := ⟨_, rfl⟩
    rw [← hi] at hple K42 ⊢
    clear hp hm hh hrp hpl hi
    cases hok : pl.2 with
    | false =>
      rw [hok] at K42
      simp only [Bool.false_eq_true, if_false]
      cases hq : mr[i]? with
      | none =>
        have hge : mn ≤ i := by rw [Hmn.out]; exact List.getElem?_eq_none_iff.1 hq
        have hge1 : (mn : Int) ≤ (i : Int) := by omega
        clear hq hel D dc
        go_enter Try.func20, Try.ntmps20
        go_upto_region 1 with fail
        rw [← hW0]
        clear hW0
        go_wp2_with (go_at_call 42; (refine (K42.out _ HB0.out).mono ?_; rintro e w1 ⟨rfl, hb1⟩; obtain ⟨c0', g2, bb⟩ := FX.out w1 hb1; have e0 := cellOf g2 0; have e1 := cellOf g2 1; have e2 := cellOf g2 2; have e3 := cellOf g2 3; have e4 := cellOf g2 4; have f0 := freeOf g2 0; have f1 := freeOf g2 1; have f2 := freeOf g2 2; have f3 := freeOf g2 3; have f4 := freeOf g2 4; simp only [List.getElem?_toArray, List.getElem?_cons_zero, List.getElem?_cons_succ] at e0 e1 e2 e3 e4; have G2 := hid g2; have BB := hid bb; clear g2 hb1; have x0 := DX.out w1 bb))
        have h5 := five_new G2.out ⟨0, 0, ⟨#[]⟩, 0, none, 0, 0⟩
        have hb5 : Below w.heap.size w (five w1 (w.heap.size + 1 + 1) 0 ⟨0, 0, ⟨#[]⟩, 0, none, 0, 0⟩) := five_below BB.out (by omega) _
        change bodyPost _ _ _ _ _ (five w1 (w.heap.size + 1 + 1) 0 ⟨0, 0, ⟨#[]⟩, 0, none, 0, 0⟩)
        have r0 := cellOf h5 0
        have r1 := cellOf h5 1
        have r2 := cellOf h5 2
        have r3 := cellOf h5 3
        have r4 := cellOf h5 4
        simp only [List.getElem?_toArray, List.getElem?_cons_zero, List.getElem?_cons_succ] at r0 r1 r2 r3 r4
        generalize five w1 (w.heap.size + 1 + 1) 0 ⟨0, 0, ⟨#[]⟩, 0, none, 0, 0⟩ = W5 at *
        exact bodyPost_ret (v := .tuple #[.agg #[.int .i64 0, .int .i64 0, .string ⟨#[]⟩, .int .i64 0, .slice none 0 0], .bool false]) (by simp [results, Try.results20, go_sem, r0, r1, r2, r3, r4]) rfl ⟨hb5, rfl⟩
      | some q =>
        have hlt : i < mn := by rw [Hmn.out]; exact (List.getElem?_eq_some_iff.1 hq).1
        have hlt1 : ¬ (mn : Int) ≤ (i : Int) := by omega
        have hlt2 : (i : Int) < (mn : Int) := by omega
        have hi00 : (0 : Int) ≤ (i : Int) := by omega
        obtain ⟨b1, o1, ea, dh⟩ := hel.rd i (enT k q) (by rw [List.getElem?_map, hq]; rfl)
        subst ea
        have hrq := (hel.el q (List.mem_of_getElem? hq)).1
        have DY : Hid (∀ w2 : World, Below w.heap.size w w2 → (∀ j v, j < 10 → (enT k q).cs[j]? = some v → w2.cell? ⟨b1, o1 + i * 10 + j, none⟩ = some v) ∧ Rds k w2 q.1) := hid (fun w2 hb => ⟨fun j v hj hv => by
          have h1 := (dh j hj).trans hv
          exact (hb.cell (p := ⟨b1, o1 + i * 10 + j, none⟩) (World.block_lt_of_cell? w _ h1)).trans h1, Rds.below k hrq (Nat.le_refl _) hb⟩)
        obtain ⟨hq2, ehq2⟩ : ∃ h, h = hdT k q.1 := ⟨_, rfl⟩
        have Eh := hid ehq2
        have hcs : ∀ j v, ([.int .i64 hq2.kind, .int .i64 hq2.int, .string hq2.text, .int .i64 hq2.rc, .slice hq2.a hq2.n hq2.cap] : List Value)[j]? = some v → (enT k q).cs[j]? = some v := fun j v h => by
          rw [ehq2] at h
          have hj : j < 5 := by have := (List.getElem?_eq_some_iff.1 h).1; simpa using this
          show ([Value.int .i64 (hdT k q.1).kind, .int .i64 (hdT k q.1).int, .string (hdT k q.1).text, .int .i64 (hdT k q.1).rc, .slice (hdT k q.1).a (hdT k q.1).n (hdT k q.1).cap] ++ [Value.int .i64 (hdT k q.2).kind, .int .i64 (hdT k q.2).int, .string (hdT k q.2).text, .int .i64 (hdT k q.2).rc, .slice (hdT k q.2).a (hdT k q.2).n (hdT k q.2).cap])[j]? = some v
          rw [List.getElem?_append_left (by simpa using hj)]
          exact h
        have Hcs := hid hcs
        clear ehq2 hcs hq hel D dc dh hrq
        obtain ⟨yk, yi, yt, yr, ya, yn, yc⟩ := hq2
        go_enter Try.func20, Try.ntmps20
        go_upto_region 1 with fail
        rw [← hW0]
        clear hW0
        go_wp2_with (go_at_call 42; (refine (K42.out _ HB0.out).mono ?_; rintro e w1 ⟨rfl, hb1⟩; obtain ⟨c0', g2, bb⟩ := FX.out w1 hb1; have e0 := cellOf g2 0; have e1 := cellOf g2 1; have e2 := cellOf g2 2; have e3 := cellOf g2 3; have e4 := cellOf g2 4; have f0 := freeOf g2 0; have f1 := freeOf g2 1; have f2 := freeOf g2 2; have f3 := freeOf g2 3; have f4 := freeOf g2 4; simp only [List.getElem?_toArray, List.getElem?_cons_zero, List.getElem?_cons_succ] at e0 e1 e2 e3 e4; have G2 := hid g2; have BB := hid bb; clear g2 hb1; have x0 := DX.out w1 bb; obtain ⟨xd, xr⟩ := DY.out w1 bb; have d5 := xd 0 _ (by omega) (Hcs.out 0 _ rfl); have d6 := xd 1 _ (by omega) (Hcs.out 1 _ rfl); have d7 := xd 2 _ (by omega) (Hcs.out 2 _ rfl); have d8 := xd 3 _ (by omega) (Hcs.out 3 _ rfl); have d9 := xd 4 _ (by omega) (Hcs.out 4 _ rfl); simp only [Nat.add_zero] at d5 d6 d7 d8 d9; clear xd xr))
        have h5 := five_new G2.out ⟨yk, yi, yt, yr, ya, yn, yc⟩
        have hb5 : Below w.heap.size w (five w1 (w.heap.size + 1 + 1) 0 ⟨yk, yi, yt, yr, ya, yn, yc⟩) := five_below BB.out (by omega) _
        change bodyPost _ _ _ _ _ (five w1 (w.heap.size + 1 + 1) 0 ⟨yk, yi, yt, yr, ya, yn, yc⟩)
        have r0 := cellOf h5 0
        have r1 := cellOf h5 1
        have r2 := cellOf h5 2
        have r3 := cellOf h5 3
        have r4 := cellOf h5 4
        simp only [List.getElem?_toArray, List.getElem?_cons_zero, List.getElem?_cons_succ] at r0 r1 r2 r3 r4
        generalize five w1 (w.heap.size + 1 + 1) 0 ⟨yk, yi, yt, yr, ya, yn, yc⟩ = W5 at *
        refine bodyPost_ret (v := .tuple #[.agg #[.int .i64 yk, .int .i64 yi, .string yt, .int .i64 yr, .slice ya yn yc], .bool true]) (by simp [results, Try.results20, go_sem, r0, r1, r2, r3, r4]) rfl ⟨hb5, q.1, ?_, (DY.out W5 hb5).2, rfl⟩
        rw [← Eh.out]; rfl
    | true =>
      rw [hok] at K42
      simp only [if_true]
      have hw1 : IntKind.i64.wrap ((i : Int) + 1) = (i : Int) + 1 := by rw [IntKind.wrap_i64]; omega
      obtain ⟨i1, hi1'⟩ : ∃ i1, i1 = i + 1 := ⟨_, rfl⟩
      rw [← hi1']
      have hw2 : (i : Int) + 1 = (i1 : Int) := by omega
      have hw3 : IntKind.i64.wrap ((i : Int) + 1) = (i1 : Int) := by rw [hw1]; exact hw2
      clear hi1' hw1 hw2
      cases hq : mr[i1]? with
      | none =>
        have hge : mn ≤ i1 := by rw [Hmn.out]; exact List.getElem?_eq_none_iff.1 hq
        have hge1 : (mn : Int) ≤ (i1 : Int) := by omega
        clear hq hel D dc
        go_enter Try.func20, Try.ntmps20
        go_upto_region 1 with fail
        rw [← hW0]
        clear hW0
        go_wp2_with (go_at_call 42; (refine (K42.out _ HB0.out).mono ?_; rintro e w1 ⟨rfl, hb1⟩; obtain ⟨c0', g2, bb⟩ := FX.out w1 hb1; have e0 := cellOf g2 0; have e1 := cellOf g2 1; have e2 := cellOf g2 2; have e3 := cellOf g2 3; have e4 := cellOf g2 4; have f0 := freeOf g2 0; have f1 := freeOf g2 1; have f2 := freeOf g2 2; have f3 := freeOf g2 3; have f4 := freeOf g2 4; simp only [List.getElem?_toArray, List.getElem?_cons_zero, List.getElem?_cons_succ] at e0 e1 e2 e3 e4; have G2 := hid g2; have BB := hid bb; clear g2 hb1; have x0 := DX.out w1 bb))
        have h5 := five_new G2.out ⟨0, 0, ⟨#[]⟩, 0, none, 0, 0⟩
        have hb5 : Below w.heap.size w (five w1 (w.heap.size + 1 + 1) 0 ⟨0, 0, ⟨#[]⟩, 0, none, 0, 0⟩) := five_below BB.out (by omega) _
        change bodyPost _ _ _ _ _ (five w1 (w.heap.size + 1 + 1) 0 ⟨0, 0, ⟨#[]⟩, 0, none, 0, 0⟩)
        have r0 := cellOf h5 0
        have r1 := cellOf h5 1
        have r2 := cellOf h5 2
        have r3 := cellOf h5 3
        have r4 := cellOf h5 4
        simp only [List.getElem?_toArray, List.getElem?_cons_zero, List.getElem?_cons_succ] at r0 r1 r2 r3 r4
        generalize five w1 (w.heap.size + 1 + 1) 0 ⟨0, 0, ⟨#[]⟩, 0, none, 0, 0⟩ = W5 at *
        exact bodyPost_ret (v := .tuple #[.agg #[.int .i64 0, .int .i64 0, .string ⟨#[]⟩, .int .i64 0, .slice none 0 0], .bool false]) (by simp [results, Try.results20, go_sem, r0, r1, r2, r3, r4]) rfl ⟨hb5, rfl⟩
      | some q =>
        have hlt : i1 < mn := by rw [Hmn.out]; exact (List.getElem?_eq_some_iff.1 hq).1
        have hlt1 : ¬ (mn : Int) ≤ (i1 : Int) := by omega
        have hlt2 : (i1 : Int) < (mn : Int) := by omega
        have hi00 : (0 : Int) ≤ (i1 : Int) := by omega
        obtain ⟨b1, o1, ea, dh⟩ := hel.rd i1 (enT k q) (by rw [List.getElem?_map, hq]; rfl)
        subst ea
        have hrq := (hel.el q (List.mem_of_getElem? hq)).1
        have DY : Hid (∀ w2 : World, Below w.heap.size w w2 → (∀ j v, j < 10 → (enT k q).cs[j]? = some v → w2.cell? ⟨b1, o1 + i1 * 10 + j, none⟩ = some v) ∧ Rds k w2 q.1) := hid (fun w2 hb => ⟨fun j v hj hv => by
          have h1 := (dh j hj).trans hv
          exact (hb.cell (p := ⟨b1, o1 + i1 * 10 + j, none⟩) (World.block_lt_of_cell? w _ h1)).trans h1, Rds.below k hrq (Nat.le_refl _) hb⟩)
        obtain ⟨hq2, ehq2⟩ : ∃ h, h = hdT k q.1 := ⟨_, rfl⟩
        have Eh := hid ehq2
        have hcs : ∀ j v, ([.int .i64 hq2.kind, .int .i64 hq2.int, .string hq2.text, .int .i64 hq2.rc, .slice hq2.a hq2.n hq2.cap] : List Value)[j]? = some v → (enT k q).cs[j]? = some v := fun j v h => by
          rw [ehq2] at h
          have hj : j < 5 := by have := (List.getElem?_eq_some_iff.1 h).1; simpa using this
          show ([Value.int .i64 (hdT k q.1).kind, .int .i64 (hdT k q.1).int, .string (hdT k q.1).text, .int .i64 (hdT k q.1).rc, .slice (hdT k q.1).a (hdT k q.1).n (hdT k q.1).cap] ++ [Value.int .i64 (hdT k q.2).kind, .int .i64 (hdT k q.2).int, .string (hdT k q.2).text, .int .i64 (hdT k q.2).rc, .slice (hdT k q.2).a (hdT k q.2).n (hdT k q.2).cap])[j]? = some v
          rw [List.getElem?_append_left (by simpa using hj)]
          exact h
        have Hcs := hid hcs
        clear ehq2 hcs hq hel D dc dh hrq
        obtain ⟨yk, yi, yt, yr, ya, yn, yc⟩ := hq2
        go_enter Try.func20, Try.ntmps20
        go_upto_region 1 with fail
        rw [← hW0]
        clear hW0
        go_wp2_with (go_at_call 42; (refine (K42.out _ HB0.out).mono ?_; rintro e w1 ⟨rfl, hb1⟩; obtain ⟨c0', g2, bb⟩ := FX.out w1 hb1; have e0 := cellOf g2 0; have e1 := cellOf g2 1; have e2 := cellOf g2 2; have e3 := cellOf g2 3; have e4 := cellOf g2 4; have f0 := freeOf g2 0; have f1 := freeOf g2 1; have f2 := freeOf g2 2; have f3 := freeOf g2 3; have f4 := freeOf g2 4; simp only [List.getElem?_toArray, List.getElem?_cons_zero, List.getElem?_cons_succ] at e0 e1 e2 e3 e4; have G2 := hid g2; have BB := hid bb; clear g2 hb1; have x0 := DX.out w1 bb; obtain ⟨xd, xr⟩ := DY.out w1 bb; have d5 := xd 0 _ (by omega) (Hcs.out 0 _ rfl); have d6 := xd 1 _ (by omega) (Hcs.out 1 _ rfl); have d7 := xd 2 _ (by omega) (Hcs.out 2 _ rfl); have d8 := xd 3 _ (by omega) (Hcs.out 3 _ rfl); have d9 := xd 4 _ (by omega) (Hcs.out 4 _ rfl); simp only [Nat.add_zero] at d5 d6 d7 d8 d9; clear xd xr))
        have h5 := five_new G2.out ⟨yk, yi, yt, yr, ya, yn, yc⟩
        have hb5 : Below w.heap.size w (five w1 (w.heap.size + 1 + 1) 0 ⟨yk, yi, yt, yr, ya, yn, yc⟩) := five_below BB.out (by omega) _
        change bodyPost _ _ _ _ _ (five w1 (w.heap.size + 1 + 1) 0 ⟨yk, yi, yt, yr, ya, yn, yc⟩)
        have r0 := cellOf h5 0
        have r1 := cellOf h5 1
        have r2 := cellOf h5 2
        have r3 := cellOf h5 3
        have r4 := cellOf h5 4
        simp only [List.getElem?_toArray, List.getElem?_cons_zero, List.getElem?_cons_succ] at r0 r1 r2 r3 r4
        generalize five w1 (w.heap.size + 1 + 1) 0 ⟨yk, yi, yt, yr, ya, yn, yc⟩ = W5 at *
        refine bodyPost_ret (v := .tuple #[.agg #[.int .i64 yk, .int .i64 yi, .string yt, .int .i64 yr, .slice ya yn yc], .bool true]) (by simp [results, Try.results20, go_sem, r0, r1, r2, r3, r4]) rfl ⟨hb5, q.1, ?_, (DY.out W5 hb5).2, rfl⟩
        rw [← Eh.out]; rfl
end Go.Proofs.Ytenfgahedbeekaa

namespace Go.Proofs.Ytenfgahedbeekaa
open Go.RowKit Go.Deep Go.Shelf
set_option linter.unusedVariables false
set_option linter.unusedSimpArgs false

set_option maxRecDepth 100000 in
set_option maxHeartbeats 2000000 in
theorem refFirst_any (k : Nat) (w : World) (sa : Option Addr) (sn sc : Nat) (ms : List (Sl × Rw k)) (hd : StR k w sa sn ms) (m : Int) :
    Calls Try.prog 22 #[.agg #[.slice sa sn sc], .int .i64 m] w (RbP k w ((rowAt ms m).head?.map fun p => ofT k p.1)) := by
  have D := hid hd
  have Hn := hid hd.n1
  have hle := hd.n2
  have hle2 : (sn : Int) ≤ 1000 := by omega
  have hle0 : (0 : Int) ≤ (sn : Int) := by omega
  clear hd
  obtain ⟨W0, hW0⟩ : ∃ W0, W0 = (w.alloc (.cells #[.slice sa sn sc] 27)).alloc (.cells #[.int .i64 0, .int .i64 0, .string ⟨#[]⟩, .int .i64 0, .slice none 0 0] 31) := ⟨_, rfl⟩
  have q1 : W0.heap[w.heap.size]? = some (.cells #[.slice sa sn sc] 27 (0, 0)) := by rw [hW0]; exact (Below.heap_alloc _ _ _ (by simp)).trans (heap_alloc_new w _)
  have q3 : W0.heap[w.heap.size + 1]? = some (.cells #[.int .i64 0, .int .i64 0, .string ⟨#[]⟩, .int .i64 0, .slice none 0 0] 31 (0, 0)) := by
    have := heap_alloc_new (w.alloc (.cells #[.slice sa sn sc] 27)) (.cells #[.int .i64 0, .int .i64 0, .string ⟨#[]⟩, .int .i64 0, .slice none 0 0] 31)
    rw [World.size_alloc] at this
    rw [hW0]; exact this
  have hb0 : Below w.heap.size w W0 := by rw [hW0]; exact boxes2 _ _ _ _ _
  have c0 : W0.cell? ⟨w.heap.size, 0, none⟩ = some (.slice sa sn sc) := cellOf q1 0
  have e0 := cellOf q3 0
  have e1 := cellOf q3 1
  have e2 := cellOf q3 2
  have e3 := cellOf q3 3
  have e4 := cellOf q3 4
  have f0 := freeOf q3 0
  have f1 := freeOf q3 1
  have f2 := freeOf q3 2
  have f3 := freeOf q3 3
  have f4 := freeOf q3 4
  simp only [List.getElem?_toArray, List.getElem?_cons_zero, List.getElem?_cons_succ] at e0 e1 e2 e3 e4
  have HB0 := hid hb0
  have Q3 := hid q3
  clear q1 q3 hb0
  have NN : Hid (∀ e, e = Ending.returned (.tuple #[.agg #[.int .i64 0, .int .i64 0, .string ⟨#[]⟩, .int .i64 0, .slice none 0 0], .bool false]) → RbP k w none e (five W0 (w.heap.size + 1) 0 ⟨0, 0, ⟨#[]⟩, 0, none, 0, 0⟩)) := hid (fun e he => ⟨five_below HB0.out (by omega) _, he⟩)
  have h5 := five_new Q3.out ⟨0, 0, ⟨#[]⟩, 0, none, 0, 0⟩
  have H5 := hid h5
  clear h5
  cases hh : hasB sn m with
  | false =>
    rw [rowAt_no Hn.out hh]
    show Calls _ _ _ _ (RbP k w none)
    by_cases hm0 : m < 0
    · go_enter Try.func22, Try.ntmps22
      go_upto_region 1 with fail
      rw [← hW0]
      clear hW0
      go_wp2
      change bodyPost _ _ _ _ _ (five W0 (w.heap.size + 1) 0 ⟨0, 0, ⟨#[]⟩, 0, none, 0, 0⟩)
      have h5 := H5.out
      have r0 := cellOf h5 0
      have r1 := cellOf h5 1
      have r2 := cellOf h5 2
      have r3 := cellOf h5 3
      have r4 := cellOf h5 4
      simp only [List.getElem?_toArray, List.getElem?_cons_zero, List.getElem?_cons_succ] at r0 r1 r2 r3 r4
      generalize five W0 (w.heap.size + 1) 0 ⟨0, 0, ⟨#[]⟩, 0, none, 0, 0⟩ = W5 at *
      exact bodyPost_ret (v := .tuple #[.agg #[.int .i64 0, .int .i64 0, .string ⟨#[]⟩, .int .i64 0, .slice none 0 0], .bool false]) (by simp [results, Try.results22, go_sem, r0, r1, r2, r3, r4]) rfl (NN.out _ rfl)
    · have hm1 : (sn : Int) ≤ m := by
        have : ¬ (0 ≤ m ∧ m < (sn : Int)) := by simpa [hasB] using hh
        omega
      go_enter Try.func22, Try.ntmps22
      go_upto_region 1 with fail
      rw [← hW0]
      clear hW0
      go_wp2
      change bodyPost _ _ _ _ _ (five W0 (w.heap.size + 1) 0 ⟨0, 0, ⟨#[]⟩, 0, none, 0, 0⟩)
      have h5 := H5.out
      have r0 := cellOf h5 0
      have r1 := cellOf h5 1
      have r2 := cellOf h5 2
      have r3 := cellOf h5 3
      have r4 := cellOf h5 4
      simp only [List.getElem?_toArray, List.getElem?_cons_zero, List.getElem?_cons_succ] at r0 r1 r2 r3 r4
      generalize five W0 (w.heap.size + 1) 0 ⟨0, 0, ⟨#[]⟩, 0, none, 0, 0⟩ = W5 at *
      exact bodyPost_ret (v := .tuple #[.agg #[.int .i64 0, .int .i64 0, .string ⟨#[]⟩, .int .i64 0, .slice none 0 0], .bool false]) (by simp [results, Try.results22, go_sem, r0, r1, r2, r3, r4]) rfl (NN.out _ rfl)
  | true =>
    have hm : 0 ≤ m ∧ m < (sn : Int) := by simpa [hasB] using hh
    obtain ⟨i0, rfl⟩ : ∃ i0 : Nat, m = (i0 : Int) := ⟨m.toNat, by omega⟩
    have hi0 := hm.1
    have hi1 := hm.2
    have hi2 : ¬ (i0 : Int) < 0 := by omega
    have hi3 : ¬ (sn : Int) ≤ (i0 : Int) := by omega
    obtain ⟨p, hp⟩ : ∃ p, ms[i0]? = some p := ⟨ms[i0]'(by rw [← Hn.out]; omega), List.getElem?_eq_getElem _⟩
    rw [rowAt_yes hp]
    obtain ⟨b, off, ea, dc⟩ := D.out.rd i0 p.1 (by rw [List.getElem?_map, hp]; rfl)
    subst ea
    have hel := (D.out.el p (List.mem_of_getElem? hp)).1
    obtain ⟨⟨ma, mn, mc⟩, mr⟩ := p
    simp only [Sl.v] at dc
    simp only at hel ⊢
    have dc0 : W0.cell? ⟨b, off + i0, none⟩ = some (.slice ma mn mc) := (HB0.out.cell (p := ⟨b, off + i0, none⟩) (World.block_lt_of_cell? w _ dc)).trans dc
    have hmn1 := hel.n1
    have hmn2 := hel.n2
    clear hp hm hh dc D
    cases mr with
    | nil =>
      show Calls _ _ _ _ (RbP k w none)
      have hmn0 : mn = 0 := hmn1
      clear hel hmn1 hmn2
      subst hmn0
      go_enter Try.func22, Try.ntmps22
      go_upto_region 1 with fail
      rw [← hW0]
      clear hW0
      go_wp2
      change bodyPost _ _ _ _ _ (five W0 (w.heap.size + 1) 0 ⟨0, 0, ⟨#[]⟩, 0, none, 0, 0⟩)
      have h5 := H5.out
      have r0 := cellOf h5 0
      have r1 := cellOf h5 1
      have r2 := cellOf h5 2
      have r3 := cellOf h5 3
      have r4 := cellOf h5 4
      simp only [List.getElem?_toArray, List.getElem?_cons_zero, List.getElem?_cons_succ] at r0 r1 r2 r3 r4
      generalize five W0 (w.heap.size + 1) 0 ⟨0, 0, ⟨#[]⟩, 0, none, 0, 0⟩ = W5 at *
      exact bodyPost_ret (v := .tuple #[.agg #[.int .i64 0, .int .i64 0, .string ⟨#[]⟩, .int .i64 0, .slice none 0 0], .bool false]) (by simp [results, Try.results22, go_sem, r0, r1, r2, r3, r4]) rfl (NN.out _ rfl)
    | cons q mr' =>
      have hmp : 0 < mn := by rw [hmn1]; simp
      have hmp1 : (0 : Int) < (mn : Int) := by omega
      have hmp2 : ¬ (mn : Int) = 0 := by omega
      have hmp3 : ((mn : Int) == 0) = false := by simpa using hmp2
      have hmp4 : ¬ mn = 0 := by omega
      obtain ⟨b1, o1, ea, dh⟩ := hel.rd 0 (enT k q) rfl
      subst ea
      have hrq := (hel.el q (List.mem_cons_self)).1
      have hl : ∀ (p : Addr) (v : Value), w.cell? p = some v → W0.cell? p = some v := fun p v h => (HB0.out.cell (World.block_lt_of_cell? w p h)).trans h
      have d0 := hl _ _ (dh 0 (by omega))
      have d1 := hl _ _ (dh 1 (by omega))
      have d2 := hl _ _ (dh 2 (by omega))
      have d3 := hl _ _ (dh 3 (by omega))
      have d4 := hl _ _ (dh 4 (by omega))
      simp only [En.cs, enT, List.getElem?_cons_zero, List.getElem?_cons_succ, Nat.add_zero, Nat.zero_mul] at d0 d1 d2 d3 d4
      have HRQ := hid hrq
      obtain ⟨hq2, ehq2⟩ : ∃ h, h = hdT k q.1 := ⟨_, rfl⟩
      have Eh := hid ehq2
      rw [← ehq2] at d0 d1 d2 d3 d4
      clear ehq2 dh hl hel hrq hmn1
      obtain ⟨yk, yi, yt, yr, ya, yn, yc⟩ := hq2
      simp only at d0 d1 d2 d3 d4
      go_enter Try.func22, Try.ntmps22
      go_upto_region 1 with fail
      rw [← hW0]
      clear hW0
      go_wp2
      have h6 := five_new Q3.out ⟨yk, yi, yt, yr, ya, yn, yc⟩
      have hb6 : Below w.heap.size w (five W0 (w.heap.size + 1) 0 ⟨yk, yi, yt, yr, ya, yn, yc⟩) := five_below HB0.out (by omega) _
      change bodyPost _ _ _ _ _ (five W0 (w.heap.size + 1) 0 ⟨yk, yi, yt, yr, ya, yn, yc⟩)
      have r0 := cellOf h6 0
      have r1 := cellOf h6 1
      have r2 := cellOf h6 2
      have r3 := cellOf h6 3
      have r4 := cellOf h6 4
      simp only [List.getElem?_toArray, List.getElem?_cons_zero, List.getElem?_cons_succ] at r0 r1 r2 r3 r4
      generalize five W0 (w.heap.size + 1) 0 ⟨yk, yi, yt, yr, ya, yn, yc⟩ = W5 at *
      refine bodyPost_ret (v := .tuple #[.agg #[.int .i64 yk, .int .i64 yi, .string yt, .int .i64 yr, .slice ya yn yc], .bool true]) (by simp [results, Try.results22, go_sem, r0, r1, r2, r3, r4]) rfl ⟨hb6, q.1, ?_, Rds.below k HRQ.out (Nat.le_refl _) hb6, rfl⟩
      rw [← Eh.out]; rfl
end Go.Proofs.Ytenfgahedbeekaa

namespace Go.Proofs.Ytenfgahedbeekaa
open Go.RowKit Go.Deep Go.Shelf
set_option linter.unusedVariables false
set_option linter.unusedSimpArgs false

/- One more: a copy made (wr to w9), a box (w9.alloc), the row grown (to w10). -/
theorem CpL.more0 {k : Nat} {w wr w9 w10 : World} {h : Hd} {us : List (VT k)} {i : Nat} {fa : Option Addr} {fn fc : Nat} {vs : List (VT k)} {v2 : Value} {u v : VT k} {o2 : Obj} (c : CpL k w wr h us i fa fn fc vs) (hu : us[i]? = some u)
    (h9 : Below wr.heap.size wr w9) (hv : RdP k w9 (fun b => wr.heap.size ≤ b ∧ b < w9.heap.size) v) (he : ofT k v = ofT k u)
    (hr : VRow w10 (w.heap.size + 2) v2 (vs.map (hdT k) ++ [hdT k v])) (hg : Grw (w9.alloc o2) (.slice fa fn fc) w10 v2) :
    ∃ fa2 fn2 fc2, v2 = .slice fa2 fn2 fc2 ∧ CpL k w w10 h us (i + 1) fa2 fn2 fc2 (vs ++ [v]) := by
  obtain ⟨fa2, fc2, e, _⟩ := hr.form
  have hsz := c.sz
  have hA : Below wr.heap.size wr (w9.alloc o2) := by
    exact h9.alloc h9.size _
  have own : ∀ b, (Value.slice fa fn fc).ownBlock = some b → w.heap.size + 2 ≤ b ∧ b < wr.heap.size := fun b e => c.row.own b e
  have blk : ∀ b, b < wr.heap.size → (Value.slice fa fn fc).ownBlock ≠ some b → w10.heap[b]? = wr.heap[b]? := fun b hb hne => (hg.1.block b (Nat.lt_of_lt_of_le hb hA.size) (fun e => hne e.symm)).trans (hA.block b hb)
  have own2 : ∀ b, v2.ownBlock = some b → (Value.slice fa fn fc).ownBlock = some b ∨ (w9.alloc o2).heap.size ≤ b := fun b e => by
    rcases hg.2 with h1 | ⟨g, h1, h2⟩
    · exact .inl (h1 ▸ e)
    · rw [h1] at e; cases e; exact .inr h2
  have s10 : wr.heap.size ≤ w10.heap.size := Nat.le_trans hA.size hg.1.size
  have s9 : wr.heap.size ≤ w9.heap.size := h9.size
  have sA : (w9.alloc o2).heap.size = w9.heap.size + 1 := by simp
  have s11 : (w9.alloc o2).heap.size ≤ w10.heap.size := hg.1.size
  subst e
  refine ⟨fa2, _, fc2, rfl, ⟨?_, ?_, ?_, ?_, ?_, ?_⟩⟩
  · refine ⟨(hg.1.os.trans hA.os).trans c.bel.os, (hg.1.tape.trans hA.tape).trans c.bel.tape, (hg.1.output.trans hA.output).trans c.bel.output, Nat.le_trans c.bel.size s10, fun j hj => ?_⟩
    exact (blk j (by omega) (fun e => by have := (own j e).1; omega)).trans (c.bel.block j hj)
  · exact (blk _ (by omega) (fun e => by have := (own _ e).1; omega)).trans c.b1
  · exact (blk _ (by omega) (fun e => by have := (own _ e).1; omega)).trans c.b2
  · rw [List.map_append]; exact hr
  · intro x hx
    rcases List.mem_append.1 hx with hx | hx
    · have h1 := (c.rd x hx).keep k (w' := w10) (fun b hb => blk b hb.2.1 hb.2.2)
      refine h1.imp k (fun b hb => ⟨hb.1, by omega, fun e => ?_⟩)
      rcases own2 b e with h | h
      · exact hb.2.2 h
      · omega
    · obtain rfl : x = v := by simpa using hx
      have h1 := hv.keep k (w' := w10) (fun b hb => (hg.1.block b (by omega) (fun e => by have := (own b e.symm).2; omega)).trans (Below.heap_alloc _ _ _ hb.2))
      refine h1.imp k (fun b hb => ⟨by omega, by omega, fun e => ?_⟩)
      rcases own2 b e with h | h
      · have := (own b h).2; omega
      · omega
  · rw [List.map_append, c.same, List.take_add_one, hu]
    simp [he]
set_option maxRecDepth 100000 in
set_option maxHeartbeats 2000000 in
theorem own_step (k : Nat) (ih : ∀ (w : World) (t : VT k), Rds k w t → Calls Try.prog 38 #[(hdT k t).v] w (CpP k w t)) (w : World) (t : VT (k + 1)) (ht : Rds (k + 1) w t) :
    Calls Try.prog 38 #[(hdT (k + 1) t).v] w (CpP (k + 1) w t) := by
  obtain ⟨⟨kind, int, text, rc, a, n, cap⟩, us⟩ := t
  obtain ⟨hin, hn, hle, hv, hu⟩ := ht
  have IH := hid ih
  have Hin := hid hin
  have Hn : Hid (n = us.length) := hid hn
  have HV := hid hv
  have HU := hid hu
  have hle' : n ≤ 1000 := hle
  have hle2 : (n : Int) ≤ 1000 := by omega
  have hn0 : (0 : Int) ≤ (n : Int) := by omega
  clear ih hin hn hv hu hle
  show Calls Try.prog 38 #[(⟨kind, int, text, rc, a, n, cap⟩ : Hd).v] w _
  simp only [Hd.v]
  obtain ⟨W0, hW0⟩ : ∃ W0, W0 = (w.alloc (.cells #[.int .i64 kind, .int .i64 int, .string text, .int .i64 rc, .slice a n cap] 31)).alloc (.cells #[.int .i64 0, .int .i64 0, .string ⟨#[]⟩, .int .i64 0, .slice none 0 0] 31) := ⟨_, rfl⟩
  have c0 : CpL k w W0 ⟨kind, int, text, rc, a, n, cap⟩ us 0 none 0 0 [] := by
    refine ⟨by rw [hW0]; exact ((Below.refl _ w).alloc (Nat.le_refl _) _).alloc (by simp) _, ?_, ?_, by simpa using VRow.nil _ _, fun v hv => by simp at hv, rfl⟩
    · rw [hW0]; exact (Below.heap_alloc _ _ _ (by simp)).trans (heap_alloc_new w _)
    · have := heap_alloc_new (w.alloc (.cells #[.int .i64 kind, .int .i64 int, .string text, .int .i64 rc, .slice a n cap] 31)) (.cells #[.int .i64 0, .int .i64 0, .string ⟨#[]⟩, .int .i64 0, .slice none 0 0] 31)
      rw [World.size_alloc] at this
      rw [hW0]; exact this
  have C0 := hid c0
  have g4 : W0.cell? ⟨w.heap.size, 4, none⟩ = some (.slice a n cap) := cellOf c0.b1 4
  clear c0
  go_enter Try.func38, Try.ntmps38
  go_wp2
  rw [← hW0]
  clear hW0
  go_loopg [3, 4] n (fun g fv ii wr => ∃ i : Nat, i + g = n ∧ ii = .int .i64 (i : Int) ∧ ∃ fa fn fc vs, fv = .slice fa fn fc ∧ CpL k w wr ⟨kind, int, text, rc, a, n, cap⟩ us i fa fn fc vs)
  case atStart => exact ⟨0, by omega, rfl, none, 0, 0, [], rfl, C0.out⟩
  case round =>
    obtain ⟨i, hi', rfl, fa, fn, fc, vs, rfl, hc⟩ := hrel
    have HC := hid hc
    cases gk with
    | zero =>
      have hin2 : i = n := by omega
      subst hin2
      have k0 := cellOf hc.b1 0
      have k1 := cellOf hc.b1 1
      have k2 := cellOf hc.b1 2
      have k3 := cellOf hc.b1 3
      have k4 := cellOf hc.b1 4
      have m4 := freeOf hc.b1 4
      have e0 := cellOf hc.b2 0
      have e1 := cellOf hc.b2 1
      have e2 := cellOf hc.b2 2
      have e3 := cellOf hc.b2 3
      have e4 := cellOf hc.b2 4
      have f0 := freeOf hc.b2 0
      have f1 := freeOf hc.b2 1
      have f2 := freeOf hc.b2 2
      have f3 := freeOf hc.b2 3
      have f4 := freeOf hc.b2 4
      simp only [List.getElem?_toArray, List.getElem?_cons_zero, List.getElem?_cons_succ] at k0 k1 k2 k3 k4 e0 e1 e2 e3 e4
      clear hi' hc g4
      go_wp2
      have hb2 : (wr.setCell ⟨w.heap.size, 4, none⟩ (.slice fa fn fc)).heap[w.heap.size + 1]? = some (.cells #[.int .i64 0, .int .i64 0, .string ⟨#[]⟩, .int .i64 0, .slice none 0 0] 31 (0, 0)) := (Below.heap_setCell _ _ _ _ (by show w.heap.size + 1 ≠ w.heap.size; omega)).trans HC.out.b2
      have hbl : Below w.heap.size w (wr.setCell ⟨w.heap.size, 4, none⟩ (.slice fa fn fc)) := HC.out.bel.setCell (Nat.le_refl _) _
      have hkp : ∀ b, w.heap.size + 2 ≤ b → (five (wr.setCell ⟨w.heap.size, 4, none⟩ (.slice fa fn fc)) (w.heap.size + 1) 0 ⟨kind, int, text, rc, fa, fn, fc⟩).heap[b]? = wr.heap[b]? := fun b hb => (five_heap _ _ _ _ (by omega)).trans (Below.heap_setCell _ _ _ _ (by show b ≠ w.heap.size; omega))
      have h5 := five_new hb2 ⟨kind, int, text, rc, fa, fn, fc⟩
      have hb5 := five_below hbl (b := w.heap.size + 1) (o := 0) (by omega) ⟨kind, int, text, rc, fa, fn, fc⟩
      have hs5 : wr.heap.size ≤ (five (wr.setCell ⟨w.heap.size, 4, none⟩ (.slice fa fn fc)) (w.heap.size + 1) 0 ⟨kind, int, text, rc, fa, fn, fc⟩).heap.size := by simp [five, World.setCell]
      change bodyPost _ _ _ _ _ (five (wr.setCell ⟨w.heap.size, 4, none⟩ (.slice fa fn fc)) (w.heap.size + 1) 0 ⟨kind, int, text, rc, fa, fn, fc⟩)
      generalize five (wr.setCell ⟨w.heap.size, 4, none⟩ (.slice fa fn fc)) (w.heap.size + 1) 0 ⟨kind, int, text, rc, fa, fn, fc⟩ = W5 at *
      have q0 := cellOf h5 0
      have q1 := cellOf h5 1
      have q2 := cellOf h5 2
      have q3 := cellOf h5 3
      have q4 := cellOf h5 4
      simp only [List.getElem?_toArray, List.getElem?_cons_zero, List.getElem?_cons_succ] at q0 q1 q2 q3 q4
      have hlen : vs.length = i := by
        have := congrArg List.length HC.out.same
        rw [List.length_map, List.length_map, List.length_take, ← Hn.out] at this
        omega
      have hfn : fn = vs.length := by
        obtain ⟨a9, c9, e9, _⟩ := HC.out.row.form
        cases e9; simp
      have hta : us.take i = us := List.take_of_length_le (by rw [← Hn.out]; exact Nat.le_refl _)
      have row5 := HC.out.row.same (w' := W5) (fun q e => hkp q (HC.out.row.own q e).1)
      refine bodyPost_ret (v := .agg #[.int .i64 kind, .int .i64 int, .string text, .int .i64 rc, .slice fa fn fc]) (by simp [results, Try.results38, go_sem, q0, q1, q2, q3, q4]) rfl ⟨mkV k ⟨kind, int, text, rc, fa, fn, fc⟩ vs, rfl, hb5, ?_, ?_⟩
      · refine ⟨⟨Hin.out.i0, Hin.out.i1, Hin.out.k0, Hin.out.k1, Hin.out.r0, Hin.out.r1, Hin.out.t, by show fn ≤ _; omega⟩, hfn, by show fn ≤ _; omega, row5.rd, ?_, ?_⟩
        · intro x ex ne
          have hrow := HC.out.row.srow (by intro h0; exact ne (List.map_eq_nil_iff.1 h0))
          obtain ⟨g, cap', e', _, hg, _⟩ := hrow
          have ex' : fa = some x := ex
          cases e'
          cases ex'
          have := HC.out.row.own g rfl
          exact ⟨by show w.heap.size ≤ g; omega, by show g < _; omega⟩
        · intro v hv
          exact ((HC.out.rd v hv).keep k (fun b hb => hkp b hb.1)).imp k (fun b hb => ⟨by omega, by omega⟩)
      · show (ofH ⟨kind, int, text, rc, fa, fn, fc⟩, vs.map (ofT k)) = (ofH ⟨kind, int, text, rc, a, i, cap⟩, us.map (ofT k))
        rw [HC.out.same, hta]; rfl
    | succ gi =>
      have hlt0 : i < n := by omega
      have hlt : (i : Int) < (n : Int) := by omega
      have hi00 : (0 : Int) ≤ (i : Int) := by omega
      obtain ⟨u, hu⟩ : ∃ u, us[i]? = some u := ⟨us[i]'(by rw [← Hn.out]; exact hlt0), List.getElem?_eq_getElem _⟩
      obtain ⟨b, off, ea, dh⟩ := (HV.out.below (Nat.le_refl _) hc.bel) i (hdT k u) (by rw [List.getElem?_map, hu]; rfl)
      have ea' : a = some ⟨b, off, none⟩ := ea
      subst ea'
      have hru := Rds.below k (HU.out u (List.mem_of_getElem? hu)) (Nat.le_refl _) hc.bel
      have d0 := dh 0 (by omega)
      have d1 := dh 1 (by omega)
      have d2 := dh 2 (by omega)
      have d3 := dh 3 (by omega)
      have d4 := dh 4 (by omega)
      simp only [Hd.cs, List.getElem?_cons_zero, List.getElem?_cons_succ, Nat.add_zero] at d0 d1 d2 d3 d4
      have k4 := cellOf hc.b1 4
      simp only [List.getElem?_toArray, List.getElem?_cons_zero, List.getElem?_cons_succ] at k4
      have C46 := hid (IH.out wr u hru)
      generalize hdT k u = hd0 at *
      obtain ⟨yk, yi, yt, yr, ya, yn, yc⟩ := hd0
      simp only [Hd.v] at C46 d0 d1 d2 d3 d4
      have Hu := hid hu
      have Hi := hid hi'
      have hlv : (vs.map (hdT k)).length ≤ 1000000 := by
        have := congrArg List.length hc.same
        rw [List.length_map, List.length_map, List.length_take] at this
        rw [List.length_map]; omega
      have Hlv := hid hlv
      clear hc dh hu hru hlv hi' g4 ea HV HU IH
      go_wp2_with (first
        | (go_at_call 38; (refine (C46.out).mono ?_; rintro e w9 ⟨v, rfl, hb9, hrv, hev⟩; simp only [Hd.v]; have Hb9 := hid hb9; have Hrv := hid hrv; have Hev := hid hev; clear hb9 hrv hev))
        | (at_builtin; refine wpList_appV w9 rfl _ _ rfl _ (hdT k v) (by rfl) (by rfl) (w.heap.size + 2) (vs.map (hdT k)) (HC.out.row.below (Nat.le_refl _) Hb9.out) (Nat.le_trans HC.out.sz Hb9.out.size) Hlv.out ?_; intro v4 w4 hr4 hg4; obtain ⟨fa2, fn2, fc2, rfl, hc2⟩ := HC.out.more0 Hu.out Hb9.out Hrv.out Hev.out hr4 hg4; have HC2 := hid hc2; clear hc2 hr4 hg4))
      go_roundg gi
      case measure => omega
      case rel => exact ⟨i + 1, by have := Hi.out; omega, by go_num, fa2, fn2, fc2, _, rfl, HC2.out⟩
theorem own_any : ∀ (k : Nat) (w : World) (t : VT k), Rds k w t → Calls Try.prog 38 #[(hdT k t).v] w (CpP k w t)
  | 0, _, _, h => h.elim
  | k + 1, w, t, h => own_step k (own_any k) w t h
end Go.Proofs.Ytenfgahedbeekaa

namespace Go.Proofs.Ytenfgahedbeekaa
open Go.RowKit Go.Deep Go.Shelf
set_option linter.unusedVariables false
set_option linter.unusedSimpArgs false

theorem sl_one (ms : List Sl) : ∀ u ∈ ms.map Sl.v, u.oneCell' = true := by
  intro u hu
  simp only [List.mem_map] at hu
  obtain ⟨x, _, rfl⟩ := hu
  rfl
theorem run_appMs (w : World) (ty : TypeId) (a : Option Addr) (n cap : Nat) (ms : List Sl) (hn : n = ms.length) (h0 : 0 < n) (hle : n ≤ 1000) (hrd : MRd w a ms) :
    ∃ g c' w', (Builtin.append_ #[25, 25] ty #[.slice none 0 0, .slice a n cap]).run Try.prog w = .ok (.slice (some ⟨g, 0, none⟩) n c') w' ∧ MRow w' w.heap.size (.slice (some ⟨g, 0, none⟩) n c') ms ∧ w.grownBy w' none := by
  obtain ⟨i0, hi, hz0, hz1, hz2⟩ := info_parts info70
  obtain ⟨x, hx⟩ : ∃ x, ms[0]? = some x := ⟨ms[0]'(by omega), List.getElem?_eq_getElem _⟩
  obtain ⟨b, off, ea, _⟩ := hrd 0 x hx
  subst ea
  obtain ⟨v', w', hrun, hown, hgr, _, hat⟩ := run_append_own_at (P := Try.prog) w w.heap.size 25 ty 70 i0 (.slice none 0 0) 1 24 Try.underlying25 hi hz0 hz1 hz2 rfl (by decide) (.slice none 0 0) 0 [] (World.ownsRow_nil _ _ _ _) ⟨b, off, none⟩ n cap (ms.map Sl.v) (by rw [List.length_map, Nat.mul_one, hn]) (by
    intro j u hu
    rw [List.getElem?_map, Option.map_eq_some_iff] at hu
    obtain ⟨y, hy, rfl⟩ := hu
    obtain ⟨b', off', e, hc⟩ := hrd j y hy
    cases e
    rw [Addr.add_lit]; exact hc) (sl_one ms) (by unfold maxLen; omega) (by omega) (Nat.le_refl _)
  have hm : MRow w' w.heap.size v' ms := by
    unfold MRow
    rw [Nat.zero_add, List.nil_append, hn] at hown
    exact hown
  rcases hm.2 with ⟨_, hz⟩ | ⟨g, c', cur, e, hb, hgg, rest⟩
  · omega
  · subst e
    rw [← hn] at hrun hm
    exact ⟨g, c', w', hrun, hm, hgr⟩
theorem wpList_appMs {ops : Array Oper} {rest : List Oper} {o : Oper} {a : Act} {Q : Exit → Act → World → Prop} (w : World) (hgd : o.guard = none) (s x : Operand)
    (ho : o.op = .call { callee := .builtin .append, args := #[s, x], argTypes := #[25, 25] }) (va : Option Addr) (n cap : Nat) (hs : a.eval s = .slice none 0 0) (hx : a.eval x = .slice va n cap)
    (ms : List Sl) (hn : n = ms.length) (h0 : 0 < n) (hle : n ≤ 1000) (hrd : MRd w va ms)
    (k : ∀ g c' w', MRow w' w.heap.size (.slice (some ⟨g, 0, none⟩) n c') ms → w.grownBy w' none → wpList Try.prog ops Q rest (a.put o.dst (.slice (some ⟨g, 0, none⟩) n c')) w') :
    wpList Try.prog ops Q (o :: rest) a w := by
  refine wpList_plain hgd fun K hK => ?_
  obtain ⟨g, c', w', hrun, h2, h3⟩ := run_appMs w o.type va n cap ms hn h0 hle hrd
  unfold Oper.wp execOp
  simp only [ho, resolve, invoke, builtin, Sem.run_bind, Sem.run_pure, Result.andThen_ok, List.map_toArray, List.map_cons, List.map_nil, hs, hx, hrun]
  exact hK _ _ (k g c' w' h2 h3)
theorem MRow.set {w : World} {B g n cap : Nat} {ms : List Sl} (h : MRow w B (.slice (some ⟨g, 0, none⟩) n cap) ms) (j : Nat) (hj : j < ms.length) (x : Sl) : MRow (w.setCell ⟨g, j, none⟩ x.v) B (.slice (some ⟨g, 0, none⟩) n cap) (ms.set j x) := by
  refine ⟨by rw [List.length_map, List.length_set, Nat.mul_one], ?_⟩
  rcases h.2 with ⟨e, _⟩ | ⟨g', cap', cur, e, hb, hgg, hc, hm, hs, ht⟩
  · cases e
  · cases e
    refine .inr ⟨g, cap, _, by rw [List.length_set], hb, heap_set_at hgg j x.v, by rw [List.length_set]; exact hc, hm, by simpa using hs, ?_⟩
    rw [List.length_set, Array.toList_setIfInBounds, List.take_set, ht, List.map_set]
def RwT (k : Nat) (w : World) (ms : List (Sl × Rw k)) (e : Ending) (w' : World) : Prop := ∃ g fn fc, e = .returned (.agg #[.slice (some ⟨g, 0, none⟩) fn fc]) ∧ Below w.heap.size w w' ∧ fn ≤ fc ∧ w.heap.size ≤ g ∧ g < w'.heap.size ∧ fn = ms.length ∧ fn ≤ 1000 ∧ MRd w' (some ⟨g, 0, none⟩) (ms.map (·.1))
set_option maxRecDepth 100000 in
set_option maxHeartbeats 2000000 in
theorem refWith_any (k : Nat) (w : World) (sa : Option Addr) (sn sc : Nat) (ms : List (Sl × Rw k)) (hd : StR k w sa sn ms) (i0 : Nat) (hi : i0 < sn) (la : Option Addr) (ln lc : Nat) (lr : Rw k) (hl : RwR k w la ln lr) (hlc : ln ≤ lc) :
    Calls Try.prog 43 #[.agg #[.slice sa sn sc], .int .i64 (i0 : Int), .slice la ln lc] w (RwT k w (ms.set i0 (⟨la, ln, lc⟩, lr))) := by
  have D := hid hd
  have DL := hid hl
  have Hn := hid hd.n1
  have hle := hd.n2
  have hi1 : (i0 : Int) < (sn : Int) := by omega
  have hi0 : (0 : Int) ≤ (i0 : Int) := by omega
  have hle2 : (sn : Int) ≤ 1000 := by omega
  clear hd hl
  obtain ⟨W0, hW0⟩ : ∃ W0, W0 = (w.alloc (.cells #[.slice sa sn sc] 27)).alloc (.cells #[.slice none 0 0] 27) := ⟨_, rfl⟩
  have q1 : W0.heap[w.heap.size]? = some (.cells #[.slice sa sn sc] 27 (0, 0)) := by rw [hW0]; exact (Below.heap_alloc _ _ _ (by simp)).trans (heap_alloc_new w _)
  have q2 : W0.heap[w.heap.size + 1]? = some (.cells #[.slice none 0 0] 27 (0, 0)) := by
    have := heap_alloc_new (w.alloc (.cells #[.slice sa sn sc] 27)) (.cells #[.slice none 0 0] 27)
    rw [World.size_alloc] at this
    rw [hW0]; exact this
  have hb0 : Below w.heap.size w W0 := by rw [hW0]; exact boxes2 _ _ _ _ _
  have hz0 : W0.heap.size = w.heap.size + 2 := by rw [hW0]; simp
  have c0 : W0.cell? ⟨w.heap.size, 0, none⟩ = some (.slice sa sn sc) := cellOf q1 0
  have HR := hid (D.out.rd.below (Nat.le_refl _) hb0)
  have HB0 := hid hb0
  have Q2 := hid q2
  have HZ := hid hz0
  clear q1 q2 hb0 hz0
  go_enter Try.func43, Try.ntmps43
  go_upto_region 1 with fail
  rw [← hW0]
  clear hW0
  go_upto_region 2 with (at_builtin; refine wpList_appMs W0 rfl _ _ rfl sa sn sc (by rfl) (by rfl) (ms.map (·.1)) (by rw [List.length_map]; exact Hn.out) (by omega) hle HR.out ?_; intro g c' w2 hr2 hg2; have HR2 := hid hr2; have HG2 := hid hg2; clear hr2 hg2)
  obtain ⟨W3, hW3⟩ : ∃ W3, W3 = w2.alloc (.cells #[.slice (some ⟨g, 0, none⟩) sn c'] 27) := ⟨_, rfl⟩
  rw [← hW3]
  have hb2 : Below W0.heap.size W0 w2 := below_of_grown HG2.out
  have hb3 : Below w2.heap.size w2 W3 := by rw [hW3]; exact (Below.refl _ w2).alloc (Nat.le_refl _) _
  have x3 : W3.heap[w2.heap.size]? = some (.cells #[.slice (some ⟨g, 0, none⟩) sn c'] 27 (0, 0)) := by rw [hW3]; exact heap_alloc_new w2 _
  have r3 := HR2.out.below (Nat.le_refl _) hb3
  have hown := r3.own g rfl
  have hownL := HR2.out.own g rfl
  have x2 : W3.heap[w.heap.size + 1]? = some (.cells #[.slice none 0 0] 27 (0, 0)) := (hb3.block _ (Nat.lt_of_lt_of_le (Array.getElem?_eq_some_iff.1 Q2.out).1 hb2.size)).trans ((hb2.block _ (Array.getElem?_eq_some_iff.1 Q2.out).1).trans Q2.out)
  have hne : g ≠ w2.heap.size := by omega
  have hne1 : g ≠ w.heap.size + 1 := by have := HZ.out; omega
  have hne2 : w2.heap.size ≠ w.heap.size + 1 := by have := HZ.out; have := hb2.size; omega
  have y0 := cellOf x3 0
  simp only [List.getElem?_toArray, List.getElem?_cons_zero] at y0
  obtain ⟨m0, hm0⟩ : ∃ m0, (ms.map (·.1))[i0]? = some m0 := ⟨(ms.map (·.1))[i0]'(by rw [List.length_map, ← Hn.out]; exact hi), List.getElem?_eq_getElem _⟩
  obtain ⟨b', o', e', cg⟩ := r3.rd i0 m0 hm0
  cases e'
  rw [Nat.zero_add] at cg
  have fg : W3.frozen? ⟨g, i0, none⟩ = false := by
    rcases r3.2 with ⟨e, _⟩ | ⟨g', cap', cur, e, hb, hgg, _⟩
    · cases e
    · cases e; exact freeOf hgg i0
  have r4 := r3.set i0 (by rw [List.length_map, ← Hn.out]; exact hi) ⟨la, ln, lc⟩
  have st4 : ∀ b, b ≠ g → (W3.setCell ⟨g, i0, none⟩ (.slice la ln lc)).heap[b]? = W3.heap[b]? := fun b hb => Below.heap_setCell _ _ _ _ hb
  have z3 := (st4 _ (fun e => hne e.symm)).trans x3
  have z2 := (st4 _ (fun e => hne1 e.symm)).trans x2
  have z30 := cellOf z3 0
  have z20 := cellOf z2 0
  have z2f := freeOf z2 0
  simp only [List.getElem?_toArray, List.getElem?_cons_zero] at z30 z20
  have Z2 := hid z2
  have R4 := hid r4
  have bw : Below w.heap.size w (W3.setCell ⟨g, i0, none⟩ (.slice la ln lc)) := ((HB0.out.trans (hb2.mono HB0.out.size)).trans (hb3.mono (Nat.le_trans HB0.out.size hb2.size))).setCell (p := ⟨g, i0, none⟩) (by show w.heap.size ≤ g; have := HZ.out; omega) _
  have BW := hid bw
  have Hne1 := hid hne1
  clear hW3 x3 r3 x2 z3 z2 r4 bw hb2 hb3 hm0 hown hownL hne hne1 hne2
  go_wp2
  have h5 := set_cells Z2.out (.slice (some ⟨g, 0, none⟩) sn c')
  have r0 := cellOf h5 0
  simp only [List.getElem?_toArray, List.getElem?_cons_zero] at r0
  have hb5 := BW.out.setCell (p := ⟨w.heap.size + 1, 0, none⟩) (by show w.heap.size ≤ w.heap.size + 1; omega) (.slice (some ⟨g, 0, none⟩) sn c')
  have r5 := R4.out.same (w' := (W3.setCell ⟨g, i0, none⟩ (.slice la ln lc)).setCell ⟨w.heap.size + 1, 0, none⟩ (.slice (some ⟨g, 0, none⟩) sn c')) (fun q e => Below.heap_setCell _ _ _ _ (by cases e; exact Hne1.out))
  have hcap : sn ≤ c' := by
    obtain ⟨_, _, e, h⟩ := HR2.out.form
    cases e
    rw [List.length_map] at h
    have := Hn.out
    omega
  generalize (W3.setCell ⟨g, i0, none⟩ (.slice la ln lc)).setCell ⟨w.heap.size + 1, 0, none⟩ (.slice (some ⟨g, 0, none⟩) sn c') = W9 at *
  have hgb := r5.own g rfl
  refine bodyPost_ret (v := .agg #[.slice (some ⟨g, 0, none⟩) sn c']) (by simp [results, Try.results43, go_sem, r0]) rfl ⟨g, _, _, rfl, hb5, hcap, by have := HZ.out; omega, hgb.2, by rw [List.length_set]; exact Hn.out, hle, ?_⟩
  have := r5.rd
  rw [List.map_set]
  exact this
end Go.Proofs.Ytenfgahedbeekaa

