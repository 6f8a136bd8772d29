/- The document's side: Put, where it refuses. -/
import Derived.Test.YtenfgahedbeekaaS2
namespace Go.Proofs.Ytenfgahedbeekaa
open Go.RowKit Go.Deep Go.Shelf
set_option linter.unusedVariables false
set_option linter.unusedSimpArgs false

set_option maxRecDepth 100000 in
set_option maxHeartbeats 1000000 in
theorem refPut_nomap (k : Nat) (w : World) (sa : Option Addr) (sn sc : Nat) (ms : List (Sl × Rw k)) (hd : StR k w sa sn ms) (m : Int) (kt vt : VT k) (hk : Rds k w kt) (hv : Rds k w vt) (hh : hasB sn m = false) :
    Calls Try.prog 13 #[.agg #[.slice sa sn sc], .int .i64 m, (hdT k kt).v, (hdT k vt).v] w fun e w' => e = .returned (.tuple #[.agg #[.slice none 0 0], .int .i64 42]) ∧ Below w.heap.size w w' := by
  have D := hid hd
  have Hn := hid hd.n1
  have hle := hd.n2
  have hle2 : (sn : Int) ≤ 1000 := by omega
  have hle0 : (0 : Int) ≤ (sn : Int) := by omega
  have DV := hid hv
  have K42 := hid (fun (w1 : World) (hb : Below w.heap.size w w1) => refAt_any k w1 sa sn sc ms (hd.below (Nat.le_refl _) hb) m kt (Rds.below k hk (Nat.le_refl _) hb))
  clear hd hk hv
  generalize hdT k kt = hkt at *
  obtain ⟨kk, ki, kx, kr, ka, kn, kc⟩ := hkt
  obtain ⟨hvt, ehvt⟩ : ∃ h, h = hdT k vt := ⟨_, rfl⟩
  have Ev := hid ehvt
  rw [← ehvt]
  clear ehvt
  obtain ⟨vk, vi, vx, vr, va, vn, vc⟩ := hvt
  simp only [Hd.v] at K42 ⊢
  obtain ⟨W0, hW0⟩ : ∃ W0, W0 = (((w.alloc (.cells #[.slice sa sn sc] 27)).alloc (.cells #[.int .i64 kk, .int .i64 ki, .string kx, .int .i64 kr, .slice ka kn kc] 31)).alloc (.cells #[.int .i64 vk, .int .i64 vi, .string vx, .int .i64 vr, .slice va vn vc] 31)).alloc (.cells #[.slice none 0 0] 27) := ⟨_, rfl⟩
  have pl' : ∀ {w : World} {o x : Obj} {k : Nat}, w.heap[k]? = some x → (w.alloc o).heap[k]? = some x := fun h => (Below.heap_alloc _ _ _ (Array.getElem?_eq_some_iff.1 h).1).trans h
  have n1 := heap_alloc_new w (.cells #[.slice sa sn sc] 27)
  have n2 := heap_alloc_new (w.alloc (.cells #[.slice sa sn sc] 27)) (.cells #[.int .i64 kk, .int .i64 ki, .string kx, .int .i64 kr, .slice ka kn kc] 31)
  have n3 := heap_alloc_new ((w.alloc (.cells #[.slice sa sn sc] 27)).alloc (.cells #[.int .i64 kk, .int .i64 ki, .string kx, .int .i64 kr, .slice ka kn kc] 31)) (.cells #[.int .i64 vk, .int .i64 vi, .string vx, .int .i64 vr, .slice va vn vc] 31)
  have n4 := heap_alloc_new (((w.alloc (.cells #[.slice sa sn sc] 27)).alloc (.cells #[.int .i64 kk, .int .i64 ki, .string kx, .int .i64 kr, .slice ka kn kc] 31)).alloc (.cells #[.int .i64 vk, .int .i64 vi, .string vx, .int .i64 vr, .slice va vn vc] 31)) (.cells #[.slice none 0 0] 27)
  simp only [World.size_alloc] at n2 n3 n4
  have q1 : W0.heap[w.heap.size]? = some (.cells #[.slice sa sn sc] 27 (0, 0)) := by rw [hW0]; exact pl' (pl' (pl' n1))
  have q2 : W0.heap[w.heap.size + 1]? = some (.cells #[.int .i64 kk, .int .i64 ki, .string kx, .int .i64 kr, .slice ka kn kc] 31 (0, 0)) := by rw [hW0]; exact pl' (pl' n2)
  have q3 : W0.heap[w.heap.size + 1 + 1]? = some (.cells #[.int .i64 vk, .int .i64 vi, .string vx, .int .i64 vr, .slice va vn vc] 31 (0, 0)) := by rw [hW0]; exact pl' n3
  have q4 : W0.heap[w.heap.size + 1 + 1 + 1]? = some (.cells #[.slice none 0 0] 27 (0, 0)) := by rw [hW0]; exact n4
  have hb0 : Below w.heap.size w W0 := by rw [hW0]; exact ((((Below.refl _ w).alloc (Nat.le_refl _) _).alloc (by simp) _).alloc (by simp; omega) _).alloc (by simp; omega) _
  have hz0 : w.heap.size + 4 ≤ W0.heap.size := by rw [hW0]; simp
  have FX : Hid (∀ w2 : World, Below W0.heap.size W0 w2 → (w2.cell? ⟨w.heap.size, 0, none⟩ = some (.slice sa sn sc) ∧ w2.cell? ⟨w.heap.size + 1 + 1, 0, none⟩ = some (.int .i64 vk) ∧ w2.cell? ⟨w.heap.size + 1 + 1, 1, none⟩ = some (.int .i64 vi) ∧ w2.cell? ⟨w.heap.size + 1 + 1, 2, none⟩ = some (.string vx) ∧ w2.cell? ⟨w.heap.size + 1 + 1, 3, none⟩ = some (.int .i64 vr) ∧ w2.cell? ⟨w.heap.size + 1 + 1, 4, none⟩ = some (.slice va vn vc)) ∧ w2.heap[w.heap.size + 1 + 1 + 1]? = some (.cells #[.slice none 0 0] 27 (0, 0)) ∧ Below w.heap.size w w2) := hid (fun w2 hb => by
    have bx := (hb.block _ (Array.getElem?_eq_some_iff.1 q1).1).trans q1
    have bz := (hb.block _ (Array.getElem?_eq_some_iff.1 q3).1).trans q3
    exact ⟨⟨cellOf bx 0, cellOf bz 0, cellOf bz 1, cellOf bz 2, cellOf bz 3, cellOf bz 4⟩, (hb.block _ (Array.getElem?_eq_some_iff.1 q4).1).trans q4, hb0.trans (hb.mono hb0.size)⟩)
  have TR : Hid (∀ {Z x y : World}, Below Z.heap.size Z x → Below x.heap.size x y → Below Z.heap.size Z y) := hid (fun h1 h2 => h1.trans (h2.mono h1.size))
  have c0 : W0.cell? ⟨w.heap.size, 0, none⟩ = some (.slice sa sn sc) := cellOf q1 0
  have k0 := cellOf q2 0
  have k1 := cellOf q2 1
  have k2 := cellOf q2 2
  have k3 := cellOf q2 3
  have k4 := cellOf q2 4
  have e0 := cellOf q4 0
  have f0 := freeOf q4 0
  simp only [List.getElem?_toArray, List.getElem?_cons_zero, List.getElem?_cons_succ] at k0 k1 k2 k3 k4 e0
  have HB0 := hid hb0
  have HZ0 := hid hz0
  have Q4 := hid q4
  clear q1 q2 q3 q4 n1 n2 n3 n4 pl' hb0 hz0

  by_cases hm0 : m < 0
  · go_enter Try.func13, Try.ntmps13
    go_upto_region 1 with fail
    rw [← hW0]
    clear hW0
    go_wp2
    have h5 := set_cells Q4.out (.slice none 0 0)
    have r0 := cellOf h5 0
    simp only [List.getElem?_toArray, List.getElem?_cons_zero] at r0
    have hb5 := HB0.out.setCell (p := ⟨w.heap.size + 1 + 1 + 1, 0, none⟩) (by show w.heap.size ≤ w.heap.size + 1 + 1 + 1; omega) (.slice none 0 0)
    generalize W0.setCell ⟨w.heap.size + 1 + 1 + 1, 0, none⟩ (.slice none 0 0) = W5 at *
    exact bodyPost_ret (v := .tuple #[.agg #[.slice none 0 0], .int .i64 42]) (by simp [results, Try.results13, go_sem, r0]) rfl ⟨rfl, hb5⟩
  · have hm1 : (sn : Int) ≤ m := by
      have : ¬ (0 ≤ m ∧ m < (sn : Int)) := by simpa [hasB] using hh
      omega
    go_enter Try.func13, Try.ntmps13
    go_upto_region 1 with fail
    rw [← hW0]
    clear hW0
    go_wp2
    have h5 := set_cells Q4.out (.slice none 0 0)
    have r0 := cellOf h5 0
    simp only [List.getElem?_toArray, List.getElem?_cons_zero] at r0
    have hb5 := HB0.out.setCell (p := ⟨w.heap.size + 1 + 1 + 1, 0, none⟩) (by show w.heap.size ≤ w.heap.size + 1 + 1 + 1; omega) (.slice none 0 0)
    generalize W0.setCell ⟨w.heap.size + 1 + 1 + 1, 0, none⟩ (.slice none 0 0) = W5 at *
    exact bodyPost_ret (v := .tuple #[.agg #[.slice none 0 0], .int .i64 42]) (by simp [results, Try.results13, go_sem, r0]) rfl ⟨rfl, hb5⟩

set_option maxRecDepth 100000 in
set_option maxHeartbeats 1000000 in
theorem refPut_full (k : Nat) (w : World) (sa : Option Addr) (sn sc : Nat) (ms : List (Sl × Rw k)) (hd : StR k w sa sn ms) (m : Int) (kt vt : VT k) (hk : Rds k w kt) (hv : Rds k w vt) (hh : hasB sn m = true) (hnt : (placeR (fun p => cmpT k p.1 kt) (rowAt ms m)).2 = false) (hfl : 24 ≤ (rowAt ms m).length) :
    Calls Try.prog 13 #[.agg #[.slice sa sn sc], .int .i64 m, (hdT k kt).v, (hdT k vt).v] w fun e w' => e = .returned (.tuple #[.agg #[.slice none 0 0], .int .i64 41]) ∧ Below w.heap.size w w' := by
  have D := hid hd
  have Hn := hid hd.n1
  have hle := hd.n2
  have hle2 : (sn : Int) ≤ 1000 := by omega
  have hle0 : (0 : Int) ≤ (sn : Int) := by omega
  have DV := hid hv
  have K42 := hid (fun (w1 : World) (hb : Below w.heap.size w w1) => refAt_any k w1 sa sn sc ms (hd.below (Nat.le_refl _) hb) m kt (Rds.below k hk (Nat.le_refl _) hb))
  clear hd hk hv
  generalize hdT k kt = hkt at *
  obtain ⟨kk, ki, kx, kr, ka, kn, kc⟩ := hkt
  obtain ⟨hvt, ehvt⟩ : ∃ h, h = hdT k vt := ⟨_, rfl⟩
  have Ev := hid ehvt
  rw [← ehvt]
  clear ehvt
  obtain ⟨vk, vi, vx, vr, va, vn, vc⟩ := hvt
  simp only [Hd.v] at K42 ⊢
  obtain ⟨W0, hW0⟩ : ∃ W0, W0 = (((w.alloc (.cells #[.slice sa sn sc] 27)).alloc (.cells #[.int .i64 kk, .int .i64 ki, .string kx, .int .i64 kr, .slice ka kn kc] 31)).alloc (.cells #[.int .i64 vk, .int .i64 vi, .string vx, .int .i64 vr, .slice va vn vc] 31)).alloc (.cells #[.slice none 0 0] 27) := ⟨_, rfl⟩
  have pl' : ∀ {w : World} {o x : Obj} {k : Nat}, w.heap[k]? = some x → (w.alloc o).heap[k]? = some x := fun h => (Below.heap_alloc _ _ _ (Array.getElem?_eq_some_iff.1 h).1).trans h
  have n1 := heap_alloc_new w (.cells #[.slice sa sn sc] 27)
  have n2 := heap_alloc_new (w.alloc (.cells #[.slice sa sn sc] 27)) (.cells #[.int .i64 kk, .int .i64 ki, .string kx, .int .i64 kr, .slice ka kn kc] 31)
  have n3 := heap_alloc_new ((w.alloc (.cells #[.slice sa sn sc] 27)).alloc (.cells #[.int .i64 kk, .int .i64 ki, .string kx, .int .i64 kr, .slice ka kn kc] 31)) (.cells #[.int .i64 vk, .int .i64 vi, .string vx, .int .i64 vr, .slice va vn vc] 31)
  have n4 := heap_alloc_new (((w.alloc (.cells #[.slice sa sn sc] 27)).alloc (.cells #[.int .i64 kk, .int .i64 ki, .string kx, .int .i64 kr, .slice ka kn kc] 31)).alloc (.cells #[.int .i64 vk, .int .i64 vi, .string vx, .int .i64 vr, .slice va vn vc] 31)) (.cells #[.slice none 0 0] 27)
  simp only [World.size_alloc] at n2 n3 n4
  have q1 : W0.heap[w.heap.size]? = some (.cells #[.slice sa sn sc] 27 (0, 0)) := by rw [hW0]; exact pl' (pl' (pl' n1))
  have q2 : W0.heap[w.heap.size + 1]? = some (.cells #[.int .i64 kk, .int .i64 ki, .string kx, .int .i64 kr, .slice ka kn kc] 31 (0, 0)) := by rw [hW0]; exact pl' (pl' n2)
  have q3 : W0.heap[w.heap.size + 1 + 1]? = some (.cells #[.int .i64 vk, .int .i64 vi, .string vx, .int .i64 vr, .slice va vn vc] 31 (0, 0)) := by rw [hW0]; exact pl' n3
  have q4 : W0.heap[w.heap.size + 1 + 1 + 1]? = some (.cells #[.slice none 0 0] 27 (0, 0)) := by rw [hW0]; exact n4
  have hb0 : Below w.heap.size w W0 := by rw [hW0]; exact ((((Below.refl _ w).alloc (Nat.le_refl _) _).alloc (by simp) _).alloc (by simp; omega) _).alloc (by simp; omega) _
  have hz0 : w.heap.size + 4 ≤ W0.heap.size := by rw [hW0]; simp
  have FX : Hid (∀ w2 : World, Below W0.heap.size W0 w2 → (w2.cell? ⟨w.heap.size, 0, none⟩ = some (.slice sa sn sc) ∧ w2.cell? ⟨w.heap.size + 1 + 1, 0, none⟩ = some (.int .i64 vk) ∧ w2.cell? ⟨w.heap.size + 1 + 1, 1, none⟩ = some (.int .i64 vi) ∧ w2.cell? ⟨w.heap.size + 1 + 1, 2, none⟩ = some (.string vx) ∧ w2.cell? ⟨w.heap.size + 1 + 1, 3, none⟩ = some (.int .i64 vr) ∧ w2.cell? ⟨w.heap.size + 1 + 1, 4, none⟩ = some (.slice va vn vc)) ∧ w2.heap[w.heap.size + 1 + 1 + 1]? = some (.cells #[.slice none 0 0] 27 (0, 0)) ∧ Below w.heap.size w w2) := hid (fun w2 hb => by
    have bx := (hb.block _ (Array.getElem?_eq_some_iff.1 q1).1).trans q1
    have bz := (hb.block _ (Array.getElem?_eq_some_iff.1 q3).1).trans q3
    exact ⟨⟨cellOf bx 0, cellOf bz 0, cellOf bz 1, cellOf bz 2, cellOf bz 3, cellOf bz 4⟩, (hb.block _ (Array.getElem?_eq_some_iff.1 q4).1).trans q4, hb0.trans (hb.mono hb0.size)⟩)
  have TR : Hid (∀ {Z x y : World}, Below Z.heap.size Z x → Below x.heap.size x y → Below Z.heap.size Z y) := hid (fun h1 h2 => h1.trans (h2.mono h1.size))
  have c0 : W0.cell? ⟨w.heap.size, 0, none⟩ = some (.slice sa sn sc) := cellOf q1 0
  have k0 := cellOf q2 0
  have k1 := cellOf q2 1
  have k2 := cellOf q2 2
  have k3 := cellOf q2 3
  have k4 := cellOf q2 4
  have e0 := cellOf q4 0
  have f0 := freeOf q4 0
  simp only [List.getElem?_toArray, List.getElem?_cons_zero, List.getElem?_cons_succ] at k0 k1 k2 k3 k4 e0
  have HB0 := hid hb0
  have HZ0 := hid hz0
  have Q4 := hid q4
  clear q1 q2 q3 q4 n1 n2 n3 n4 pl' hb0 hz0

  have hm : 0 ≤ m ∧ m < (sn : Int) := by simpa [hasB] using hh
  obtain ⟨i0, rfl⟩ : ∃ i0 : Nat, m = (i0 : Int) := ⟨m.toNat, by omega⟩
  have hi0 := hm.1
  have hi1 := hm.2
  have hi2 : ¬ (i0 : Int) < 0 := by omega
  have hi3 : ¬ (sn : Int) ≤ (i0 : Int) := by omega
  obtain ⟨p, hp⟩ : ∃ p, ms[i0]? = some p := ⟨ms[i0]'(by rw [← Hn.out]; omega), List.getElem?_eq_getElem _⟩
  have hrp : rowAt ms (i0 : Int) = p.2 := rowAt_yes hp
  rw [hrp] at K42 hnt hfl
  obtain ⟨b, off, ea, dc⟩ := D.out.rd i0 p.1 (by rw [List.getElem?_map, hp]; rfl)
  subst ea
  have hel := (D.out.el p (List.mem_of_getElem? hp)).1
  have hcap := (D.out.el p (List.mem_of_getElem? hp)).2
  obtain ⟨⟨ma, mn, mc⟩, mr⟩ := p
  simp only [Sl.v] at dc
  simp only at hel hcap K42 hnt hfl
  obtain ⟨i, hi⟩ : ∃ i, i = (placeR (fun p => cmpT k p.1 kt) mr).1 := ⟨_, rfl⟩
  have Hmn := hid hel.n1
  have hmn2 := hel.n2
  have hmn3 : (mn : Int) ≤ 1000 := by omega
  have Hel := hid hel
  have DX : Hid (∀ w2 : World, Below w.heap.size w w2 → w2.cell? ⟨b, off + i0, none⟩ = some (.slice ma mn mc)) := hid (fun w2 hb => (hb.cell (p := ⟨b, off + i0, none⟩) (World.block_lt_of_cell? w _ dc)).trans dc)
  rw [← hi] at K42

  rw [hnt] at K42
  rw [← Hmn.out] at hfl
  have hfl2 : (24 : Int) ≤ (mn : Int) := by omega
  obtain ⟨q, hq⟩ : ∃ q, mr[0]? = some q := ⟨mr[0]'(by rw [← Hmn.out]; omega), List.getElem?_eq_getElem _⟩
  obtain ⟨b1, o1, ea, _⟩ := hel.rd 0 (enT k q) (by rw [List.getElem?_map, hq]; rfl)
  subst ea
  clear dc hp hm hh hrp hnt hel hq hi D
  go_enter Try.func13, Try.ntmps13
  go_upto_region 1 with fail
  rw [← hW0]
  clear hW0
  go_wp2_with (first
    | (go_at_call 42; (refine (K42.out _ HB0.out).mono ?_; rintro e w1 ⟨rfl, hb1⟩; obtain ⟨⟨c0', z0, z1, z2, z3, z4⟩, g2, bb⟩ := FX.out w1 hb1; have x0 := DX.out w1 bb; have HB1 := hid hb1; have BB := hid bb; clear g2 hb1))
    | (at_builtin; refine wpList_appH w1 rfl _ _ rfl ⟨b1, o1, none⟩ mn mc (by rfl) (by rfl) (mr.map (enT k)) (by rw [List.length_map]; exact Hmn.out) hmn2 ((Hel.out.below (Nat.le_refl _) BB.out).rd) ?_; intro v2 w2 hr2 hg2; obtain ⟨fa, fc, e2, hc2⟩ := hr2.form; rw [List.length_map, ← Hmn.out] at e2; subst e2; have B2 := hid (TR.out HB1.out (below_of_grown hg2)); obtain ⟨_, x2, bb2⟩ := FX.out w2 B2.out; have e0 := cellOf x2 0; have f0 := freeOf x2 0; simp only [List.getElem?_toArray, List.getElem?_cons_zero] at e0; have X2 := hid x2; have BB2 := hid bb2; clear hr2 hg2 hc2 x2 bb2))
  have h5 := set_cells X2.out (.slice none 0 0)
  have r0 := cellOf h5 0
  simp only [List.getElem?_toArray, List.getElem?_cons_zero] at r0
  have hb5 := BB2.out.setCell (p := ⟨w.heap.size + 1 + 1 + 1, 0, none⟩) (by show w.heap.size ≤ w.heap.size + 1 + 1 + 1; omega) (.slice none 0 0)
  generalize w2.setCell ⟨w.heap.size + 1 + 1 + 1, 0, none⟩ (.slice none 0 0) = W5 at *
  exact bodyPost_ret (v := .tuple #[.agg #[.slice none 0 0], .int .i64 41]) (by simp [results, Try.results13, go_sem, r0]) rfl ⟨rfl, hb5⟩
end Go.Proofs.Ytenfgahedbeekaa
