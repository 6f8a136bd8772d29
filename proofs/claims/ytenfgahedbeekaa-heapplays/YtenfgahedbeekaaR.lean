/- heap.First. -/
import Derived.Test.YtenfgahedbeekaaQ
namespace Go.Proofs.Ytenfgahedbeekaa
open Go.RowKit Go.Deep Go.Shelf
set_option linter.unusedVariables false
set_option linter.unusedSimpArgs false

/- A value told, or none. -/
def MbP (k : Nat) (w : World) (c : Option (CT k)) (e : Ending) (w' : World) : Prop := Below w.heap.size w w' ∧ match c with
  | none => e = .returned (.tuple #[.agg #[.int .i64 0, .int .i64 0, .string ⟨#[]⟩, .int .i64 0, .slice none 0 0], .bool false])
  | some c => ∃ t : VT k, e = .returned (.tuple #[(hdT k t).v, .bool true]) ∧ RdP k w' (fun b => w.heap.size ≤ b ∧ b < w'.heap.size) t ∧ ofT k t = c
def rowAt {k : Nat} (ms : List (Sl × Rw k)) (m : Int) : Rw k := if 0 ≤ m then ((ms[m.toNat]?).map (·.2)).getD [] else []
theorem rowAt_no {k : Nat} {ms : List (Sl × Rw k)} {n : Nat} {m : Int} (hn : n = ms.length) (h : hasB n m = false) : rowAt ms m = [] := by
  unfold rowAt
  split
  · rename_i h0
    have : ¬ m < (n : Int) := by intro h1; simp [hasB, h0, h1] at h
    rw [List.getElem?_eq_none (by omega)]; rfl
  · rfl
theorem rowAt_yes {k : Nat} {ms : List (Sl × Rw k)} {i : Nat} {p : Sl × Rw k} (h : ms[i]? = some p) : rowAt ms (i : Int) = p.2 := by
  unfold rowAt
  rw [if_pos (by omega), Int.toNat_natCast, h]; rfl
set_option maxRecDepth 100000 in
set_option maxHeartbeats 2000000 in
theorem first_any (k : Nat) (w : World) (sa : Option Addr) (sn sc : Nat) (ms : List (Sl × Rw k)) (hd : StR k w sa sn ms) (m : Int) :
    Calls Try.prog 21 #[.agg #[.slice sa sn sc], .int .i64 m] w (MbP k w ((rowAt ms m).head?.map fun p => ofT k p.1)) := by
  have D := hid hd
  have Hn := hid hd.n1
  have hle := hd.n2
  have hle2 : (sn : Int) ≤ 1000 := by omega
  clear hd
  have K39 := hid (fun w1 => hasMap_any w1 sa sn sc m (by omega))
  obtain ⟨W0, hW0⟩ : ∃ W0, W0 = (w.alloc (.cells #[.slice sa sn sc] 27)).alloc (.cells #[.int .i64 0, .int .i64 0, .string ⟨#[]⟩, .int .i64 0, .slice none 0 0] 31) := ⟨_, rfl⟩
  have b0 : W0.heap[w.heap.size]? = some (.cells #[.slice sa sn sc] 27 (0, 0)) := by rw [hW0]; exact (Below.heap_alloc _ _ _ (by simp)).trans (heap_alloc_new w _)
  have b1 : W0.heap[w.heap.size + 1]? = some (.cells #[.int .i64 0, .int .i64 0, .string ⟨#[]⟩, .int .i64 0, .slice none 0 0] 31 (0, 0)) := by
    have := heap_alloc_new (w.alloc (.cells #[.slice sa sn sc] 27)) (.cells #[.int .i64 0, .int .i64 0, .string ⟨#[]⟩, .int .i64 0, .slice none 0 0] 31)
    rw [World.size_alloc] at this
    rw [hW0]; exact this
  have hb0 : Below w.heap.size w W0 := by rw [hW0]; exact ((Below.refl _ w).alloc (Nat.le_refl _) _).alloc (by simp) _
  have FX : Hid (∀ w2 : World, Below W0.heap.size W0 w2 → w2.cell? ⟨w.heap.size, 0, none⟩ = some (.slice sa sn sc) ∧ w2.heap[w.heap.size + 1]? = some (.cells #[.int .i64 0, .int .i64 0, .string ⟨#[]⟩, .int .i64 0, .slice none 0 0] 31 (0, 0)) ∧ Below w.heap.size w w2) := hid (fun w2 hb => ⟨cellOf ((hb.block _ (Array.getElem?_eq_some_iff.1 b0).1).trans b0) 0, (hb.block _ (Array.getElem?_eq_some_iff.1 b1).1).trans b1, hb0.trans (hb.mono hb0.size)⟩)
  have HS0 : Hid (w.heap.size ≤ W0.heap.size) := hid hb0.size
  clear b0 b1 hb0
  cases hh : hasB sn m with
  | false =>
    rw [rowAt_no Hn.out hh]
    simp only [hh] at K39
    go_enter Try.func21, Try.ntmps21
    go_wp2_with (go_at_call 39; (rw [← hW0]; refine (Hid.out K39 _).mono ?_; rintro e w1 ⟨rfl, hb1⟩; obtain ⟨g0, c2, bb⟩ := FX.out w1 hb1; have e0 := cellOf c2 0; have e1 := cellOf c2 1; have e2 := cellOf c2 2; have e3 := cellOf c2 3; have e4 := cellOf c2 4; have f0 := freeOf c2 0; have f1 := freeOf c2 1; have f2 := freeOf c2 2; have f3 := freeOf c2 3; have f4 := freeOf c2 4; simp only [List.getElem?_toArray, List.getElem?_cons_zero, List.getElem?_cons_succ] at e0 e1 e2 e3 e4; have HC2 := hid c2; clear c2))
    have h5 := five_new HC2.out ⟨0, 0, ⟨#[]⟩, 0, none, 0, 0⟩
    have hb5 : Below w.heap.size w (five w1 (w.heap.size + 1) 0 ⟨0, 0, ⟨#[]⟩, 0, none, 0, 0⟩) := five_below bb (by omega) _
    change bodyPost _ _ _ _ _ (five w1 (w.heap.size + 1) 0 ⟨0, 0, ⟨#[]⟩, 0, none, 0, 0⟩)
    have r0 := cellOf h5 0
    have r1 := cellOf h5 1
    have r2 := cellOf h5 2
    have r3 := cellOf h5 3
    have r4 := cellOf h5 4
    simp only [List.getElem?_toArray, List.getElem?_cons_zero, List.getElem?_cons_succ] at r0 r1 r2 r3 r4
    generalize five w1 (w.heap.size + 1) 0 ⟨0, 0, ⟨#[]⟩, 0, none, 0, 0⟩ = W5 at *
    refine bodyPost_ret (v := .tuple #[.agg #[.int .i64 0, .int .i64 0, .string ⟨#[]⟩, .int .i64 0, .slice none 0 0], .bool false]) (by simp [results, Try.results21, go_sem, r0, r1, r2, r3, r4]) rfl ⟨hb5, rfl⟩
  | true =>
    have hm : 0 ≤ m ∧ m < (sn : Int) := by simpa [hasB] using hh
    simp only [hh] at K39
    obtain ⟨i, rfl⟩ : ∃ i : Nat, m = (i : Int) := ⟨m.toNat, by omega⟩
    have hi0 := hm.1
    have hi1 := hm.2
    obtain ⟨p, hp⟩ : ∃ p, ms[i]? = some p := ⟨ms[i]'(by rw [← Hn.out]; omega), List.getElem?_eq_getElem _⟩
    rw [rowAt_yes hp]
    obtain ⟨b, off, ea, dc⟩ := D.out.rd i p.1 (by rw [List.getElem?_map, hp]; rfl)
    subst ea
    have hel := (D.out.el p (List.mem_of_getElem? hp)).1
    obtain ⟨⟨ma, mn, mc⟩, mr⟩ := p
    simp only [Sl.v] at dc
    simp only at hel ⊢
    have Hdc : Hid (∀ w2 : World, Below w.heap.size w w2 → w2.cell? ⟨b, off + i, none⟩ = some (.slice ma mn mc)) := hid (fun w2 hb => (hb.cell (p := ⟨b, off + i, none⟩) (World.block_lt_of_cell? w _ dc)).trans dc)
    have hmn := hel.n1
    have hmn2 := hel.n2
    have Hel := hid hel
    clear dc hp hel hh hm
    cases mr with
    | nil =>
      simp only [List.length_nil] at hmn
      subst hmn
      go_enter Try.func21, Try.ntmps21
      go_wp2_with (go_at_call 39; (rw [← hW0]; refine (Hid.out K39 _).mono ?_; rintro e w1 ⟨rfl, hb1⟩; obtain ⟨g0, c2, bb⟩ := FX.out w1 hb1; have d1 := Hdc.out w1 bb; have e0 := cellOf c2 0; have e1 := cellOf c2 1; have e2 := cellOf c2 2; have e3 := cellOf c2 3; have e4 := cellOf c2 4; have f0 := freeOf c2 0; have f1 := freeOf c2 1; have f2 := freeOf c2 2; have f3 := freeOf c2 3; have f4 := freeOf c2 4; simp only [List.getElem?_toArray, List.getElem?_cons_zero, List.getElem?_cons_succ] at e0 e1 e2 e3 e4; have HC2 := hid c2; clear c2))
      have h5 := five_new HC2.out ⟨0, 0, ⟨#[]⟩, 0, none, 0, 0⟩
      have hb5 : Below w.heap.size w (five w1 (w.heap.size + 1) 0 ⟨0, 0, ⟨#[]⟩, 0, none, 0, 0⟩) := five_below bb (by omega) _
      change bodyPost _ _ _ _ _ (five w1 (w.heap.size + 1) 0 ⟨0, 0, ⟨#[]⟩, 0, none, 0, 0⟩)
      have r0 := cellOf h5 0
      have r1 := cellOf h5 1
      have r2 := cellOf h5 2
      have r3 := cellOf h5 3
      have r4 := cellOf h5 4
      simp only [List.getElem?_toArray, List.getElem?_cons_zero, List.getElem?_cons_succ] at r0 r1 r2 r3 r4
      generalize five w1 (w.heap.size + 1) 0 ⟨0, 0, ⟨#[]⟩, 0, none, 0, 0⟩ = W5 at *
      refine bodyPost_ret (v := .tuple #[.agg #[.int .i64 0, .int .i64 0, .string ⟨#[]⟩, .int .i64 0, .slice none 0 0], .bool false]) (by simp [results, Try.results21, go_sem, r0, r1, r2, r3, r4]) rfl ⟨hb5, rfl⟩
    | cons p rest =>
      have hmn' : ¬ (mn : Int) = 0 := by simp at hmn; omega
      have hmb : ((mn : Int) == 0) = false := by simpa using hmn'
      have hm0 : (0 : Int) < (mn : Int) := by omega
      obtain ⟨eb, eo, ea, dh⟩ := Hel.out.rd 0 (enT k p) rfl
      subst ea
      have he1 := (Hel.out.el p (by simp)).1
      have hbl : eb < w.heap.size := World.block_lt_of_cell? w _ ((dh 0 (by omega)).trans (show (enT k p).cs[0]? = some (.int .i64 (hdT k p.1).kind) from rfl))
      have Hd5 : Hid (∀ w2 : World, Below w.heap.size w w2 → w2.cell? ⟨eb, eo, none⟩ = some (.int .i64 (hdT k p.1).kind) ∧ w2.cell? ⟨eb, eo + 1, none⟩ = some (.int .i64 (hdT k p.1).int) ∧ w2.cell? ⟨eb, eo + 2, none⟩ = some (.string (hdT k p.1).text) ∧ w2.cell? ⟨eb, eo + 3, none⟩ = some (.int .i64 (hdT k p.1).rc) ∧ w2.cell? ⟨eb, eo + 4, none⟩ = some (.slice (hdT k p.1).a (hdT k p.1).n (hdT k p.1).cap)) := hid (fun w2 hb => ⟨(hb.cell (p := ⟨eb, eo, none⟩) hbl).trans (dh 0 (by omega)), (hb.cell (p := ⟨eb, eo + 1, none⟩) hbl).trans (dh 1 (by omega)), (hb.cell (p := ⟨eb, eo + 2, none⟩) hbl).trans (dh 2 (by omega)), (hb.cell (p := ⟨eb, eo + 3, none⟩) hbl).trans (dh 3 (by omega)), (hb.cell (p := ⟨eb, eo + 4, none⟩) hbl).trans (dh 4 (by omega))⟩)
      have C46 := hid (fun (w1 : World) (hb : Below w.heap.size w w1) => copy_any k w1 p.1 (Rds.below k he1 (Nat.le_refl _) hb))
      generalize hdT k p.1 = hd0 at *
      obtain ⟨yk, yi, yt, yr, ya, yn, yc⟩ := hd0
      simp only [Hd.v] at C46 Hd5
      clear dh he1 hmn Hel
      go_enter Try.func21, Try.ntmps21
      go_wp2_with (first
        | (go_at_call 46; (refine (C46.out _ bb).mono ?_; rintro e w2 ⟨t, rfl, hb2, hrt, het⟩; simp only [Hd.v]; obtain ⟨_, c2, bb2⟩ := FX.out w2 (hb1.trans (hb2.mono hb1.size)); have e0 := cellOf c2 0; have e1 := cellOf c2 1; have e2 := cellOf c2 2; have e3 := cellOf c2 3; have e4 := cellOf c2 4; have f0 := freeOf c2 0; have f1 := freeOf c2 1; have f2 := freeOf c2 2; have f3 := freeOf c2 3; have f4 := freeOf c2 4; simp only [List.getElem?_toArray, List.getElem?_cons_zero, List.getElem?_cons_succ] at e0 e1 e2 e3 e4; have HC2 := hid c2; have Hrt := hid hrt; have Het := hid het; have Hb2 := hid hb2; clear c2 hrt het hb2))
        | (go_at_call 39; (rw [← hW0]; refine (Hid.out K39 _).mono ?_; rintro e w1 ⟨rfl, hb1⟩; obtain ⟨g0, cc, bb⟩ := FX.out w1 hb1; have d1 := Hdc.out w1 bb; obtain ⟨a0, a1, a2, a3, a4⟩ := Hd5.out w1 bb; have HW1 : Hid (w.heap.size + 1 < w1.heap.size) := hid (Array.getElem?_eq_some_iff.1 cc).1; clear cc)))
      have h5 := five_new HC2.out (hdT k t)
      have hb5 : Below w.heap.size w (five w2 (w.heap.size + 1) 0 (hdT k t)) := five_below bb2 (by omega) _
      have hkp : ∀ b, w1.heap.size ≤ b → (five w2 (w.heap.size + 1) 0 (hdT k t)).heap[b]? = w2.heap[b]? := fun b hb => five_heap _ _ _ _ (by have := HW1.out; omega)
      have hs5 : (five w2 (w.heap.size + 1) 0 (hdT k t)).heap.size = w2.heap.size := by simp [five, World.setCell]
      change bodyPost _ _ _ _ _ (five w2 (w.heap.size + 1) 0 (hdT k t))
      have r0 := cellOf h5 0
      have r1 := cellOf h5 1
      have r2 := cellOf h5 2
      have r3 := cellOf h5 3
      have r4 := cellOf h5 4
      simp only [List.getElem?_toArray, List.getElem?_cons_zero, List.getElem?_cons_succ] at r0 r1 r2 r3 r4
      generalize five w2 (w.heap.size + 1) 0 (hdT k t) = W5 at *
      refine bodyPost_ret (v := .tuple #[(hdT k t).v, .bool true]) (by simp [results, Try.results21, go_sem, r0, r1, r2, r3, r4, Hd.v]) rfl ⟨hb5, t, rfl, ?_, Het.out⟩
      exact (Hrt.out.keep k (fun b hb => hkp b hb.1)).imp k (fun b hb => ⟨by have := HW1.out; omega, by omega⟩)
end Go.Proofs.Ytenfgahedbeekaa
