/- The document's side: First. -/
import Derived.Test.YtenfgahedbeekaaN2
namespace Go.Proofs.Ytenfgahedbeekaa
open Go.RowKit Go.Deep Go.Shelf
set_option linter.unusedVariables false
set_option linter.unusedSimpArgs false

set_option maxRecDepth 100000 in
set_option maxHeartbeats 2000000 in
theorem refFirst_any (k : Nat) (w : World) (sa : Option Addr) (sn sc : Nat) (ms : List (Sl × Rw k)) (hd : StR k w sa sn ms) (m : Int) :
    Calls Try.prog 22 #[.agg #[.slice sa sn sc], .int .i64 m] w (RbP k w ((rowAt ms m).head?.map fun p => ofT k p.1)) := by
  have D := hid hd
  have Hn := hid hd.n1
  have hle := hd.n2
  have hle2 : (sn : Int) ≤ 1000 := by omega
  have hle0 : (0 : Int) ≤ (sn : Int) := by omega
  clear hd
  obtain ⟨W0, hW0⟩ : ∃ W0, W0 = (w.alloc (.cells #[.slice sa sn sc] 27)).alloc (.cells #[.int .i64 0, .int .i64 0, .string ⟨#[]⟩, .int .i64 0, .slice none 0 0] 31) := ⟨_, rfl⟩
  have q1 : W0.heap[w.heap.size]? = some (.cells #[.slice sa sn sc] 27 (0, 0)) := by rw [hW0]; exact (Below.heap_alloc _ _ _ (by simp)).trans (heap_alloc_new w _)
  have q3 : W0.heap[w.heap.size + 1]? = some (.cells #[.int .i64 0, .int .i64 0, .string ⟨#[]⟩, .int .i64 0, .slice none 0 0] 31 (0, 0)) := by
    have := heap_alloc_new (w.alloc (.cells #[.slice sa sn sc] 27)) (.cells #[.int .i64 0, .int .i64 0, .string ⟨#[]⟩, .int .i64 0, .slice none 0 0] 31)
    rw [World.size_alloc] at this
    rw [hW0]; exact this
  have hb0 : Below w.heap.size w W0 := by rw [hW0]; exact boxes2 _ _ _ _ _
  have c0 : W0.cell? ⟨w.heap.size, 0, none⟩ = some (.slice sa sn sc) := cellOf q1 0
  have e0 := cellOf q3 0
  have e1 := cellOf q3 1
  have e2 := cellOf q3 2
  have e3 := cellOf q3 3
  have e4 := cellOf q3 4
  have f0 := freeOf q3 0
  have f1 := freeOf q3 1
  have f2 := freeOf q3 2
  have f3 := freeOf q3 3
  have f4 := freeOf q3 4
  simp only [List.getElem?_toArray, List.getElem?_cons_zero, List.getElem?_cons_succ] at e0 e1 e2 e3 e4
  have HB0 := hid hb0
  have Q3 := hid q3
  clear q1 q3 hb0
  have NN : Hid (∀ e, e = Ending.returned (.tuple #[.agg #[.int .i64 0, .int .i64 0, .string ⟨#[]⟩, .int .i64 0, .slice none 0 0], .bool false]) → RbP k w none e (five W0 (w.heap.size + 1) 0 ⟨0, 0, ⟨#[]⟩, 0, none, 0, 0⟩)) := hid (fun e he => ⟨five_below HB0.out (by omega) _, he⟩)
  have h5 := five_new Q3.out ⟨0, 0, ⟨#[]⟩, 0, none, 0, 0⟩
  have H5 := hid h5
  clear h5
  cases hh : hasB sn m with
  | false =>
    rw [rowAt_no Hn.out hh]
    show Calls _ _ _ _ (RbP k w none)
    by_cases hm0 : m < 0
    · go_enter Try.func22, Try.ntmps22
      go_upto_region 1 with fail
      rw [← hW0]
      clear hW0
      go_wp2
      change bodyPost _ _ _ _ _ (five W0 (w.heap.size + 1) 0 ⟨0, 0, ⟨#[]⟩, 0, none, 0, 0⟩)
      have h5 := H5.out
      have r0 := cellOf h5 0
      have r1 := cellOf h5 1
      have r2 := cellOf h5 2
      have r3 := cellOf h5 3
      have r4 := cellOf h5 4
      simp only [List.getElem?_toArray, List.getElem?_cons_zero, List.getElem?_cons_succ] at r0 r1 r2 r3 r4
      generalize five W0 (w.heap.size + 1) 0 ⟨0, 0, ⟨#[]⟩, 0, none, 0, 0⟩ = W5 at *
      exact bodyPost_ret (v := .tuple #[.agg #[.int .i64 0, .int .i64 0, .string ⟨#[]⟩, .int .i64 0, .slice none 0 0], .bool false]) (by simp [results, Try.results22, go_sem, r0, r1, r2, r3, r4]) rfl (NN.out _ rfl)
    · have hm1 : (sn : Int) ≤ m := by
        have : ¬ (0 ≤ m ∧ m < (sn : Int)) := by simpa [hasB] using hh
        omega
      go_enter Try.func22, Try.ntmps22
      go_upto_region 1 with fail
      rw [← hW0]
      clear hW0
      go_wp2
      change bodyPost _ _ _ _ _ (five W0 (w.heap.size + 1) 0 ⟨0, 0, ⟨#[]⟩, 0, none, 0, 0⟩)
      have h5 := H5.out
      have r0 := cellOf h5 0
      have r1 := cellOf h5 1
      have r2 := cellOf h5 2
      have r3 := cellOf h5 3
      have r4 := cellOf h5 4
      simp only [List.getElem?_toArray, List.getElem?_cons_zero, List.getElem?_cons_succ] at r0 r1 r2 r3 r4
      generalize five W0 (w.heap.size + 1) 0 ⟨0, 0, ⟨#[]⟩, 0, none, 0, 0⟩ = W5 at *
      exact bodyPost_ret (v := .tuple #[.agg #[.int .i64 0, .int .i64 0, .string ⟨#[]⟩, .int .i64 0, .slice none 0 0], .bool false]) (by simp [results, Try.results22, go_sem, r0, r1, r2, r3, r4]) rfl (NN.out _ rfl)
  | true =>
    have hm : 0 ≤ m ∧ m < (sn : Int) := by simpa [hasB] using hh
    obtain ⟨i0, rfl⟩ : ∃ i0 : Nat, m = (i0 : Int) := ⟨m.toNat, by omega⟩
    have hi0 := hm.1
    have hi1 := hm.2
    have hi2 : ¬ (i0 : Int) < 0 := by omega
    have hi3 : ¬ (sn : Int) ≤ (i0 : Int) := by omega
    obtain ⟨p, hp⟩ : ∃ p, ms[i0]? = some p := ⟨ms[i0]'(by rw [← Hn.out]; omega), List.getElem?_eq_getElem _⟩
    rw [rowAt_yes hp]
    obtain ⟨b, off, ea, dc⟩ := D.out.rd i0 p.1 (by rw [List.getElem?_map, hp]; rfl)
    subst ea
    have hel := (D.out.el p (List.mem_of_getElem? hp)).1
    obtain ⟨⟨ma, mn, mc⟩, mr⟩ := p
    simp only [Sl.v] at dc
    simp only at hel ⊢
    have dc0 : W0.cell? ⟨b, off + i0, none⟩ = some (.slice ma mn mc) := (HB0.out.cell (p := ⟨b, off + i0, none⟩) (World.block_lt_of_cell? w _ dc)).trans dc
    have hmn1 := hel.n1
    have hmn2 := hel.n2
    clear hp hm hh dc D
    cases mr with
    | nil =>
      show Calls _ _ _ _ (RbP k w none)
      have hmn0 : mn = 0 := hmn1
      clear hel hmn1 hmn2
      subst hmn0
      go_enter Try.func22, Try.ntmps22
      go_upto_region 1 with fail
      rw [← hW0]
      clear hW0
      go_wp2
      change bodyPost _ _ _ _ _ (five W0 (w.heap.size + 1) 0 ⟨0, 0, ⟨#[]⟩, 0, none, 0, 0⟩)
      have h5 := H5.out
      have r0 := cellOf h5 0
      have r1 := cellOf h5 1
      have r2 := cellOf h5 2
      have r3 := cellOf h5 3
      have r4 := cellOf h5 4
      simp only [List.getElem?_toArray, List.getElem?_cons_zero, List.getElem?_cons_succ] at r0 r1 r2 r3 r4
      generalize five W0 (w.heap.size + 1) 0 ⟨0, 0, ⟨#[]⟩, 0, none, 0, 0⟩ = W5 at *
      exact bodyPost_ret (v := .tuple #[.agg #[.int .i64 0, .int .i64 0, .string ⟨#[]⟩, .int .i64 0, .slice none 0 0], .bool false]) (by simp [results, Try.results22, go_sem, r0, r1, r2, r3, r4]) rfl (NN.out _ rfl)
    | cons q mr' =>
      have hmp : 0 < mn := by rw [hmn1]; simp
      have hmp1 : (0 : Int) < (mn : Int) := by omega
      have hmp2 : ¬ (mn : Int) = 0 := by omega
      have hmp3 : ((mn : Int) == 0) = false := by simpa using hmp2
      have hmp4 : ¬ mn = 0 := by omega
      obtain ⟨b1, o1, ea, dh⟩ := hel.rd 0 (enT k q) rfl
      subst ea
      have hrq := (hel.el q (List.mem_cons_self)).1
      have hl : ∀ (p : Addr) (v : Value), w.cell? p = some v → W0.cell? p = some v := fun p v h => (HB0.out.cell (World.block_lt_of_cell? w p h)).trans h
      have d0 := hl _ _ (dh 0 (by omega))
      have d1 := hl _ _ (dh 1 (by omega))
      have d2 := hl _ _ (dh 2 (by omega))
      have d3 := hl _ _ (dh 3 (by omega))
      have d4 := hl _ _ (dh 4 (by omega))
      simp only [En.cs, enT, List.getElem?_cons_zero, List.getElem?_cons_succ, Nat.add_zero, Nat.zero_mul] at d0 d1 d2 d3 d4
      have HRQ := hid hrq
      obtain ⟨hq2, ehq2⟩ : ∃ h, h = hdT k q.1 := ⟨_, rfl⟩
      have Eh := hid ehq2
      rw [← ehq2] at d0 d1 d2 d3 d4
      clear ehq2 dh hl hel hrq hmn1
      obtain ⟨yk, yi, yt, yr, ya, yn, yc⟩ := hq2
      simp only at d0 d1 d2 d3 d4
      go_enter Try.func22, Try.ntmps22
      go_upto_region 1 with fail
      rw [← hW0]
      clear hW0
      go_wp2
      have h6 := five_new Q3.out ⟨yk, yi, yt, yr, ya, yn, yc⟩
      have hb6 : Below w.heap.size w (five W0 (w.heap.size + 1) 0 ⟨yk, yi, yt, yr, ya, yn, yc⟩) := five_below HB0.out (by omega) _
      change bodyPost _ _ _ _ _ (five W0 (w.heap.size + 1) 0 ⟨yk, yi, yt, yr, ya, yn, yc⟩)
      have r0 := cellOf h6 0
      have r1 := cellOf h6 1
      have r2 := cellOf h6 2
      have r3 := cellOf h6 3
      have r4 := cellOf h6 4
      simp only [List.getElem?_toArray, List.getElem?_cons_zero, List.getElem?_cons_succ] at r0 r1 r2 r3 r4
      generalize five W0 (w.heap.size + 1) 0 ⟨yk, yi, yt, yr, ya, yn, yc⟩ = W5 at *
      refine bodyPost_ret (v := .tuple #[.agg #[.int .i64 yk, .int .i64 yi, .string yt, .int .i64 yr, .slice ya yn yc], .bool true]) (by simp [results, Try.results22, go_sem, r0, r1, r2, r3, r4]) rfl ⟨hb6, q.1, ?_, Rds.below k HRQ.out (Nat.le_refl _) hb6, rfl⟩
      rw [← Eh.out]; rfl
end Go.Proofs.Ytenfgahedbeekaa
