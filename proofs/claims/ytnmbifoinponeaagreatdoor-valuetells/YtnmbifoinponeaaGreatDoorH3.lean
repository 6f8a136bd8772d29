/- The document's Zero: types that are no records. -/
import Derived.Test.YtnmbifoinponeaaGreatDoorG3
import Derived.Test.YtnmbifoinponeaaGreatDoorQ2
namespace Go.Proofs.YtnmbifoinponeaaGreatDoor
open Go.RowKit Go.Deep Go.Shelf
set_option linter.unusedVariables false
set_option linter.unusedSimpArgs false

structure ZW (w W0 : World) (ra : Option Addr) (rn rc : Nat) (ma : Option Addr) (mn mc : Nat) (fa : Option Addr) (fn fc : Nat) (ea : Option Addr) (en ec : Nat) (k r : Int) : Prop where
  b1 : W0.heap[w.heap.size]? = some (.cells #[.slice ra rn rc, .slice ma mn mc, .slice fa fn fc, .slice ea en ec] 26 (0, 0))
  b2 : W0.heap[w.heap.size + 1]? = some (.cells #[.int .i64 k, .int .i64 r] 28 (0, 0))
  b3 : W0.heap[w.heap.size + 1 + 1]? = some (.cells #[.int .i64 0, .int .i64 0, .string ⟨#[]⟩, .int .i64 0, .slice none 0 0] 31 (0, 0))
  hb : Below w.heap.size w W0
theorem ZW.start (w : World) (ra : Option Addr) (rn rc : Nat) (ma : Option Addr) (mn mc : Nat) (fa : Option Addr) (fn fc : Nat) (ea : Option Addr) (en ec : Nat) (k r : Int) : ZW w (((w.alloc (.cells #[.slice ra rn rc, .slice ma mn mc, .slice fa fn fc, .slice ea en ec] 26)).alloc (.cells #[.int .i64 k, .int .i64 r] 28)).alloc (.cells #[.int .i64 0, .int .i64 0, .string ⟨#[]⟩, .int .i64 0, .slice none 0 0] 31)) ra rn rc ma mn mc fa fn fc ea en ec k r := by
  have n1 := heap_alloc_new w (.cells #[.slice ra rn rc, .slice ma mn mc, .slice fa fn fc, .slice ea en ec] 26)
  have n2 := heap_alloc_new (w.alloc (.cells #[.slice ra rn rc, .slice ma mn mc, .slice fa fn fc, .slice ea en ec] 26)) (.cells #[.int .i64 k, .int .i64 r] 28)
  have n3 := heap_alloc_new ((w.alloc (.cells #[.slice ra rn rc, .slice ma mn mc, .slice fa fn fc, .slice ea en ec] 26)).alloc (.cells #[.int .i64 k, .int .i64 r] 28)) (.cells #[.int .i64 0, .int .i64 0, .string ⟨#[]⟩, .int .i64 0, .slice none 0 0] 31)
  simp only [World.size_alloc] at n2 n3
  have pl' : ∀ {w : World} {o x : Obj} {k : Nat}, w.heap[k]? = some x → (w.alloc o).heap[k]? = some x := fun h => (Below.heap_alloc _ _ _ (Array.getElem?_eq_some_iff.1 h).1).trans h
  exact ⟨pl' (pl' n1), pl' n2, n3, (((Below.refl _ w).alloc (Nat.le_refl _) _).alloc (by simp) _).alloc (by simp; omega) _⟩
theorem ZW.on {w W0 W1 : World} {ra : Option Addr} {rn rc : Nat} {ma : Option Addr} {mn mc : Nat} {fa : Option Addr} {fn fc : Nat} {ea : Option Addr} {en ec : Nat} {k r : Int} (h : ZW w W0 ra rn rc ma mn mc fa fn fc ea en ec k r) (hb : Below W0.heap.size W0 W1) : ZW w W1 ra rn rc ma mn mc fa fn fc ea en ec k r :=
  ⟨(hb.block _ (Array.getElem?_eq_some_iff.1 h.b1).1).trans h.b1, (hb.block _ (Array.getElem?_eq_some_iff.1 h.b2).1).trans h.b2, (hb.block _ (Array.getElem?_eq_some_iff.1 h.b3).1).trans h.b3, h.hb.trans (hb.mono h.hb.size)⟩

set_option maxHeartbeats 1000000 in
theorem refZero_simple (w : World) (g : PH) (k r : Int) (hn : g.rn ≤ 9223372036854775807) (hk : ¬ (k = 4 ∧ typB g.rn (k, r) = true)) :
    Calls Tryz.prog 18 #[g.v, ty k r] w fun e w' => e = .returned (zH (k, r)).v ∧ Below w.heap.size w w' := by
  have K27 := hid (fun w' => refIsType w' g k r hn)
  clear hn
  obtain ⟨ra, rn, rc, ma, mn, mc, fa, fn, fc, ea, en, ec⟩ := g
  simp only at hk
  simp only [PH.v, ty] at K27 ⊢
  have Z0 := ZW.start w ra rn rc ma mn mc fa fn fc ea en ec k r
  have HZ0 := hid Z0
  clear Z0
  cases q : typB rn (k, r) with
  | false =>
    have hz : zH (k, r) = ⟨0, 0, ⟨#[]⟩, 0, none, 0, 0⟩ := by
      unfold zH
      rw [if_neg]
      intro h
      unfold typB at q
      split at q
      · rename_i h4
        simp only at h4
        subst h4
        simp [simB] at h
      · rw [h] at q; cases q
    rw [hz]
    clear hz hk
    simp only [q] at K27
    simp only [Hd.v]
    go_enter Tryz.func18, Tryz.ntmps18
    go_wp2_with (go_at_call 27; (refine (Hid.out K27 _).mono ?_; rintro e w1 ⟨rfl, hb1⟩; have z1 := HZ0.out.on hb1; have HZ1 := hid z1; have c2 := z1.b3; have e0 := cellOf c2 0; have e1 := cellOf c2 1; have e2 := cellOf c2 2; have e3 := cellOf c2 3; have e4 := cellOf c2 4; have f0 := freeOf c2 0; have f1 := freeOf c2 1; have f2 := freeOf c2 2; have f3 := freeOf c2 3; have f4 := freeOf c2 4; simp only [List.getElem?_toArray, List.getElem?_cons_zero, List.getElem?_cons_succ] at e0 e1 e2 e3 e4; clear z1 c2))
    have h5 := five_new HZ1.out.b3 ⟨0, 0, ⟨#[]⟩, 0, none, 0, 0⟩
    have hb5 : Below w.heap.size w (five w1 (w.heap.size + 1 + 1) 0 ⟨0, 0, ⟨#[]⟩, 0, none, 0, 0⟩) := five_below HZ1.out.hb (by omega) _
    change bodyPost _ _ _ _ _ (five w1 (w.heap.size + 1 + 1) 0 ⟨0, 0, ⟨#[]⟩, 0, none, 0, 0⟩)
    have r0 := cellOf h5 0
    have r1 := cellOf h5 1
    have r2 := cellOf h5 2
    have r3 := cellOf h5 3
    have r4 := cellOf h5 4
    simp only [List.getElem?_toArray, List.getElem?_cons_zero, List.getElem?_cons_succ] at r0 r1 r2 r3 r4
    generalize five w1 (w.heap.size + 1 + 1) 0 ⟨0, 0, ⟨#[]⟩, 0, none, 0, 0⟩ = W5 at *
    refine bodyPost_ret (v := .agg #[.int .i64 0, .int .i64 0, .string ⟨#[]⟩, .int .i64 0, .slice none 0 0]) (by simp [results, Tryz.results18, go_sem, r0, r1, r2, r3, r4]) rfl ⟨rfl, hb5⟩
  | true =>
    have h4 : ¬ k = 4 := fun h => hk ⟨h, q⟩
    have h4' : (k == 4) = false := by simpa using h4
    have hz : zH (k, r) = ⟨k, 0, ⟨#[]⟩, 0, none, 0, 0⟩ := by
      unfold zH
      rw [if_pos]
      unfold typB at q
      rw [if_neg h4] at q
      exact q
    rw [hz]
    clear hz hk
    simp only [q] at K27
    simp only [Hd.v]
    go_enter Tryz.func18, Tryz.ntmps18
    go_wp2_with (go_at_call 27; (refine (Hid.out K27 _).mono ?_; rintro e w1 ⟨rfl, hb1⟩; have z1 := HZ0.out.on hb1; have HZ1 := hid z1; have d0 := cellOf z1.b2 0; have d1 := cellOf z1.b2 1; simp only [List.getElem?_toArray, List.getElem?_cons_zero, List.getElem?_cons_succ] at d0 d1; have z2 := z1.on ((Below.refl _ w1).alloc (Nat.le_refl _) (.cells #[.int .i64 k, .int .i64 0, .string ⟨#[]⟩, .int .i64 0, .slice none 0 0] 31)); have HZ2 := hid z2; have c2 := z2.b3; have e0 := cellOf c2 0; have e1 := cellOf c2 1; have e2 := cellOf c2 2; have e3 := cellOf c2 3; have e4 := cellOf c2 4; have f0 := freeOf c2 0; have f1 := freeOf c2 1; have f2 := freeOf c2 2; have f3 := freeOf c2 3; have f4 := freeOf c2 4; simp only [List.getElem?_toArray, List.getElem?_cons_zero, List.getElem?_cons_succ] at e0 e1 e2 e3 e4; have al : ∀ (o : Obj) (p : Addr) (v : Value), w1.cell? p = some v → (w1.alloc o).cell? p = some v := fun o p v h => (World.cell?_of_block (Below.heap_alloc _ _ _ (World.block_lt_of_cell? w1 p h))).trans h; have d0' := fun o => al o _ _ d0; clear z1 c2 z2 al))
    have h5 := five_new HZ2.out.b3 ⟨k, 0, ⟨#[]⟩, 0, none, 0, 0⟩
    have hb5 := five_below HZ2.out.hb (b := w.heap.size + 1 + 1) (o := 0) (by omega) ⟨k, 0, ⟨#[]⟩, 0, none, 0, 0⟩
    generalize w1.alloc (.cells #[.int .i64 k, .int .i64 0, .string ⟨#[]⟩, .int .i64 0, .slice none 0 0] 31) = W2 at *
    change bodyPost _ _ _ _ _ (five W2 (w.heap.size + 1 + 1) 0 ⟨k, 0, ⟨#[]⟩, 0, none, 0, 0⟩)
    have r0 := cellOf h5 0
    have r1 := cellOf h5 1
    have r2 := cellOf h5 2
    have r3 := cellOf h5 3
    have r4 := cellOf h5 4
    simp only [List.getElem?_toArray, List.getElem?_cons_zero, List.getElem?_cons_succ] at r0 r1 r2 r3 r4
    generalize five W2 (w.heap.size + 1 + 1) 0 ⟨k, 0, ⟨#[]⟩, 0, none, 0, 0⟩ = W5 at *
    refine bodyPost_ret (v := .agg #[.int .i64 k, .int .i64 0, .string ⟨#[]⟩, .int .i64 0, .slice none 0 0]) (by simp [results, Tryz.results18, go_sem, r0, r1, r2, r3, r4]) rfl ⟨rfl, hb5⟩
end Go.Proofs.YtnmbifoinponeaaGreatDoor
