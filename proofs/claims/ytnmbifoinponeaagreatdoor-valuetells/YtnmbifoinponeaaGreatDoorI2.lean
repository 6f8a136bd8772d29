/- isPlain, typeOf, simpleZero. -/
import Derived.Test.YtnmbifoinponeaaGreatDoorH2
import Derived.Test.YtnmbifoinponeaaGreatDoorX
import Derived.Test.YtnmbifoinponeaaGreatDoorH
namespace Go.Proofs.YtnmbifoinponeaaGreatDoor
open Go.RowKit Go.Deep Go.Shelf
set_option linter.unusedVariables false
set_option linter.unusedSimpArgs false

set_option maxHeartbeats 400000 in
theorem isPlain_v (w : World) (h : Hd) (fs : List Hd) (hin : h.In) (hn : h.n = fs.length) (hv : VRd w h.a fs) (hfs : ∀ f ∈ fs, f.In) :
    Calls Tryz.prog 40 #[h.v] w fun e w' => e = .returned (.bool (plainB h fs)) ∧ Below w.heap.size w w' := by
  have K := hid (fun (w1 : World) (hb : Below w.heap.size w w1) => putValue_any w1 h fs hin hn (hv.below (Nat.le_refl _) hb) hfs)
  clear hn hv hfs hin
  generalize plainB h fs = pb at *
  obtain ⟨k1, i1, t1, r1, a1, m1, c1⟩ := h
  simp only [Hd.v] at K ⊢
  have hb : Below w.heap.size w (w.alloc (.cells #[.int .i64 k1, .int .i64 i1, .string t1, .int .i64 r1, .slice a1 m1 c1] 31)) := (Below.refl _ _).alloc (Nat.le_refl _) _
  have HB := hid hb
  clear hb
  cases pb with
  | true =>
    go_enter Tryz.func40, Tryz.ntmps40
    go_wp2_with (go_at_call 62; (refine (Hid.out K _ HB.out).mono ?_; rintro e w1 ⟨hb1, v1, rfl, _⟩))
    go_ret
    exact ⟨rfl, HB.out.trans (hb1.mono HB.out.size)⟩
  | false =>
    go_enter Tryz.func40, Tryz.ntmps40
    go_wp2_with (go_at_call 62; (refine (Hid.out K _ HB.out).mono ?_; rintro e w1 ⟨hb1, v1, rfl, _⟩))
    go_ret
    exact ⟨rfl, HB.out.trans (hb1.mono HB.out.size)⟩

set_option maxHeartbeats 400000 in
theorem typeOf_any (w : World) (h : Hd) : Calls Tryz.prog 41 #[h.v] w fun e w' => e = .returned (ty h.kind h.rc) ∧ Below w.heap.size w w' := by
  obtain ⟨k1, i1, t1, r1, a1, m1, c1⟩ := h
  simp only [Hd.v, ty]
  obtain ⟨W0, hW0⟩ : ∃ W0, W0 = (w.alloc (.cells #[.int .i64 k1, .int .i64 i1, .string t1, .int .i64 r1, .slice a1 m1 c1] 31)).alloc (.cells #[.int .i64 k1, .int .i64 r1] 28) := ⟨_, rfl⟩
  have b2 : W0.heap[w.heap.size + 1]? = some (.cells #[.int .i64 k1, .int .i64 r1] 28 (0, 0)) := by
    have := heap_alloc_new (w.alloc (.cells #[.int .i64 k1, .int .i64 i1, .string t1, .int .i64 r1, .slice a1 m1 c1] 31)) (.cells #[.int .i64 k1, .int .i64 r1] 28)
    rw [World.size_alloc] at this
    rw [hW0]; exact this
  have g0 : W0.cell? ⟨w.heap.size + 1, 0, none⟩ = some (.int .i64 k1) := cellOf b2 0
  have g1 : W0.cell? ⟨w.heap.size + 1, 1, none⟩ = some (.int .i64 r1) := cellOf b2 1
  have hb : Below w.heap.size w W0 := by rw [hW0]; exact two_boxes _ _ _ _ _
  go_enter Tryz.func41, Tryz.ntmps41
  go_wp2
  rw [← hW0]
  refine bodyPost_ret (v := .agg #[.int .i64 k1, .int .i64 r1]) (by simp [results, Tryz.results41, go_sem, g0, g1]) rfl ⟨rfl, hb⟩

theorem five_new {W : World} {g : Nat} {a0 a1 a2 a3 a4 : Value} (h : W.heap[g]? = some (.cells #[a0, a1, a2, a3, a4] 31 (0, 0))) (x : Hd) : (five W g 0 x).heap[g]? = some (.cells #[.int .i64 x.kind, .int .i64 x.int, .string x.text, .int .i64 x.rc, .slice x.a x.n x.cap] 31 (0, 0)) := by
  have h1 := heap_set_at (heap_set_at (heap_set_at (heap_set_at (heap_set_at h 0 (.int .i64 x.kind)) 1 (.int .i64 x.int)) 2 (.string x.text)) 3 (.int .i64 x.rc)) 4 (.slice x.a x.n x.cap)
  exact h1
def zH (t : TyP) : Hd := if simB t = true then ⟨t.1, 0, ⟨#[]⟩, 0, none, 0, 0⟩ else ⟨0, 0, ⟨#[]⟩, 0, none, 0, 0⟩
set_option maxHeartbeats 400000 in
theorem simpleZero_any (w : World) (k r : Int) : Calls Tryz.prog 44 #[ty k r] w fun e w' => e = .returned (zH (k, r)).v ∧ Below w.heap.size w w' := by
  have K : Hid (∀ w' : World, Calls Tryz.prog 61 #[.agg #[.int .i64 k, .int .i64 r]] w' fun e w'' => e = .returned (.bool (simB (k, r))) ∧ Below w'.heap.size w' w'') := hid (fun w' => isSimple_any w' k r)
  unfold ty
  obtain ⟨W0, hW0⟩ : ∃ W0, W0 = (w.alloc (.cells #[.int .i64 k, .int .i64 r] 28)).alloc (.cells #[.int .i64 0, .int .i64 0, .string ⟨#[]⟩, .int .i64 0, .slice none 0 0] 31) := ⟨_, rfl⟩
  have b1 : W0.heap[w.heap.size]? = some (.cells #[.int .i64 k, .int .i64 r] 28 (0, 0)) := by rw [hW0]; exact (Below.heap_alloc _ _ _ (by simp)).trans (heap_alloc_new w _)
  have b2 : W0.heap[w.heap.size + 1]? = some (.cells #[.int .i64 0, .int .i64 0, .string ⟨#[]⟩, .int .i64 0, .slice none 0 0] 31 (0, 0)) := by
    have := heap_alloc_new (w.alloc (.cells #[.int .i64 k, .int .i64 r] 28)) (.cells #[.int .i64 0, .int .i64 0, .string ⟨#[]⟩, .int .i64 0, .slice none 0 0] 31)
    rw [World.size_alloc] at this
    rw [hW0]; exact this
  have hb : Below w.heap.size w W0 := by rw [hW0]; exact two_boxes _ _ _ _ _
  have HB := hid hb
  have H1 := hid b1
  have H2 := hid b2
  clear b1 b2 hb
  cases q : simB (k, r) with
  | true =>
    rw [q] at K
    have hz : zH (k, r) = ⟨k, 0, ⟨#[]⟩, 0, none, 0, 0⟩ := by unfold zH; rw [if_pos q]
    rw [hz]
    clear hz
    simp only [Hd.v]
    go_enter Tryz.func44, Tryz.ntmps44
    go_wp2_with (go_at_call 61; (rw [← hW0]; refine (Hid.out K _).mono ?_; rintro e w1 ⟨rfl, hb1⟩; have c1 := (hb1.block _ (Array.getElem?_eq_some_iff.1 H1.out).1).trans H1.out; have c2 := (hb1.block _ (Array.getElem?_eq_some_iff.1 H2.out).1).trans H2.out; have d0 := cellOf c1 0; have e0 := cellOf c2 0; have e1 := cellOf c2 1; have e2 := cellOf c2 2; have e3 := cellOf c2 3; have e4 := cellOf c2 4; have f0 := freeOf c2 0; have f1 := freeOf c2 1; have f2 := freeOf c2 2; have f3 := freeOf c2 3; have f4 := freeOf c2 4; simp only [List.getElem?_toArray, List.getElem?_cons_zero, List.getElem?_cons_succ] at d0 e0 e1 e2 e3 e4; have HC2 := hid c2; clear c1 c2))
    have h5 := five_new HC2.out ⟨k, 0, ⟨#[]⟩, 0, none, 0, 0⟩
    have hb5 : Below w.heap.size w (five w1 (w.heap.size + 1) 0 ⟨k, 0, ⟨#[]⟩, 0, none, 0, 0⟩) := five_below (HB.out.trans (hb1.mono HB.out.size)) (by omega) _
    change bodyPost _ _ _ _ _ (five w1 (w.heap.size + 1) 0 ⟨k, 0, ⟨#[]⟩, 0, none, 0, 0⟩)
    have r0 := cellOf h5 0
    have r1 := cellOf h5 1
    have r2 := cellOf h5 2
    have r3 := cellOf h5 3
    have r4 := cellOf h5 4
    simp only [List.getElem?_toArray, List.getElem?_cons_zero, List.getElem?_cons_succ] at r0 r1 r2 r3 r4
    generalize five w1 (w.heap.size + 1) 0 ⟨k, 0, ⟨#[]⟩, 0, none, 0, 0⟩ = W5 at *
    refine bodyPost_ret (v := .agg #[.int .i64 k, .int .i64 0, .string ⟨#[]⟩, .int .i64 0, .slice none 0 0]) (by simp [results, Tryz.results44, go_sem, r0, r1, r2, r3, r4]) rfl ⟨rfl, hb5⟩
  | false =>
    rw [q] at K
    have hz : zH (k, r) = ⟨0, 0, ⟨#[]⟩, 0, none, 0, 0⟩ := by unfold zH; rw [if_neg (by rw [q]; simp)]
    rw [hz]
    clear hz
    simp only [Hd.v]
    go_enter Tryz.func44, Tryz.ntmps44
    go_wp2_with (go_at_call 61; (rw [← hW0]; refine (Hid.out K _).mono ?_; rintro e w1 ⟨rfl, hb1⟩; have c1 := (hb1.block _ (Array.getElem?_eq_some_iff.1 H1.out).1).trans H1.out; have c2 := (hb1.block _ (Array.getElem?_eq_some_iff.1 H2.out).1).trans H2.out; have d0 := cellOf c1 0; have e0 := cellOf c2 0; have e1 := cellOf c2 1; have e2 := cellOf c2 2; have e3 := cellOf c2 3; have e4 := cellOf c2 4; have f0 := freeOf c2 0; have f1 := freeOf c2 1; have f2 := freeOf c2 2; have f3 := freeOf c2 3; have f4 := freeOf c2 4; simp only [List.getElem?_toArray, List.getElem?_cons_zero, List.getElem?_cons_succ] at d0 e0 e1 e2 e3 e4; have HC2 := hid c2; clear c1 c2))
    have h5 := five_new HC2.out ⟨0, 0, ⟨#[]⟩, 0, none, 0, 0⟩
    have hb5 : Below w.heap.size w (five w1 (w.heap.size + 1) 0 ⟨0, 0, ⟨#[]⟩, 0, none, 0, 0⟩) := five_below (HB.out.trans (hb1.mono HB.out.size)) (by omega) _
    change bodyPost _ _ _ _ _ (five w1 (w.heap.size + 1) 0 ⟨0, 0, ⟨#[]⟩, 0, none, 0, 0⟩)
    have r0 := cellOf h5 0
    have r1 := cellOf h5 1
    have r2 := cellOf h5 2
    have r3 := cellOf h5 3
    have r4 := cellOf h5 4
    simp only [List.getElem?_toArray, List.getElem?_cons_zero, List.getElem?_cons_succ] at r0 r1 r2 r3 r4
    generalize five w1 (w.heap.size + 1) 0 ⟨0, 0, ⟨#[]⟩, 0, none, 0, 0⟩ = W5 at *
    refine bodyPost_ret (v := .agg #[.int .i64 0, .int .i64 0, .string ⟨#[]⟩, .int .i64 0, .slice none 0 0]) (by simp [results, Tryz.results44, go_sem, r0, r1, r2, r3, r4]) rfl ⟨rfl, hb5⟩
end Go.Proofs.YtnmbifoinponeaaGreatDoor
