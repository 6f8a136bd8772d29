/- The parser: take. -/
import Derived.Test.YtcnohgifihbkdaaGreatDoorJAE
namespace Go.Proofs.YtcnohgifihbkdaaGreatDoor
open Go.RowKit Go.Deep Go.Shelf
set_option linter.unusedVariables false
set_option linter.unusedSimpArgs false
set_option maxRecDepth 100000
theorem Pst.lt {w : World} {P D : Nat} {s : PS} (h : Pst w P D s) : P < w.heap.size := by have := h.pd; have := h.dw; omega
theorem Pst.cut {w : World} {P D : Nat} {s : PS} (h : Pst w P D s) (hr : okL s.toks.tail) (h2 : 2 ≤ s.toks.length) {g off n c : Nat} (hc : w.cell? ⟨P, 0, none⟩ = some (.slice (some ⟨g, off, none⟩) n c)) : Pst (w.setCell ⟨P, 0, none⟩ (.slice (some ⟨g, off + 3, none⟩) (s.toks.length - 1) (c - 1))) P D { s with toks := s.toks.tail } := by
  obtain ⟨⟨g', off', c', cs, h1, h2', h3, h3', h4⟩, h5, h6, ⟨tp, p, T, h7⟩, h8, h9, h10⟩ := h
  rw [cellOf h1] at hc
  simp only [List.getElem?_toArray, List.getElem?_cons_zero, Option.some.injEq, Value.slice.injEq, Addr.mk.injEq, and_true] at hc
  obtain ⟨⟨rfl, rfl⟩, rfl, rfl⟩ := hc
  have k1 := heap_set_at h1 0 (.slice (some ⟨g', off' + 3, none⟩) (s.toks.length - 1) (c' - 1))
  simp only [List.setIfInBounds_toArray, List.set_cons_zero] at k1
  have hgP : g' ≠ P := fun e => by subst e; rw [h1] at h3; cases h3
  have hl : s.toks.tail.length = s.toks.length - 1 := by simp
  refine ⟨⟨g', off' + 3, c' - 1, cs, by rw [hl]; exact k1, by rw [hl]; omega, (Below.heap_setCell _ ⟨P, 0, none⟩ _ _ hgP).trans h3, h3', fun j t e => ?_⟩, hr, by rw [hl]; omega, ⟨tp, p, T, (Below.heap_setCell _ ⟨P, 0, none⟩ _ _ (show 7 ≠ P by omega)).trans h7⟩, h8, h9, by simpa using h10⟩
  have e2 : s.toks[j + 1]? = some t := by rw [← e, List.getElem?_tail]
  have := h4 (j + 1) t e2
  rw [show off' + (j + 1) * 3 = off' + 3 + j * 3 by omega] at this
  exact this
theorem Pst.opn {w : World} {P D : Nat} {s : PS} (h : Pst w P D s) (n : Int) : Pst (w.setCell ⟨P, 1, none⟩ (.int .i64 n)) P D { s with opn := n } := by
  obtain ⟨⟨g', off', c', cs, h1, h2', h3, h3', h4⟩, h5, h6, ⟨tp, p, T, h7⟩, h8, h9, h10⟩ := h
  have k1 := heap_set_at h1 1 (.int .i64 n)
  simp only [List.setIfInBounds_toArray, List.set_cons_zero, List.set_cons_succ] at k1
  have hgP : g' ≠ P := fun e => by subst e; rw [h1] at h3; cases h3
  exact ⟨⟨g', off', c', cs, k1, h2', (Below.heap_setCell _ ⟨P, 1, none⟩ _ _ hgP).trans h3, h3', h4⟩, h5, h6, ⟨tp, p, T, (Below.heap_setCell _ ⟨P, 1, none⟩ _ _ (show 7 ≠ P by omega)).trans h7⟩, h8, h9, by simpa using h10⟩
theorem Pst.sur {w : World} {P D : Nat} {s : PS} (h : Pst w P D s) (b : Bool) : Pst (w.setCell ⟨P, 2, none⟩ (.bool b)) P D { s with sur := b } := by
  obtain ⟨⟨g', off', c', cs, h1, h2', h3, h3', h4⟩, h5, h6, ⟨tp, p, T, h7⟩, h8, h9, h10⟩ := h
  have k1 := heap_set_at h1 2 (.bool b)
  simp only [List.setIfInBounds_toArray, List.set_cons_zero, List.set_cons_succ] at k1
  have hgP : g' ≠ P := fun e => by subst e; rw [h1] at h3; cases h3
  exact ⟨⟨g', off', c', cs, k1, h2', (Below.heap_setCell _ ⟨P, 2, none⟩ _ _ hgP).trans h3, h3', h4⟩, h5, h6, ⟨tp, p, T, (Below.heap_setCell _ ⟨P, 2, none⟩ _ _ (show 7 ≠ P by omega)).trans h7⟩, h8, h9, by simpa using h10⟩
theorem gB {w w' : World} {P i : Nat} {v : Value} (h : w.grownBy w' (some P)) : w.grownBy (w'.setCell ⟨P, i, none⟩ v) (some P) := gtrans h (grown_set w' P i v)
theorem grown_box {w w' : World} {P i : Nat} {v : Value} (h : w.grownBy w' (some P)) : w.grownBy (w'.setCell ⟨P, i, none⟩ v) (some P) := gtrans h (grown_set w' P i v)
/- A box of a function's own. -/
def Box (b : Nat) (cs : Array Value) (T : TypeId) (w : World) : Prop := w.heap[b]? = some (.cells cs T (0, 0))
theorem Box.new (w : World) (cs : Array Value) (T : TypeId) : Box w.heap.size cs T (w.alloc (.cells cs T)) := heap_alloc_new w _
theorem Box.lt {b : Nat} {cs : Array Value} {T : TypeId} {w : World} (h : Box b cs T w) : b < w.heap.size := lt_of_heap h
theorem Box.below {b : Nat} {cs : Array Value} {T : TypeId} {w w' : World} (h : Box b cs T w) (k : Below w.heap.size w w') : Box b cs T w' := (k.block b h.lt).trans h
theorem Box.alloc {b : Nat} {cs : Array Value} {T : TypeId} {w : World} (h : Box b cs T w) (o : Obj) : Box b cs T (w.alloc o) := h.below ((Below.refl _ _).alloc (Nat.le_refl _) _)
theorem Box.call {b P : Nat} {cs : Array Value} {T : TypeId} {w w' : World} (h : Box b cs T w) (k : w.grownBy w' (some P)) (hP : ¬ b = P) : Box b cs T w' := (k.block b h.lt (fun e => hP (Option.some.inj e))).trans h
theorem Box.set {b b' i : Nat} {v : Value} {cs : Array Value} {T : TypeId} {w : World} (h : Box b cs T w) (hb : ¬ b = b') : Box b cs T (w.setCell ⟨b', i, none⟩ v) := (Below.heap_setCell _ ⟨b', i, none⟩ _ _ (show b ≠ b' from hb)).trans h
theorem Box.put {b : Nat} {v : Value} {cs : Array Value} {T : TypeId} {w : World} (h : Box b cs T w) (i : Nat) : Box b (cs.setIfInBounds i v) T (w.setCell ⟨b, i, none⟩ v) := heap_set_at h i v
theorem Box.put3 {b : Nat} {c0 c1 c2 x0 x1 x2 : Value} {T : TypeId} {w : World} (h : Box b #[c0, c1, c2] T w) : Box b #[x0, x1, x2] T (((w.setCell ⟨b, 0, none⟩ x0).setCell ⟨b, 1, none⟩ x1).setCell ⟨b, 2, none⟩ x2) := by
  have h0 := h.put (v := x0) 0
  simp only [List.setIfInBounds_toArray, List.set_cons_zero, List.set_cons_succ] at h0
  have h1 := h0.put (v := x1) 1
  simp only [List.setIfInBounds_toArray, List.set_cons_zero, List.set_cons_succ] at h1
  have h2 := h1.put (v := x2) 2
  simp only [List.setIfInBounds_toArray, List.set_cons_zero, List.set_cons_succ] at h2
  exact h2
theorem Box.put8 {b : Nat} {c0 c1 c2 c3 c4 c5 c6 c7 x0 x1 x2 x3 x4 x5 x6 x7 : Value} {T : TypeId} {w : World} (h : Box b #[c0, c1, c2, c3, c4, c5, c6, c7] T w) : Box b #[x0, x1, x2, x3, x4, x5, x6, x7] T ((((((((w.setCell ⟨b, 0, none⟩ x0).setCell ⟨b, 1, none⟩ x1).setCell ⟨b, 2, none⟩ x2).setCell ⟨b, 3, none⟩ x3).setCell ⟨b, 4, none⟩ x4).setCell ⟨b, 5, none⟩ x5).setCell ⟨b, 6, none⟩ x6).setCell ⟨b, 7, none⟩ x7) := by
  have h0 := h.put (v := x0) 0
  simp only [List.setIfInBounds_toArray, List.set_cons_zero, List.set_cons_succ] at h0
  have h1 := h0.put (v := x1) 1
  simp only [List.setIfInBounds_toArray, List.set_cons_zero, List.set_cons_succ] at h1
  have h2 := h1.put (v := x2) 2
  simp only [List.setIfInBounds_toArray, List.set_cons_zero, List.set_cons_succ] at h2
  have h3 := h2.put (v := x3) 3
  simp only [List.setIfInBounds_toArray, List.set_cons_zero, List.set_cons_succ] at h3
  have h4 := h3.put (v := x4) 4
  simp only [List.setIfInBounds_toArray, List.set_cons_zero, List.set_cons_succ] at h4
  have h5 := h4.put (v := x5) 5
  simp only [List.setIfInBounds_toArray, List.set_cons_zero, List.set_cons_succ] at h5
  have h6 := h5.put (v := x6) 6
  simp only [List.setIfInBounds_toArray, List.set_cons_zero, List.set_cons_succ] at h6
  have h7 := h6.put (v := x7) 7
  simp only [List.setIfInBounds_toArray, List.set_cons_zero, List.set_cons_succ] at h7
  exact h7
theorem Box.put7 {b : Nat} {c0 c1 c2 c3 c4 c5 c6 x0 x1 x2 x3 x4 x5 x6 : Value} {T : TypeId} {w : World} (h : Box b #[c0, c1, c2, c3, c4, c5, c6] T w) : Box b #[x0, x1, x2, x3, x4, x5, x6] T (((((((w.setCell ⟨b, 0, none⟩ x0).setCell ⟨b, 1, none⟩ x1).setCell ⟨b, 2, none⟩ x2).setCell ⟨b, 3, none⟩ x3).setCell ⟨b, 4, none⟩ x4).setCell ⟨b, 5, none⟩ x5).setCell ⟨b, 6, none⟩ x6) := by
  have h0 := h.put (v := x0) 0
  simp only [List.setIfInBounds_toArray, List.set_cons_zero, List.set_cons_succ] at h0
  have h1 := h0.put (v := x1) 1
  simp only [List.setIfInBounds_toArray, List.set_cons_zero, List.set_cons_succ] at h1
  have h2 := h1.put (v := x2) 2
  simp only [List.setIfInBounds_toArray, List.set_cons_zero, List.set_cons_succ] at h2
  have h3 := h2.put (v := x3) 3
  simp only [List.setIfInBounds_toArray, List.set_cons_zero, List.set_cons_succ] at h3
  have h4 := h3.put (v := x4) 4
  simp only [List.setIfInBounds_toArray, List.set_cons_zero, List.set_cons_succ] at h4
  have h5 := h4.put (v := x5) 5
  simp only [List.setIfInBounds_toArray, List.set_cons_zero, List.set_cons_succ] at h5
  have h6 := h5.put (v := x6) 6
  simp only [List.setIfInBounds_toArray, List.set_cons_zero, List.set_cons_succ] at h6
  exact h6
theorem Box.put4 {b : Nat} {c0 c1 c2 c3 x0 x1 x2 x3 : Value} {T : TypeId} {w : World} (h : Box b #[c0, c1, c2, c3] T w) : Box b #[x0, x1, x2, x3] T ((((w.setCell ⟨b, 0, none⟩ x0).setCell ⟨b, 1, none⟩ x1).setCell ⟨b, 2, none⟩ x2).setCell ⟨b, 3, none⟩ x3) := by
  have h0 := h.put (v := x0) 0
  simp only [List.setIfInBounds_toArray, List.set_cons_zero, List.set_cons_succ] at h0
  have h1 := h0.put (v := x1) 1
  simp only [List.setIfInBounds_toArray, List.set_cons_zero, List.set_cons_succ] at h1
  have h2 := h1.put (v := x2) 2
  simp only [List.setIfInBounds_toArray, List.set_cons_zero, List.set_cons_succ] at h2
  have h3 := h2.put (v := x3) 3
  simp only [List.setIfInBounds_toArray, List.set_cons_zero, List.set_cons_succ] at h3
  exact h3
theorem Box.put2 {b : Nat} {c0 c1 x0 x1 : Value} {T : TypeId} {w : World} (h : Box b #[c0, c1] T w) : Box b #[x0, x1] T ((w.setCell ⟨b, 0, none⟩ x0).setCell ⟨b, 1, none⟩ x1) := by
  have h0 := h.put (v := x0) 0
  simp only [List.setIfInBounds_toArray, List.set_cons_zero, List.set_cons_succ] at h0
  have h1 := h0.put (v := x1) 1
  simp only [List.setIfInBounds_toArray, List.set_cons_zero, List.set_cons_succ] at h1
  exact h1
theorem Box.cell {b i : Nat} {v : Value} {cs : Array Value} {T : TypeId} {w : World} (h : Box b cs T w) (hv : cs[i]? = some v) : w.cell? ⟨b, i, none⟩ = some v := (cellOf h i).trans hv
theorem tail_ok {s : PS} (h : okL s.toks) (hk : (nxt s).kind ≠ 0) : okL s.toks.tail ∧ 2 ≤ s.toks.length := by
  obtain ⟨t, r, e, ht⟩ := h.ne
  have hn : nxt s = t := by unfold nxt; rw [e]; rfl
  rw [e] at h
  rw [hn] at hk
  have hr := h.2.2 hk
  obtain ⟨u, r', e', _⟩ := hr.ne
  rw [e]
  refine ⟨hr, ?_⟩
  rw [e']; simp
set_option maxHeartbeats 1000000 in
theorem take_any (w : World) (P D : Nat) (s : PS) (h : Pst w P D s) (hk : (nxt s).kind ≠ 0) : Calls Tryz.prog 75 #[.pointer (some ⟨P, 0, none⟩)] w (Rt RT P D w (take s)) := by
  have K := hid (fun (V : World) (hV : Pst V P D s) => next_any V P D s hV)
  have hto := nxt_ok h.ok
  have KL := hid (fun (V : World) => isLong_any V (nxt s) hto.tl)
  obtain ⟨hr, h2⟩ := tail_ok h.ok hk
  unfold tokV at K KL
  by_cases hl : isLong (nxt s) = true
  · rw [hl] at KL
    go_enter Tryz.func75, Tryz.ntmps75
    go_wp2_with (first
      | (go_at_call 41; (refine (Hid.out K _ (h.alloc _)).mono ?_; rintro e w1 ⟨rfl, hb⟩; have HB := hid hb; obtain ⟨hc, hf⟩ := bcell hb; have hz := hb.size; simp only [World.size_alloc] at hz; have hle : w.heap.size ≤ w1.heap.size := (by omega); have hlt : w.heap.size < w1.heap.size := (by omega); have HP1 := hid ((h.alloc _).below hb); clear hb))
      | (go_at_call 107; (refine (Hid.out KL _).mono ?_; rintro e w2 ⟨rfl, hb⟩; have HB2 := hid hb; obtain ⟨hc2, hf2⟩ := bcell hb; have hz2 := hb.size; simp only [World.size_alloc] at hz2; have hlt2 : w1.heap.size < w2.heap.size := (by omega); have hlt3 : w.heap.size < w2.heap.size := (by omega); have hPw := h.lt; have hne1 : ¬ w1.heap.size = P := (by omega); have hne0 : ¬ w.heap.size = P := (by omega); have HP2 := hid ((HP1.out.alloc _).below hb); obtain ⟨g, off, n, c, hP, hg, c0, c1, c2, f0, f1, f2, hn, n0, n1, nc, t0, t1, t2⟩ := HP2.out.open; have n2 : (2 : Int) ≤ (n : Int) := (by omega); have hc1 : (c = 1) = False := eq_false (by omega); clear hb)))
    have HT : take s = .error ((nxt s).pos, 74) := by unfold take; rw [if_pos hl]
    exact ⟨rfl, Rt.err HT (gbelow (grown_alloc (gbelow (World.grownBy_alloc w _ _) HB.out) _) HB2.out)⟩
  · have hl : isLong (nxt s) = false := by simpa using hl
    rw [hl] at KL
    by_cases hs : s.sur = true
    · go_enter Tryz.func75, Tryz.ntmps75
      go_wp2_with (first
        | (go_at_call 41; (refine (Hid.out K _ (h.alloc _)).mono ?_; rintro e w1 ⟨rfl, hb⟩; have HB := hid hb; obtain ⟨hc, hf⟩ := bcell hb; have hz := hb.size; simp only [World.size_alloc] at hz; have hle : w.heap.size ≤ w1.heap.size := (by omega); have hlt : w.heap.size < w1.heap.size := (by omega); have HP1 := hid ((h.alloc _).below hb); clear hb))
        | (go_at_call 107; (refine (Hid.out KL _).mono ?_; rintro e w2 ⟨rfl, hb⟩; have HB2 := hid hb; obtain ⟨hc2, hf2⟩ := bcell hb; have hz2 := hb.size; simp only [World.size_alloc] at hz2; have hlt2 : w1.heap.size < w2.heap.size := (by omega); have hlt3 : w.heap.size < w2.heap.size := (by omega); have hPw := h.lt; have hne1 : ¬ w1.heap.size = P := (by omega); have hne0 : ¬ w.heap.size = P := (by omega); have HP2 := hid ((HP1.out.alloc _).below hb); obtain ⟨g, off, n, c, hP, hg, c0, c1, c2, f0, f1, f2, hn, n0, n1, nc, t0, t1, t2⟩ := HP2.out.open; have n2 : (2 : Int) ≤ (n : Int) := (by omega); have hc1 : (c = 1) = False := eq_false (by omega); clear hb; rw [hs] at c2)))
      have HT : take s = .error ((nxt s).pos, 72) := by unfold take; rw [if_neg (by rw [hl]; decide), if_pos hs]
      exact ⟨rfl, Rt.err HT (gbelow (grown_alloc (gbelow (World.grownBy_alloc w _ _) HB.out) _) HB2.out)⟩
    · have hs : s.sur = false := by simpa using hs
      go_enter Tryz.func75, Tryz.ntmps75
      go_wp2_with (first
        | (go_at_call 41; (refine (Hid.out K _ (h.alloc _)).mono ?_; rintro e w1 ⟨rfl, hb⟩; have HB := hid hb; obtain ⟨hc, hf⟩ := bcell hb; have hz := hb.size; simp only [World.size_alloc] at hz; have hle : w.heap.size ≤ w1.heap.size := (by omega); have hlt : w.heap.size < w1.heap.size := (by omega); have HP1 := hid ((h.alloc _).below hb); clear hb))
        | (go_at_call 107; (refine (Hid.out KL _).mono ?_; rintro e w2 ⟨rfl, hb⟩; have HB2 := hid hb; obtain ⟨hc2, hf2⟩ := bcell hb; have hz2 := hb.size; simp only [World.size_alloc] at hz2; have hlt2 : w1.heap.size < w2.heap.size := (by omega); have hlt3 : w.heap.size < w2.heap.size := (by omega); have hPw := h.lt; have hne1 : ¬ w1.heap.size = P := (by omega); have hne0 : ¬ w.heap.size = P := (by omega); have HP2 := hid ((HP1.out.alloc _).below hb); obtain ⟨g, off, n, c, hP, hg, c0, c1, c2, f0, f1, f2, hn, n0, n1, nc, t0, t1, t2⟩ := HP2.out.open; have n2 : (2 : Int) ≤ (n : Int) := (by omega); have hc1 : (c = 1) = False := eq_false (by omega); clear hb; rw [hs] at c2)))
      have hcc := HP2.out.cut hr h2 c0
      have m0 := (((((Box.new w _ _).below HB.out).alloc _).below HB2.out).set (i := 0) (v := .slice (some ⟨g, off + 3, none⟩) (s.toks.length - 1) (c - 1)) hne0).put3 (x0 := .int .i64 (nxt s).kind) (x1 := .string (bs (nxt s).text)) (x2 := .int .i64 (nxt s).pos)
      have q0 := m0.cell (i := 0) rfl
      have q1 := m0.cell (i := 1) rfl
      have q2 := m0.cell (i := 2) rfl
      refine bodyPost_ret (v := tokV (nxt s)) (by simp [results, Tryz.results75, go_sem, tokV, q0, q1, q2]) rfl (Rt.ok (a := nxt s) (s' := { s with toks := s.toks.tail }) (by unfold take; rw [if_neg (by rw [hl]; decide), if_neg (by rw [hs]; decide)]) rfl ?_ ?_)
      · exact (((hcc.set (by have := h.dw; omega)).set (by have := h.dw; omega)).set (by have := h.dw; omega))
      · exact grown_set' (grown_set' (grown_set' (grown_box (gbelow (grown_alloc (gbelow (World.grownBy_alloc w _ _) HB.out) _) HB2.out)) (Nat.le_refl _)) (Nat.le_refl _)) (Nat.le_refl _)
end Go.Proofs.YtcnohgifihbkdaaGreatDoor

namespace Go.Proofs.YtcnohgifihbkdaaGreatDoor
open Go.RowKit Go.Deep Go.Shelf
set_option linter.unusedVariables false
set_option linter.unusedSimpArgs false
set_option maxRecDepth 100000
/- A box of n cells. -/
def Bx (n b : Nat) (T : TypeId) (w : World) : Prop := ∃ cs : Array Value, cs.size = n ∧ Box b cs T w
theorem Bx.new {n : Nat} (w : World) (cs : Array Value) (T : TypeId) (h : cs.size = n) : Bx n w.heap.size T (w.alloc (.cells cs T)) := ⟨cs, h, Box.new w cs T⟩
theorem Bx.alloc {n b : Nat} {T : TypeId} {w : World} (h : Bx n b T w) (o : Obj) : Bx n b T (w.alloc o) := by obtain ⟨cs, h1, h2⟩ := h; exact ⟨cs, h1, h2.alloc o⟩
theorem Bx.call {n b P : Nat} {T : TypeId} {w w' : World} (k : w.grownBy w' (some P)) (hP : ¬ b = P) (h : Bx n b T w) : Bx n b T w' := by obtain ⟨cs, h1, h2⟩ := h; exact ⟨cs, h1, h2.call k hP⟩
theorem Bx.set {n b b' i : Nat} {v : Value} {T : TypeId} {w : World} (h : Bx n b T w) : Bx n b T (w.setCell ⟨b', i, none⟩ v) := by
  obtain ⟨cs, h1, h2⟩ := h
  by_cases e : b = b'
  · subst e; exact ⟨_, by rw [Array.size_setIfInBounds]; exact h1, h2.put i⟩
  · exact ⟨cs, h1, h2.set e⟩
theorem Bx.put3 {b : Nat} {x0 x1 x2 : Value} {T : TypeId} {w : World} (h : Bx 3 b T w) : Box b #[x0, x1, x2] T (((w.setCell ⟨b, 0, none⟩ x0).setCell ⟨b, 1, none⟩ x1).setCell ⟨b, 2, none⟩ x2) := by
  obtain ⟨⟨l⟩, h1, h2⟩ := h
  match l, h1 with
  | [a, b, c], _ => exact h2.put3
theorem Bx.put7 {b : Nat} {x0 x1 x2 x3 x4 x5 x6 : Value} {T : TypeId} {w : World} (h : Bx 7 b T w) : Box b #[x0, x1, x2, x3, x4, x5, x6] T (((((((w.setCell ⟨b, 0, none⟩ x0).setCell ⟨b, 1, none⟩ x1).setCell ⟨b, 2, none⟩ x2).setCell ⟨b, 3, none⟩ x3).setCell ⟨b, 4, none⟩ x4).setCell ⟨b, 5, none⟩ x5).setCell ⟨b, 6, none⟩ x6) := by
  obtain ⟨⟨l⟩, h1, h2⟩ := h
  match l, h1 with
  | [_, _, _, _, _, _, _], _ => exact h2.put7
theorem Bx.put8 {b : Nat} {x0 x1 x2 x3 x4 x5 x6 x7 : Value} {T : TypeId} {w : World} (h : Bx 8 b T w) : Box b #[x0, x1, x2, x3, x4, x5, x6, x7] T ((((((((w.setCell ⟨b, 0, none⟩ x0).setCell ⟨b, 1, none⟩ x1).setCell ⟨b, 2, none⟩ x2).setCell ⟨b, 3, none⟩ x3).setCell ⟨b, 4, none⟩ x4).setCell ⟨b, 5, none⟩ x5).setCell ⟨b, 6, none⟩ x6).setCell ⟨b, 7, none⟩ x7) := by
  obtain ⟨⟨l⟩, h1, h2⟩ := h
  match l, h1 with
  | [_, _, _, _, _, _, _, _], _ => exact h2.put8
theorem Bx.put2 {b : Nat} {x0 x1 : Value} {T : TypeId} {w : World} (h : Bx 2 b T w) : Box b #[x0, x1] T ((w.setCell ⟨b, 0, none⟩ x0).setCell ⟨b, 1, none⟩ x1) := by
  obtain ⟨⟨l⟩, h1, h2⟩ := h
  match l, h1 with
  | [_, _], _ => exact h2.put2
theorem ret2 {fn : Func} {R : Ending → World → Prop} {a : Act} {W : World} {i b : Nat} {x0 x1 : Value} (hres : fn.results = #[.cell i 112]) (hs : a.tmps[i]?.getD undef = .pointer (some ⟨b, 0, none⟩)) (hb : Box b #[x0, x1] 112 W) (hd : a.defers = []) (hR : R (.returned (.agg #[x0, x1])) W) : bodyPost Tryz.prog fn R .ret a W := by
  have q0 := hb.cell (i := 0) rfl
  have q1 := hb.cell (i := 1) rfl
  exact bodyPost_ret (v := .agg #[x0, x1]) (by simp [results, hres, go_sem, hs, q0, q1]) hd hR
theorem ret3 {fn : Func} {R : Ending → World → Prop} {a : Act} {W : World} {i b : Nat} {x0 x1 x2 : Value} (hres : fn.results = #[.cell i 69]) (hs : a.tmps[i]?.getD undef = .pointer (some ⟨b, 0, none⟩)) (hb : Box b #[x0, x1, x2] 69 W) (hd : a.defers = []) (hR : R (.returned (.agg #[x0, x1, x2])) W) : bodyPost Tryz.prog fn R .ret a W := by
  have q0 := hb.cell (i := 0) rfl
  have q1 := hb.cell (i := 1) rfl
  have q2 := hb.cell (i := 2) rfl
  exact bodyPost_ret (v := .agg #[x0, x1, x2]) (by simp [results, hres, go_sem, hs, q0, q1, q2]) hd hR
theorem ret8 {fn : Func} {R : Ending → World → Prop} {a : Act} {W : World} {i b : Nat} {x0 x1 x2 x3 x4 x5 x6 x7 : Value} (hres : fn.results = #[.cell i 45]) (hs : a.tmps[i]?.getD undef = .pointer (some ⟨b, 0, none⟩)) (hb : Box b #[x0, x1, x2, x3, x4, x5, x6, x7] 45 W) (hd : a.defers = []) (hR : R (.returned (.agg #[x0, x1, x2, x3, x4, x5, x6, x7])) W) : bodyPost Tryz.prog fn R .ret a W := by
  have q0 := hb.cell (i := 0) rfl
  have q1 := hb.cell (i := 1) rfl
  have q2 := hb.cell (i := 2) rfl
  have q3 := hb.cell (i := 3) rfl
  have q4 := hb.cell (i := 4) rfl
  have q5 := hb.cell (i := 5) rfl
  have q6 := hb.cell (i := 6) rfl
  have q7 := hb.cell (i := 7) rfl
  exact bodyPost_ret (v := .agg #[x0, x1, x2, x3, x4, x5, x6, x7]) (by simp [results, hres, go_sem, hs, q0, q1, q2, q3, q4, q5, q6, q7]) hd hR
theorem ret8s {fn : Func} {R : Ending → World → Prop} {a : Act} {W : World} {i b : Nat} {x0 x1 x2 x3 x4 x5 x6 x7 : Value} (hres : fn.results = #[.cell i 48]) (hs : a.tmps[i]?.getD undef = .pointer (some ⟨b, 0, none⟩)) (hb : Box b #[x0, x1, x2, x3, x4, x5, x6, x7] 48 W) (hd : a.defers = []) (hR : R (.returned (.agg #[x0, x1, x2, x3, x4, x5, x6, x7])) W) : bodyPost Tryz.prog fn R .ret a W := by
  have q0 := hb.cell (i := 0) rfl
  have q1 := hb.cell (i := 1) rfl
  have q2 := hb.cell (i := 2) rfl
  have q3 := hb.cell (i := 3) rfl
  have q4 := hb.cell (i := 4) rfl
  have q5 := hb.cell (i := 5) rfl
  have q6 := hb.cell (i := 6) rfl
  have q7 := hb.cell (i := 7) rfl
  exact bodyPost_ret (v := .agg #[x0, x1, x2, x3, x4, x5, x6, x7]) (by simp [results, hres, go_sem, hs, q0, q1, q2, q3, q4, q5, q6, q7]) hd hR
theorem ret7 {fn : Func} {R : Ending → World → Prop} {a : Act} {W : World} {i b : Nat} {x0 x1 x2 x3 x4 x5 x6 : Value} (hres : fn.results = #[.cell i 51]) (hs : a.tmps[i]?.getD undef = .pointer (some ⟨b, 0, none⟩)) (hb : Box b #[x0, x1, x2, x3, x4, x5, x6] 51 W) (hd : a.defers = []) (hR : R (.returned (.agg #[x0, x1, x2, x3, x4, x5, x6])) W) : bodyPost Tryz.prog fn R .ret a W := by
  have q0 := hb.cell (i := 0) rfl
  have q1 := hb.cell (i := 1) rfl
  have q2 := hb.cell (i := 2) rfl
  have q3 := hb.cell (i := 3) rfl
  have q4 := hb.cell (i := 4) rfl
  have q5 := hb.cell (i := 5) rfl
  have q6 := hb.cell (i := 6) rfl
  exact bodyPost_ret (v := .agg #[x0, x1, x2, x3, x4, x5, x6]) (by simp [results, hres, go_sem, hs, q0, q1, q2, q3, q4, q5, q6]) hd hR
end Go.Proofs.YtcnohgifihbkdaaGreatDoor

namespace Go.Proofs.YtcnohgifihbkdaaGreatDoor
open Go.RowKit Go.Deep Go.Shelf
set_option linter.unusedVariables false
set_option linter.unusedSimpArgs false
set_option maxRecDepth 100000
theorem bd_ok {α β : Type} {x : Pr α} {f : α → Pr β} {s s' : PS} {a : α} (h : x s = .ok (a, s')) : bd x f s = f a s' := by unfold bd; rw [h]
theorem bd_err {α β : Type} {x : Pr α} {f : α → Pr β} {s : PS} {e : Flt} (h : x s = .error e) : bd x f s = .error e := by unfold bd; rw [h]
set_option maxHeartbeats 1000000 in
theorem isSmall_any (w : World) (P D : Nat) (s : PS) (HP : Pst w P D s) : Calls Tryz.prog 113 #[.pointer (some ⟨P, 0, none⟩)] w fun e w' => e = .returned (.bool (isSmall s)) ∧ Below w.heap.size w w' := by
  have K := hid (next_any w P D s HP)
  have KG := hid (fun (V : World) (hV : Pst V P D s) => isGreat_any V P D s hV)
  unfold tokV at K
  unfold isSmall
  by_cases hk : (nxt s).kind = 1
  · rw [hk] at K ⊢
    go_enter Tryz.func113, Tryz.ntmps113
    go_wp2_with (first
      | (go_at_call 41; (refine (Hid.out K).mono ?_; rintro e w1 ⟨rfl, hb⟩; have HB := hid hb; have HP1 := HP.below hb; clear hb))
      | (go_at_call 108; (refine (Hid.out KG _ HP1).mono ?_; rintro e w2 ⟨rfl, hb⟩; have HB2 := hid hb; clear hb)))
    go_ret
    exact ⟨by simp, HB.out.trans (HB2.out.mono HB.out.size)⟩
  · have hk2 : ((nxt s).kind == 1) = false := by simp [hk]
    rw [hk2]
    go_enter Tryz.func113, Tryz.ntmps113
    go_wp2_with (first
      | (go_at_call 41; (refine (Hid.out K).mono ?_; rintro e w1 ⟨rfl, hb⟩; have HB := hid hb; have HP1 := HP.below hb; clear hb))
      | (go_at_call 108; (refine (Hid.out KG _ HP1).mono ?_; rintro e w2 ⟨rfl, hb⟩; have HB2 := hid hb; clear hb)))
    go_ret
    exact ⟨by simp, HB.out⟩
set_option maxHeartbeats 1000000 in
theorem leave_any (w : World) (P D : Nat) (s : PS) (HP : Pst w P D s) : Calls Tryz.prog 151 #[.pointer (some ⟨P, 0, none⟩)] w (Rt RU P D w (leave s)) := by
  obtain ⟨g, off, n, c, hP, hg, c0, c1, c2, f0, f1, f2, hn, n0, n1, nc, t0, t1, t2⟩ := HP.open
  have FIN := hid (HP.opn (wrap64 (s.opn - 1)))
  clear hn
  go_enter Tryz.func151, Tryz.ntmps151
  go_wp2
  exact ⟨rfl, .tuple #[], by simp [results, Tryz.results151, go_sem], Rt.ok (a := ()) (s' := { s with opn := wrap64 (s.opn - 1) }) rfl rfl FIN.out (grown_set _ _ _ _)⟩
set_option maxHeartbeats 1000000 in
theorem enter_any (w : World) (P D : Nat) (s : PS) (HP : Pst w P D s) (HK : (nxt s).kind ≠ 0) : Calls Tryz.prog 150 #[.pointer (some ⟨P, 0, none⟩)] w (Rt RT P D w (enter s)) := by
  have H := hid (show enter s = bd take (fun t s => if s.opn = 40 then .error (t.pos, 71) else .ok (t, { s with opn := wrap64 (s.opn + 1) })) s from rfl)
  have HG := World.grownBy.refl w (some P)
  have hPw := HP.lt
  have hD := HP.dw
  have hPD := HP.pd
  have t0 := True.intro
  go_enter Tryz.func150, Tryz.ntmps150
  go_wp2_with (first
    | (have hno := t0; (go_at_call 75; (refine (take_any _ _ _ _ (by with_reducible repeat first | exact HP | apply pA | refine pS (by omega) ?_) HK).mono ?_; intro e w1 hrt; rcases hrt.go (W := w) (by with_reducible repeat first | exact HG | apply gA | apply gB | refine gS (by omega) ?_) with ⟨f, hx, rfl, hg⟩ | ⟨a, s1, v, hx, rfl, hv, HP, hGw1, HG, hcw1, hfw1, hzw1, hPw1⟩; exact ⟨rfl, Rt.err (H.out.trans (bd_err hx)) hg⟩; (have hv2 : v = tokV a := hv; subst hv2; unfold tokV); have H := hid (H.out.trans (bd_ok hx)); (try simp only [szA, szS] at hzw1); have hleww1 := le1 w w1 (by omega); (try have hltww1 := lt1 w w1 (by omega)); have t1 := True.intro; obtain ⟨g', off, n, c, hP', hg', c0, c1, c2, f0, f1, f2, hn, n0, n1, nc, u0, u1, u2⟩ := HP.open; (try clear hn); have hneP0 : ¬ w.heap.size = P := (by omega); have hneP1 : ¬ w1.heap.size = P := (by omega); have HPO := HP.opn (wrap64 (s1.opn + 1)); skip; by_cases h40 : s1.opn = 40; (try clear hg hs))))
    )
  · exact ⟨rfl, Rt.err (H.out.trans (if_pos h40)) (by with_reducible repeat first | exact HG | apply gA | apply gB | refine gS (by omega) ?_)⟩
  · refine ret3 Tryz.results150 rfl (by repeat (first | (with_reducible apply Bx.put3) | (with_reducible apply Box.alloc) | ((with_reducible refine Box.set ?_ ?_); rotate_left; omega) | ((with_reducible refine Bx.new _ _ _ ?_); rfl) | (with_reducible apply Bx.alloc) | (with_reducible apply Bx.set) | ((with_reducible refine Bx.call hGw1 ?_ ?_); omega))) rfl (Rt.ok (H.out.trans (if_neg h40)) rfl ?_ (by with_reducible repeat first | exact HG | apply gA | apply gB | refine gS (by omega) ?_))
    clear HP
    have HP := HPO
    exact (by with_reducible repeat first | exact HP | apply pA | refine pS (by omega) ?_)
theorem isS_k {q : Bsq} {s : PS} (h : isS q s = true) : (nxt s).kind ≠ 0 := by
  unfold isS at h
  intro e
  rw [e] at h
  simp at h
theorem isG_kind {s : PS} (h : isGreat s = true) : (nxt s).kind ≠ 0 := by
  unfold isGreat at h
  intro e
  rw [e] at h
  simp at h
theorem isM_kind {s : PS} (h : isSmall s = true) : (nxt s).kind ≠ 0 := by
  unfold isSmall at h
  intro e
  rw [e] at h
  simp at h
set_option maxHeartbeats 1000000 in
theorem maybe_any (w : World) (P D : Nat) (s : PS) (q : Bsq) (HP : Pst w P D s) : Calls Tryz.prog 85 #[.pointer (some ⟨P, 0, none⟩), .string (bs q)] w (Rt RB P D w (maybe q s)) := by
  have HG := World.grownBy.refl w (some P)
  have hPw := HP.lt
  have hD := HP.dw
  have hPD := HP.pd
  have t0 := True.intro
  have KI := hid (is_any w P D s q HP)
  by_cases hq : isS q s = true
  · have H := hid (show maybe q s = bd take (fun _ => ret true) s by unfold maybe; rw [if_pos hq])
    have HK := isS_k hq
    simp only [hq] at KI
    go_enter Tryz.func85, Tryz.ntmps85
    go_wp2_with (first
      | (have hno := t1; (go_at_call 75; (refine (take_any _ _ _ _ (by with_reducible repeat first | exact HP | apply pA | refine pS (by omega) ?_) HK).mono ?_; intro e w2 hrt; rcases hrt.go (W := w) (by with_reducible repeat first | exact HG | apply gA | apply gB | refine gS (by omega) ?_) with ⟨f, hx, rfl, hg⟩ | ⟨a, s1, v, hx, rfl, hv, HP, hGw2, HG, hcw2, hfw2, hzw2, hPw2⟩; exact ⟨rfl, Rt.err (H.out.trans (bd_err hx)) hg⟩; (have hv2 : v = tokV a := hv; subst hv2; unfold tokV); have H := hid (H.out.trans (bd_ok hx)); (try simp only [szA, szS] at hzw2); have hleww2 := le1 w w2 (by omega); (try have hltww2 := lt1 w w2 (by omega)); have hlew1w2 := le1 w1 w2 (by omega); (try have hltw1w2 := lt1 w1 w2 (by omega)); have t2 := True.intro)))
      | (have hno := t0; (go_at_call 42; (refine (KI.out).mono ?_; rintro e w1 ⟨rfl, hb⟩; have hg := bgrown hb (some P); have hs := Pst.below (by with_reducible repeat first | exact HP | apply pA | refine pS (by omega) ?_) hb; obtain ⟨hcw1, hfw1⟩ := gcell hg; have hzw1 := hg.size; (try simp only [szA, szS] at hzw1); have hPw1 := hs.lt; have hleww1 := le1 w w1 (by omega); (try have hltww1 := lt1 w w1 (by omega)); have HG := gtrans (by with_reducible repeat first | exact HG | apply gA | apply gB | refine gS (by omega) ?_) hg; have HP := hs; have hGw1 := hg; have t1 := True.intro; (try clear hg hs)))))
    go_ret
    exact Rt.ok H.out rfl HP HG
  · have hq : isS q s = false := by simpa using hq
    have H : maybe q s = .ok (false, s) := by unfold maybe; rw [if_neg (by rw [hq]; decide)]
    have H := hid H
    simp only [hq] at KI
    go_enter Tryz.func85, Tryz.ntmps85
    go_wp2_with ((have hno := t0; (go_at_call 42; (refine (KI.out).mono ?_; rintro e w1 ⟨rfl, hb⟩; have hg := bgrown hb (some P); have hs := Pst.below (by with_reducible repeat first | exact HP | apply pA | refine pS (by omega) ?_) hb; obtain ⟨hcw1, hfw1⟩ := gcell hg; have hzw1 := hg.size; (try simp only [szA, szS] at hzw1); have hPw1 := hs.lt; have hleww1 := le1 w w1 (by omega); (try have hltww1 := lt1 w w1 (by omega)); have HG := gtrans (by with_reducible repeat first | exact HG | apply gA | apply gB | refine gS (by omega) ?_) hg; have HP := hs; have hGw1 := hg; have t1 := True.intro; (try clear hg hs)))))
    go_ret
    exact Rt.ok H.out rfl HP HG
set_option maxHeartbeats 1000000 in
theorem want_any (w : World) (P D : Nat) (s : PS) (q : Bsq) (HP : Pst w P D s) : Calls Tryz.prog 80 #[.pointer (some ⟨P, 0, none⟩), .string (bs q)] w (Rt RU P D w (want q s)) := by
  have H := hid (show want q s = bd (maybe q) (fun b => if b = true then ret () else wrong) s from rfl)
  have HG := World.grownBy.refl w (some P)
  have hPw := HP.lt
  have hD := HP.dw
  have hPD := HP.pd
  have t0 := True.intro
  go_enter Tryz.func80, Tryz.ntmps80
  go_wp2_with (first
    | (have hno := t1; (go_at_call 48; (refine (wrong_any _ _ _ _ (by with_reducible repeat first | exact HP | apply pA | refine pS (by omega) ?_)).mono ?_; rintro e w2 ⟨rfl, hb⟩; have hg := bgrown hb (some P); have hs := Pst.below (by with_reducible repeat first | exact HP | apply pA | refine pS (by omega) ?_) hb; obtain ⟨hcw2, hfw2⟩ := gcell hg; have hzw2 := hg.size; (try simp only [szA, szS] at hzw2); have hPw2 := hs.lt; have hleww2 := le1 w w2 (by omega); (try have hltww2 := lt1 w w2 (by omega)); have hlew1w2 := le1 w1 w2 (by omega); (try have hltw1w2 := lt1 w1 w2 (by omega)); have HG := gtrans (by with_reducible repeat first | exact HG | apply gA | apply gB | refine gS (by omega) ?_) hg; have HP := hs; have hGw2 := hg; have t2 := True.intro; (try clear hg hs))))
    | (have hno := t0; (go_at_call 85; (refine (maybe_any _ _ _ _ _ (by with_reducible repeat first | exact HP | apply pA | refine pS (by omega) ?_)).mono ?_; intro e w1 hrt; rcases hrt.go (W := w) (by with_reducible repeat first | exact HG | apply gA | apply gB | refine gS (by omega) ?_) with ⟨f, hx, rfl, hg⟩ | ⟨a, s1, v, hx, rfl, hv, HP, hGw1, HG, hcw1, hfw1, hzw1, hPw1⟩; exact ⟨rfl, Rt.err (H.out.trans (bd_err hx)) hg⟩; (have hv2 : v = .bool a := hv; subst hv2); have H := hid (H.out.trans (bd_ok hx)); (try simp only [szA, szS] at hzw1); have hleww1 := le1 w w1 (by omega); (try have hltww1 := lt1 w w1 (by omega)); have t1 := True.intro; skip; cases a))))
  · exact ⟨rfl, Rt.err (H.out.trans rfl) (by with_reducible repeat first | exact HG | apply gA | apply gB | refine gS (by omega) ?_)⟩
  · exact ⟨rfl, .tuple #[], by simp [results, Tryz.results80, go_sem], Rt.ok (H.out.trans rfl) rfl HP HG⟩
end Go.Proofs.YtcnohgifihbkdaaGreatDoor

namespace Go.Proofs.YtcnohgifihbkdaaGreatDoor
open Go.RowKit Go.Deep Go.Shelf
set_option linter.unusedVariables false
set_option linter.unusedSimpArgs false
set_option maxRecDepth 100000
set_option maxHeartbeats 1000000 in
theorem small_any (w : World) (P D : Nat) (s : PS) (HP : Pst w P D s) : Calls Tryz.prog 79 #[.pointer (some ⟨P, 0, none⟩)] w (Rt RS P D w (small s)) := by
  have HG := World.grownBy.refl w (some P)
  have hPw := HP.lt
  have hD := HP.dw
  have hPD := HP.pd
  have t0 := True.intro
  have KI := hid (isSmall_any w P D s HP)
  by_cases hq : isSmall s = true
  · have H := hid (show small s = bd take (fun t => ret t.text) s by unfold small; rw [if_pos hq])
    have HK := isM_kind hq
    simp only [hq] at KI
    go_enter Tryz.func79, Tryz.ntmps79
    go_wp2_with (first
      | (have hno := t1; (go_at_call 75; (refine (take_any _ _ _ _ (by with_reducible repeat first | exact HP | apply pA | refine pS (by omega) ?_) HK).mono ?_; intro e w2 hrt; rcases hrt.go (W := w) (by with_reducible repeat first | exact HG | apply gA | apply gB | refine gS (by omega) ?_) with ⟨f, hx, rfl, hg⟩ | ⟨a, s1, v, hx, rfl, hv, HP, hGw2, HG, hcw2, hfw2, hzw2, hPw2⟩; exact ⟨rfl, Rt.err (H.out.trans (bd_err hx)) hg⟩; (have hv2 : v = tokV a := hv; subst hv2; unfold tokV); have H := hid (H.out.trans (bd_ok hx)); (try simp only [szA, szS] at hzw2); have hleww2 := le1 w w2 (by omega); (try have hltww2 := lt1 w w2 (by omega)); have hlew1w2 := le1 w1 w2 (by omega); (try have hltw1w2 := lt1 w1 w2 (by omega)); have t2 := True.intro)))
      | (have hno := t0; (go_at_call 113; (refine (KI.out).mono ?_; rintro e w1 ⟨rfl, hb⟩; have hg := bgrown hb (some P); have hs := Pst.below (by with_reducible repeat first | exact HP | apply pA | refine pS (by omega) ?_) hb; obtain ⟨hcw1, hfw1⟩ := gcell hg; have hzw1 := hg.size; (try simp only [szA, szS] at hzw1); have hPw1 := hs.lt; have hleww1 := le1 w w1 (by omega); (try have hltww1 := lt1 w w1 (by omega)); have HG := gtrans (by with_reducible repeat first | exact HG | apply gA | apply gB | refine gS (by omega) ?_) hg; have HP := hs; have hGw1 := hg; have t1 := True.intro; (try clear hg hs))))
      )
    go_ret
    exact Rt.ok (H.out.trans rfl) rfl (by with_reducible repeat first | exact HP | apply pA | refine pS (by omega) ?_) (by with_reducible repeat first | exact HG | apply gA | apply gB | refine gS (by omega) ?_)
  · have hq : isSmall s = false := by simpa using hq
    have H := hid (show small s = wrong s by unfold small; rw [if_neg (by rw [hq]; decide)])
    simp only [hq] at KI
    go_enter Tryz.func79, Tryz.ntmps79
    go_wp2_with (first
      | (have hno := t1; (go_at_call 48; (refine (wrong_any _ _ _ _ (by with_reducible repeat first | exact HP | apply pA | refine pS (by omega) ?_)).mono ?_; rintro e w2 ⟨rfl, hb⟩; have hg := bgrown hb (some P); have hs := Pst.below (by with_reducible repeat first | exact HP | apply pA | refine pS (by omega) ?_) hb; obtain ⟨hcw2, hfw2⟩ := gcell hg; have hzw2 := hg.size; (try simp only [szA, szS] at hzw2); have hPw2 := hs.lt; have hleww2 := le1 w w2 (by omega); (try have hltww2 := lt1 w w2 (by omega)); have hlew1w2 := le1 w1 w2 (by omega); (try have hltw1w2 := lt1 w1 w2 (by omega)); have HG := gtrans (by with_reducible repeat first | exact HG | apply gA | apply gB | refine gS (by omega) ?_) hg; have HP := hs; have hGw2 := hg; have t2 := True.intro; (try clear hg hs))))
      | (have hno := t0; (go_at_call 113; (refine (KI.out).mono ?_; rintro e w1 ⟨rfl, hb⟩; have hg := bgrown hb (some P); have hs := Pst.below (by with_reducible repeat first | exact HP | apply pA | refine pS (by omega) ?_) hb; obtain ⟨hcw1, hfw1⟩ := gcell hg; have hzw1 := hg.size; (try simp only [szA, szS] at hzw1); have hPw1 := hs.lt; have hleww1 := le1 w w1 (by omega); (try have hltww1 := lt1 w w1 (by omega)); have HG := gtrans (by with_reducible repeat first | exact HG | apply gA | apply gB | refine gS (by omega) ?_) hg; have HP := hs; have hGw1 := hg; have t1 := True.intro; (try clear hg hs))))
      )
    exact ⟨rfl, Rt.err (H.out.trans rfl) (by with_reducible repeat first | exact HG | apply gA | apply gB | refine gS (by omega) ?_)⟩
set_option maxHeartbeats 1000000 in
theorem great_any (w : World) (P D : Nat) (s : PS) (HP : Pst w P D s) : Calls Tryz.prog 76 #[.pointer (some ⟨P, 0, none⟩)] w (Rt RS P D w (great s)) := by
  have HG := World.grownBy.refl w (some P)
  have hPw := HP.lt
  have hD := HP.dw
  have hPD := HP.pd
  have t0 := True.intro
  have KI := hid (isGreat_any w P D s HP)
  by_cases hq : isGreat s = true
  · have H := hid (show great s = bd take (fun t => ret t.text) s by unfold great; rw [if_pos hq])
    have HK := isG_kind hq
    simp only [hq] at KI
    go_enter Tryz.func76, Tryz.ntmps76
    go_wp2_with (first
      | (have hno := t1; (go_at_call 75; (refine (take_any _ _ _ _ (by with_reducible repeat first | exact HP | apply pA | refine pS (by omega) ?_) HK).mono ?_; intro e w2 hrt; rcases hrt.go (W := w) (by with_reducible repeat first | exact HG | apply gA | apply gB | refine gS (by omega) ?_) with ⟨f, hx, rfl, hg⟩ | ⟨a, s1, v, hx, rfl, hv, HP, hGw2, HG, hcw2, hfw2, hzw2, hPw2⟩; exact ⟨rfl, Rt.err (H.out.trans (bd_err hx)) hg⟩; (have hv2 : v = tokV a := hv; subst hv2; unfold tokV); have H := hid (H.out.trans (bd_ok hx)); (try simp only [szA, szS] at hzw2); have hleww2 := le1 w w2 (by omega); (try have hltww2 := lt1 w w2 (by omega)); have hlew1w2 := le1 w1 w2 (by omega); (try have hltw1w2 := lt1 w1 w2 (by omega)); have t2 := True.intro)))
      | (have hno := t0; (go_at_call 108; (refine (KI.out).mono ?_; rintro e w1 ⟨rfl, hb⟩; have hg := bgrown hb (some P); have hs := Pst.below (by with_reducible repeat first | exact HP | apply pA | refine pS (by omega) ?_) hb; obtain ⟨hcw1, hfw1⟩ := gcell hg; have hzw1 := hg.size; (try simp only [szA, szS] at hzw1); have hPw1 := hs.lt; have hleww1 := le1 w w1 (by omega); (try have hltww1 := lt1 w w1 (by omega)); have HG := gtrans (by with_reducible repeat first | exact HG | apply gA | apply gB | refine gS (by omega) ?_) hg; have HP := hs; have hGw1 := hg; have t1 := True.intro; (try clear hg hs))))
      )
    go_ret
    exact Rt.ok (H.out.trans rfl) rfl (by with_reducible repeat first | exact HP | apply pA | refine pS (by omega) ?_) (by with_reducible repeat first | exact HG | apply gA | apply gB | refine gS (by omega) ?_)
  · have hq : isGreat s = false := by simpa using hq
    have H := hid (show great s = wrong s by unfold great; rw [if_neg (by rw [hq]; decide)])
    simp only [hq] at KI
    go_enter Tryz.func76, Tryz.ntmps76
    go_wp2_with (first
      | (have hno := t1; (go_at_call 48; (refine (wrong_any _ _ _ _ (by with_reducible repeat first | exact HP | apply pA | refine pS (by omega) ?_)).mono ?_; rintro e w2 ⟨rfl, hb⟩; have hg := bgrown hb (some P); have hs := Pst.below (by with_reducible repeat first | exact HP | apply pA | refine pS (by omega) ?_) hb; obtain ⟨hcw2, hfw2⟩ := gcell hg; have hzw2 := hg.size; (try simp only [szA, szS] at hzw2); have hPw2 := hs.lt; have hleww2 := le1 w w2 (by omega); (try have hltww2 := lt1 w w2 (by omega)); have hlew1w2 := le1 w1 w2 (by omega); (try have hltw1w2 := lt1 w1 w2 (by omega)); have HG := gtrans (by with_reducible repeat first | exact HG | apply gA | apply gB | refine gS (by omega) ?_) hg; have HP := hs; have hGw2 := hg; have t2 := True.intro; (try clear hg hs))))
      | (have hno := t0; (go_at_call 108; (refine (KI.out).mono ?_; rintro e w1 ⟨rfl, hb⟩; have hg := bgrown hb (some P); have hs := Pst.below (by with_reducible repeat first | exact HP | apply pA | refine pS (by omega) ?_) hb; obtain ⟨hcw1, hfw1⟩ := gcell hg; have hzw1 := hg.size; (try simp only [szA, szS] at hzw1); have hPw1 := hs.lt; have hleww1 := le1 w w1 (by omega); (try have hltww1 := lt1 w w1 (by omega)); have HG := gtrans (by with_reducible repeat first | exact HG | apply gA | apply gB | refine gS (by omega) ?_) hg; have HP := hs; have hGw1 := hg; have t1 := True.intro; (try clear hg hs))))
      )
    exact ⟨rfl, Rt.err (H.out.trans rfl) (by with_reducible repeat first | exact HG | apply gA | apply gB | refine gS (by omega) ?_)⟩
theorem oneOf_take {q : Bsq} {l : List Bsq} {s : PS} (h : isS q s = true) : oneOf (q :: l) s = bd take (fun t => ret t.text) s := by show (if isS q s = true then _ else _) = _; rw [if_pos h]
theorem oneOf_skip {q : Bsq} {l : List Bsq} {s : PS} (h : isS q s = false) : oneOf (q :: l) s = oneOf l s := by show (if isS q s = true then _ else _) = _; rw [if_neg (by rw [h]; decide)]
set_option maxHeartbeats 1000000 in
theorem oneOf_any (w : World) (P D : Nat) (s : PS) (l : List Bsq) (b : Nat) (HP : Pst w P D s) (hb : Box b ((l.map fun q => Value.string (bs q)).toArray) 9 w) (hn : l.length ≤ 10) (hbD : D ≤ b) : Calls Tryz.prog 81 #[.pointer (some ⟨P, 0, none⟩), .slice (some ⟨b, 0, none⟩) l.length l.length] w (Rt RS P D w (oneOf l s)) := by
  have HG := World.grownBy.refl w (some P)
  have hPw := HP.lt
  have hD := HP.dw
  have hPD := HP.pd
  have t0 := True.intro
  have hcell : ∀ (k : Nat) (q : Bsq), l[k]? = some q → w.cell? ⟨b, k, none⟩ = some (.string (bs q)) := fun k q e => by
    rw [cellOf hb]; simp [e]
  have hbl := hb.lt
  obtain ⟨n, hln⟩ : ∃ n, n = l.length := ⟨_, rfl⟩
  have nI : (n : Int) ≤ 10 := by omega
  rw [← hln]
  have HC := hid hcell
  have HL := hid hln
  have HB := hid hb
  clear hcell hb hln
  go_enter Tryz.func81, Tryz.ntmps81
  go_wp2
  go_loopg [9] n (fun g x wr => ∃ k : Nat, k + g = n ∧ x = .int .i64 (k : Int) ∧ oneOf l s = oneOf (l.drop k) s ∧ Pst wr P D s ∧ w.grownBy wr (some P) ∧ ∀ i, wr.cell? ⟨b, i, none⟩ = w.cell? ⟨b, i, none⟩)
  case atStart => exact ⟨0, by omega, rfl, by rw [List.drop_zero], HP, HG, fun i => rfl⟩
  case round =>
    obtain ⟨k, hk, rfl, ho, HP, HG, hcl⟩ := hrel
    cases gk with
    | zero =>
      have hkn : k = n := by omega
      subst hkn
      have H := hid (show oneOf l s = wrong s by rw [ho, List.drop_of_length_le (by rw [HL.out]; exact Nat.le_refl _)]; rfl)
      have hgz := HG.size
      have hPr := HP.lt
      clear ho hcl
      go_wp2_with (first
        | (have hno := t0; (go_at_call 48; (refine (wrong_any _ _ _ _ (by with_reducible repeat first | exact HP | apply pA | refine pS (by omega) ?_)).mono ?_; rintro e w2 ⟨rfl, hb⟩; have hg := bgrown hb (some P); have hs := Pst.below (by with_reducible repeat first | exact HP | apply pA | refine pS (by omega) ?_) hb; obtain ⟨hcw2, hfw2⟩ := gcell hg; have hzw2 := hg.size; (try simp only [szA, szS] at hzw2); have hPw2 := hs.lt; have hleww2 := le1 w w2 (by omega); (try have hltww2 := lt1 w w2 (by omega)); have hlewrw2 := le1 wr w2 (by omega); (try have hltwrw2 := lt1 wr w2 (by omega)); have HG := gtrans (by with_reducible repeat first | exact HG | apply gA | apply gB | refine gS (by omega) ?_) hg; have HP := hs; have hGw2 := hg; have t1 := True.intro; (try clear hg hs))))
        )
      exact ⟨rfl, Rt.err (H.out.trans rfl) (by with_reducible repeat first | exact HG | apply gA | apply gB | refine gS (by omega) ?_)⟩
    | succ g =>
      have hkl : k < l.length := by rw [← HL.out]; omega
      obtain ⟨q, hq⟩ : ∃ q, l[k]? = some q := ⟨_, List.getElem?_eq_getElem hkl⟩
      have hd : l.drop k = q :: l.drop (k + 1) := by
        rw [List.drop_eq_getElem_cons hkl]
        rw [List.getElem?_eq_getElem hkl] at hq
        cases hq; rfl
      rw [hd] at ho
      have c0 := (hcl k).trans (HC.out k q hq)
      have hkI : (k : Int) < (n : Int) := by omega
      have HCL := hid hcl
      have HO := hid ho
      have hgz := HG.size
      have hPr := HP.lt
      have hbr : b < wr.heap.size := by omega
      have HKG := hid hk
      clear hq hd ho hcl hkl hk
      have KI := hid (is_any wr P D s q HP)
      cases hb : isS q s with
      | true =>
        have H := hid (HO.out.trans (oneOf_take hb))
        have HK := isS_k hb
        simp only [hb] at KI
        clear hb
        go_wp2_with (first
          | (have hno := t1; (go_at_call 75; (refine (take_any _ _ _ _ (by with_reducible repeat first | exact HP | apply pA | refine pS (by omega) ?_) HK).mono ?_; intro e w3 hrt; rcases hrt.go (W := w) (by with_reducible repeat first | exact HG | apply gA | apply gB | refine gS (by omega) ?_) with ⟨f, hx, rfl, hg⟩ | ⟨a, s1, v, hx, rfl, hv, HP, hGw3, HG, hcw3, hfw3, hzw3, hPw3⟩; exact ⟨rfl, Rt.err (H.out.trans (bd_err hx)) hg⟩; (have hv2 : v = tokV a := hv; subst hv2; unfold tokV); have H := hid (H.out.trans (bd_ok hx)); (try simp only [szA, szS] at hzw3); have hleww3 := le1 w w3 (by omega); (try have hltww3 := lt1 w w3 (by omega)); have hlewrw3 := le1 wr w3 (by omega); (try have hltwrw3 := lt1 wr w3 (by omega)); have hlew2w3 := le1 w2 w3 (by omega); (try have hltw2w3 := lt1 w2 w3 (by omega)); have t2 := True.intro)))
          | (have hno := t0; (go_at_call 42; (refine (KI.out).mono ?_; rintro e w2 ⟨rfl, hb⟩; have hg := bgrown hb (some P); have hs := Pst.below (by with_reducible repeat first | exact HP | apply pA | refine pS (by omega) ?_) hb; obtain ⟨hcw2, hfw2⟩ := gcell hg; have hzw2 := hg.size; (try simp only [szA, szS] at hzw2); have hPw2 := hs.lt; have hleww2 := le1 w w2 (by omega); (try have hltww2 := lt1 w w2 (by omega)); have hlewrw2 := le1 wr w2 (by omega); (try have hltwrw2 := lt1 wr w2 (by omega)); have HG := gtrans (by with_reducible repeat first | exact HG | apply gA | apply gB | refine gS (by omega) ?_) hg; have HP := hs; have hGw2 := hg; have t1 := True.intro; (try clear hg hs))))
          )
        go_ret
        exact Rt.ok (H.out.trans rfl) rfl (by with_reducible repeat first | exact HP | apply pA | refine pS (by omega) ?_) (by with_reducible repeat first | exact HG | apply gA | apply gB | refine gS (by omega) ?_)
      | false =>
        have H := hid (HO.out.trans (oneOf_skip hb))
        simp only [hb] at KI
        clear hb
        go_wp2_with (first
          | (have hno := t0; (go_at_call 42; (refine (KI.out).mono ?_; rintro e w2 ⟨rfl, hb⟩; have hg := bgrown hb (some P); have hs := Pst.below (by with_reducible repeat first | exact HP | apply pA | refine pS (by omega) ?_) hb; obtain ⟨hcw2, hfw2⟩ := gcell hg; have hzw2 := hg.size; (try simp only [szA, szS] at hzw2); have hPw2 := hs.lt; have hleww2 := le1 w w2 (by omega); (try have hltww2 := lt1 w w2 (by omega)); have hlewrw2 := le1 wr w2 (by omega); (try have hltwrw2 := lt1 wr w2 (by omega)); have HG := gtrans (by with_reducible repeat first | exact HG | apply gA | apply gB | refine gS (by omega) ?_) hg; have HP := hs; have hGw2 := hg; have t1 := True.intro; (try clear hg hs))))
          )
        go_roundg g
        case measure => omega
        exact ⟨k + 1, by have := HKG.out; omega, by go_num, H.out, HP, HG, fun i => (World.grownBy.cell_far hGw2 ⟨b, i, none⟩ hbr (some_ne (show P < b by omega))).trans (HCL.out i)⟩
theorem lit_row (w : World) (l : List Bsq) (cs : Array Value) (h : cs = (l.map fun q => Value.string (bs q)).toArray) : Box w.heap.size ((l.map fun q => Value.string (bs q)).toArray) 9 (w.alloc (.cells cs 9)) := by rw [h]; exact Box.new w _ _
set_option maxHeartbeats 1000000 in
theorem simpleKind_any (w : World) (P D : Nat) (s : PS) (HP : Pst w P D s) : Calls Tryz.prog 112 #[.pointer (some ⟨P, 0, none⟩)] w (Rt RS P D w (simpleKind s)) := by
  have HG := World.grownBy.refl w (some P)
  have hPw := HP.lt
  have hD := HP.dw
  have hPD := HP.pd
  have t0 := True.intro
  have K := hid (oneOf_any (w.alloc (.cells #[.string ⟨#[105, 110, 116]⟩, .string ⟨#[116, 101, 120, 116]⟩, .string ⟨#[98, 111, 111, 108]⟩] 9)) P D s [[105, 110, 116], [116, 101, 120, 116], [98, 111, 111, 108]] w.heap.size (HP.alloc _) (lit_row w _ _ rfl) (by decide) hD)
  have H := hid (show simpleKind s = bd (oneOf [[105, 110, 116], [116, 101, 120, 116], [98, 111, 111, 108]]) ret s by unfold bd simpleKind ret; cases oneOf [[105, 110, 116], [116, 101, 120, 116], [98, 111, 111, 108]] s <;> rfl)
  go_enter Tryz.func112, Tryz.ntmps112
  go_wp2_with (first
    | (have hno := t0; (go_at_call 81; (refine (K.out).mono ?_; intro e w1 hrt; rcases hrt.go (W := w) (by with_reducible repeat first | exact HG | apply gA | apply gB | refine gS (by omega) ?_) with ⟨f, hx, rfl, hg⟩ | ⟨a, s1, v, hx, rfl, hv, HP, hGw1, HG, hcw1, hfw1, hzw1, hPw1⟩; exact ⟨rfl, Rt.err (H.out.trans (bd_err hx)) hg⟩; (have hv2 : v = .string (bs a) := hv; subst hv2); have H := hid (H.out.trans (bd_ok hx)); (try simp only [szA, szS] at hzw1); have hleww1 := le1 w w1 (by omega); (try have hltww1 := lt1 w w1 (by omega)); have t1 := True.intro)))
    )
  go_ret
  exact Rt.ok (H.out.trans rfl) rfl (by with_reducible repeat first | exact HP | apply pA | refine pS (by omega) ?_) (by with_reducible repeat first | exact HG | apply gA | apply gB | refine gS (by omega) ?_)
set_option maxHeartbeats 1000000 in
theorem kind_any (w : World) (P D : Nat) (s : PS) (HP : Pst w P D s) : Calls Tryz.prog 82 #[.pointer (some ⟨P, 0, none⟩)] w (Rt RS P D w (kindP s)) := by
  have HG := World.grownBy.refl w (some P)
  have hPw := HP.lt
  have hD := HP.dw
  have hPD := HP.pd
  have t0 := True.intro
  have KI := hid (isGreat_any w P D s HP)
  by_cases hq : isGreat s = true
  · have H := hid (show kindP s = bd great ret s by unfold kindP bd ret; rw [if_pos hq]; cases great s <;> rfl)
    simp only [hq] at KI
    go_enter Tryz.func82, Tryz.ntmps82
    go_wp2_with (first
      | (have hno := t1; (go_at_call 76; (refine (great_any _ _ _ _ (by with_reducible repeat first | exact HP | apply pA | refine pS (by omega) ?_)).mono ?_; intro e w2 hrt; rcases hrt.go (W := w) (by with_reducible repeat first | exact HG | apply gA | apply gB | refine gS (by omega) ?_) with ⟨f, hx, rfl, hg⟩ | ⟨a, s1, v, hx, rfl, hv, HP, hGw2, HG, hcw2, hfw2, hzw2, hPw2⟩; exact ⟨rfl, Rt.err (H.out.trans (bd_err hx)) hg⟩; (have hv2 : v = .string (bs a) := hv; subst hv2); have H := hid (H.out.trans (bd_ok hx)); (try simp only [szA, szS] at hzw2); have hleww2 := le1 w w2 (by omega); (try have hltww2 := lt1 w w2 (by omega)); have hlew1w2 := le1 w1 w2 (by omega); (try have hltw1w2 := lt1 w1 w2 (by omega)); have t2 := True.intro)))
      | (have hno := t0; (go_at_call 108; (refine (KI.out).mono ?_; rintro e w1 ⟨rfl, hb⟩; have hg := bgrown hb (some P); have hs := Pst.below (by with_reducible repeat first | exact HP | apply pA | refine pS (by omega) ?_) hb; obtain ⟨hcw1, hfw1⟩ := gcell hg; have hzw1 := hg.size; (try simp only [szA, szS] at hzw1); have hPw1 := hs.lt; have hleww1 := le1 w w1 (by omega); (try have hltww1 := lt1 w w1 (by omega)); have HG := gtrans (by with_reducible repeat first | exact HG | apply gA | apply gB | refine gS (by omega) ?_) hg; have HP := hs; have hGw1 := hg; have t1 := True.intro; (try clear hg hs))))
      )
    go_ret
    exact Rt.ok (H.out.trans rfl) rfl (by with_reducible repeat first | exact HP | apply pA | refine pS (by omega) ?_) (by with_reducible repeat first | exact HG | apply gA | apply gB | refine gS (by omega) ?_)
  · have hq : isGreat s = false := by simpa using hq
    have H := hid (show kindP s = bd simpleKind ret s by unfold kindP bd ret; rw [if_neg (by rw [hq]; decide)]; cases simpleKind s <;> rfl)
    simp only [hq] at KI
    go_enter Tryz.func82, Tryz.ntmps82
    go_wp2_with (first
      | (have hno := t1; (go_at_call 112; (refine (simpleKind_any _ _ _ _ (by with_reducible repeat first | exact HP | apply pA | refine pS (by omega) ?_)).mono ?_; intro e w2 hrt; rcases hrt.go (W := w) (by with_reducible repeat first | exact HG | apply gA | apply gB | refine gS (by omega) ?_) with ⟨f, hx, rfl, hg⟩ | ⟨a, s1, v, hx, rfl, hv, HP, hGw2, HG, hcw2, hfw2, hzw2, hPw2⟩; exact ⟨rfl, Rt.err (H.out.trans (bd_err hx)) hg⟩; (have hv2 : v = .string (bs a) := hv; subst hv2); have H := hid (H.out.trans (bd_ok hx)); (try simp only [szA, szS] at hzw2); have hleww2 := le1 w w2 (by omega); (try have hltww2 := lt1 w w2 (by omega)); have hlew1w2 := le1 w1 w2 (by omega); (try have hltw1w2 := lt1 w1 w2 (by omega)); have t2 := True.intro)))
      | (have hno := t0; (go_at_call 108; (refine (KI.out).mono ?_; rintro e w1 ⟨rfl, hb⟩; have hg := bgrown hb (some P); have hs := Pst.below (by with_reducible repeat first | exact HP | apply pA | refine pS (by omega) ?_) hb; obtain ⟨hcw1, hfw1⟩ := gcell hg; have hzw1 := hg.size; (try simp only [szA, szS] at hzw1); have hPw1 := hs.lt; have hleww1 := le1 w w1 (by omega); (try have hltww1 := lt1 w w1 (by omega)); have HG := gtrans (by with_reducible repeat first | exact HG | apply gA | apply gB | refine gS (by omega) ?_) hg; have HP := hs; have hGw1 := hg; have t1 := True.intro; (try clear hg hs))))
      )
    go_ret
    exact Rt.ok (H.out.trans rfl) rfl (by with_reducible repeat first | exact HP | apply pA | refine pS (by omega) ?_) (by with_reducible repeat first | exact HG | apply gA | apply gB | refine gS (by omega) ?_)
set_option maxHeartbeats 1000000 in
theorem field_any (w : World) (P D : Nat) (s : PS) (HP : Pst w P D s) : Calls Tryz.prog 78 #[.pointer (some ⟨P, 0, none⟩)] w (Rt RP P D w (fieldP s)) := by
  have HG := World.grownBy.refl w (some P)
  have hPw := HP.lt
  have hD := HP.dw
  have hPD := HP.pd
  have t0 := True.intro
  have H := hid (show fieldP s = bd small (fun nm => bd (want [58]) fun _ => bd simpleKind fun t => ret ⟨nm, t⟩) s from rfl)
  go_enter Tryz.func78, Tryz.ntmps78
  go_wp2_with (first
    | (have hno := t2; (go_at_call 112; (refine (simpleKind_any _ _ _ _ (by with_reducible repeat first | exact HP | apply pA | refine pS (by omega) ?_)).mono ?_; intro e w3 hrt; rcases hrt.go (W := w) (by with_reducible repeat first | exact HG | apply gA | apply gB | refine gS (by omega) ?_) with ⟨f, hx, rfl, hg⟩ | ⟨ty, s3, v, hx, rfl, hv, HP, hGw3, HG, hcw3, hfw3, hzw3, hPw3⟩; exact ⟨rfl, Rt.err (H.out.trans (bd_err hx)) hg⟩; (have hv2 : v = .string (bs ty) := hv; subst hv2); have H := hid (H.out.trans (bd_ok hx)); (try simp only [szA, szS] at hzw3); have hleww3 := le1 w w3 (by omega); (try have hltww3 := lt1 w w3 (by omega)); have hlew1w3 := le1 w1 w3 (by omega); (try have hltw1w3 := lt1 w1 w3 (by omega)); have hlew2w3 := le1 w2 w3 (by omega); (try have hltw2w3 := lt1 w2 w3 (by omega)); have t3 := True.intro)))
    | (have hno := t1; (go_at_call 80; (refine (want_any _ _ _ _ _ (by with_reducible repeat first | exact HP | apply pA | refine pS (by omega) ?_)).mono ?_; intro e w2 hrt; rcases hrt.go (W := w) (by with_reducible repeat first | exact HG | apply gA | apply gB | refine gS (by omega) ?_) with ⟨f, hx, rfl, hg⟩ | ⟨b, s2, v, hx, rfl, hv, HP, hGw2, HG, hcw2, hfw2, hzw2, hPw2⟩; exact ⟨rfl, Rt.err (H.out.trans (bd_err hx)) hg⟩; (have hv2 : v = .tuple #[] := hv; subst hv2); have H := hid (H.out.trans (bd_ok hx)); (try simp only [szA, szS] at hzw2); have hleww2 := le1 w w2 (by omega); (try have hltww2 := lt1 w w2 (by omega)); have hlew1w2 := le1 w1 w2 (by omega); (try have hltw1w2 := lt1 w1 w2 (by omega)); have t2 := True.intro)))
    | (have hno := t0; (go_at_call 79; (refine (small_any _ _ _ _ (by with_reducible repeat first | exact HP | apply pA | refine pS (by omega) ?_)).mono ?_; intro e w1 hrt; rcases hrt.go (W := w) (by with_reducible repeat first | exact HG | apply gA | apply gB | refine gS (by omega) ?_) with ⟨f, hx, rfl, hg⟩ | ⟨nm, s1, v, hx, rfl, hv, HP, hGw1, HG, hcw1, hfw1, hzw1, hPw1⟩; exact ⟨rfl, Rt.err (H.out.trans (bd_err hx)) hg⟩; (have hv2 : v = .string (bs nm) := hv; subst hv2); have H := hid (H.out.trans (bd_ok hx)); (try simp only [szA, szS] at hzw1); have hleww1 := le1 w w1 (by omega); (try have hltww1 := lt1 w w1 (by omega)); have t1 := True.intro)))
    )
  exact ret2 Tryz.results78 rfl (by repeat (first | (with_reducible apply Bx.put2) | (with_reducible apply Box.alloc) | ((with_reducible refine Box.set ?_ ?_); rotate_left; omega) | ((with_reducible refine Bx.new _ _ _ ?_); rfl) | (with_reducible apply Bx.alloc) | (with_reducible apply Bx.set) | ((with_reducible refine Bx.call hGw1 ?_ ?_); omega) | ((with_reducible refine Bx.call hGw2 ?_ ?_); omega) | ((with_reducible refine Bx.call hGw3 ?_ ?_); omega))) rfl (Rt.ok (H.out.trans rfl) rfl (by with_reducible repeat first | exact HP | apply pA | refine pS (by omega) ?_) (by with_reducible repeat first | exact HG | apply gA | apply gB | refine gS (by omega) ?_))
set_option maxHeartbeats 1000000 in
theorem param_any (w : World) (P D : Nat) (s : PS) (HP : Pst w P D s) : Calls Tryz.prog 84 #[.pointer (some ⟨P, 0, none⟩)] w (Rt RP P D w (paramP s)) := by
  have HG := World.grownBy.refl w (some P)
  have hPw := HP.lt
  have hD := HP.dw
  have hPD := HP.pd
  have t0 := True.intro
  have H := hid (show paramP s = bd small (fun nm => bd (want [58]) fun _ => bd kindP fun t => ret ⟨nm, t⟩) s from rfl)
  go_enter Tryz.func84, Tryz.ntmps84
  go_wp2_with (first
    | (have hno := t2; (go_at_call 82; (refine (kind_any _ _ _ _ (by with_reducible repeat first | exact HP | apply pA | refine pS (by omega) ?_)).mono ?_; intro e w3 hrt; rcases hrt.go (W := w) (by with_reducible repeat first | exact HG | apply gA | apply gB | refine gS (by omega) ?_) with ⟨f, hx, rfl, hg⟩ | ⟨ty, s3, v, hx, rfl, hv, HP, hGw3, HG, hcw3, hfw3, hzw3, hPw3⟩; exact ⟨rfl, Rt.err (H.out.trans (bd_err hx)) hg⟩; (have hv2 : v = .string (bs ty) := hv; subst hv2); have H := hid (H.out.trans (bd_ok hx)); (try simp only [szA, szS] at hzw3); have hleww3 := le1 w w3 (by omega); (try have hltww3 := lt1 w w3 (by omega)); have hlew1w3 := le1 w1 w3 (by omega); (try have hltw1w3 := lt1 w1 w3 (by omega)); have hlew2w3 := le1 w2 w3 (by omega); (try have hltw2w3 := lt1 w2 w3 (by omega)); have t3 := True.intro)))
    | (have hno := t1; (go_at_call 80; (refine (want_any _ _ _ _ _ (by with_reducible repeat first | exact HP | apply pA | refine pS (by omega) ?_)).mono ?_; intro e w2 hrt; rcases hrt.go (W := w) (by with_reducible repeat first | exact HG | apply gA | apply gB | refine gS (by omega) ?_) with ⟨f, hx, rfl, hg⟩ | ⟨b, s2, v, hx, rfl, hv, HP, hGw2, HG, hcw2, hfw2, hzw2, hPw2⟩; exact ⟨rfl, Rt.err (H.out.trans (bd_err hx)) hg⟩; (have hv2 : v = .tuple #[] := hv; subst hv2); have H := hid (H.out.trans (bd_ok hx)); (try simp only [szA, szS] at hzw2); have hleww2 := le1 w w2 (by omega); (try have hltww2 := lt1 w w2 (by omega)); have hlew1w2 := le1 w1 w2 (by omega); (try have hltw1w2 := lt1 w1 w2 (by omega)); have t2 := True.intro)))
    | (have hno := t0; (go_at_call 79; (refine (small_any _ _ _ _ (by with_reducible repeat first | exact HP | apply pA | refine pS (by omega) ?_)).mono ?_; intro e w1 hrt; rcases hrt.go (W := w) (by with_reducible repeat first | exact HG | apply gA | apply gB | refine gS (by omega) ?_) with ⟨f, hx, rfl, hg⟩ | ⟨nm, s1, v, hx, rfl, hv, HP, hGw1, HG, hcw1, hfw1, hzw1, hPw1⟩; exact ⟨rfl, Rt.err (H.out.trans (bd_err hx)) hg⟩; (have hv2 : v = .string (bs nm) := hv; subst hv2); have H := hid (H.out.trans (bd_ok hx)); (try simp only [szA, szS] at hzw1); have hleww1 := le1 w w1 (by omega); (try have hltww1 := lt1 w w1 (by omega)); have t1 := True.intro)))
    )
  exact ret2 Tryz.results84 rfl (by repeat (first | (with_reducible apply Bx.put2) | (with_reducible apply Box.alloc) | ((with_reducible refine Box.set ?_ ?_); rotate_left; omega) | ((with_reducible refine Bx.new _ _ _ ?_); rfl) | (with_reducible apply Bx.alloc) | (with_reducible apply Bx.set) | ((with_reducible refine Bx.call hGw1 ?_ ?_); omega) | ((with_reducible refine Bx.call hGw2 ?_ ?_); omega) | ((with_reducible refine Bx.call hGw3 ?_ ?_); omega))) rfl (Rt.ok (H.out.trans rfl) rfl (by with_reducible repeat first | exact HP | apply pA | refine pS (by omega) ?_) (by with_reducible repeat first | exact HG | apply gA | apply gB | refine gS (by omega) ?_))
end Go.Proofs.YtcnohgifihbkdaaGreatDoor

