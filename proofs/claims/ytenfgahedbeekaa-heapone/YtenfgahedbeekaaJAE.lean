/- slices.EqualFunc on rows of entries; sameRow. -/
import Derived.Test.YtenfgahedbeekaaJAD
namespace Go.Proofs.Ytenfgahedbeekaa
open Go.RowKit Go.Deep Go.Shelf
set_option linter.unusedVariables false
set_option linter.unusedSimpArgs false

def rowB (k : Nat) : Rw k → Rw k → Bool
  | [], [] => true
  | p :: ps, q :: qs => entB k p q && rowB k ps qs
  | _, _ => false
theorem rowB_len (k : Nat) : ∀ (ps qs : Rw k), ps.length ≠ qs.length → rowB k ps qs = false
  | [], [], h => absurd rfl h
  | [], _ :: _, _ => rfl
  | _ :: _, [], _ => rfl
  | p :: ps, q :: qs, h => by
    rw [rowB, rowB_len k ps qs (fun e => h (by simp [e])), Bool.and_false]
theorem rowB_drop {k : Nat} {ps qs : Rw k} {i : Nat} {p q : VT k × VT k} (hp : ps[i]? = some p) (hq : qs[i]? = some q) : rowB k (ps.drop i) (qs.drop i) = (entB k p q && rowB k (ps.drop (i + 1)) (qs.drop (i + 1))) := by
  obtain ⟨h1, e1⟩ := List.getElem?_eq_some_iff.1 hp
  obtain ⟨h2, e2⟩ := List.getElem?_eq_some_iff.1 hq
  rw [List.drop_eq_getElem_cons h1, List.drop_eq_getElem_cons h2, e1, e2, rowB]
theorem entB_iff (k : Nat) (p q : VT k × VT k) : entB k p q = true ↔ ofP k p = ofP k q := by
  unfold entB ofP
  rw [← cmpC_of, ← cmpC_of]
  simp only [Bool.and_eq_true, beq_iff_eq, cmpC_iff, Prod.mk.injEq]
theorem rowB_iff (k : Nat) : ∀ (ps qs : Rw k), rowB k ps qs = true ↔ rowC k ps = rowC k qs
  | [], [] => by simp [rowB, rowC]
  | [], _ :: _ => by simp [rowB, rowC]
  | _ :: _, [] => by simp [rowB, rowC]
  | p :: ps, q :: qs => by
    rw [rowB, Bool.and_eq_true, entB_iff, rowB_iff k ps qs]
    simp [rowC]
set_option maxRecDepth 100000 in
set_option maxHeartbeats 2000000 in
theorem equalE_any (k : Nat) (w : World) (a : Option Addr) (n cap : Nat) (ps : Rw k) (b : Option Addr) (m cap2 : Nat) (qs : Rw k) (hp : RwR k w a n ps) (hq : RwR k w b m qs) :
    Calls Try.prog 70 #[.slice a n cap, .slice b m cap2, .func (.func 71) #[] #[]] w fun e w' => e = .returned (.bool (rowB k ps qs)) ∧ Below w.heap.size w w' := by
  have P := hid hp
  have Q := hid hq
  have Hn := hid hp.n1
  have Hm := hid hq.n1
  have hn2 := hp.n2
  have hm2 := hq.n2
  have hn3 : (n : Int) ≤ 1000 := by omega
  have hm3 : (m : Int) ≤ 1000 := by omega
  clear hp hq
  obtain ⟨res, hres⟩ : ∃ res, res = rowB k ps qs := ⟨_, rfl⟩
  rw [← hres]
  have Hres := hid hres
  clear hres
  by_cases hnm : n = m
  · subst hnm
    go_enter Try.func70, Try.ntmps70
    go_wp2
    go_loopg [17] n (fun g ii wr => ∃ i : Nat, i + g = n ∧ ii = .int .i64 (i : Int) ∧ Below w.heap.size w wr ∧ res = rowB k (ps.drop i) (qs.drop i))
    case atStart => exact ⟨0, by omega, rfl, Below.refl _ _, by simpa using Hres.out⟩
    case round =>
      obtain ⟨i, hi', rfl, hbr, hrs⟩ := hrel
      have Hbr := hid hbr
      have Hrs := hid hrs
      cases gk with
      | zero =>
        have hin : i = n := by omega
        subst hin
        clear hi' hbr hrs
        go_wp2
        go_ret
        refine ⟨?_, Hbr.out⟩
        have : res = true := by
          rw [Hrs.out, List.drop_of_length_le (by rw [← Hn.out]; exact Nat.le_refl _), List.drop_of_length_le (by rw [← Hm.out]; exact Nat.le_refl _)]; rfl
        rw [this]
        rfl
      | succ gi =>
      have hlt0 : i < n := by omega
      have hlt : (i : Int) < (n : Int) := by omega
      have hi00 : (0 : Int) ≤ (i : Int) := by omega
      obtain ⟨p, hp⟩ : ∃ p, ps[i]? = some p := ⟨ps[i]'(by rw [← Hn.out]; exact hlt0), List.getElem?_eq_getElem _⟩
      obtain ⟨q, hq⟩ : ∃ q, qs[i]? = some q := ⟨qs[i]'(by rw [← Hm.out]; exact hlt0), List.getElem?_eq_getElem _⟩
      have hP := P.out.below (Nat.le_refl _) hbr
      have hQ := Q.out.below (Nat.le_refl _) hbr
      obtain ⟨b1, o1, ea, dh⟩ := hP.rd i (enT k p) (by rw [List.getElem?_map, hp]; rfl)
      subst ea
      obtain ⟨b2, o2, ea, gh⟩ := hQ.rd i (enT k q) (by rw [List.getElem?_map, hq]; rfl)
      subst ea
      obtain ⟨p1, p2⟩ := hP.el p (List.mem_of_getElem? hp)
      obtain ⟨q1, q2⟩ := hQ.el q (List.mem_of_getElem? hq)
      have d0 := dh 0 (by omega)
      have d1 := dh 1 (by omega)
      have d2 := dh 2 (by omega)
      have d3 := dh 3 (by omega)
      have d4 := dh 4 (by omega)
      have d5 := dh 5 (by omega)
      have d6 := dh 6 (by omega)
      have d7 := dh 7 (by omega)
      have d8 := dh 8 (by omega)
      have d9 := dh 9 (by omega)
      have f0 := gh 0 (by omega)
      have f1 := gh 1 (by omega)
      have f2 := gh 2 (by omega)
      have f3 := gh 3 (by omega)
      have f4 := gh 4 (by omega)
      have f5 := gh 5 (by omega)
      have f6 := gh 6 (by omega)
      have f7 := gh 7 (by omega)
      have f8 := gh 8 (by omega)
      have f9 := gh 9 (by omega)
      simp only [En.cs, enT, List.getElem?_cons_zero, List.getElem?_cons_succ, Nat.add_zero] at d0 d1 d2 d3 d4 d5 d6 d7 d8 d9 f0 f1 f2 f3 f4 f5 f6 f7 f8 f9
      have Hst := hid (rowB_drop hp hq)
      have C71 := hid (fun o o2 => sameEntry_any k ((wr.alloc o).alloc o2) p q (Rds.below k p1 (Nat.le_refl _) (((Below.refl _ wr).alloc (Nat.le_refl _) o).alloc (by simp) o2)) (Rds.below k p2 (Nat.le_refl _) (((Below.refl _ wr).alloc (Nat.le_refl _) o).alloc (by simp) o2)) (Rds.below k q1 (Nat.le_refl _) (((Below.refl _ wr).alloc (Nat.le_refl _) o).alloc (by simp) o2)) (Rds.below k q2 (Nat.le_refl _) (((Below.refl _ wr).alloc (Nat.le_refl _) o).alloc (by simp) o2)))
      have bA : Hid (∀ o o2, Below w.heap.size w ((wr.alloc o).alloc o2)) := hid (fun o o2 => (hbr.alloc hbr.size o).alloc (by have := hbr.size; simp; omega) o2)
      have Hi := hid hi'
      obtain ⟨E, hE⟩ : ∃ E, E = entB k p q := ⟨_, rfl⟩
      rw [← hE] at C71 Hst
      clear hE
      simp only [enT, En.v, En.cs] at C71
      have al : ∀ (o : Obj) (x : Addr) (v : Value), wr.cell? x = some v → (wr.alloc o).cell? x = some v := fun o x v h => (World.cell?_of_block (Below.heap_alloc _ _ _ (World.block_lt_of_cell? wr x h))).trans h
      generalize hdT k p.1 = h1 at *
      generalize hdT k p.2 = h2 at *
      generalize hdT k q.1 = h3 at *
      generalize hdT k q.2 = h4 at *
      obtain ⟨yk, yi, yt, yr, ya, yn, yc⟩ := h1
      obtain ⟨zk, zi, zt, zr, za, zn, zc⟩ := h2
      obtain ⟨uk, ui, ut, ur, ua, un, uc⟩ := h3
      obtain ⟨vk, vi, vt, vr, va, vn, vc⟩ := h4
      simp only at C71 d0 d1 d2 d3 d4 d5 d6 d7 d8 d9 f0 f1 f2 f3 f4 f5 f6 f7 f8 f9
      have g0 := fun o => al o _ _ f0
      have g1 := fun o => al o _ _ f1
      have g2 := fun o => al o _ _ f2
      have g3 := fun o => al o _ _ f3
      have g4 := fun o => al o _ _ f4
      have g5 := fun o => al o _ _ f5
      have g6 := fun o => al o _ _ f6
      have g7 := fun o => al o _ _ f7
      have g8 := fun o => al o _ _ f8
      have g9 := fun o => al o _ _ f9
      clear hbr hrs hi' dh gh hp hq hP hQ p1 p2 q1 q2 al
      cases E with
      | false =>
        go_wp2_with (go_at_call 71; (refine (C71.out _ _).mono ?_; rintro e w9 ⟨rfl, hb9⟩; have HB9 := hid ((bA.out _ _).trans (hb9.mono (bA.out _ _).size)); clear hb9))
        go_ret
        refine ⟨?_, HB9.out⟩
        have : res = false := by rw [Hrs.out, Hst.out]; rfl
        rw [this]
        rfl
      | true =>
        go_wp2_with (go_at_call 71; (refine (C71.out _ _).mono ?_; rintro e w9 ⟨rfl, hb9⟩; have HB9 := hid ((bA.out _ _).trans (hb9.mono (bA.out _ _).size)); clear hb9))
        go_roundg gi
        case measure => omega
        case rel => exact ⟨i + 1, by have := Hi.out; omega, by go_num, HB9.out, by rw [Hrs.out, Hst.out]; rfl⟩
  · have hnm' : ¬ (n : Int) = (m : Int) := by omega
    have hnb : ((n : Int) == (m : Int)) = false := by simpa using hnm'
    have HF : Hid (res = false) := hid (by rw [Hres.out]; exact rowB_len k ps qs (by rw [← Hn.out, ← Hm.out]; exact hnm))
    go_enter Try.func70, Try.ntmps70
    go_wp2
    go_ret
    exact ⟨by rw [HF.out]; rfl, Below.refl _ _⟩
end Go.Proofs.Ytenfgahedbeekaa

namespace Go.Proofs.Ytenfgahedbeekaa
open Go.RowKit Go.Deep Go.Shelf
set_option linter.unusedVariables false
set_option linter.unusedSimpArgs false

set_option maxHeartbeats 400000 in
theorem sameRow_any (k : Nat) (w : World) (a : Option Addr) (n cap : Nat) (ps : Rw k) (b : Option Addr) (m cap2 : Nat) (qs : Rw k) (hp : RwR k w a n ps) (hq : RwR k w b m qs) :
    Calls Try.prog 50 #[.slice a n cap, .slice b m cap2] w fun e w' => e = .returned (.bool (rowB k ps qs)) ∧ Below w.heap.size w w' := by
  have K := hid (equalE_any k w a n cap ps b m cap2 qs hp hq)
  clear hp hq
  go_enter Try.func50, Try.ntmps50
  go_wp2_with (go_at_call 70; (refine (K.out).mono ?_; rintro e w1 ⟨rfl, hb1⟩))
  go_ret
  exact ⟨rfl, hb1⟩
def stB (k : Nat) : List (Sl × Rw k) → List (Sl × Rw k) → Bool
  | [], [] => true
  | p :: ps, q :: qs => rowB k p.2 q.2 && stB k ps qs
  | _, _ => false
theorem stB_len (k : Nat) : ∀ (ps qs : List (Sl × Rw k)), ps.length ≠ qs.length → stB k ps qs = false
  | [], [], h => absurd rfl h
  | [], _ :: _, _ => rfl
  | _ :: _, [], _ => rfl
  | p :: ps, q :: qs, h => by
    rw [stB, stB_len k ps qs (fun e => h (by simp [e])), Bool.and_false]
theorem stB_drop {k : Nat} {ps qs : List (Sl × Rw k)} {i : Nat} {p q : Sl × Rw k} (hp : ps[i]? = some p) (hq : qs[i]? = some q) : stB k (ps.drop i) (qs.drop i) = (rowB k p.2 q.2 && stB k (ps.drop (i + 1)) (qs.drop (i + 1))) := by
  obtain ⟨h1, e1⟩ := List.getElem?_eq_some_iff.1 hp
  obtain ⟨h2, e2⟩ := List.getElem?_eq_some_iff.1 hq
  rw [List.drop_eq_getElem_cons h1, List.drop_eq_getElem_cons h2, e1, e2, stB]
theorem stB_iff (k : Nat) : ∀ (ps qs : List (Sl × Rw k)), stB k ps qs = true ↔ ps.map (fun q => rowC k q.2) = qs.map (fun q => rowC k q.2)
  | [], [] => by simp [stB]
  | [], _ :: _ => by simp [stB]
  | _ :: _, [] => by simp [stB]
  | p :: ps, q :: qs => by
    rw [stB, Bool.and_eq_true, rowB_iff, stB_iff k ps qs]
    simp
theorem StR.below {k : Nat} {w w' : World} {a : Option Addr} {n : Nat} {ms : List (Sl × Rw k)} {B : Nat} (h : StR k w a n ms) (hB : w.heap.size ≤ B) (hb : Below B w w') : StR k w' a n ms :=
  ⟨h.n1, h.n2, h.rd.below hB hb, fun m hm => ⟨(h.el m hm).1.below hB hb, (h.el m hm).2⟩⟩
set_option maxRecDepth 100000 in
set_option maxHeartbeats 2000000 in
theorem equalM_any (k : Nat) (w : World) (a : Option Addr) (n cap : Nat) (ps : List (Sl × Rw k)) (b : Option Addr) (m cap2 : Nat) (qs : List (Sl × Rw k)) (hp : StR k w a n ps) (hq : StR k w b m qs) :
    Calls Try.prog 49 #[.slice a n cap, .slice b m cap2, .func (.func 50) #[] #[]] w fun e w' => e = .returned (.bool (stB k ps qs)) ∧ Below w.heap.size w w' := by
  have P := hid hp
  have Q := hid hq
  have Hn := hid hp.n1
  have Hm := hid hq.n1
  have hn2 := hp.n2
  have hm2 := hq.n2
  have hn3 : (n : Int) ≤ 1000 := by omega
  have hm3 : (m : Int) ≤ 1000 := by omega
  clear hp hq
  obtain ⟨res, hres⟩ : ∃ res, res = stB k ps qs := ⟨_, rfl⟩
  rw [← hres]
  have Hres := hid hres
  clear hres
  by_cases hnm : n = m
  · subst hnm
    go_enter Try.func49, Try.ntmps49
    go_wp2
    go_loopg [17] n (fun g ii wr => ∃ i : Nat, i + g = n ∧ ii = .int .i64 (i : Int) ∧ Below w.heap.size w wr ∧ res = stB k (ps.drop i) (qs.drop i))
    case atStart => exact ⟨0, by omega, rfl, Below.refl _ _, by simpa using Hres.out⟩
    case round =>
      obtain ⟨i, hi', rfl, hbr, hrs⟩ := hrel
      have Hbr := hid hbr
      have Hrs := hid hrs
      cases gk with
      | zero =>
        have hin : i = n := by omega
        subst hin
        clear hi' hbr hrs
        go_wp2
        go_ret
        refine ⟨?_, Hbr.out⟩
        have : res = true := by
          rw [Hrs.out, List.drop_of_length_le (by rw [← Hn.out]; exact Nat.le_refl _), List.drop_of_length_le (by rw [← Hm.out]; exact Nat.le_refl _)]; rfl
        rw [this]
        rfl
      | succ gi =>
        have hlt0 : i < n := by omega
        have hlt : (i : Int) < (n : Int) := by omega
        have hi00 : (0 : Int) ≤ (i : Int) := by omega
        obtain ⟨p, hp⟩ : ∃ p, ps[i]? = some p := ⟨ps[i]'(by rw [← Hn.out]; exact hlt0), List.getElem?_eq_getElem _⟩
        obtain ⟨q, hq⟩ : ∃ q, qs[i]? = some q := ⟨qs[i]'(by rw [← Hm.out]; exact hlt0), List.getElem?_eq_getElem _⟩
        have hP := P.out.below (Nat.le_refl _) hbr
        have hQ := Q.out.below (Nat.le_refl _) hbr
        obtain ⟨b1, o1, ea, d1⟩ := hP.rd i p.1 (by rw [List.getElem?_map, hp]; rfl)
        subst ea
        obtain ⟨b2, o2, ea, d2⟩ := hQ.rd i q.1 (by rw [List.getElem?_map, hq]; rfl)
        subst ea
        have p1 := (hP.el p (List.mem_of_getElem? hp)).1
        have q1 := (hQ.el q (List.mem_of_getElem? hq)).1
        have Hst := hid (stB_drop hp hq)
        obtain ⟨⟨ya, yn, yc⟩, yr⟩ := p
        obtain ⟨⟨za, zn, zc⟩, zr⟩ := q
        simp only [Sl.v] at d1 d2
        simp only at p1 q1 Hst
        have C50 := hid (sameRow_any k wr ya yn yc yr za zn zc zr p1 q1)
        have Hi := hid hi'
        obtain ⟨E, hE⟩ : ∃ E, E = rowB k yr zr := ⟨_, rfl⟩
        rw [← hE] at C50 Hst
        clear hE hbr hrs hi' hp hq hP hQ p1 q1
        cases E with
        | false =>
          go_wp2_with (go_at_call 50; (refine (C50.out).mono ?_; rintro e w9 ⟨rfl, hb9⟩; have HB9 := hid (Hbr.out.trans (hb9.mono Hbr.out.size)); clear hb9))
          go_ret
          refine ⟨?_, HB9.out⟩
          have : res = false := by rw [Hrs.out, Hst.out]; rfl
          rw [this]
          rfl
        | true =>
          go_wp2_with (go_at_call 50; (refine (C50.out).mono ?_; rintro e w9 ⟨rfl, hb9⟩; have HB9 := hid (Hbr.out.trans (hb9.mono Hbr.out.size)); clear hb9))
          go_roundg gi
          case measure => omega
          case rel => exact ⟨i + 1, by have := Hi.out; omega, by go_num, HB9.out, by rw [Hrs.out, Hst.out]; rfl⟩
  · have hnm' : ¬ (n : Int) = (m : Int) := by omega
    have hnb : ((n : Int) == (m : Int)) = false := by simpa using hnm'
    have HF : Hid (res = false) := hid (by rw [Hres.out]; exact stB_len k ps qs (by rw [← Hn.out, ← Hm.out]; exact hnm))
    go_enter Try.func49, Try.ntmps49
    go_wp2
    go_ret
    exact ⟨by rw [HF.out]; rfl, Below.refl _ _⟩
set_option maxHeartbeats 400000 in
theorem heapSame_any (k : Nat) (w : World) (a : Option Addr) (n cap : Nat) (ps : List (Sl × Rw k)) (b : Option Addr) (m cap2 : Nat) (qs : List (Sl × Rw k)) (hp : StR k w a n ps) (hq : StR k w b m qs) :
    Calls Try.prog 24 #[.agg #[.slice a n cap], .agg #[.slice b m cap2]] w fun e w' => e = .returned (.bool (stB k ps qs)) ∧ Below w.heap.size w w' := by
  have hb := boxes2 w #[.slice a n cap] #[.slice b m cap2] 27 27
  have K := hid (equalM_any k _ a n cap ps b m cap2 qs (hp.below (Nat.le_refl _) hb) (hq.below (Nat.le_refl _) hb))
  have HB := hid hb
  clear hp hq hb
  go_enter Try.func24, Try.ntmps24
  go_wp2_with (go_at_call 49; (refine (K.out).mono ?_; rintro e w1 ⟨rfl, hb1⟩))
  go_ret
  exact ⟨rfl, HB.out.trans (hb1.mono HB.out.size)⟩
end Go.Proofs.Ytenfgahedbeekaa

namespace Go.Proofs.Ytenfgahedbeekaa
open Go.RowKit Go.Deep Go.Shelf
set_option linter.unusedVariables false
set_option linter.unusedSimpArgs false
attribute [local go_sem] Oper.semAt_some

/- What a round keeps: all below, and the two boxes. -/
def KB (n₀ Bx By : Nat) (W W' : World) : Prop := Below n₀ W W' ∧ W'.heap[Bx]? = W.heap[Bx]? ∧ W'.heap[By]? = W.heap[By]?
theorem KB_t {n₀ Bx By : Nat} {A B C : World} (h : KB n₀ Bx By A B) (k : KB n₀ Bx By B C) : KB n₀ Bx By A C := ⟨h.1.trans k.1, k.2.1.trans h.2.1, k.2.2.trans h.2.2⟩
theorem KB_b {n₀ Bx By : Nat} {w : World} (hn : n₀ ≤ w.heap.size) (hB : Bx < w.heap.size) (hC : By < w.heap.size) (W : World) (l : Nat) (o o' : Obj) (hl : w.heap.size ≤ l) (h : W.heap[l]? = some o) (hc : o.isCells = false) (hw : o.isWalk = false) : KB n₀ Bx By W (W.putObj l o') :=
  ⟨belowK_b hn W l o o' hl h hc hw, (grownBy_putObj' W l o').block Bx (by have := (Array.getElem?_eq_some_iff.1 h).1; omega) (fun e => by cases e; omega), (grownBy_putObj' W l o').block By (by have := (Array.getElem?_eq_some_iff.1 h).1; omega) (fun e => by cases e; omega)⟩
theorem KB_of {n₀ Bx By : Nat} {W W' : World} (h : Below W.heap.size W W') (hn : n₀ ≤ W.heap.size) (hB : Bx < W.heap.size) (hC : By < W.heap.size) : KB n₀ Bx By W W' := ⟨h.mono hn, h.block Bx hB, h.block By hC⟩
theorem below_grown {W W' : World} (h : Below W.heap.size W W') : W.grownBy W' none := ⟨h.os, h.tape, h.output, h.size, fun i hi _ => h.block i hi⟩
theorem finr (m k : Nat) (x : Fin m) (h : (List.finRange m)[k]? = some x) : x.val = k := by
  obtain ⟨h1, h2⟩ := List.getElem?_eq_some_iff.1 h
  rw [← h2]; simp
def encE {k : Nat} (r : Rw k) (x : Fin r.length) : Array Value := #[.int .i64 (x.val : Int), (enT k r[x]).v]

set_option maxRecDepth 100000 in
set_option maxHeartbeats 1000000 in
theorem entries1_in (k : Nat) (w0 : World) (sa : Option Addr) (sn sc : Nat) (ms : List (Sl × Rw k)) (hd : StR k w0 sa sn ms) (m : Int) (row : Rw k) (hrow : row = rowAt ms m) (n : Nat) (hn : 1 ≤ n) (l Bx By : Nat)
    (J Jx : List (Fin row.length) → World → Prop)
    (hY : ∀ pre x W, J pre W → pre.length < row.length → YieldAt Fence.wide (n - 1) Try.prog l (encE row x) W fun e W' =>
      (e = .returned (.bool true) ∧ J (pre ++ [x]) W' ∧ KB w0.heap.size Bx By W W') ∨ (e = .returned (.bool false) ∧ Jx (pre ++ [x]) W'))
    (W : World) (hb : Below w0.heap.size w0 W) (hBx : W.heap[Bx]? = some (.cells #[.slice sa sn sc] 27 (0, 0))) (hBy : W.heap[By]? = some (.cells #[.int .i64 m] 3 (0, 0)))
    (hJa : AbidesFrom W.heap.size J) (h0 : J [] W) :
    CallsIn Fence.wide n Try.prog 63 #[.func (.yield l) #[] #[], .pointer (some ⟨Bx, 0, none⟩), .pointer (some ⟨By, 0, none⟩)] W fun e W' => (∃ v, e = .returned v) ∧
      ((∃ ys, ys = List.finRange row.length ∧ J ys W') ∨ (∃ pre, (∃ i, i ≤ row.length ∧ pre = (List.finRange row.length).take i) ∧ Jx pre W')) := by
  refine callsIn_of_wp Try.func63 rfl trivial ?_ rfl
  simp only [Try.ntmps63, List.size_toArray, List.length_cons, List.length_nil, Nat.reduceAdd, Nat.reduceSub, Array.replicate_succ, Array.replicate_zero, List.push_toArray, List.append_toArray, List.nil_append, List.cons_append]
  have D := hid hd
  have Hn := hid hd.n1
  have hle := hd.n2
  have hle2 : (sn : Int) ≤ 1000 := by omega
  have K39 := hid (hasMap_any W sa sn sc m (by omega))
  have HBx := hid hBx
  have HBy := hid hBy
  have hlx : Bx < W.heap.size := (Array.getElem?_eq_some_iff.1 hBx).1
  have hly : By < W.heap.size := (Array.getElem?_eq_some_iff.1 hBy).1
  have c1 : W.cell? ⟨Bx, 0, none⟩ = some (.slice sa sn sc) := cellOf hBx 0
  have c2 : W.cell? ⟨By, 0, none⟩ = some (.int .i64 m) := cellOf hBy 0
  have hn0 : w0.heap.size ≤ W.heap.size := hb.size
  have Hb := hid hb
  clear hd hBx hBy hb
  cases hh : hasB sn m with
  | false =>
    simp only [hh] at K39
    have hr0 : row.length = 0 := by rw [hrow, rowAt_no Hn.out hh]; rfl
    have Hr0 := hid hr0
    clear hY hr0 hrow
    gi_wp2_with (refine ⟨trivial, ?_⟩; gi_at_call 39; refine (callsIn_wide.2 (Hid.out K39)).mono ?_; rintro e w1 ⟨rfl, hb1⟩)
    refine bodyPost_ret (results_none rfl _ _ _) rfl ?_
    refine ⟨⟨_, rfl⟩, .inl ⟨[], ?_, hJa _ _ _ none h0 (below_grown hb1) (by simp)⟩⟩
    exact (List.eq_nil_of_length_eq_zero (by rw [List.length_finRange, Hr0.out])).symm
  | true =>
    have hm : 0 ≤ m ∧ m < (sn : Int) := by simpa [hasB] using hh
    simp only [hh] at K39
    obtain ⟨i0, rfl⟩ : ∃ i0 : Nat, m = (i0 : Int) := ⟨m.toNat, by omega⟩
    have hi0 := hm.1
    have hi1 := hm.2
    obtain ⟨p, hp⟩ : ∃ p, ms[i0]? = some p := ⟨ms[i0]'(by rw [← Hn.out]; omega), List.getElem?_eq_getElem _⟩
    rw [rowAt_yes hp] at hrow
    obtain ⟨b, off, ea, dc⟩ := D.out.rd i0 p.1 (by rw [List.getElem?_map, hp]; rfl)
    subst ea
    have hel := (D.out.el p (List.mem_of_getElem? hp)).1
    obtain ⟨⟨ma, mn, mc⟩, mr⟩ := p
    simp only [Sl.v] at dc
    simp only at hel hrow
    subst hrow
    have dc1 : W.cell? ⟨b, off + i0, none⟩ = some (.slice ma mn mc) := (Hb.out.cell (p := ⟨b, off + i0, none⟩) (World.block_lt_of_cell? w0 _ dc)).trans dc
    have hmn2 := hel.n2
    have hmn3 : (mn : Int) ≤ 1000 := by omega
    have Hmn := hid hel.n1
    have Hel := hid hel
    have hfx : Hid (∀ w1 : World, Below W.heap.size W w1 → w1.cell? ⟨Bx, 0, none⟩ = some (.slice (some ⟨b, off, none⟩) sn sc) ∧ w1.cell? ⟨By, 0, none⟩ = some (.int .i64 (i0 : Int)) ∧ w1.cell? ⟨b, off + i0, none⟩ = some (.slice ma mn mc)) := hid (fun w1 h1 => ⟨(h1.cell (p := ⟨Bx, 0, none⟩) hlx).trans c1, (h1.cell (p := ⟨By, 0, none⟩) hly).trans c2, (h1.cell (p := ⟨b, off + i0, none⟩) (World.block_lt_of_cell? W _ dc1)).trans dc1⟩)
    have HY := hid hY
    have HJa := hid hJa
    have H0 := hid h0
    clear dc hp hel hh hm hY hJa h0 D dc1
    gi_wp2_with (refine ⟨trivial, ?_⟩; gi_at_call 39; refine (callsIn_wide.2 (Hid.out K39)).mono ?_; rintro e w1 ⟨rfl, hb1⟩; obtain ⟨y1, y2, y3⟩ := hfx.out w1 hb1; have HB1 := hid hb1; clear hb1 c1 c2)
    gi_loopw [16] (fun i wr => ∃ j : Nat, j ≤ mn ∧ i = .int .i64 j ∧ J ((List.finRange row.length).take j) wr ∧ KB w0.heap.size Bx By W wr)
      (fun i _ => mn - (intOf i).toNat)
    case atStart => exact ⟨0, Nat.zero_le _, rfl, HJa.out _ _ _ none H0.out (below_grown HB1.out) (by simp), KB_of HB1.out hn0 hlx hly⟩
    case round =>
      obtain ⟨j, hj, rfl, hJs, hnx⟩ := hrel
      by_cases hlt : j < mn
      · have hlt' : (j : Int) < (mn : Int) := by omega
        have hj0 : (0 : Int) ≤ (j : Int) := by omega
        obtain ⟨x, hx⟩ : ∃ x, (List.finRange row.length)[j]? = some x := ⟨(List.finRange row.length)[j]'(by rw [List.length_finRange, ← Hmn.out]; exact hlt), List.getElem?_eq_getElem _⟩
        have hix := finr _ _ x hx
        have hsz : W.heap.size ≤ wr.heap.size := hnx.1.size
        have hgx : row[j]? = some row[x] := by
          rw [List.getElem?_eq_some_iff]
          exact ⟨by rw [← Hmn.out]; exact hlt, by simp only [← hix]; rfl⟩
        obtain ⟨b1, o1, ea, dh⟩ := (Hel.out.below (Nat.le_refl _) (Hb.out.trans hnx.1)).rd j (enT k row[x]) (by rw [List.getElem?_map, hgx]; rfl)
        subst ea
        have d0 := dh 0 (by omega)
        have d1 := dh 1 (by omega)
        have d2 := dh 2 (by omega)
        have d3 := dh 3 (by omega)
        have d4 := dh 4 (by omega)
        have d5 := dh 5 (by omega)
        have d6 := dh 6 (by omega)
        have d7 := dh 7 (by omega)
        have d8 := dh 8 (by omega)
        have d9 := dh 9 (by omega)
        simp only [En.cs, enT, List.getElem?_cons_zero, List.getElem?_cons_succ, Nat.add_zero] at d0 d1 d2 d3 d4 d5 d6 d7 d8 d9
        obtain ⟨fn', tmps, assign, body, hy, hRd⟩ := HY.out _ x (wr.alloc (.cells (enT k row[x]).cs.toArray 81)) (HJa.out _ _ _ none hJs (World.grownBy_alloc _ _ _) (by simp)) (by rw [List.length_take, List.length_finRange, ← Hmn.out]; omega)
        have Htk : Hid ((List.finRange row.length).take (j + 1) = (List.finRange row.length).take j ++ [x]) := by refine hid ?_; rw [List.take_add_one, hx]; rfl
        have hRd' : RoundIn Fence.wide (n - 1) Try.prog l fn' tmps assign body (wr.alloc (.cells (enT k row[x]).cs.toArray 81)) (fun e W' => ∃ b : Bool, e = .returned (.bool b) ∧ ((b = true → J ((List.finRange row.length).take j ++ [x]) W' ∧ KB w0.heap.size Bx By (wr.alloc (.cells (enT k row[x]).cs.toArray 81)) W') ∧ (b = false → Jx ((List.finRange row.length).take j ++ [x]) W'))) := by
          refine hRd.mono ?_
          rintro e W' (⟨rfl, h1, h2⟩ | ⟨rfl, h1⟩)
          · exact ⟨true, rfl, ⟨fun _ => ⟨h1, h2⟩, fun h => (by cases h)⟩⟩
          · exact ⟨false, rfl, ⟨fun h => (by cases h), fun _ => h1⟩⟩
        clear hRd
        have Hnx := hid (KB_t hnx (KB_of ((Below.refl _ wr).alloc (Nat.le_refl _) (.cells (enT k row[x]).cs.toArray 81)) (by omega) (by omega) (by omega)))
        simp only [encE, En.v, En.cs, enT, hix] at hy hRd' Hnx
        generalize hdT k row[x].1 = hd1 at *
        generalize hdT k row[x].2 = hd2 at *
        obtain ⟨yk, yi, yt, yr, ya, yn, yc⟩ := hd1
        obtain ⟨zk, zi, zt, zr, za, zn, zc⟩ := hd2
        simp only at hy hRd' Hnx d0 d1 d2 d3 d4 d5 d6 d7 d8 d9
        have HRd := hid hRd'
        clear hRd' hnx hJs hx hgx dh hix hfx y1 y2 y3 HY
        gi_wp2
        refine (Hid.out HRd).mono ?_
        rintro e W3 ⟨bb, rfl, hor⟩
        cases bb with
        | true =>
          have hor' := hor.1 rfl
          gi_wp2
          go_roundw
          case rel => exact ⟨j + 1, by omega, by go_num, by rw [Htk.out]; exact hor'.1, KB_t Hnx.out hor'.2⟩
          case measure => simp [intOf]; omega
        | false =>
          have hor' := hor.2 rfl
          gi_wp2
          refine bodyPost_ret (results_none rfl _ _ _) rfl ?_
          exact ⟨⟨_, rfl⟩, .inr ⟨_, ⟨j + 1, by rw [← Hmn.out]; omega, Htk.out.symm⟩, hor'⟩⟩
      · obtain rfl : j = mn := by omega
        gi_wp2
        go_end0
        exact ⟨⟨_, rfl⟩, .inl ⟨_, rfl, by rw [Hmn.out, List.take_of_length_le (by rw [List.length_finRange]; exact Nat.le_refl _)] at hJs; exact hJs⟩⟩

theorem entries_stops (k : Nat) (w0 : World) (sa : Option Addr) (sn sc : Nat) (ms : List (Sl × Rw k)) (hd : StR k w0 sa sn ms) (m : Int) (row : Rw k) (hrow : row = rowAt ms m) (n : Nat) (hn : 1 ≤ n) (Bx By : Nat) (w : World)
    (hb : Below w0.heap.size w0 w) (hBx : w.heap[Bx]? = some (.cells #[.slice sa sn sc] 27 (0, 0))) (hBy : w.heap[By]? = some (.cells #[.int .i64 m] 3 (0, 0))) :
    SeqStopsK Fence.wide n Try.prog 63 #[.pointer (some ⟨Bx, 0, none⟩), .pointer (some ⟨By, 0, none⟩)] (encE row) (KB w0.heap.size Bx By) (fun ys => ys = List.finRange row.length) (fun pre => ∃ i, i ≤ row.length ∧ pre = (List.finRange row.length).take i) row.length w := fun l J Jx W hW hJa _ hY h0 =>
  entries1_in k w0 sa sn sc ms hd m row hrow n hn l Bx By J Jx hY W (hb.trans (hW.mono hb.size)) ((hW.block Bx (Array.getElem?_eq_some_iff.1 hBx).1).trans hBx) ((hW.block By (Array.getElem?_eq_some_iff.1 hBy).1).trans hBy) hJa h0

set_option maxHeartbeats 400000 in
theorem entries_in (F : Fence) (n : Nat) (h44 : F.fn 44) (hro : F.round = none) (v1 : Value) (h1 : v1.oneCell' = true) (m : Int) (w : World) :
    CallsIn F n Try.prog 44 #[.agg #[v1], .int .i64 m] w fun e w' => e = .returned (.func (.func 63) #[] #[.pointer (some ⟨w.heap.size, 0, none⟩), .pointer (some ⟨w.heap.size + 1, 0, none⟩)]) ∧ w' = (w.alloc (.cells #[v1] 27)).alloc (.cells #[.int .i64 m] 3) := by
  refine callsIn_of_wp Try.func44 rfl h44 ?_ hro
  simp only [Try.ntmps44, List.size_toArray, List.length_cons, List.length_nil, Nat.reduceAdd, Nat.reduceSub, Array.replicate_succ, Array.replicate_zero, List.push_toArray, List.append_toArray, List.nil_append, List.cons_append]
  gi_wp2
  go_ret
  exact ⟨rfl, rfl⟩
end Go.Proofs.Ytenfgahedbeekaa

namespace Go.Proofs.Ytenfgahedbeekaa
open Go.RowKit Go.Deep Go.Shelf
set_option linter.unusedVariables false
set_option linter.unusedSimpArgs false
attribute [local go_sem] Oper.semAt_some

theorem cell_cells {W : World} {a : Addr} {v : Value} (h : W.cell? a = some v) : ∃ c t f, W.heap[a.block]? = some (.cells c t f) := by
  unfold World.cell? at h
  split at h
  · rename_i c t f hc
    exact ⟨_, _, _, hc⟩
  · cases h
theorem VRd.cells {W W' : World} {a : Option Addr} {hs : List Hd} (h : VRd W a hs) (e : ∀ (b : Nat) (c : Array Value) (t : TypeId) (f : Nat × Nat), W.heap[b]? = some (Obj.cells c t f) → W'.heap[b]? = W.heap[b]?) : VRd W' a hs := by
  intro j x hx
  obtain ⟨b, off, rfl, hc⟩ := h j x hx
  refine ⟨b, off, rfl, fun i hi => ?_⟩
  obtain ⟨c, t, f, hb⟩ := cell_cells ((hc 0 (by omega)).trans (show x.cs[0]? = some (.int .i64 x.kind) from rfl))
  rw [← hc i hi]
  exact World.cell?_of_block (a := ⟨b, off + j * 5 + i, none⟩) (show W'.heap[b]? = W.heap[b]? from e b c t f hb)
theorem RdP.cells : ∀ (k : Nat) {W W' : World} {A : Nat → Prop} {t : VT k}, RdP k W A t → (∀ (b : Nat) (c : Array Value) (t : TypeId) (f : Nat × Nat), W.heap[b]? = some (Obj.cells c t f) → W'.heap[b]? = W.heap[b]?) → RdP k W' A t
  | 0, _, _, _, _, h, _ => h.elim
  | k + 1, W, W', A, t, h, e => ⟨h.1, h.2.1, h.2.2.1, h.2.2.2.1.cells e, h.2.2.2.2.1, fun u hu => RdP.cells k (h.2.2.2.2.2 u hu) e⟩
theorem grown_cells {W W' : World} {row : Option Nat} {B : Nat} (hg : W.grownBy W' row) (hr : ∀ r, row = some r → B ≤ r ∧ ∃ o : Obj, W.heap[r]? = some o ∧ o.isCells = false) : ∀ (b : Nat) (c : Array Value) (t : TypeId) (f : Nat × Nat), W.heap[b]? = some (Obj.cells c t f) → W'.heap[b]? = W.heap[b]? := fun b c t f h =>
  hg.block b (Array.getElem?_eq_some_iff.1 h).1 (fun e => by
    obtain ⟨_, o, ho, hc⟩ := hr b e.symm
    rw [h] at ho; cases ho; cases hc)
/- Between two rounds: boxes of the key, of the results; none so far. -/
def NI (w : World) (kc : Array Value) {m : Nat} (P : Fin m → Bool) (pre : List (Fin m)) (W : World) : Prop :=
  (W.heap[w.heap.size + 1]? = some (.cells kc 31 (0, 0)) ∧ W.heap[w.heap.size + 1 + 1]? = some (.cells #[.int .i64 0, .int .i64 0, .string ⟨#[]⟩, .int .i64 0, .slice none 0 0] 31 (0, 0)) ∧ W.heap[w.heap.size + 1 + 1 + 1]? = some (.cells #[.bool false] 4 (0, 0))) ∧ (∀ x ∈ pre, P x = false) ∧ Below w.heap.size w W ∧ w.heap.size + 6 ≤ W.heap.size
theorem NI_own (w : World) (kc : Array Value) {m : Nat} (P : Fin m → Bool) {B : Nat} (hB : w.heap.size ≤ B) : OwnFrom B (NI w kc P) := fun s A A' row hs hg hr =>
  ⟨⟨keep_cells hs.1.1 hg hr, keep_cells hs.1.2.1 hg hr, keep_cells hs.1.2.2 hg hr⟩, hs.2.1, ownFrom_below (β := Unit) (Nat.le_refl _) hB () A A' row hs.2.2.1 hg hr, Nat.le_trans hs.2.2.2 hg.size⟩
theorem NI.below {w W W' : World} {kc : Array Value} {m : Nat} {P : Fin m → Bool} {pre : List (Fin m)} (h : NI w kc P pre W) (k : Below W.heap.size W W') : NI w kc P pre W' := by
  have hl : ∀ {b : Nat} {o : Obj}, W.heap[b]? = some o → W'.heap[b]? = some o := fun e => (k.block _ (Array.getElem?_eq_some_iff.1 e).1).trans e
  exact ⟨⟨hl h.1.1, hl h.1.2.1, hl h.1.2.2⟩, h.2.1, h.2.2.1.trans (k.mono h.2.2.1.size), Nat.le_trans h.2.2.2 k.size⟩
theorem NI.snoc {w W : World} {kc : Array Value} {m : Nat} {P : Fin m → Bool} {pre : List (Fin m)} {x : Fin m} (h : NI w kc P pre W) (hx : P x = false) : NI w kc P (pre ++ [x]) W := ⟨h.1, fun y hy => by
  rcases List.mem_append.1 hy with hy | hy
  · exact h.2.1 y hy
  · simp at hy; subst hy; exact hx, h.2.2⟩
/- Found. -/
def NX (k : Nat) (w : World) {m : Nat} (P : Fin m → Bool) (g : Fin m → CT k) (c : Code) (pre : List (Fin m)) (W : World) : Prop :=
  c = .ret ∧ (∃ pre' x, pre = pre' ++ [x] ∧ (∀ y ∈ pre', P y = false) ∧ P x = true ∧ ∃ t : VT k, RdP k W (fun b => w.heap.size ≤ b ∧ b < W.heap.size) t ∧ ofT k t = g x ∧ W.heap[w.heap.size + 1 + 1]? = some (.cells #[.int .i64 (hdT k t).kind, .int .i64 (hdT k t).int, .string (hdT k t).text, .int .i64 (hdT k t).rc, .slice (hdT k t).a (hdT k t).n (hdT k t).cap] 31 (0, 0))) ∧ W.heap[w.heap.size + 1 + 1 + 1]? = some (.cells #[.bool true] 4 (0, 0)) ∧ Below w.heap.size w W
theorem NX_own (k : Nat) (w : World) {m : Nat} (P : Fin m → Bool) (g : Fin m → CT k) (c : Code) {B : Nat} (hB : w.heap.size ≤ B) : OwnFrom B (NX k w P g c) := fun s A A' row hs hg hr => by
  obtain ⟨h1, ⟨pre', x, e, hp, hx, t, ht, he, hb⟩, h3, h4⟩ := hs
  exact ⟨h1, ⟨pre', x, e, hp, hx, t, (ht.cells k (grown_cells hg hr)).imp k (fun b hb => ⟨hb.1, Nat.lt_of_lt_of_le hb.2 hg.size⟩), he, keep_cells hb hg hr⟩, keep_cells h3 hg hr, ownFrom_below (β := Unit) (Nat.le_refl _) hB () A A' row h4 hg hr⟩
/- The first one of a row. -/
theorem find_none {α : Type} (l : List α) (P : α → Bool) (h : ∀ x ∈ List.finRange l.length, P l[x] = false) : l.find? P = none := by
  rw [List.find?_eq_none]
  intro a ha
  obtain ⟨i, hi, e⟩ := List.getElem_of_mem ha
  have := h ⟨i, hi⟩ (List.mem_finRange _)
  have e2 : l[(⟨i, hi⟩ : Fin l.length)] = a := e
  rw [e2] at this
  simp [this]
theorem find_some {α : Type} (l : List α) (P : α → Bool) (i : Nat) (hi : i ≤ l.length) (pre' : List (Fin l.length)) (x : Fin l.length) (e : (List.finRange l.length).take i = pre' ++ [x]) (h : ∀ y ∈ pre', P l[y] = false) (hx : P l[x] = true) : l.find? P = some l[x] := by
  have hlen : pre'.length + 1 = i := by
    have := congrArg List.length e
    rw [List.length_take, List.length_finRange, List.length_append] at this
    simp at this; omega
  have hpx : (List.finRange l.length)[pre'.length]? = some x := by
    have : ((List.finRange l.length).take i)[pre'.length]? = some x := by rw [e]; simp
    rw [List.getElem?_take, if_pos (by omega)] at this
    exact this
  have hxv := finr _ _ x hpx
  rw [List.find?_eq_some_iff_getElem]
  refine ⟨hx, x.val, x.isLt, rfl, fun j hj => ?_⟩
  have hjp : (⟨j, by omega⟩ : Fin l.length) ∈ pre' := by
    have h1 : ((List.finRange l.length).take i)[j]? = some (⟨j, by omega⟩ : Fin l.length) := by
      rw [List.getElem?_take, if_pos (by omega), List.getElem?_eq_getElem (by rw [List.length_finRange]; omega)]
      simp
    rw [e, List.getElem?_append_left (by omega)] at h1
    exact List.mem_of_getElem? h1
  have := h _ hjp
  have e2 : l[(⟨j, by omega⟩ : Fin l.length)] = l[j] := rfl
  rw [e2] at this
  simp [this]

set_option maxRecDepth 100000 in
set_option maxHeartbeats 2000000 in
theorem next_any (k : Nat) (w : World) (sa : Option Addr) (sn sc : Nat) (ms : List (Sl × Rw k)) (hd : StR k w sa sn ms) (m : Int) (kt : VT k) (hk : Rds k w kt) :
    Calls Try.prog 19 #[.agg #[.slice sa sn sc], .int .i64 m, (hdT k kt).v] w (MbP k w (((rowAt ms m).find? (fun p => decide (0 < cmpT k p.1 kt))).map fun p => ofT k p.1)) := by
  have D := hid hd
  have DK := hid hk
  obtain ⟨row, hrow⟩ : ∃ row, row = rowAt ms m := ⟨_, rfl⟩
  have Hrow := hid hrow
  rw [← hrow]
  obtain ⟨P, hP⟩ : ∃ P : VT k × VT k → Bool, P = fun p => decide (0 < cmpT k p.1 kt) := ⟨_, rfl⟩
  have HP := hid hP
  rw [← hP]
  obtain ⟨res, hres⟩ : ∃ res, res = (row.find? P).map fun p => ofT k p.1 := ⟨_, rfl⟩
  rw [← hres]
  have Hres := hid hres
  have KQ : Hid (∀ (x : Fin row.length) (w1 : World), Below w.heap.size w w1 → Rds k w1 row[x].1 ∧ Rds k w1 row[x].2) := hid (fun x w1 hb => by
    have hmem : row[x] ∈ row := List.getElem_mem _
    have : ∀ q ∈ rowAt ms m, Rds k w1 q.1 ∧ Rds k w1 q.2 := by
      intro q hq
      unfold rowAt at hq
      split at hq
      · cases e : ms[m.toNat]? with
        | none => rw [e] at hq; simp at hq
        | some p => rw [e] at hq; exact ((hd.el p (List.mem_of_getElem? e)).1.below (Nat.le_refl _) hb).el q hq
      · simp at hq
    rw [← hrow] at this
    exact this _ hmem)
  have KK : Hid (∀ w1 : World, Below w.heap.size w w1 → Rds k w1 kt) := hid (fun w1 hb => Rds.below k hk (Nat.le_refl _) hb)
  have hro : Fence.wide.round = none := rfl
  have KC : Hid (∀ (x : Fin row.length) (w1 : World), Below w.heap.size w w1 → Calls Try.prog 47 #[(hdT k row[x].1).v, (hdT k kt).v] w1 fun e w' => e = .returned (.int .i64 (cmpT k row[x].1 kt)) ∧ Below w1.heap.size w1 w') := hid (fun x w1 hb => compare_any k w1 row[x].1 kt (KQ.out x w1 hb).1 (KK.out w1 hb))
  have KD : Hid (∀ (x : Fin row.length) (w1 : World), Below w.heap.size w w1 → Calls Try.prog 46 #[(hdT k row[x].1).v] w1 (CpP k w1 row[x].1)) := hid (fun x w1 hb => copy_any k w1 row[x].1 (KQ.out x w1 hb).1)
  clear hd hk hrow hP hres
  generalize hdT k kt = hkt at *
  obtain ⟨kk, ki, kx, kr, ka, kn, kc⟩ := hkt
  simp only [Hd.v] at KC ⊢
  obtain ⟨W0, hW0⟩ : ∃ W0, W0 = (((w.alloc (.cells #[.slice sa sn sc] 27)).alloc (.cells #[.int .i64 kk, .int .i64 ki, .string kx, .int .i64 kr, .slice ka kn kc] 31)).alloc (.cells #[.int .i64 0, .int .i64 0, .string ⟨#[]⟩, .int .i64 0, .slice none 0 0] 31)).alloc (.cells #[.bool false] 4) := ⟨_, rfl⟩
  obtain ⟨W1, hW1⟩ : ∃ W1, W1 = (W0.alloc (.cells #[.slice sa sn sc] 27)).alloc (.cells #[.int .i64 m] 3) := ⟨_, rfl⟩
  have pl' : ∀ {w : World} {o x : Obj} {k : Nat}, w.heap[k]? = some x → (w.alloc o).heap[k]? = some x := fun h => (Below.heap_alloc _ _ _ (Array.getElem?_eq_some_iff.1 h).1).trans h
  have n2 := heap_alloc_new (w.alloc (.cells #[.slice sa sn sc] 27)) (.cells #[.int .i64 kk, .int .i64 ki, .string kx, .int .i64 kr, .slice ka kn kc] 31)
  have n3 := heap_alloc_new ((w.alloc (.cells #[.slice sa sn sc] 27)).alloc (.cells #[.int .i64 kk, .int .i64 ki, .string kx, .int .i64 kr, .slice ka kn kc] 31)) (.cells #[.int .i64 0, .int .i64 0, .string ⟨#[]⟩, .int .i64 0, .slice none 0 0] 31)
  have n4 := heap_alloc_new (((w.alloc (.cells #[.slice sa sn sc] 27)).alloc (.cells #[.int .i64 kk, .int .i64 ki, .string kx, .int .i64 kr, .slice ka kn kc] 31)).alloc (.cells #[.int .i64 0, .int .i64 0, .string ⟨#[]⟩, .int .i64 0, .slice none 0 0] 31)) (.cells #[.bool false] 4)
  have n5 := heap_alloc_new W0 (.cells #[.slice sa sn sc] 27)
  have n6 := heap_alloc_new (W0.alloc (.cells #[.slice sa sn sc] 27)) (.cells #[.int .i64 m] 3)
  have hz0 : W0.heap.size = w.heap.size + 1 + 1 + 1 + 1 := by rw [hW0]; simp
  have hz1 : W1.heap.size = w.heap.size + 1 + 1 + 1 + 1 + 1 + 1 := by rw [hW1]; simp; omega
  simp only [World.size_alloc, hz0] at n2 n3 n4 n5 n6
  have q2 : W1.heap[w.heap.size + 1]? = some (.cells #[.int .i64 kk, .int .i64 ki, .string kx, .int .i64 kr, .slice ka kn kc] 31 (0, 0)) := by rw [hW1, hW0]; exact pl' (pl' (pl' (pl' n2)))
  have q3 : W1.heap[w.heap.size + 1 + 1]? = some (.cells #[.int .i64 0, .int .i64 0, .string ⟨#[]⟩, .int .i64 0, .slice none 0 0] 31 (0, 0)) := by rw [hW1, hW0]; exact pl' (pl' (pl' n3))
  have q4 : W1.heap[w.heap.size + 1 + 1 + 1]? = some (.cells #[.bool false] 4 (0, 0)) := by rw [hW1, hW0]; exact pl' (pl' n4)
  have q5 : W1.heap[w.heap.size + 1 + 1 + 1 + 1]? = some (.cells #[.slice sa sn sc] 27 (0, 0)) := by rw [hW1]; exact pl' n5
  have q6 : W1.heap[w.heap.size + 1 + 1 + 1 + 1 + 1]? = some (.cells #[.int .i64 m] 3 (0, 0)) := by rw [hW1]; exact n6
  have hb1 : Below w.heap.size w W1 := by
    rw [hW1, hW0]; exact ((((((Below.refl _ w).alloc (Nat.le_refl _) _).alloc (by simp) _).alloc (by simp; omega) _).alloc (by simp; omega) _).alloc (by simp; omega) _).alloc (by simp; omega) _
  have hseq := entries_stops k w sa sn sc ms D.out m row Hrow.out 5 (by omega) (w.heap.size + 1 + 1 + 1 + 1) (w.heap.size + 1 + 1 + 1 + 1 + 1) W1 hb1 q5 q6
  have h70 : NI w #[.int .i64 kk, .int .i64 ki, .string kx, .int .i64 kr, .slice ka kn kc] (fun x : Fin row.length => P row[x]) [] W1 := ⟨⟨q2, q3, q4⟩, by simp, hb1, by omega⟩
  have hC : w.heap.size ≤ W1.heap.size := by omega
  clear n2 n3 n4 n5 n6 pl' q2 q3 q4 q5 q6 hb1
  refine (callsIn_wide (n := 6)).1 ?_
  refine callsIn_of_wp_marks Try.func19 rfl trivial ?_ hro
  simp only [Try.ntmps19, List.size_toArray, List.length_cons, List.length_nil, Nat.reduceAdd, Nat.reduceSub, Array.replicate_succ, Array.replicate_zero, List.push_toArray, List.append_toArray, List.nil_append, List.cons_append]
  gi_wp2_with (refine ⟨trivial, ?_⟩; gi_at_call 44; refine (entries_in _ _ trivial hro _ rfl _ _).mono ?_; rintro e w7 ⟨rfl, rfl⟩)
  rw [← hW0]
  try simp only [hz0]
  rw [← hW1]
  clear hW0 hW1
  refine wpIn_rangeFunc_ownH hro (by omega) (gf := 63) (lb := #[.pointer (some ⟨w.heap.size + 1 + 1 + 1 + 1, 0, none⟩), .pointer (some ⟨w.heap.size + 1 + 1 + 1 + 1 + 1, 0, none⟩)]) rfl trivial (enters_of Try.func63 (by kernel_rfl) rfl) hseq KB_t (KB_b (by omega) (by omega) (by omega)) (Below.refl _ _) (fun _ => rfl)
      (NI w #[.int .i64 kk, .int .i64 ki, .string kx, .int .i64 kr, .slice ka kn kc] (fun x : Fin row.length => P row[x])) (NX k w (fun x : Fin row.length => P row[x]) (fun x => ofT k row[x].1)) (NI_own w _ _ hC) (fun c => NX_own k w _ _ c hC)
      h70
      (fun (x : Fin row.length) (a' : Act) (W : World) => ∃ X : Nat, W.heap[X]? = some (Obj.cells (enT k row[x]).cs.toArray 81 (0, 0)) ∧ a' = { tmps := #[.agg #[.slice sa sn sc], .int .i64 m, .agg #[.int .i64 kk, .int .i64 ki, .string kx, .int .i64 kr, .slice ka kn kc], .pointer (some ⟨w.heap.size, 0, none⟩), undef, .pointer (some ⟨w.heap.size + 1, 0, none⟩), .pointer (some ⟨w.heap.size + 1 + 1, 0, none⟩), .pointer (some ⟨w.heap.size + 1 + 1 + 1, 0, none⟩), undef, .pointer (some ⟨X, 0, none⟩), .agg #[.slice sa sn sc], .int .i64 m, .func (.func 63) #[] #[.pointer (some ⟨w.heap.size + 1 + 1 + 1 + 1, 0, none⟩), .pointer (some ⟨w.heap.size + 1 + 1 + 1 + 1 + 1, 0, none⟩)], .int .i64 (x.val : Int), (enT k row[x]).v, undef, undef, undef, undef, undef, undef, undef, undef, undef], defers := [] })
      (fun x a' u A B rw' hs hg hr => by
        obtain ⟨X, h2, h4⟩ := hs
        exact ⟨X, keep_cells h2 hg hr, h4⟩)
      ?assign ?body ?done ?stop
  case assign =>
    rintro ll pre x W K hi hK
    simp only [encE, enT, En.v, En.cs] at hK ⊢
    generalize hdT k row[x].1 = hd1 at *
    generalize hdT k row[x].2 = hd2 at *
    gi_wp2
    exact hK _ _ ((KeepsOthers.alloc _ _).from _) (KB_of ((Below.refl _ W).alloc (Nat.le_refl _) _) (by have := hi.2.2.2; omega) (by have := hi.2.2.2; omega) (by have := hi.2.2.2; omega)) ((NI_own w _ _ hC).alloc _ hi) ⟨W.heap.size, heap_alloc_new W _, rfl⟩
  case body =>
    rintro ll pre x a' W hll ⟨rr, hrr⟩ hi ⟨X, hx, rfl⟩ hlt
    have HI := hid hi
    have HX := hid hx
    have d0 := cellOf hx 0
    have d1 := cellOf hx 1
    have d2 := cellOf hx 2
    have d3 := cellOf hx 3
    have d4 := cellOf hx 4
    have d5 := cellOf hx 5
    have d6 := cellOf hx 6
    have d7 := cellOf hx 7
    have d8 := cellOf hx 8
    have d9 := cellOf hx 9
    simp only [En.cs, enT, List.getElem?_toArray, List.getElem?_cons_zero, List.getElem?_cons_succ] at d0 d1 d2 d3 d4 d5 d6 d7 d8 d9
    have e0 := cellOf hi.1.1 0
    have e1 := cellOf hi.1.1 1
    have e2 := cellOf hi.1.1 2
    have e3 := cellOf hi.1.1 3
    have e4 := cellOf hi.1.1 4
    simp only [List.getElem?_toArray, List.getElem?_cons_zero, List.getElem?_cons_succ] at e0 e1 e2 e3 e4
    have K1 := hid (KC.out x W hi.2.2.1)
    have K2 := hid (fun (w1 : World) (hb : Below W.heap.size W w1) => KD.out x w1 (hi.2.2.1.trans (hb.mono hi.2.2.1.size)))
    have hPx : P row[x] = decide (0 < cmpT k row[x].1 kt) := by rw [HP.out]
    have FX : Hid (∀ w8 : World, Below W.heap.size W w8 → ∀ i, w8.cell? ⟨X, i, none⟩ = W.cell? ⟨X, i, none⟩) := hid (fun w8 hb i => hb.cell (p := ⟨X, i, none⟩) (Array.getElem?_eq_some_iff.1 hx).1)
    simp only [En.v, En.cs, enT] at *
    obtain ⟨h1, eh1⟩ : ∃ h1, h1 = hdT k row[x].1 := ⟨_, rfl⟩
    obtain ⟨h2, eh2⟩ : ∃ h2, h2 = hdT k row[x].2 := ⟨_, rfl⟩
    rw [← eh1] at d0 d1 d2 d3 d4
    rw [← eh2] at d5 d6 d7 d8 d9
    simp only [← eh1, ← eh2] at K1 K2 ⊢
    obtain ⟨cv, hcv⟩ : ∃ cv, cv = cmpT k row[x].1 kt := ⟨_, rfl⟩
    rw [← hcv] at hPx K1
    obtain ⟨yk, yi, yt, yr, ya, yn, yc⟩ := h1
    obtain ⟨zk, zi, zt, zr, za, zn, zc⟩ := h2
    simp only at K1 K2 d0 d1 d2 d3 d4 d5 d6 d7 d8 d9 ⊢
    clear hx hrr hseq hi h70 eh1 eh2 hcv D DK HX
    cases hq : decide (0 < cv) with
    | false =>
      have hq1 : ¬ 0 < cv := of_decide_eq_false hq
      gi_wp2_with (refine ⟨trivial, ?_⟩; gi_at_call 47; refine (CallsIn.inRound ll (callsIn_wide.2 (Hid.out K1))).mono ?_; rintro e w8 ⟨rfl, hb8⟩)
      exact ⟨keepsFrom_below hb8, KB_of hb8 (by have := HI.out.2.2.2; omega) (by have := HI.out.2.2.2; omega) (by have := HI.out.2.2.2; omega), (HI.out.below hb8).snoc (hPx.trans hq)⟩
    | true =>
      have hq1 : 0 < cv := of_decide_eq_true hq
      gi_wp2_with (first
        | (refine ⟨trivial, ?_⟩; gi_at_call 47; refine (CallsIn.inRound ll (callsIn_wide.2 (Hid.out K1))).mono ?_; rintro e w8 ⟨rfl, hb8⟩; have FX8 := FX.out w8 hb8; rw [← FX8] at d0 d1 d2 d3 d4 d5 d6 d7 d8 d9; have HB8 := hid hb8; clear FX8 hb8)
        | (refine ⟨trivial, ?_⟩; gi_at_call 46; refine (CallsIn.inRound ll (callsIn_wide.2 (Hid.out K2 w8 HB8.out))).mono ?_; rintro e w9 ⟨t, rfl, hb9, hrt, het⟩; simp only [Hd.v]; have HB9 := hid (HB8.out.trans (hb9.mono HB8.out.size)); have HI9 := hid (HI.out.below HB9.out); have Hrt := hid hrt; have Het := hid het; have HB9' := hid hb9; have g2 := HI9.out.1.2.1; have g3 := HI9.out.1.2.2; have u0 := cellOf g2 0; have u1 := cellOf g2 1; have u2 := cellOf g2 2; have u3 := cellOf g2 3; have u4 := cellOf g2 4; have v0 := freeOf g2 0; have v1 := freeOf g2 1; have v2 := freeOf g2 2; have v3 := freeOf g2 3; have v4 := freeOf g2 4; have u5 := cellOf g3 0; have v5 := freeOf g3 0; simp only [List.getElem?_toArray, List.getElem?_cons_zero, List.getElem?_cons_succ] at u0 u1 u2 u3 u4 u5; have G2 := hid g2; have G3 := hid g3; clear hb9 hrt het g2 g3))
      have sA := HI.out.2.2.2
      have s8 := HB8.out.size
      have s9 := HB9.out.size
      have Z5 := five_new G2.out (hdT k t)
      have st : ∀ b, b ≠ w.heap.size + 1 + 1 → b ≠ w.heap.size + 1 + 1 + 1 → ((five w9 (w.heap.size + 1 + 1) 0 (hdT k t)).setCell ⟨w.heap.size + 1 + 1 + 1, 0, none⟩ (.bool true)).heap[b]? = w9.heap[b]? := fun b h2 h3 => (Below.heap_setCell _ _ _ _ h3).trans (five_heap _ _ _ _ h2)
      have ss : ((five w9 (w.heap.size + 1 + 1) 0 (hdT k t)).setCell ⟨w.heap.size + 1 + 1 + 1, 0, none⟩ (.bool true)).heap.size = w9.heap.size := by simp [five, World.setCell]
      refine ⟨((((((keepsFrom_below HB9.out).trans ((KeepsOthers.setCell _ _ _).from _)).trans ((KeepsOthers.setCell _ _ _).from _)).trans ((KeepsOthers.setCell _ _ _).from _)).trans ((KeepsOthers.setCell _ _ _).from _)).trans ((KeepsOthers.setCell _ _ _).from _)).trans ((KeepsOthers.setCell _ _ _).from _), ?_⟩
      change NX k w _ _ _ _ ((five w9 (w.heap.size + 1 + 1) 0 (hdT k t)).setCell ⟨w.heap.size + 1 + 1 + 1, 0, none⟩ (.bool true))
      refine ⟨rfl, ⟨pre, x, rfl, HI.out.2.1, hPx.trans hq, t, ?_, Het.out, ?_⟩, ?_, ?_⟩
      · refine (Hrt.out.keep k (fun b hb => st b (by omega) (by omega))).imp k (fun b hb => ⟨by omega, by rw [ss]; exact hb.2⟩)
      · exact (Below.heap_setCell _ _ _ _ (by show w.heap.size + 1 + 1 ≠ w.heap.size + 1 + 1 + 1; omega)).trans Z5
      · have := heap_set_at ((five_heap w9 (w.heap.size + 1 + 1) 0 (hdT k t) (k := w.heap.size + 1 + 1 + 1) (by omega)).trans G3.out) 0 (.bool true)
        simpa using this
      · exact (five_below (HI9.out.2.2.1) (by omega) _).setCell (p := ⟨w.heap.size + 1 + 1 + 1, 0, none⟩) (by show w.heap.size ≤ w.heap.size + 1 + 1 + 1; omega) _
  case done =>
    rintro D' ys W hD rfl hI hK
    have hval : res = none := by
      rw [Hres.out, find_none row P hI.2.1]; rfl
    have Hval := hid hval
    have HK := hid hK
    have HI := hid hI
    have g2 := hI.1.2.1
    have g3 := hI.1.2.2
    have u0 := cellOf g2 0
    have u1 := cellOf g2 1
    have u2 := cellOf g2 2
    have u3 := cellOf g2 3
    have u4 := cellOf g2 4
    have v0 := freeOf g2 0
    have v1 := freeOf g2 1
    have v2 := freeOf g2 2
    have v3 := freeOf g2 3
    have v4 := freeOf g2 4
    have u5 := cellOf g3 0
    have v5 := freeOf g3 0
    simp only [List.getElem?_toArray, List.getElem?_cons_zero, List.getElem?_cons_succ] at u0 u1 u2 u3 u4 u5
    have G2 := hid g2
    have G3 := hid g3
    clear hseq hI hK hval h70 g2 g3 D DK KC KD KQ KK
    gi_wp2
    obtain ⟨Wf, hWf⟩ : ∃ Wf, Wf = (five W (w.heap.size + 1 + 1) 0 ⟨0, 0, ⟨#[]⟩, 0, none, 0, 0⟩).setCell ⟨w.heap.size + 1 + 1 + 1, 0, none⟩ (.bool false) := ⟨_, rfl⟩
    have k2 : Wf.heap[w.heap.size + 1 + 1]? = some (.cells #[.int .i64 0, .int .i64 0, .string ⟨#[]⟩, .int .i64 0, .slice none 0 0] 31 (0, 0)) := by
      rw [hWf]; exact (Below.heap_setCell _ _ _ _ (by show w.heap.size + 1 + 1 ≠ w.heap.size + 1 + 1 + 1; omega)).trans (five_new G2.out ⟨0, 0, ⟨#[]⟩, 0, none, 0, 0⟩)
    have k3 : Wf.heap[w.heap.size + 1 + 1 + 1]? = some (.cells #[.bool false] 4 (0, 0)) := by
      have := heap_set_at ((five_heap W (w.heap.size + 1 + 1) 0 ⟨0, 0, ⟨#[]⟩, 0, none, 0, 0⟩ (k := w.heap.size + 1 + 1 + 1) (by omega)).trans G3.out) 0 (.bool false)
      rw [hWf]; simpa using this
    have kD : Wf.heap[D']? = some (.deferred (some [])) := by
      rw [hWf]; exact ((Below.heap_setCell _ _ _ _ (by show D' ≠ w.heap.size + 1 + 1 + 1; omega)).trans (five_heap _ _ _ _ (by omega))).trans HK.out
    have kB : Below w.heap.size w Wf := by
      rw [hWf]; exact (five_below (HI.out.2.2.1) (by omega) _).setCell (p := ⟨w.heap.size + 1 + 1 + 1, 0, none⟩) (by show w.heap.size ≤ w.heap.size + 1 + 1 + 1; omega) _
    have h9 := keep_cells (B := 0) k2 (grownBy_putObj' _ D' (.deferred none)) (fun r e => by cases e; exact ⟨Nat.zero_le _, _, kD, rfl⟩)
    have h9' := keep_cells (B := 0) k3 (grownBy_putObj' _ D' (.deferred none)) (fun r e => by cases e; exact ⟨Nat.zero_le _, _, kD, rfl⟩)
    have h10 : Below w.heap.size w (Wf.putObj D' (.deferred none)) := ownFrom_below (β := Unit) (Nat.le_refl _) (Nat.le_refl _) () _ _ _ kB (grownBy_putObj' _ D' (.deferred none)) (fun r e => by cases e; exact ⟨by omega, _, kD, rfl⟩)
    have r0 := cellOf h9 0
    have r1 := cellOf h9 1
    have r2 := cellOf h9 2
    have r3 := cellOf h9 3
    have r4 := cellOf h9 4
    have r5 := cellOf h9' 0
    simp only [List.getElem?_toArray, List.getElem?_cons_zero, List.getElem?_cons_succ] at r0 r1 r2 r3 r4 r5
    rw [show (((((W.setCell ⟨w.heap.size + 1 + 1, 0, none⟩ (.int .i64 0)).setCell ⟨w.heap.size + 1 + 1, 1, none⟩ (.int .i64 0)).setCell ⟨w.heap.size + 1 + 1, 2, none⟩ (.string ⟨#[]⟩)).setCell ⟨w.heap.size + 1 + 1, 3, none⟩ (.int .i64 0)).setCell ⟨w.heap.size + 1 + 1, 4, none⟩ (.slice none 0 0)).setCell ⟨w.heap.size + 1 + 1 + 1, 0, none⟩ (.bool false) = Wf from hWf.symm]
    refine ⟨by simp, .inl ⟨_, _, rfl, run_takeDeferred kD, ?_⟩⟩
    refine ⟨.tuple #[.agg #[.int .i64 0, .int .i64 0, .string ⟨#[]⟩, .int .i64 0, .slice none 0 0], .bool false], by simp [results, Try.results19, go_sem, r0, r1, r2, r3, r4, r5], ?_⟩
    rw [Hval.out]
    exact ⟨h10, rfl⟩
  case stop =>
    rintro D' c pre W hD ⟨ii, hii, epre⟩ ⟨rfl, ⟨pre', x, e0, hp, hx, t, ht, het, k2⟩, k3, kB⟩ hK
    have hval : res = some (ofT k t) := by
      rw [Hres.out, find_some row P ii hii pre' x (epre.symm.trans e0) hp hx, het]; rfl
    have Hval := hid hval
    have HK := hid hK
    have Ht := hid ht
    have kD := hK
    have h9 := keep_cells (B := 0) k2 (grownBy_putObj' _ D' (.deferred none)) (fun r e => by cases e; exact ⟨Nat.zero_le _, _, kD, rfl⟩)
    have h9' := keep_cells (B := 0) k3 (grownBy_putObj' _ D' (.deferred none)) (fun r e => by cases e; exact ⟨Nat.zero_le _, _, kD, rfl⟩)
    have h10 : Below w.heap.size w (W.putObj D' (.deferred none)) := ownFrom_below (β := Unit) (Nat.le_refl _) (Nat.le_refl _) () _ _ _ kB (grownBy_putObj' _ D' (.deferred none)) (fun r e => by cases e; exact ⟨by omega, _, kD, rfl⟩)
    have h11 := (ht.cells k (grown_cells (B := 0) (grownBy_putObj' _ D' (.deferred none)) (fun r e => by cases e; exact ⟨Nat.zero_le _, _, kD, rfl⟩))).imp k (B := fun b => w.heap.size ≤ b ∧ b < (W.putObj D' (.deferred none)).heap.size) (fun b hb => ⟨hb.1, Nat.lt_of_lt_of_le hb.2 (grownBy_putObj' W D' (.deferred none)).size⟩)
    have H10 := hid h10
    have H11 := hid h11
    have r0 := cellOf h9 0
    have r1 := cellOf h9 1
    have r2 := cellOf h9 2
    have r3 := cellOf h9 3
    have r4 := cellOf h9 4
    have r5 := cellOf h9' 0
    simp only [List.getElem?_toArray, List.getElem?_cons_zero, List.getElem?_cons_succ] at r0 r1 r2 r3 r4 r5
    clear hseq hval h70 D DK KC KD KQ KK hK ht h10 h11 h9 h9' k2 k3 kB epre e0 hp hx het kD
    gi_wp2
    refine ⟨by simp, .inl ⟨_, _, rfl, run_takeDeferred HK.out, ?_⟩⟩
    refine ⟨.tuple #[(hdT k t).v, .bool true], by simp [results, Try.results19, go_sem, r0, r1, r2, r3, r4, r5, Hd.v], ?_⟩
    rw [Hval.out]
    exact ⟨H10.out, t, rfl, H11.out, rfl⟩

end Go.Proofs.Ytenfgahedbeekaa

