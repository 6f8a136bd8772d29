/- slices.EqualFunc on rows of entries; sameRow. -/
import Derived.Test.YtenfgahedbeekaaS
namespace Go.Proofs.Ytenfgahedbeekaa
open Go.RowKit Go.Deep Go.Shelf
set_option linter.unusedVariables false
set_option linter.unusedSimpArgs false

def rowB (k : Nat) : Rw k → Rw k → Bool
  | [], [] => true
  | p :: ps, q :: qs => entB k p q && rowB k ps qs
  | _, _ => false
theorem rowB_len (k : Nat) : ∀ (ps qs : Rw k), ps.length ≠ qs.length → rowB k ps qs = false
  | [], [], h => absurd rfl h
  | [], _ :: _, _ => rfl
  | _ :: _, [], _ => rfl
  | p :: ps, q :: qs, h => by
    rw [rowB, rowB_len k ps qs (fun e => h (by simp [e])), Bool.and_false]
theorem rowB_drop {k : Nat} {ps qs : Rw k} {i : Nat} {p q : VT k × VT k} (hp : ps[i]? = some p) (hq : qs[i]? = some q) : rowB k (ps.drop i) (qs.drop i) = (entB k p q && rowB k (ps.drop (i + 1)) (qs.drop (i + 1))) := by
  obtain ⟨h1, e1⟩ := List.getElem?_eq_some_iff.1 hp
  obtain ⟨h2, e2⟩ := List.getElem?_eq_some_iff.1 hq
  rw [List.drop_eq_getElem_cons h1, List.drop_eq_getElem_cons h2, e1, e2, rowB]
theorem entB_iff (k : Nat) (p q : VT k × VT k) : entB k p q = true ↔ ofP k p = ofP k q := by
  unfold entB ofP
  rw [← cmpC_of, ← cmpC_of]
  simp only [Bool.and_eq_true, beq_iff_eq, cmpC_iff, Prod.mk.injEq]
theorem rowB_iff (k : Nat) : ∀ (ps qs : Rw k), rowB k ps qs = true ↔ rowC k ps = rowC k qs
  | [], [] => by simp [rowB, rowC]
  | [], _ :: _ => by simp [rowB, rowC]
  | _ :: _, [] => by simp [rowB, rowC]
  | p :: ps, q :: qs => by
    rw [rowB, Bool.and_eq_true, entB_iff, rowB_iff k ps qs]
    simp [rowC]
set_option maxRecDepth 100000 in
set_option maxHeartbeats 2000000 in
theorem equalE_any (k : Nat) (w : World) (a : Option Addr) (n cap : Nat) (ps : Rw k) (b : Option Addr) (m cap2 : Nat) (qs : Rw k) (hp : RwR k w a n ps) (hq : RwR k w b m qs) :
    Calls Try.prog 70 #[.slice a n cap, .slice b m cap2, .func (.func 71) #[] #[]] w fun e w' => e = .returned (.bool (rowB k ps qs)) ∧ Below w.heap.size w w' := by
  have P := hid hp
  have Q := hid hq
  have Hn := hid hp.n1
  have Hm := hid hq.n1
  have hn2 := hp.n2
  have hm2 := hq.n2
  have hn3 : (n : Int) ≤ 1000 := by omega
  have hm3 : (m : Int) ≤ 1000 := by omega
  clear hp hq
  obtain ⟨res, hres⟩ : ∃ res, res = rowB k ps qs := ⟨_, rfl⟩
  rw [← hres]
  have Hres := hid hres
  clear hres
  by_cases hnm : n = m
  · subst hnm
    go_enter Try.func70, Try.ntmps70
    go_wp2
    go_loopg [17] n (fun g ii wr => ∃ i : Nat, i + g = n ∧ ii = .int .i64 (i : Int) ∧ Below w.heap.size w wr ∧ res = rowB k (ps.drop i) (qs.drop i))
    case atStart => exact ⟨0, by omega, rfl, Below.refl _ _, by simpa using Hres.out⟩
    case round =>
      obtain ⟨i, hi', rfl, hbr, hrs⟩ := hrel
      have Hbr := hid hbr
      have Hrs := hid hrs
      cases gk with
      | zero =>
        have hin : i = n := by omega
        subst hin
        clear hi' hbr hrs
        go_wp2
        go_ret
        refine ⟨?_, Hbr.out⟩
        have : res = true := by
          rw [Hrs.out, List.drop_of_length_le (by rw [← Hn.out]; exact Nat.le_refl _), List.drop_of_length_le (by rw [← Hm.out]; exact Nat.le_refl _)]; rfl
        rw [this]
        rfl
      | succ gi =>
      have hlt0 : i < n := by omega
      have hlt : (i : Int) < (n : Int) := by omega
      have hi00 : (0 : Int) ≤ (i : Int) := by omega
      obtain ⟨p, hp⟩ : ∃ p, ps[i]? = some p := ⟨ps[i]'(by rw [← Hn.out]; exact hlt0), List.getElem?_eq_getElem _⟩
      obtain ⟨q, hq⟩ : ∃ q, qs[i]? = some q := ⟨qs[i]'(by rw [← Hm.out]; exact hlt0), List.getElem?_eq_getElem _⟩
      have hP := P.out.below (Nat.le_refl _) hbr
      have hQ := Q.out.below (Nat.le_refl _) hbr
      obtain ⟨b1, o1, ea, dh⟩ := hP.rd i (enT k p) (by rw [List.getElem?_map, hp]; rfl)
      subst ea
      obtain ⟨b2, o2, ea, gh⟩ := hQ.rd i (enT k q) (by rw [List.getElem?_map, hq]; rfl)
      subst ea
      obtain ⟨p1, p2⟩ := hP.el p (List.mem_of_getElem? hp)
      obtain ⟨q1, q2⟩ := hQ.el q (List.mem_of_getElem? hq)
      have d0 := dh 0 (by omega)
      have d1 := dh 1 (by omega)
      have d2 := dh 2 (by omega)
      have d3 := dh 3 (by omega)
      have d4 := dh 4 (by omega)
      have d5 := dh 5 (by omega)
      have d6 := dh 6 (by omega)
      have d7 := dh 7 (by omega)
      have d8 := dh 8 (by omega)
      have d9 := dh 9 (by omega)
      have f0 := gh 0 (by omega)
      have f1 := gh 1 (by omega)
      have f2 := gh 2 (by omega)
      have f3 := gh 3 (by omega)
      have f4 := gh 4 (by omega)
      have f5 := gh 5 (by omega)
      have f6 := gh 6 (by omega)
      have f7 := gh 7 (by omega)
      have f8 := gh 8 (by omega)
      have f9 := gh 9 (by omega)
      simp only [En.cs, enT, List.getElem?_cons_zero, List.getElem?_cons_succ, Nat.add_zero] at d0 d1 d2 d3 d4 d5 d6 d7 d8 d9 f0 f1 f2 f3 f4 f5 f6 f7 f8 f9
      have Hst := hid (rowB_drop hp hq)
      have C71 := hid (fun o o2 => sameEntry_any k ((wr.alloc o).alloc o2) p q (Rds.below k p1 (Nat.le_refl _) (((Below.refl _ wr).alloc (Nat.le_refl _) o).alloc (by simp) o2)) (Rds.below k p2 (Nat.le_refl _) (((Below.refl _ wr).alloc (Nat.le_refl _) o).alloc (by simp) o2)) (Rds.below k q1 (Nat.le_refl _) (((Below.refl _ wr).alloc (Nat.le_refl _) o).alloc (by simp) o2)) (Rds.below k q2 (Nat.le_refl _) (((Below.refl _ wr).alloc (Nat.le_refl _) o).alloc (by simp) o2)))
      have bA : Hid (∀ o o2, Below w.heap.size w ((wr.alloc o).alloc o2)) := hid (fun o o2 => (hbr.alloc hbr.size o).alloc (by have := hbr.size; simp; omega) o2)
      have Hi := hid hi'
      obtain ⟨E, hE⟩ : ∃ E, E = entB k p q := ⟨_, rfl⟩
      rw [← hE] at C71 Hst
      clear hE
      simp only [enT, En.v, En.cs] at C71
      have al : ∀ (o : Obj) (x : Addr) (v : Value), wr.cell? x = some v → (wr.alloc o).cell? x = some v := fun o x v h => (World.cell?_of_block (Below.heap_alloc _ _ _ (World.block_lt_of_cell? wr x h))).trans h
      generalize hdT k p.1 = h1 at *
      generalize hdT k p.2 = h2 at *
      generalize hdT k q.1 = h3 at *
      generalize hdT k q.2 = h4 at *
      obtain ⟨yk, yi, yt, yr, ya, yn, yc⟩ := h1
      obtain ⟨zk, zi, zt, zr, za, zn, zc⟩ := h2
      obtain ⟨uk, ui, ut, ur, ua, un, uc⟩ := h3
      obtain ⟨vk, vi, vt, vr, va, vn, vc⟩ := h4
      simp only at C71 d0 d1 d2 d3 d4 d5 d6 d7 d8 d9 f0 f1 f2 f3 f4 f5 f6 f7 f8 f9
      have g0 := fun o => al o _ _ f0
      have g1 := fun o => al o _ _ f1
      have g2 := fun o => al o _ _ f2
      have g3 := fun o => al o _ _ f3
      have g4 := fun o => al o _ _ f4
      have g5 := fun o => al o _ _ f5
      have g6 := fun o => al o _ _ f6
      have g7 := fun o => al o _ _ f7
      have g8 := fun o => al o _ _ f8
      have g9 := fun o => al o _ _ f9
      clear hbr hrs hi' dh gh hp hq hP hQ p1 p2 q1 q2 al
      cases E with
      | false =>
        go_wp2_with (go_at_call 71; (refine (C71.out _ _).mono ?_; rintro e w9 ⟨rfl, hb9⟩; have HB9 := hid ((bA.out _ _).trans (hb9.mono (bA.out _ _).size)); clear hb9))
        go_ret
        refine ⟨?_, HB9.out⟩
        have : res = false := by rw [Hrs.out, Hst.out]; rfl
        rw [this]
        rfl
      | true =>
        go_wp2_with (go_at_call 71; (refine (C71.out _ _).mono ?_; rintro e w9 ⟨rfl, hb9⟩; have HB9 := hid ((bA.out _ _).trans (hb9.mono (bA.out _ _).size)); clear hb9))
        go_roundg gi
        case measure => omega
        case rel => exact ⟨i + 1, by have := Hi.out; omega, by go_num, HB9.out, by rw [Hrs.out, Hst.out]; rfl⟩
  · have hnm' : ¬ (n : Int) = (m : Int) := by omega
    have hnb : ((n : Int) == (m : Int)) = false := by simpa using hnm'
    have HF : Hid (res = false) := hid (by rw [Hres.out]; exact rowB_len k ps qs (by rw [← Hn.out, ← Hm.out]; exact hnm))
    go_enter Try.func70, Try.ntmps70
    go_wp2
    go_ret
    exact ⟨by rw [HF.out]; rfl, Below.refl _ _⟩
end Go.Proofs.Ytenfgahedbeekaa
