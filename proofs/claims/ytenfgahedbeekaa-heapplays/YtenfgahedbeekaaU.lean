/- sameRow; heap.Same. -/
import Derived.Test.YtenfgahedbeekaaT
namespace Go.Proofs.Ytenfgahedbeekaa
open Go.RowKit Go.Deep Go.Shelf
set_option linter.unusedVariables false
set_option linter.unusedSimpArgs false

set_option maxHeartbeats 400000 in
theorem sameRow_any (k : Nat) (w : World) (a : Option Addr) (n cap : Nat) (ps : Rw k) (b : Option Addr) (m cap2 : Nat) (qs : Rw k) (hp : RwR k w a n ps) (hq : RwR k w b m qs) :
    Calls Try.prog 50 #[.slice a n cap, .slice b m cap2] w fun e w' => e = .returned (.bool (rowB k ps qs)) ∧ Below w.heap.size w w' := by
  have K := hid (equalE_any k w a n cap ps b m cap2 qs hp hq)
  clear hp hq
  go_enter Try.func50, Try.ntmps50
  go_wp2_with (go_at_call 70; (refine (K.out).mono ?_; rintro e w1 ⟨rfl, hb1⟩))
  go_ret
  exact ⟨rfl, hb1⟩
def stB (k : Nat) : List (Sl × Rw k) → List (Sl × Rw k) → Bool
  | [], [] => true
  | p :: ps, q :: qs => rowB k p.2 q.2 && stB k ps qs
  | _, _ => false
theorem stB_len (k : Nat) : ∀ (ps qs : List (Sl × Rw k)), ps.length ≠ qs.length → stB k ps qs = false
  | [], [], h => absurd rfl h
  | [], _ :: _, _ => rfl
  | _ :: _, [], _ => rfl
  | p :: ps, q :: qs, h => by
    rw [stB, stB_len k ps qs (fun e => h (by simp [e])), Bool.and_false]
theorem stB_drop {k : Nat} {ps qs : List (Sl × Rw k)} {i : Nat} {p q : Sl × Rw k} (hp : ps[i]? = some p) (hq : qs[i]? = some q) : stB k (ps.drop i) (qs.drop i) = (rowB k p.2 q.2 && stB k (ps.drop (i + 1)) (qs.drop (i + 1))) := by
  obtain ⟨h1, e1⟩ := List.getElem?_eq_some_iff.1 hp
  obtain ⟨h2, e2⟩ := List.getElem?_eq_some_iff.1 hq
  rw [List.drop_eq_getElem_cons h1, List.drop_eq_getElem_cons h2, e1, e2, stB]
theorem stB_iff (k : Nat) : ∀ (ps qs : List (Sl × Rw k)), stB k ps qs = true ↔ ps.map (fun q => rowC k q.2) = qs.map (fun q => rowC k q.2)
  | [], [] => by simp [stB]
  | [], _ :: _ => by simp [stB]
  | _ :: _, [] => by simp [stB]
  | p :: ps, q :: qs => by
    rw [stB, Bool.and_eq_true, rowB_iff, stB_iff k ps qs]
    simp
theorem StR.below {k : Nat} {w w' : World} {a : Option Addr} {n : Nat} {ms : List (Sl × Rw k)} {B : Nat} (h : StR k w a n ms) (hB : w.heap.size ≤ B) (hb : Below B w w') : StR k w' a n ms :=
  ⟨h.n1, h.n2, h.rd.below hB hb, fun m hm => ⟨(h.el m hm).1.below hB hb, (h.el m hm).2⟩⟩
set_option maxRecDepth 100000 in
set_option maxHeartbeats 2000000 in
theorem equalM_any (k : Nat) (w : World) (a : Option Addr) (n cap : Nat) (ps : List (Sl × Rw k)) (b : Option Addr) (m cap2 : Nat) (qs : List (Sl × Rw k)) (hp : StR k w a n ps) (hq : StR k w b m qs) :
    Calls Try.prog 49 #[.slice a n cap, .slice b m cap2, .func (.func 50) #[] #[]] w fun e w' => e = .returned (.bool (stB k ps qs)) ∧ Below w.heap.size w w' := by
  have P := hid hp
  have Q := hid hq
  have Hn := hid hp.n1
  have Hm := hid hq.n1
  have hn2 := hp.n2
  have hm2 := hq.n2
  have hn3 : (n : Int) ≤ 1000 := by omega
  have hm3 : (m : Int) ≤ 1000 := by omega
  clear hp hq
  obtain ⟨res, hres⟩ : ∃ res, res = stB k ps qs := ⟨_, rfl⟩
  rw [← hres]
  have Hres := hid hres
  clear hres
  by_cases hnm : n = m
  · subst hnm
    go_enter Try.func49, Try.ntmps49
    go_wp2
    go_loopg [17] n (fun g ii wr => ∃ i : Nat, i + g = n ∧ ii = .int .i64 (i : Int) ∧ Below w.heap.size w wr ∧ res = stB k (ps.drop i) (qs.drop i))
    case atStart => exact ⟨0, by omega, rfl, Below.refl _ _, by simpa using Hres.out⟩
    case round =>
      obtain ⟨i, hi', rfl, hbr, hrs⟩ := hrel
      have Hbr := hid hbr
      have Hrs := hid hrs
      cases gk with
      | zero =>
        have hin : i = n := by omega
        subst hin
        clear hi' hbr hrs
        go_wp2
        go_ret
        refine ⟨?_, Hbr.out⟩
        have : res = true := by
          rw [Hrs.out, List.drop_of_length_le (by rw [← Hn.out]; exact Nat.le_refl _), List.drop_of_length_le (by rw [← Hm.out]; exact Nat.le_refl _)]; rfl
        rw [this]
        rfl
      | succ gi =>
        have hlt0 : i < n := by omega
        have hlt : (i : Int) < (n : Int) := by omega
        have hi00 : (0 : Int) ≤ (i : Int) := by omega
        obtain ⟨p, hp⟩ : ∃ p, ps[i]? = some p := ⟨ps[i]'(by rw [← Hn.out]; exact hlt0), List.getElem?_eq_getElem _⟩
        obtain ⟨q, hq⟩ : ∃ q, qs[i]? = some q := ⟨qs[i]'(by rw [← Hm.out]; exact hlt0), List.getElem?_eq_getElem _⟩
        have hP := P.out.below (Nat.le_refl _) hbr
        have hQ := Q.out.below (Nat.le_refl _) hbr
        obtain ⟨b1, o1, ea, d1⟩ := hP.rd i p.1 (by rw [List.getElem?_map, hp]; rfl)
        subst ea
        obtain ⟨b2, o2, ea, d2⟩ := hQ.rd i q.1 (by rw [List.getElem?_map, hq]; rfl)
        subst ea
        have p1 := (hP.el p (List.mem_of_getElem? hp)).1
        have q1 := (hQ.el q (List.mem_of_getElem? hq)).1
        have Hst := hid (stB_drop hp hq)
        obtain ⟨⟨ya, yn, yc⟩, yr⟩ := p
        obtain ⟨⟨za, zn, zc⟩, zr⟩ := q
        simp only [Sl.v] at d1 d2
        simp only at p1 q1 Hst
        have C50 := hid (sameRow_any k wr ya yn yc yr za zn zc zr p1 q1)
        have Hi := hid hi'
        obtain ⟨E, hE⟩ : ∃ E, E = rowB k yr zr := ⟨_, rfl⟩
        rw [← hE] at C50 Hst
        clear hE hbr hrs hi' hp hq hP hQ p1 q1
        cases E with
        | false =>
          go_wp2_with (go_at_call 50; (refine (C50.out).mono ?_; rintro e w9 ⟨rfl, hb9⟩; have HB9 := hid (Hbr.out.trans (hb9.mono Hbr.out.size)); clear hb9))
          go_ret
          refine ⟨?_, HB9.out⟩
          have : res = false := by rw [Hrs.out, Hst.out]; rfl
          rw [this]
          rfl
        | true =>
          go_wp2_with (go_at_call 50; (refine (C50.out).mono ?_; rintro e w9 ⟨rfl, hb9⟩; have HB9 := hid (Hbr.out.trans (hb9.mono Hbr.out.size)); clear hb9))
          go_roundg gi
          case measure => omega
          case rel => exact ⟨i + 1, by have := Hi.out; omega, by go_num, HB9.out, by rw [Hrs.out, Hst.out]; rfl⟩
  · have hnm' : ¬ (n : Int) = (m : Int) := by omega
    have hnb : ((n : Int) == (m : Int)) = false := by simpa using hnm'
    have HF : Hid (res = false) := hid (by rw [Hres.out]; exact stB_len k ps qs (by rw [← Hn.out, ← Hm.out]; exact hnm))
    go_enter Try.func49, Try.ntmps49
    go_wp2
    go_ret
    exact ⟨by rw [HF.out]; rfl, Below.refl _ _⟩
set_option maxHeartbeats 400000 in
theorem heapSame_any (k : Nat) (w : World) (a : Option Addr) (n cap : Nat) (ps : List (Sl × Rw k)) (b : Option Addr) (m cap2 : Nat) (qs : List (Sl × Rw k)) (hp : StR k w a n ps) (hq : StR k w b m qs) :
    Calls Try.prog 24 #[.agg #[.slice a n cap], .agg #[.slice b m cap2]] w fun e w' => e = .returned (.bool (stB k ps qs)) ∧ Below w.heap.size w w' := by
  have hb := boxes2 w #[.slice a n cap] #[.slice b m cap2] 27 27
  have K := hid (equalM_any k _ a n cap ps b m cap2 qs (hp.below (Nat.le_refl _) hb) (hq.below (Nat.le_refl _) hb))
  have HB := hid hb
  clear hp hq hb
  go_enter Try.func24, Try.ntmps24
  go_wp2_with (go_at_call 49; (refine (K.out).mono ?_; rintro e w1 ⟨rfl, hb1⟩))
  go_ret
  exact ⟨rfl, HB.out.trans (hb1.mono HB.out.size)⟩
end Go.Proofs.Ytenfgahedbeekaa
