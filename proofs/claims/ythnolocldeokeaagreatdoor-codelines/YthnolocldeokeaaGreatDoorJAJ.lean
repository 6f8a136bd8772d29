/- code.reader: integer, text, count, number, oneType, field. -/
import Derived.Test.YthnolocldeokeaaGreatDoorJAI
namespace Go.Proofs.YthnolocldeokeaaGreatDoor
open Go.RowKit Go.Deep Go.Shelf
set_option linter.unusedVariables false
set_option linter.unusedSimpArgs false
set_option maxRecDepth 100000
set_option maxHeartbeats 1000000 in
theorem integer_any (w : World) (R D : Nat) (s : Option (List Nat)) (h : Rst w R D s) : Calls Tryz.prog 39 #[.pointer (some ⟨R, 0, none⟩)] w (RdP w R D (.int .i64 (rI s).1) (rI s).2) := by
  have K := hid (readOneI_any w R D s h)
  clear h
  go_enter Tryz.func39, Tryz.ntmps39
  go_wp2_with (go_at_call 61; (refine (Hid.out K).mono ?_; rintro e w1 ⟨rfl, hs, hg⟩; have HS := hid hs; have HG := hid hg; clear hs hg))
  go_ret
  exact ⟨rfl, HS.out, HG.out⟩
set_option maxHeartbeats 1000000 in
theorem text_rd (w : World) (R D : Nat) (s : Option (List Nat)) (h : Rst w R D s) : Calls Tryz.prog 41 #[.pointer (some ⟨R, 0, none⟩)] w (RdP w R D (.string (rT s).1) (rT s).2) := by
  have K := hid (readOneT_any w R D s h)
  clear h
  go_enter Tryz.func41, Tryz.ntmps41
  go_wp2_with (go_at_call 63; (refine (Hid.out K).mono ?_; rintro e w1 ⟨rfl, hs, hg⟩; have HS := hid hs; have HG := hid hg; clear hs hg))
  go_ret
  exact ⟨rfl, HS.out, HG.out⟩
def rC (most : Nat) (s : Option (List Nat)) : Nat × Option (List Nat) := if most < (rU s).1 then (0, none) else rU s
def rN (s : Option (List Nat)) : Int × Option (List Nat) := if (rI s).1 < -1 ∨ 2000 < (rI s).1 then (0, none) else rI s
theorem rC_le (most : Nat) (s : Option (List Nat)) : (rC most s).1 ≤ most := by
  unfold rC; split
  · simp
  · omega
set_option maxHeartbeats 1000000 in
theorem count_any (w : World) (R D : Nat) (s : Option (List Nat)) (most : Nat) (h : Rst w R D s) : Calls Tryz.prog 58 #[.pointer (some ⟨R, 0, none⟩), .int .u64 (most : Int)] w (RdP w R D (.int .u64 ((rC most s).1 : Int)) (rC most s).2) := by
  have K := readOneU_any w R D s h
  obtain ⟨m, s1, hq⟩ : ∃ m s1, rU s = (m, s1) := ⟨_, _, rfl⟩
  have KFl := hid (fun (V : World) (hV : Rst V R D s1) => fail_any V R D s1 hV)
  simp only [rC, hq] at K ⊢
  have K := hid K
  clear h hq
  by_cases hm : most < m
  · have hmI : (most : Int) < (m : Int) := by omega
    rw [if_pos hm]
    go_enter Tryz.func58, Tryz.ntmps58
    go_wp2_with (first
      | (go_at_call 80; (refine (Hid.out K).mono ?_; rintro e w1 ⟨rfl, hs, hg⟩; have HG := hid hg; have KF1 := hid (KFl.out w1 hs); clear hs hg))
      | (go_at_call 82; (refine (Hid.out KF1).mono ?_; rintro e w2 ⟨⟨r2, rfl⟩, hs2, hg2⟩; have HS2 := hid hs2; have HG2 := hid (gtrans HG.out hg2); clear hs2 hg2)))
    go_ret
    exact ⟨rfl, HS2.out, HG2.out⟩
  · have hmI : ¬ (most : Int) < (m : Int) := by omega
    rw [if_neg hm]
    clear hm
    go_enter Tryz.func58, Tryz.ntmps58
    go_wp2_with (go_at_call 80; (refine (Hid.out K).mono ?_; rintro e w1 ⟨rfl, hs, hg⟩; have HS := hid hs; have HG := hid hg; clear hs hg))
    go_ret
    exact ⟨rfl, HS.out, HG.out⟩
set_option maxHeartbeats 1000000 in
theorem number_any (w : World) (R D : Nat) (s : Option (List Nat)) (h : Rst w R D s) : Calls Tryz.prog 65 #[.pointer (some ⟨R, 0, none⟩)] w (RdP w R D (.int .i64 (rN s).1) (rN s).2) := by
  have K := integer_any w R D s h
  obtain ⟨m, s1, hq⟩ : ∃ m s1, rI s = (m, s1) := ⟨_, _, rfl⟩
  have KFl := hid (fun (V : World) (hV : Rst V R D s1) => fail_any V R D s1 hV)
  simp only [rN, hq] at K ⊢
  have K := hid K
  clear h hq
  by_cases h1 : m < -1
  · rw [if_pos (.inl h1)]
    go_enter Tryz.func65, Tryz.ntmps65
    go_wp2_with (first
      | (go_at_call 39; (refine (Hid.out K).mono ?_; rintro e w1 ⟨rfl, hs, hg⟩; have HG := hid hg; have KF1 := hid (KFl.out w1 hs); clear hs hg))
      | (go_at_call 82; (refine (Hid.out KF1).mono ?_; rintro e w2 ⟨⟨r2, rfl⟩, hs2, hg2⟩; have HS2 := hid hs2; have HG2 := hid (gtrans HG.out hg2); clear hs2 hg2)))
    go_ret
    exact ⟨rfl, HS2.out, HG2.out⟩
  · by_cases h2 : 2000 < m
    · rw [if_pos (.inr h2)]
      go_enter Tryz.func65, Tryz.ntmps65
      go_wp2_with (first
        | (go_at_call 39; (refine (Hid.out K).mono ?_; rintro e w1 ⟨rfl, hs, hg⟩; have HG := hid hg; have KF1 := hid (KFl.out w1 hs); clear hs hg))
        | (go_at_call 82; (refine (Hid.out KF1).mono ?_; rintro e w2 ⟨⟨r2, rfl⟩, hs2, hg2⟩; have HS2 := hid hs2; have HG2 := hid (gtrans HG.out hg2); clear hs2 hg2)))
      go_ret
      exact ⟨rfl, HS2.out, HG2.out⟩
    · rw [if_neg (fun h => h.elim h1 h2)]
      go_enter Tryz.func65, Tryz.ntmps65
      go_wp2_with (go_at_call 39; (refine (Hid.out K).mono ?_; rintro e w1 ⟨rfl, hs, hg⟩; have HS := hid hs; have HG := hid hg; clear hs hg))
      go_ret
      exact ⟨rfl, HS.out, HG.out⟩
def rTy (s : Option (List Nat)) : TyP × Option (List Nat) := (((rN s).1, (rN (rN s).2).1), (rN (rN s).2).2)
theorem two_set {w : World} {b : Nat} {p0 p1 : Value} {t : TypeId} (h : w.heap[b]? = some (.cells #[p0, p1] t (0, 0))) (x0 x1 : Value) : ((w.setCell ⟨b, 0, none⟩ x0).setCell ⟨b, 1, none⟩ x1).heap[b]? = some (.cells #[x0, x1] t (0, 0)) := by
  have h0 := heap_set_at h 0 x0
  simp only [List.setIfInBounds_toArray, List.set_cons_zero, List.set_cons_succ] at h0
  have h1 := heap_set_at h0 1 x1
  simp only [List.setIfInBounds_toArray, List.set_cons_zero, List.set_cons_succ] at h1
  exact h1
/- A change of a block that is new does not count. -/
theorem grown_new {w w1 w2 : World} {R b : Nat} (h : w.grownBy w1 (some R)) (k : w1.grownBy w2 (some b)) (hb : w.heap.size ≤ b) : w.grownBy w2 (some R) := ⟨k.os.trans h.os, k.tape.trans h.tape, k.output.trans h.output, Nat.le_trans h.size k.size, fun j hj hne => (k.block j (by have := h.size; omega) (fun e => by cases e; omega)).trans (h.block j hj hne)⟩
set_option maxHeartbeats 2000000 in
theorem oneType_any (w : World) (R D : Nat) (s : Option (List Nat)) (h : Rst w R D s) : Calls Tryz.prog 60 #[.pointer (some ⟨R, 0, none⟩)] w (RdP w R D (.agg #[.int .i64 (rTy s).1.1, .int .i64 (rTy s).1.2]) (rTy s).2) := by
  obtain ⟨W0, hW0⟩ : ∃ W0, W0 = w.alloc (.cells #[.int .i64 0, .int .i64 0] 32) := ⟨_, rfl⟩
  have b0 : Below w.heap.size w W0 := by rw [hW0]; exact (Below.refl _ _).alloc (Nat.le_refl _) _
  have m0 : W0.heap[w.heap.size]? = some (.cells #[.int .i64 0, .int .i64 0] 32 (0, 0)) := by rw [hW0]; exact heap_alloc_new w _
  have K1 := number_any W0 R D s (h.below b0)
  have K2 := hid (fun (V : World) (hV : Rst V R D (rN s).2) => number_any V R D _ hV)
  have hRD := h.hR
  have hDw := h.hD
  have FIN : Hid (∀ (V : World) (x y : Int), Rst V R D (rTy s).2 → W0.grownBy V (some R) → V.cell? ⟨w.heap.size, 0, none⟩ = some (.int .i64 0) ∧ V.cell? ⟨w.heap.size, 1, none⟩ = some (.int .i64 0) ∧ V.frozen? ⟨w.heap.size, 0, none⟩ = false ∧ V.frozen? ⟨w.heap.size, 1, none⟩ = false ∧ ((V.setCell ⟨w.heap.size, 0, none⟩ (.int .i64 x)).setCell ⟨w.heap.size, 1, none⟩ (.int .i64 y)).heap[w.heap.size]? = some (.cells #[.int .i64 x, .int .i64 y] 32 (0, 0)) ∧ Rst ((V.setCell ⟨w.heap.size, 0, none⟩ (.int .i64 x)).setCell ⟨w.heap.size, 1, none⟩ (.int .i64 y)) R D (rTy s).2 ∧ w.grownBy ((V.setCell ⟨w.heap.size, 0, none⟩ (.int .i64 x)).setCell ⟨w.heap.size, 1, none⟩ (.int .i64 y)) (some R)) := hid (fun V x y hs hg => by
    have k0 := (hg.block _ (lt_of_heap m0) (fun e => by cases e; omega)).trans m0
    have g2 := gtrans (grown_set V w.heap.size 0 (.int .i64 x)) (grown_set (V.setCell ⟨w.heap.size, 0, none⟩ (.int .i64 x)) w.heap.size 1 (.int .i64 y))
    exact ⟨cellOf k0 0, cellOf k0 1, freeOf k0 0, freeOf k0 1, two_set k0 _ _, hs.grown g2 (fun r e => by cases e; omega), grown_new (gtrans (bgrown b0 (some R)) hg) g2 (Nat.le_refl _)⟩)
  have K1 := hid K1
  unfold rTy at FIN ⊢
  simp only at FIN ⊢
  generalize rN s = q at *
  obtain ⟨x, s1⟩ := q
  simp only at *
  generalize rN s1 = q2 at *
  obtain ⟨y, s2⟩ := q2
  simp only at *
  clear h b0 m0 hRD hDw
  go_enter Tryz.func60, Tryz.ntmps60
  go_upto_region 1 with fail
  rw [← hW0]
  clear hW0
  go_wp2_with (first
    | (have hno := hs1; (go_at_call 65; (refine (Hid.out K2').mono ?_; rintro e w2 ⟨rfl, hs, hg⟩; obtain ⟨c0, c1, f0, f1, c2, c3, c4⟩ := FIN.out w2 x y hs (gtrans HG1.out hg); have C2 := hid c2; have C3 := hid c3; have C4 := hid c4; clear hs hg c2 c3 c4)))
    | (go_at_call 65; (refine (Hid.out K1).mono ?_; rintro e w1 ⟨rfl, hs, hg⟩; have HG1 := hid hg; have K2' := hid (K2.out w1 hs); have hs1 := True.intro; clear hs hg)))
  have q0 := cellOf C2.out 0
  have q1 := cellOf C2.out 1
  simp only [List.getElem?_toArray, List.getElem?_cons_zero, List.getElem?_cons_succ] at q0 q1
  refine bodyPost_ret (v := .agg #[.int .i64 x, .int .i64 y]) (by simp [results, Tryz.results60, go_sem, q0, q1]) rfl ⟨rfl, C3.out, C4.out⟩
end Go.Proofs.YthnolocldeokeaaGreatDoor

namespace Go.Proofs.YthnolocldeokeaaGreatDoor
open Go.RowKit Go.Deep Go.Shelf
set_option linter.unusedVariables false
set_option linter.unusedSimpArgs false
set_option maxRecDepth 100000
def rLn {α : Type} (one : Option (List Nat) → α × Option (List Nat)) : Nat → Option (List Nat) → List α × Option (List Nat)
  | 0, s => ([], s)
  | n + 1, s => match rLn one n s with
    | (xs, some bs) => (match one (some bs) with
      | (x, some bs') => (xs ++ [x], some bs')
      | (_, none) => ([], none))
    | (_, none) => ([], none)
def rL {α : Type} (one : Option (List Nat) → α × Option (List Nat)) (most : Nat) (s : Option (List Nat)) : List α × Option (List Nat) := rLn one (rC most s).1 (rC most s).2
theorem rLn_len {α : Type} {one : Option (List Nat) → α × Option (List Nat)} : ∀ (n : Nat) (s : Option (List Nat)), (rLn one n s).1.length ≤ n
  | 0, s => by simp [rLn]
  | n + 1, s => by
    have h := rLn_len (one := one) n s
    unfold rLn
    split
    · rename_i xs bs e
      rw [e] at h
      split
      · simp; exact h
      · simp
    · simp
theorem rLn_more {α : Type} {one : Option (List Nat) → α × Option (List Nat)} {n : Nat} {s : Option (List Nat)} (h : (rLn one n s).2 = none) : ∀ m, n < m → rLn one m s = ([], none) := by
  intro m hm
  obtain ⟨d, rfl⟩ : ∃ d, m = n + 1 + d := ⟨m - n - 1, by omega⟩
  clear hm
  have h1 : rLn one (n + 1) s = ([], none) := by
    rw [rLn]
    split
    · rename_i e; rw [e] at h; cases h
    · rfl
  induction d with
  | zero => exact h1
  | succ d ih =>
    rw [show n + 1 + (d + 1) = (n + 1 + d) + 1 from by omega, rLn, ih]
theorem rC_some (most : Nat) (s : Option (List Nat)) (h : 0 < (rC most s).1) : (rC most s).2 ≠ none := by
  unfold rC at h ⊢
  split
  · rename_i hm; rw [if_pos hm] at h; simp at h
  · rename_i hm
    rw [if_neg hm] at h
    unfold rU at h ⊢
    split
    · rename_i hd; rw [hd] at h; simp at h
    · simp
/- What a reader of a list answers. -/
def LsP (E : TypeId) (k : Nat) (w : World) (R D : Nat) (rows : List (List Value)) (s : Option (List Nat)) (e : Ending) (w' : World) : Prop := ∃ v, e = .returned v ∧ KR E k w' w.heap.size v rows ∧ Rst w' R D s ∧ w.grownBy w' (some R)
theorem KR.grownR {E : TypeId} {k : Nat} {w w' : World} {B R : Nat} {v : Value} {l : List (List Value)} (h : KR E k w B v l) (hg : w.grownBy w' (some R)) (hR : R < B) : KR E k w' B v l := h.keep fun g e => hg.block g (h.own e).2 (fun e2 => by cases e2; have := (h.own e).1; omega)
theorem grown_own {E : TypeId} {k : Nat} {w w1 w2 : World} {R : Nat} {v : Value} {l : List (List Value)} (h : w.grownBy w1 (some R)) (kr : KR E k w1 w.heap.size v l) (g : w1.grownBy w2 v.ownBlock) : w.grownBy w2 (some R) := ⟨g.os.trans h.os, g.tape.trans h.tape, g.output.trans h.output, Nat.le_trans h.size g.size, fun j hj hne => (g.block j (by have := h.size; omega) (fun e => by have := (kr.own e.symm).1; omega)).trans (h.block j hj hne)⟩
theorem rLn_stop {α : Type} {one : Option (List Nat) → α × Option (List Nat)} {n : Nat} {s : Option (List Nat)} (h : rLn one n s = ([], none)) : ∀ d, rLn one (n + d) s = ([], none)
  | 0 => h
  | d + 1 => by
    have ih := rLn_stop h d
    rw [show n + (d + 1) = (n + d) + 1 from by omega, rLn, ih]
theorem rLn_step {α : Type} {one : Option (List Nat) → α × Option (List Nat)} {n : Nat} {s : Option (List Nat)} {xs : List α} {bs bs2 : List Nat} {x : α} (h : rLn one n s = (xs, some bs)) (k : one (some bs) = (x, some bs2)) : rLn one (n + 1) s = (xs ++ [x], some bs2) := by
  rw [rLn, h]; simp only; rw [k]
theorem rLn_fail {α : Type} {one : Option (List Nat) → α × Option (List Nat)} {n : Nat} {s : Option (List Nat)} {xs : List α} {bs : List Nat} {x : α} (h : rLn one n s = (xs, some bs)) (k : one (some bs) = (x, none)) : rLn one (n + 1) s = ([], none) := by
  rw [rLn, h]; simp only; rw [k]
theorem rk_tyc (t : TyP) : Rk 2 [tyc t] := rk_ty [t]
theorem rk_inc (x : Int) : Rk 1 [inc x] := rk_in [x]
set_option maxHeartbeats 4000000 in
theorem rdTypes_any (w : World) (R D : Nat) (s : Option (List Nat)) (most : Nat) (rd : Option (List Nat) → TyP × Option (List Nat)) (h : Rst w R D s) (hm : most ≤ 100000)
    (one : ∀ (V : World) (t : Option (List Nat)), Rst V R D t → Calls Tryz.prog 60 #[.pointer (some ⟨R, 0, none⟩)] V (RdP V R D (.agg #[.int .i64 (rd t).1.1, .int .i64 (rd t).1.2]) (rd t).2)) :
    Calls Tryz.prog 59 #[.pointer (some ⟨R, 0, none⟩), .int .u64 (most : Int), .func (.func 60) #[.pointer (some ⟨R, 0, none⟩)] #[]] w (LsP 32 2 w R D ((rL rd most s).1.map tyc) (rL rd most s).2) := by
  have K0 := count_any w R D s most h
  have hle := rC_le most s
  have hso := rC_some most s
  obtain ⟨n, s1, hq⟩ : ∃ n s1, rC most s = (n, s1) := ⟨_, _, rfl⟩
  simp only [rL, hq] at K0 hle hso ⊢
  have K0 := hid K0
  have HSO := hid hso
  have ONE := hid one
  have hRD : R < D := h.hR
  have hDw : D ≤ w.heap.size := h.hD
  have nI : (n : Int) ≤ 100000 := by omega
  have FL : Hid (∀ (V : World) (t : Option (List Nat)), Rst V R D t → V.cell? ⟨R, 1, none⟩ = some (.bool t.isNone)) := hid (fun V t hV => by
    obtain ⟨⟨a, n, c, h1, _⟩, _⟩ := hV
    exact cellOf h1 1)
  clear h hq one hso
  go_enter Tryz.func59, Tryz.ntmps59
  go_wp2_with (go_at_call 58; (refine (Hid.out K0).mono ?_; rintro e w0 ⟨rfl, hs, hg⟩; have HS0 := hid hs; have HG0 := hid hg; clear hs hg))
  clear K0
  go_loopg [7, 12] n (fun g v x wr => ∃ j : Nat, j + g = n ∧ x = .int .u64 (j : Int) ∧ KR 32 2 wr w.heap.size v ((rLn rd j s1).1.map tyc) ∧ Rst wr R D (rLn rd j s1).2 ∧ ((rLn rd j s1).2 ≠ none ∨ n = 0) ∧ w.grownBy wr (some R))
  case atStart => exact ⟨0, by omega, rfl, KR.nil _ _ _ _, HS0.out, (Nat.eq_zero_or_pos n).elim .inr (fun h => .inl (HSO.out h)), HG0.out⟩
  case round =>
    obtain ⟨j, hj, rfl, hk, hs, hn, hg⟩ := hrel
    obtain ⟨v, hv⟩ : ∃ v, v = u7 := ⟨_, rfl⟩
    subst hv
    cases gk with
    | zero =>
      have hjn : j = n := by omega
      subst hjn
      have HK := hid hk
      have HS := hid hs
      have HG := hid hg
      clear hk hs hg hn
      go_wp2
      go_ret
      exact ⟨_, rfl, HK.out, HS.out, HG.out⟩
    | succ g =>
      have hnn : (rLn rd j s1).2 ≠ none := hn.resolve_right (by omega)
      obtain ⟨xs, st, hx⟩ : ∃ xs st, rLn rd j s1 = (xs, st) := ⟨_, _, rfl⟩
      have hlx := rLn_len (one := rd) j s1
      rw [hx] at hk hnn hlx hs
      simp only at hk hnn hlx hs
      obtain ⟨bs, rfl⟩ : ∃ bs, st = some bs := Option.ne_none_iff_exists'.1 hnn
      have K1 := ONE.out wr (some bs) hs
      obtain ⟨xx, s2, hy⟩ : ∃ xx s2, rd (some bs) = (xx, s2) := ⟨_, _, rfl⟩
      have hjI : (j : Int) < (n : Int) := by omega
      have hj0 : (0 : Int) ≤ (j : Int) := by omega
      have hlm : (xs.map tyc).length ≤ 1000000 := by rw [List.length_map]; omega
      have HG := hid hg
      have HK := hid hk
      rw [hy] at K1
      obtain ⟨t1, t2⟩ := xx
      simp only at K1
      have K1 := hid K1
      have HX := hid hx
      have HY := hid hy
      have HJ := hid hj
      clear hk hs hn hg hnn hlx hx hy
      go_upto_region 5 with (go_at_call 60; (refine (Hid.out K1).mono ?_; rintro e w1 ⟨rfl, hs1, hg1⟩; have HS1 := hid hs1; have HG1 := hid hg1; clear hs1 hg1))
      obtain ⟨A, hA⟩ : ∃ A, A = w1.alloc (.cells #[.int .i64 t1, .int .i64 t2] 32) := ⟨_, rfl⟩
      obtain ⟨Y, hY⟩ : ∃ Y, Y = w1.heap.size := ⟨_, rfl⟩
      have bA : Below w1.heap.size w1 A := by rw [hA]; exact (Below.refl _ _).alloc (Nat.le_refl _) _
      have mY : A.heap[Y]? = some (.cells #[.int .i64 t1, .int .i64 t2] 32 (0, 0)) := by rw [hA, hY]; exact heap_alloc_new w1 _
      rw [← hA, ← hY]
      clear hA hY
      have y0 := cellOf mY 0
      have y1 := cellOf mY 1
      simp only [List.getElem?_toArray, List.getElem?_cons_zero, List.getElem?_cons_succ] at y0 y1
      clear mY
      have SA := hid (HS1.out.below bA)
      have GA := hid (gbelow (gtrans HG.out HG1.out) bA)
      have KA := hid ((HK.out.grownR HG1.out (by omega)).below (Nat.le_refl _) bA)
      have c1 := FL.out A _ SA.out
      clear bA
      cases s2 with
      | none =>
        simp only [Option.isNone_none] at c1
        go_wp2
        go_ret
        have e1 : rLn rd n s1 = ([], none) := by
          have := rLn_stop (rLn_fail HX.out HY.out) g
          rw [show j + 1 + g = n from by have := HJ.out; omega] at this; exact this
        rw [e1]
        exact ⟨_, rfl, KR.nil _ _ _ _, SA.out, GA.out⟩
      | some bs2 =>
        simp only [Option.isNone_some] at c1
        have BA : Hid (Below A.heap.size A (A.alloc (.cells #[.int .i64 t1, .int .i64 t2] 32))) := hid ((Below.refl _ A).alloc (Nat.le_refl _) _)
        have hwA : w.heap.size ≤ (A.alloc (.cells #[.int .i64 t1, .int .i64 t2] 32)).heap.size := by rw [World.size_alloc]; have := GA.out.size; omega
        go_wp2_with (at_builtin; refine wpList_appK Tryz.underlying33 infoT rfl (by decide) (by decide) (A.alloc (.cells #[.int .i64 t1, .int .i64 t2] 32)) rfl _ _ rfl _ (.slice (some ⟨A.heap.size, 0, none⟩) 1 1) (by rfl) (by rfl) w.heap.size (xs.map tyc) (KA.out.below (Nat.le_refl _) BA.out) (some ⟨A.heap.size, 0, none⟩) 1 1 rfl [tyc ((t1, t2))] rfl (crd_one 32 A (tyc ((t1, t2))) 2 rfl) (rk_tyc _) (fun e => by cases e) hlm (by omega) hwA ?_; intro v2 w2 h1 h2 h3; have H1 := hid h1; have H2 := hid h2; clear h1 h2 h3)
        go_roundg g
        case measure => omega
        have hA2 := gbelow GA.out BA.out
        have kr2 := KA.out.below (Nat.le_refl _) BA.out
        exact ⟨j + 1, by omega, by go_num, by rw [rLn_step HX.out HY.out, List.map_append]; exact H1.out, by rw [rLn_step HX.out HY.out]; exact (SA.out.below BA.out).grown H2.out (fun r e => by have := (kr2.own e).1; omega), by rw [rLn_step HX.out HY.out]; exact .inl (by simp), grown_own hA2 kr2 H2.out⟩
set_option maxHeartbeats 4000000 in
theorem rdTexts_any (w : World) (R D : Nat) (s : Option (List Nat)) (most : Nat) (rd : Option (List Nat) → ByteArray × Option (List Nat)) (h : Rst w R D s) (hm : most ≤ 100000)
    (one : ∀ (V : World) (t : Option (List Nat)), Rst V R D t → Calls Tryz.prog 41 #[.pointer (some ⟨R, 0, none⟩)] V (RdP V R D (.string (rd t).1) (rd t).2)) :
    Calls Tryz.prog 40 #[.pointer (some ⟨R, 0, none⟩), .int .u64 (most : Int), .func (.func 41) #[.pointer (some ⟨R, 0, none⟩)] #[]] w (LsP 9 1 w R D ((rL rd most s).1.map stc) (rL rd most s).2) := by
  have K0 := count_any w R D s most h
  have hle := rC_le most s
  have hso := rC_some most s
  obtain ⟨n, s1, hq⟩ : ∃ n s1, rC most s = (n, s1) := ⟨_, _, rfl⟩
  simp only [rL, hq] at K0 hle hso ⊢
  have K0 := hid K0
  have HSO := hid hso
  have ONE := hid one
  have hRD : R < D := h.hR
  have hDw : D ≤ w.heap.size := h.hD
  have nI : (n : Int) ≤ 100000 := by omega
  have FL : Hid (∀ (V : World) (t : Option (List Nat)), Rst V R D t → V.cell? ⟨R, 1, none⟩ = some (.bool t.isNone)) := hid (fun V t hV => by
    obtain ⟨⟨a, n, c, h1, _⟩, _⟩ := hV
    exact cellOf h1 1)
  clear h hq one hso
  go_enter Tryz.func40, Tryz.ntmps40
  go_wp2_with (go_at_call 58; (refine (Hid.out K0).mono ?_; rintro e w0 ⟨rfl, hs, hg⟩; have HS0 := hid hs; have HG0 := hid hg; clear hs hg))
  clear K0
  go_loopg [7, 12] n (fun g v x wr => ∃ j : Nat, j + g = n ∧ x = .int .u64 (j : Int) ∧ KR 9 1 wr w.heap.size v ((rLn rd j s1).1.map stc) ∧ Rst wr R D (rLn rd j s1).2 ∧ ((rLn rd j s1).2 ≠ none ∨ n = 0) ∧ w.grownBy wr (some R))
  case atStart => exact ⟨0, by omega, rfl, KR.nil _ _ _ _, HS0.out, (Nat.eq_zero_or_pos n).elim .inr (fun h => .inl (HSO.out h)), HG0.out⟩
  case round =>
    obtain ⟨j, hj, rfl, hk, hs, hn, hg⟩ := hrel
    obtain ⟨v, hv⟩ : ∃ v, v = u7 := ⟨_, rfl⟩
    subst hv
    cases gk with
    | zero =>
      have hjn : j = n := by omega
      subst hjn
      have HK := hid hk
      have HS := hid hs
      have HG := hid hg
      clear hk hs hg hn
      go_wp2
      go_ret
      exact ⟨_, rfl, HK.out, HS.out, HG.out⟩
    | succ g =>
      have hnn : (rLn rd j s1).2 ≠ none := hn.resolve_right (by omega)
      obtain ⟨xs, st, hx⟩ : ∃ xs st, rLn rd j s1 = (xs, st) := ⟨_, _, rfl⟩
      have hlx := rLn_len (one := rd) j s1
      rw [hx] at hk hnn hlx hs
      simp only at hk hnn hlx hs
      obtain ⟨bs, rfl⟩ : ∃ bs, st = some bs := Option.ne_none_iff_exists'.1 hnn
      have K1 := ONE.out wr (some bs) hs
      obtain ⟨xx, s2, hy⟩ : ∃ xx s2, rd (some bs) = (xx, s2) := ⟨_, _, rfl⟩
      have hjI : (j : Int) < (n : Int) := by omega
      have hj0 : (0 : Int) ≤ (j : Int) := by omega
      have hlm : (xs.map stc).length ≤ 1000000 := by rw [List.length_map]; omega
      have HG := hid hg
      have HK := hid hk
      rw [hy] at K1
      simp only at K1
      have K1 := hid K1
      have HX := hid hx
      have HY := hid hy
      have HJ := hid hj
      clear hk hs hn hg hnn hlx hx hy
      go_upto_region 5 with (go_at_call 41; (refine (Hid.out K1).mono ?_; rintro e w1 ⟨rfl, hs1, hg1⟩; have HS1 := hid hs1; have HG1 := hid hg1; clear hs1 hg1))
      obtain ⟨A, hA⟩ : ∃ A, A = w1 := ⟨_, rfl⟩
      have bA : Below w1.heap.size w1 A := by rw [hA]; exact Below.refl _ _
      rw [← hA]
      clear hA
      have SA := hid (HS1.out.below bA)
      have GA := hid (gbelow (gtrans HG.out HG1.out) bA)
      have KA := hid ((HK.out.grownR HG1.out (by omega)).below (Nat.le_refl _) bA)
      have c1 := FL.out A _ SA.out
      clear bA
      cases s2 with
      | none =>
        simp only [Option.isNone_none] at c1
        go_wp2
        go_ret
        have e1 : rLn rd n s1 = ([], none) := by
          have := rLn_stop (rLn_fail HX.out HY.out) g
          rw [show j + 1 + g = n from by have := HJ.out; omega] at this; exact this
        rw [e1]
        exact ⟨_, rfl, KR.nil _ _ _ _, SA.out, GA.out⟩
      | some bs2 =>
        simp only [Option.isNone_some] at c1
        have BA : Hid (Below A.heap.size A (A.alloc (.cells #[.string xx] 9))) := hid ((Below.refl _ A).alloc (Nat.le_refl _) _)
        have hwA : w.heap.size ≤ (A.alloc (.cells #[.string xx] 9)).heap.size := by rw [World.size_alloc]; have := GA.out.size; omega
        go_wp2_with (at_builtin; refine wpList_appK Tryz.underlying49 infoS rfl (by decide) (by decide) (A.alloc (.cells #[.string xx] 9)) rfl _ _ rfl _ (.slice (some ⟨A.heap.size, 0, none⟩) 1 1) (by rfl) (by rfl) w.heap.size (xs.map stc) (KA.out.below (Nat.le_refl _) BA.out) (some ⟨A.heap.size, 0, none⟩) 1 1 rfl [stc (xx)] rfl (crd_one 9 A (stc (xx)) 1 rfl) (rk_st _) (fun e => by cases e) hlm (by omega) hwA ?_; intro v2 w2 h1 h2 h3; have H1 := hid h1; have H2 := hid h2; clear h1 h2 h3)
        go_roundg g
        case measure => omega
        have hA2 := gbelow GA.out BA.out
        have kr2 := KA.out.below (Nat.le_refl _) BA.out
        exact ⟨j + 1, by omega, by go_num, by rw [rLn_step HX.out HY.out, List.map_append]; exact H1.out, by rw [rLn_step HX.out HY.out]; exact (SA.out.below BA.out).grown H2.out (fun r e => by have := (kr2.own e).1; omega), by rw [rLn_step HX.out HY.out]; exact .inl (by simp), grown_own hA2 kr2 H2.out⟩
set_option maxHeartbeats 4000000 in
theorem rdInts_any (w : World) (R D : Nat) (s : Option (List Nat)) (most : Nat) (rd : Option (List Nat) → Int × Option (List Nat)) (h : Rst w R D s) (hm : most ≤ 100000)
    (one : ∀ (V : World) (t : Option (List Nat)), Rst V R D t → Calls Tryz.prog 39 #[.pointer (some ⟨R, 0, none⟩)] V (RdP V R D (.int .i64 (rd t).1) (rd t).2)) :
    Calls Tryz.prog 38 #[.pointer (some ⟨R, 0, none⟩), .int .u64 (most : Int), .func (.func 39) #[.pointer (some ⟨R, 0, none⟩)] #[]] w (LsP 2 1 w R D ((rL rd most s).1.map inc) (rL rd most s).2) := by
  have K0 := count_any w R D s most h
  have hle := rC_le most s
  have hso := rC_some most s
  obtain ⟨n, s1, hq⟩ : ∃ n s1, rC most s = (n, s1) := ⟨_, _, rfl⟩
  simp only [rL, hq] at K0 hle hso ⊢
  have K0 := hid K0
  have HSO := hid hso
  have ONE := hid one
  have hRD : R < D := h.hR
  have hDw : D ≤ w.heap.size := h.hD
  have nI : (n : Int) ≤ 100000 := by omega
  have FL : Hid (∀ (V : World) (t : Option (List Nat)), Rst V R D t → V.cell? ⟨R, 1, none⟩ = some (.bool t.isNone)) := hid (fun V t hV => by
    obtain ⟨⟨a, n, c, h1, _⟩, _⟩ := hV
    exact cellOf h1 1)
  clear h hq one hso
  go_enter Tryz.func38, Tryz.ntmps38
  go_wp2_with (go_at_call 58; (refine (Hid.out K0).mono ?_; rintro e w0 ⟨rfl, hs, hg⟩; have HS0 := hid hs; have HG0 := hid hg; clear hs hg))
  clear K0
  go_loopg [7, 12] n (fun g v x wr => ∃ j : Nat, j + g = n ∧ x = .int .u64 (j : Int) ∧ KR 2 1 wr w.heap.size v ((rLn rd j s1).1.map inc) ∧ Rst wr R D (rLn rd j s1).2 ∧ ((rLn rd j s1).2 ≠ none ∨ n = 0) ∧ w.grownBy wr (some R))
  case atStart => exact ⟨0, by omega, rfl, KR.nil _ _ _ _, HS0.out, (Nat.eq_zero_or_pos n).elim .inr (fun h => .inl (HSO.out h)), HG0.out⟩
  case round =>
    obtain ⟨j, hj, rfl, hk, hs, hn, hg⟩ := hrel
    obtain ⟨v, hv⟩ : ∃ v, v = u7 := ⟨_, rfl⟩
    subst hv
    cases gk with
    | zero =>
      have hjn : j = n := by omega
      subst hjn
      have HK := hid hk
      have HS := hid hs
      have HG := hid hg
      clear hk hs hg hn
      go_wp2
      go_ret
      exact ⟨_, rfl, HK.out, HS.out, HG.out⟩
    | succ g =>
      have hnn : (rLn rd j s1).2 ≠ none := hn.resolve_right (by omega)
      obtain ⟨xs, st, hx⟩ : ∃ xs st, rLn rd j s1 = (xs, st) := ⟨_, _, rfl⟩
      have hlx := rLn_len (one := rd) j s1
      rw [hx] at hk hnn hlx hs
      simp only at hk hnn hlx hs
      obtain ⟨bs, rfl⟩ : ∃ bs, st = some bs := Option.ne_none_iff_exists'.1 hnn
      have K1 := ONE.out wr (some bs) hs
      obtain ⟨xx, s2, hy⟩ : ∃ xx s2, rd (some bs) = (xx, s2) := ⟨_, _, rfl⟩
      have hjI : (j : Int) < (n : Int) := by omega
      have hj0 : (0 : Int) ≤ (j : Int) := by omega
      have hlm : (xs.map inc).length ≤ 1000000 := by rw [List.length_map]; omega
      have HG := hid hg
      have HK := hid hk
      rw [hy] at K1
      simp only at K1
      have K1 := hid K1
      have HX := hid hx
      have HY := hid hy
      have HJ := hid hj
      clear hk hs hn hg hnn hlx hx hy
      go_upto_region 5 with (go_at_call 39; (refine (Hid.out K1).mono ?_; rintro e w1 ⟨rfl, hs1, hg1⟩; have HS1 := hid hs1; have HG1 := hid hg1; clear hs1 hg1))
      obtain ⟨A, hA⟩ : ∃ A, A = w1 := ⟨_, rfl⟩
      have bA : Below w1.heap.size w1 A := by rw [hA]; exact Below.refl _ _
      rw [← hA]
      clear hA
      have SA := hid (HS1.out.below bA)
      have GA := hid (gbelow (gtrans HG.out HG1.out) bA)
      have KA := hid ((HK.out.grownR HG1.out (by omega)).below (Nat.le_refl _) bA)
      have c1 := FL.out A _ SA.out
      clear bA
      cases s2 with
      | none =>
        simp only [Option.isNone_none] at c1
        go_wp2
        go_ret
        have e1 : rLn rd n s1 = ([], none) := by
          have := rLn_stop (rLn_fail HX.out HY.out) g
          rw [show j + 1 + g = n from by have := HJ.out; omega] at this; exact this
        rw [e1]
        exact ⟨_, rfl, KR.nil _ _ _ _, SA.out, GA.out⟩
      | some bs2 =>
        simp only [Option.isNone_some] at c1
        have BA : Hid (Below A.heap.size A (A.alloc (.cells #[.int .i64 xx] 2))) := hid ((Below.refl _ A).alloc (Nat.le_refl _) _)
        have hwA : w.heap.size ≤ (A.alloc (.cells #[.int .i64 xx] 2)).heap.size := by rw [World.size_alloc]; have := GA.out.size; omega
        go_wp2_with (at_builtin; refine wpList_appK Tryz.underlying48 infoI rfl (by decide) (by decide) (A.alloc (.cells #[.int .i64 xx] 2)) rfl _ _ rfl _ (.slice (some ⟨A.heap.size, 0, none⟩) 1 1) (by rfl) (by rfl) w.heap.size (xs.map inc) (KA.out.below (Nat.le_refl _) BA.out) (some ⟨A.heap.size, 0, none⟩) 1 1 rfl [inc (xx)] rfl (crd_one 2 A (inc (xx)) 1 rfl) (rk_inc _) (fun e => by cases e) hlm (by omega) hwA ?_; intro v2 w2 h1 h2 h3; have H1 := hid h1; have H2 := hid h2; clear h1 h2 h3)
        go_roundg g
        case measure => omega
        have hA2 := gbelow GA.out BA.out
        have kr2 := KA.out.below (Nat.le_refl _) BA.out
        exact ⟨j + 1, by omega, by go_num, by rw [rLn_step HX.out HY.out, List.map_append]; exact H1.out, by rw [rLn_step HX.out HY.out]; exact (SA.out.below BA.out).grown H2.out (fun r e => by have := (kr2.own e).1; omega), by rw [rLn_step HX.out HY.out]; exact .inl (by simp), grown_own hA2 kr2 H2.out⟩
set_option maxHeartbeats 4000000 in
theorem rdMaps_any (w : World) (R D : Nat) (s : Option (List Nat)) (most : Nat) (rd : Option (List Nat) → Mp × Option (List Nat)) (h : Rst w R D s) (hm : most ≤ 100000)
    (one : ∀ (V : World) (t : Option (List Nat)), Rst V R D t → Calls Tryz.prog 35 #[.pointer (some ⟨R, 0, none⟩)] V (RdP V R D (.agg #[.string (rd t).1.name, .int .i64 (rd t).1.key.1, .int .i64 (rd t).1.key.2, .int .i64 (rd t).1.val.1, .int .i64 (rd t).1.val.2]) (rd t).2)) :
    Calls Tryz.prog 34 #[.pointer (some ⟨R, 0, none⟩), .int .u64 (most : Int), .func (.func 35) #[.pointer (some ⟨R, 0, none⟩)] #[]] w (LsP 79 5 w R D ((rL rd most s).1.map Mp.cs) (rL rd most s).2) := by
  have K0 := count_any w R D s most h
  have hle := rC_le most s
  have hso := rC_some most s
  obtain ⟨n, s1, hq⟩ : ∃ n s1, rC most s = (n, s1) := ⟨_, _, rfl⟩
  simp only [rL, hq] at K0 hle hso ⊢
  have K0 := hid K0
  have HSO := hid hso
  have ONE := hid one
  have hRD : R < D := h.hR
  have hDw : D ≤ w.heap.size := h.hD
  have nI : (n : Int) ≤ 100000 := by omega
  have FL : Hid (∀ (V : World) (t : Option (List Nat)), Rst V R D t → V.cell? ⟨R, 1, none⟩ = some (.bool t.isNone)) := hid (fun V t hV => by
    obtain ⟨⟨a, n, c, h1, _⟩, _⟩ := hV
    exact cellOf h1 1)
  clear h hq one hso
  go_enter Tryz.func34, Tryz.ntmps34
  go_wp2_with (go_at_call 58; (refine (Hid.out K0).mono ?_; rintro e w0 ⟨rfl, hs, hg⟩; have HS0 := hid hs; have HG0 := hid hg; clear hs hg))
  clear K0
  go_loopg [7, 12] n (fun g v x wr => ∃ j : Nat, j + g = n ∧ x = .int .u64 (j : Int) ∧ KR 79 5 wr w.heap.size v ((rLn rd j s1).1.map Mp.cs) ∧ Rst wr R D (rLn rd j s1).2 ∧ ((rLn rd j s1).2 ≠ none ∨ n = 0) ∧ w.grownBy wr (some R))
  case atStart => exact ⟨0, by omega, rfl, KR.nil _ _ _ _, HS0.out, (Nat.eq_zero_or_pos n).elim .inr (fun h => .inl (HSO.out h)), HG0.out⟩
  case round =>
    obtain ⟨j, hj, rfl, hk, hs, hn, hg⟩ := hrel
    obtain ⟨v, hv⟩ : ∃ v, v = u7 := ⟨_, rfl⟩
    subst hv
    cases gk with
    | zero =>
      have hjn : j = n := by omega
      subst hjn
      have HK := hid hk
      have HS := hid hs
      have HG := hid hg
      clear hk hs hg hn
      go_wp2
      go_ret
      exact ⟨_, rfl, HK.out, HS.out, HG.out⟩
    | succ g =>
      have hnn : (rLn rd j s1).2 ≠ none := hn.resolve_right (by omega)
      obtain ⟨xs, st, hx⟩ : ∃ xs st, rLn rd j s1 = (xs, st) := ⟨_, _, rfl⟩
      have hlx := rLn_len (one := rd) j s1
      rw [hx] at hk hnn hlx hs
      simp only at hk hnn hlx hs
      obtain ⟨bs, rfl⟩ : ∃ bs, st = some bs := Option.ne_none_iff_exists'.1 hnn
      have K1 := ONE.out wr (some bs) hs
      obtain ⟨xx, s2, hy⟩ : ∃ xx s2, rd (some bs) = (xx, s2) := ⟨_, _, rfl⟩
      have hjI : (j : Int) < (n : Int) := by omega
      have hj0 : (0 : Int) ≤ (j : Int) := by omega
      have hlm : (xs.map Mp.cs).length ≤ 1000000 := by rw [List.length_map]; omega
      have HG := hid hg
      have HK := hid hk
      rw [hy] at K1
      obtain ⟨nm, ⟨k1, k2⟩, ⟨v1, v2⟩⟩ := xx
      simp only at K1
      have K1 := hid K1
      have HX := hid hx
      have HY := hid hy
      have HJ := hid hj
      clear hk hs hn hg hnn hlx hx hy
      go_upto_region 5 with (go_at_call 35; (refine (Hid.out K1).mono ?_; rintro e w1 ⟨rfl, hs1, hg1⟩; have HS1 := hid hs1; have HG1 := hid hg1; clear hs1 hg1))
      obtain ⟨A, hA⟩ : ∃ A, A = w1.alloc (.cells #[.string nm, .int .i64 k1, .int .i64 k2, .int .i64 v1, .int .i64 v2] 79) := ⟨_, rfl⟩
      obtain ⟨Y, hY⟩ : ∃ Y, Y = w1.heap.size := ⟨_, rfl⟩
      have bA : Below w1.heap.size w1 A := by rw [hA]; exact (Below.refl _ _).alloc (Nat.le_refl _) _
      have mY : A.heap[Y]? = some (.cells #[.string nm, .int .i64 k1, .int .i64 k2, .int .i64 v1, .int .i64 v2] 79 (0, 0)) := by rw [hA, hY]; exact heap_alloc_new w1 _
      rw [← hA, ← hY]
      clear hA hY
      have y0 := cellOf mY 0
      have y1 := cellOf mY 1
      have y2 := cellOf mY 2
      have y3 := cellOf mY 3
      have y4 := cellOf mY 4
      simp only [List.getElem?_toArray, List.getElem?_cons_zero, List.getElem?_cons_succ] at y0 y1 y2 y3 y4
      clear mY
      have SA := hid (HS1.out.below bA)
      have GA := hid (gbelow (gtrans HG.out HG1.out) bA)
      have KA := hid ((HK.out.grownR HG1.out (by omega)).below (Nat.le_refl _) bA)
      have c1 := FL.out A _ SA.out
      clear bA
      cases s2 with
      | none =>
        simp only [Option.isNone_none] at c1
        go_wp2
        go_ret
        have e1 : rLn rd n s1 = ([], none) := by
          have := rLn_stop (rLn_fail HX.out HY.out) g
          rw [show j + 1 + g = n from by have := HJ.out; omega] at this; exact this
        rw [e1]
        exact ⟨_, rfl, KR.nil _ _ _ _, SA.out, GA.out⟩
      | some bs2 =>
        simp only [Option.isNone_some] at c1
        have BA : Hid (Below A.heap.size A (A.alloc (.cells #[.string nm, .int .i64 k1, .int .i64 k2, .int .i64 v1, .int .i64 v2] 79))) := hid ((Below.refl _ A).alloc (Nat.le_refl _) _)
        have hwA : w.heap.size ≤ (A.alloc (.cells #[.string nm, .int .i64 k1, .int .i64 k2, .int .i64 v1, .int .i64 v2] 79)).heap.size := by rw [World.size_alloc]; have := GA.out.size; omega
        go_wp2_with (at_builtin; refine wpList_appK Tryz.underlying38 infoM rfl (by decide) (by decide) (A.alloc (.cells #[.string nm, .int .i64 k1, .int .i64 k2, .int .i64 v1, .int .i64 v2] 79)) rfl _ _ rfl _ (.slice (some ⟨A.heap.size, 0, none⟩) 1 1) (by rfl) (by rfl) w.heap.size (xs.map Mp.cs) (KA.out.below (Nat.le_refl _) BA.out) (some ⟨A.heap.size, 0, none⟩) 1 1 rfl [Mp.cs (⟨nm, (k1, k2), (v1, v2)⟩ : Mp)] rfl (crd_one 79 A (Mp.cs (⟨nm, (k1, k2), (v1, v2)⟩ : Mp)) 5 rfl) (rk_mp _) (fun e => by cases e) hlm (by omega) hwA ?_; intro v2 w2 h1 h2 h3; have H1 := hid h1; have H2 := hid h2; clear h1 h2 h3)
        go_roundg g
        case measure => omega
        have hA2 := gbelow GA.out BA.out
        have kr2 := KA.out.below (Nat.le_refl _) BA.out
        exact ⟨j + 1, by omega, by go_num, by rw [rLn_step HX.out HY.out, List.map_append]; exact H1.out, by rw [rLn_step HX.out HY.out]; exact (SA.out.below BA.out).grown H2.out (fun r e => by have := (kr2.own e).1; omega), by rw [rLn_step HX.out HY.out]; exact .inl (by simp), grown_own hA2 kr2 H2.out⟩
end Go.Proofs.YthnolocldeokeaaGreatDoor

namespace Go.Proofs.YthnolocldeokeaaGreatDoor
open Go.RowKit Go.Deep Go.Shelf
set_option linter.unusedVariables false
set_option linter.unusedSimpArgs false
set_option maxRecDepth 100000
theorem three_set {w : World} {b : Nat} {p0 p1 p2 : Value} {t : TypeId} (h : w.heap[b]? = some (.cells #[p0, p1, p2] t (0, 0))) (x0 x1 x2 : Value) : (((w.setCell ⟨b, 0, none⟩ x0).setCell ⟨b, 1, none⟩ x1).setCell ⟨b, 2, none⟩ x2).heap[b]? = some (.cells #[x0, x1, x2] t (0, 0)) ∧ w.grownBy (((w.setCell ⟨b, 0, none⟩ x0).setCell ⟨b, 1, none⟩ x1).setCell ⟨b, 2, none⟩ x2) (some b) := by
  have h0 := heap_set_at h 0 x0
  simp only [List.setIfInBounds_toArray, List.set_cons_zero, List.set_cons_succ] at h0
  have h1 := heap_set_at h0 1 x1
  simp only [List.setIfInBounds_toArray, List.set_cons_zero, List.set_cons_succ] at h1
  have h2 := heap_set_at h1 2 x2
  simp only [List.setIfInBounds_toArray, List.set_cons_zero, List.set_cons_succ] at h2
  exact ⟨h2, gtrans (gtrans (grown_set w b 0 x0) (grown_set _ b 1 x1)) (grown_set _ b 2 x2)⟩
theorem four_set {w : World} {b : Nat} {p0 p1 p2 p3 : Value} {t : TypeId} (h : w.heap[b]? = some (.cells #[p0, p1, p2, p3] t (0, 0))) (x0 x1 x2 x3 : Value) : ((((w.setCell ⟨b, 0, none⟩ x0).setCell ⟨b, 1, none⟩ x1).setCell ⟨b, 2, none⟩ x2).setCell ⟨b, 3, none⟩ x3).heap[b]? = some (.cells #[x0, x1, x2, x3] t (0, 0)) ∧ w.grownBy ((((w.setCell ⟨b, 0, none⟩ x0).setCell ⟨b, 1, none⟩ x1).setCell ⟨b, 2, none⟩ x2).setCell ⟨b, 3, none⟩ x3) (some b) := by
  have h0 := heap_set_at h 0 x0
  simp only [List.setIfInBounds_toArray, List.set_cons_zero, List.set_cons_succ] at h0
  have h1 := heap_set_at h0 1 x1
  simp only [List.setIfInBounds_toArray, List.set_cons_zero, List.set_cons_succ] at h1
  have h2 := heap_set_at h1 2 x2
  simp only [List.setIfInBounds_toArray, List.set_cons_zero, List.set_cons_succ] at h2
  have h3 := heap_set_at h2 3 x3
  simp only [List.setIfInBounds_toArray, List.set_cons_zero, List.set_cons_succ] at h3
  exact ⟨h3, gtrans (gtrans (gtrans (grown_set w b 0 x0) (grown_set _ b 1 x1)) (grown_set _ b 2 x2)) (grown_set _ b 3 x3)⟩
theorem five_set {w : World} {b : Nat} {p0 p1 p2 p3 p4 : Value} {t : TypeId} (h : w.heap[b]? = some (.cells #[p0, p1, p2, p3, p4] t (0, 0))) (x0 x1 x2 x3 x4 : Value) : (((((w.setCell ⟨b, 0, none⟩ x0).setCell ⟨b, 1, none⟩ x1).setCell ⟨b, 2, none⟩ x2).setCell ⟨b, 3, none⟩ x3).setCell ⟨b, 4, none⟩ x4).heap[b]? = some (.cells #[x0, x1, x2, x3, x4] t (0, 0)) ∧ w.grownBy (((((w.setCell ⟨b, 0, none⟩ x0).setCell ⟨b, 1, none⟩ x1).setCell ⟨b, 2, none⟩ x2).setCell ⟨b, 3, none⟩ x3).setCell ⟨b, 4, none⟩ x4) (some b) := by
  have h0 := heap_set_at h 0 x0
  simp only [List.setIfInBounds_toArray, List.set_cons_zero, List.set_cons_succ] at h0
  have h1 := heap_set_at h0 1 x1
  simp only [List.setIfInBounds_toArray, List.set_cons_zero, List.set_cons_succ] at h1
  have h2 := heap_set_at h1 2 x2
  simp only [List.setIfInBounds_toArray, List.set_cons_zero, List.set_cons_succ] at h2
  have h3 := heap_set_at h2 3 x3
  simp only [List.setIfInBounds_toArray, List.set_cons_zero, List.set_cons_succ] at h3
  have h4 := heap_set_at h3 4 x4
  simp only [List.setIfInBounds_toArray, List.set_cons_zero, List.set_cons_succ] at h4
  exact ⟨h4, gtrans (gtrans (gtrans (gtrans (grown_set w b 0 x0) (grown_set _ b 1 x1)) (grown_set _ b 2 x2)) (grown_set _ b 3 x3)) (grown_set _ b 4 x4)⟩
theorem rT_le (s : Option (List Nat)) : (rT s).1.size ≤ 64 := by
  unfold rT
  split
  · simp
  · rename_i t k hd
    unfold textD at hd
    split at hd
    · cases hd
    · split at hd
      · cases hd
      · split at hd
        · cases hd
        · injection hd with hd
          injection hd with hd _
          subst hd
          rw [ofB_size, List.length_take]
          omega
def rMp (s : Option (List Nat)) : Mp × Option (List Nat) := (⟨(rT s).1, (rTy (rT s).2).1, (rTy (rTy (rT s).2).2).1⟩, (rTy (rTy (rT s).2).2).2)
set_option maxHeartbeats 2000000 in
theorem mapType_any (w : World) (R D : Nat) (s : Option (List Nat)) (h : Rst w R D s) : Calls Tryz.prog 35 #[.pointer (some ⟨R, 0, none⟩)] w (RdP w R D (.agg #[.string (rMp s).1.name, .int .i64 (rMp s).1.key.1, .int .i64 (rMp s).1.key.2, .int .i64 (rMp s).1.val.1, .int .i64 (rMp s).1.val.2]) (rMp s).2) := by
  obtain ⟨W0, hW0⟩ : ∃ W0, W0 = w.alloc (.cells #[.string ⟨#[]⟩, .int .i64 0, .int .i64 0, .int .i64 0, .int .i64 0] 79) := ⟨_, rfl⟩
  have b0 : Below w.heap.size w W0 := by rw [hW0]; exact (Below.refl _ _).alloc (Nat.le_refl _) _
  have m0 : W0.heap[w.heap.size]? = some (.cells #[.string ⟨#[]⟩, .int .i64 0, .int .i64 0, .int .i64 0, .int .i64 0] 79 (0, 0)) := by rw [hW0]; exact heap_alloc_new w _
  have K1 := text_rd W0 R D s (h.below b0)
  have K2 := hid (fun (V : World) (t : Option (List Nat)) (hV : Rst V R D t) => oneType_any V R D t hV)
  have hRD := h.hR
  have hDw := h.hD
  have FIN : Hid (∀ (V : World) (t : Option (List Nat)) (x0 x1 x2 x3 x4 : Value), Rst V R D t → W0.grownBy V (some R) → (V.cell? ⟨w.heap.size, 0, none⟩ = some (.string ⟨#[]⟩) ∧ V.cell? ⟨w.heap.size, 1, none⟩ = some (.int .i64 0) ∧ V.cell? ⟨w.heap.size, 2, none⟩ = some (.int .i64 0) ∧ V.cell? ⟨w.heap.size, 3, none⟩ = some (.int .i64 0) ∧ V.cell? ⟨w.heap.size, 4, none⟩ = some (.int .i64 0)) ∧ (V.frozen? ⟨w.heap.size, 0, none⟩ = false ∧ V.frozen? ⟨w.heap.size, 1, none⟩ = false ∧ V.frozen? ⟨w.heap.size, 2, none⟩ = false ∧ V.frozen? ⟨w.heap.size, 3, none⟩ = false ∧ V.frozen? ⟨w.heap.size, 4, none⟩ = false) ∧ (((((V.setCell ⟨w.heap.size, 0, none⟩ x0).setCell ⟨w.heap.size, 1, none⟩ x1).setCell ⟨w.heap.size, 2, none⟩ x2).setCell ⟨w.heap.size, 3, none⟩ x3).setCell ⟨w.heap.size, 4, none⟩ x4).heap[w.heap.size]? = some (.cells #[x0, x1, x2, x3, x4] 79 (0, 0)) ∧ Rst (((((V.setCell ⟨w.heap.size, 0, none⟩ x0).setCell ⟨w.heap.size, 1, none⟩ x1).setCell ⟨w.heap.size, 2, none⟩ x2).setCell ⟨w.heap.size, 3, none⟩ x3).setCell ⟨w.heap.size, 4, none⟩ x4) R D t ∧ w.grownBy (((((V.setCell ⟨w.heap.size, 0, none⟩ x0).setCell ⟨w.heap.size, 1, none⟩ x1).setCell ⟨w.heap.size, 2, none⟩ x2).setCell ⟨w.heap.size, 3, none⟩ x3).setCell ⟨w.heap.size, 4, none⟩ x4) (some R)) := hid (fun V t x0 x1 x2 x3 x4 hs hg => by
    have k0 := (hg.block _ (lt_of_heap m0) (fun e => by cases e; omega)).trans m0
    obtain ⟨f1, g2⟩ := five_set k0 x0 x1 x2 x3 x4
    exact ⟨⟨cellOf k0 0, cellOf k0 1, cellOf k0 2, cellOf k0 3, cellOf k0 4⟩, ⟨freeOf k0 0, freeOf k0 1, freeOf k0 2, freeOf k0 3, freeOf k0 4⟩, f1, hs.grown g2 (fun r e => by cases e; omega), grown_new (gtrans (bgrown b0 (some R)) hg) g2 (Nat.le_refl _)⟩)
  have K1 := hid K1
  unfold rMp
  simp only
  generalize rT s = q at *
  obtain ⟨nm, s1⟩ := q
  simp only at *
  have K21 := hid (fun (V : World) (hV : Rst V R D s1) => K2.out V s1 hV)
  generalize rTy s1 = q2 at *
  obtain ⟨⟨k1, k2⟩, s2⟩ := q2
  simp only at *
  have K22 := hid (fun (V : World) (hV : Rst V R D s2) => K2.out V s2 hV)
  clear K2
  generalize rTy s2 = q3 at *
  obtain ⟨⟨v1, v2⟩, s3⟩ := q3
  simp only at *
  clear h b0 m0 hRD hDw
  go_enter Tryz.func35, Tryz.ntmps35
  go_upto_region 1 with fail
  rw [← hW0]
  clear hW0
  go_wp2_with (first
    | (go_at_call 41; (refine (Hid.out K1).mono ?_; rintro e w1 ⟨rfl, hs, hg⟩; have HG1 := hid hg; have K2a := hid (K21.out w1 hs); clear hs hg))
    | (have hno := hs1; (go_at_call 60; (refine (Hid.out K2b).mono ?_; rintro e w3 ⟨rfl, hs, hg⟩; obtain ⟨⟨c0, c1, c2, c3, c4⟩, ⟨f0, f1, f2, f3, f4⟩, d2, d3, d4⟩ := FIN.out w3 s3 (.string nm) (.int .i64 k1) (.int .i64 k2) (.int .i64 v1) (.int .i64 v2) hs (gtrans HG2.out hg); have D2 := hid d2; have D3 := hid d3; have D4 := hid d4; clear hs hg d2 d3 d4)))
    | (go_at_call 60; (refine (Hid.out K2a).mono ?_; rintro e w2 ⟨rfl, hs, hg⟩; have HG2 := hid (gtrans HG1.out hg); have K2b := hid (K22.out w2 hs); have hs1 := True.intro; clear hs hg)))
  have q0 := cellOf D2.out 0
  have q1 := cellOf D2.out 1
  have q2 := cellOf D2.out 2
  have q3 := cellOf D2.out 3
  have q4 := cellOf D2.out 4
  simp only [List.getElem?_toArray, List.getElem?_cons_zero, List.getElem?_cons_succ] at q0 q1 q2 q3 q4
  refine bodyPost_ret (v := .agg #[.string nm, .int .i64 k1, .int .i64 k2, .int .i64 v1, .int .i64 v2]) (by simp [results, Tryz.results35, go_sem, q0, q1, q2, q3, q4]) rfl ⟨rfl, D3.out, D4.out⟩
def rFd (what : Int) (s : Option (List Nat)) : Int × Option (List Nat) := if what = 0 then (0, s) else rN s
set_option maxHeartbeats 1000000 in
theorem field_any (w : World) (R D : Nat) (s : Option (List Nat)) (what : Int) (h : Rst w R D s) : Calls Tryz.prog 83 #[.pointer (some ⟨R, 0, none⟩), .int .u8 what] w (RdP w R D (.int .i64 (rFd what s).1) (rFd what s).2) := by
  have K := hid (number_any w R D s h)
  have HS0 := hid h
  clear h
  unfold rFd
  by_cases h0 : what = 0
  · subst h0
    rw [if_pos rfl]
    go_enter Tryz.func83, Tryz.ntmps83
    go_wp2
    go_ret
    exact ⟨rfl, HS0.out, bgrown (Below.refl _ _) _⟩
  · have h1 : ¬ (what : Int) = 0 := by omega
    rw [if_neg h0]
    clear h0
    go_enter Tryz.func83, Tryz.ntmps83
    go_wp2_with (go_at_call 65; (refine (Hid.out K).mono ?_; rintro e w1 ⟨rfl, hs, hg⟩; have HS := hid hs; have HG := hid hg; clear hs hg))
    go_ret
    exact ⟨rfl, HS.out, HG.out⟩
/- A signature that was read. -/
def SgP (w : World) (R D : Nat) (sg : Sg) (s : Option (List Nat)) (e : Ending) (w' : World) : Prop := ∃ g : GH, e = .returned (.agg #[.string g.name, .slice g.pa g.pn g.pc, .int .i64 g.k, .int .i64 g.r]) ∧ GNew w' w.heap.size (g, sg) ∧ Rst w' R D s ∧ w.grownBy w' (some R)
def rSg (s : Option (List Nat)) : Sg × Option (List Nat) := (⟨(rT s).1, (rL rTy 12 (rT s).2).1, (rTy (rL rTy 12 (rT s).2).2).1⟩, (rTy (rL rTy 12 (rT s).2).2).2)
/- A record that was read. -/
structure RNw (w : World) (B : Nat) (p : RH × Rc) : Prop where
  nm : p.1.name = p.2.name
  ns : p.1.name.size ≤ 64
  fl : p.2.fields.length ≤ 12
  tl : p.2.types.length ≤ 12
  fs : ∀ x ∈ p.2.fields, x.size ≤ 64
  fr : KR 9 1 w B (.slice p.1.fa p.1.fn p.1.fc) (p.2.fields.map stc)
  tr : KR 32 2 w B (.slice p.1.ta p.1.tn p.1.tc) (p.2.types.map tyc)
def RcP (w : World) (R D : Nat) (rc : Rc) (s : Option (List Nat)) (e : Ending) (w' : World) : Prop := ∃ g : RH, e = .returned (.agg #[.string g.name, .slice g.fa g.fn g.fc, .slice g.ta g.tn g.tc]) ∧ RNw w' w.heap.size (g, rc) ∧ Rst w' R D s ∧ w.grownBy w' (some R)
def rRc (s : Option (List Nat)) : Rc × Option (List Nat) := (⟨(rT s).1, (rL rT 12 (rT s).2).1, (rL rTy 12 (rL rT 12 (rT s).2).2).1⟩, (rL rTy 12 (rL rT 12 (rT s).2).2).2)
theorem rL_len {α : Type} (one : Option (List Nat) → α × Option (List Nat)) (most : Nat) (s : Option (List Nat)) : (rL one most s).1.length ≤ most := Nat.le_trans (rLn_len _ _) (rC_le most s)
theorem rLn_all {α : Type} {one : Option (List Nat) → α × Option (List Nat)} {P : α → Prop} (h : ∀ t, P (one t).1) : ∀ (n : Nat) (s : Option (List Nat)), ∀ x ∈ (rLn one n s).1, P x
  | 0, s => fun x hx => by simp [rLn] at hx
  | n + 1, s => fun x hx => by
    have ih := rLn_all h n s
    rw [rLn] at hx
    split at hx
    · rename_i xs bs e
      rw [e] at ih
      split at hx
      · rename_i y bs' e2
        rcases List.mem_append.1 hx with hx | hx
        · exact ih x hx
        · simp at hx; subst hx
          have := h (some bs); rw [e2] at this; exact this
      · simp at hx
    · simp at hx
theorem KR.at {E : TypeId} {k : Nat} {w w' : World} {B b : Nat} {v : Value} {l : List (List Value)} (h : KR E k w (b + 1) v l) (hg : w.grownBy w' (some b)) (hB : B ≤ b) : KR E k w' B v l := (h.keep fun g e => hg.block g (h.own e).2 (fun e2 => by cases e2; have := (h.own e).1; omega)).lower (by omega)
set_option maxHeartbeats 2000000 in
theorem sig_any (w : World) (R D : Nat) (s : Option (List Nat)) (h : Rst w R D s) : Calls Tryz.prog 37 #[.pointer (some ⟨R, 0, none⟩)] w (SgP w R D (rSg s).1 (rSg s).2) := by
  obtain ⟨W0, hW0⟩ : ∃ W0, W0 = w.alloc (.cells #[.string ⟨#[]⟩, .slice none 0 0, .int .i64 0, .int .i64 0] 35) := ⟨_, rfl⟩
  have b0 : Below w.heap.size w W0 := by rw [hW0]; exact (Below.refl _ _).alloc (Nat.le_refl _) _
  have m0 : W0.heap[w.heap.size]? = some (.cells #[.string ⟨#[]⟩, .slice none 0 0, .int .i64 0, .int .i64 0] 35 (0, 0)) := by rw [hW0]; exact heap_alloc_new w _
  have hz0 : w.heap.size + 1 ≤ W0.heap.size := by rw [hW0, World.size_alloc]; exact Nat.le_refl _
  have K1 := hid (text_rd W0 R D s (h.below b0))
  have hRD := h.hR
  have hDw := h.hD
  have FIN : Hid (∀ (V : World) (t : Option (List Nat)) (x0 x1 x2 x3 : Value), Rst V R D t → W0.grownBy V (some R) → (V.cell? ⟨w.heap.size, 0, none⟩ = some (.string ⟨#[]⟩) ∧ V.cell? ⟨w.heap.size, 1, none⟩ = some (.slice none 0 0) ∧ V.cell? ⟨w.heap.size, 2, none⟩ = some (.int .i64 0) ∧ V.cell? ⟨w.heap.size, 3, none⟩ = some (.int .i64 0)) ∧ (V.frozen? ⟨w.heap.size, 0, none⟩ = false ∧ V.frozen? ⟨w.heap.size, 1, none⟩ = false ∧ V.frozen? ⟨w.heap.size, 2, none⟩ = false ∧ V.frozen? ⟨w.heap.size, 3, none⟩ = false) ∧ ((((V.setCell ⟨w.heap.size, 0, none⟩ x0).setCell ⟨w.heap.size, 1, none⟩ x1).setCell ⟨w.heap.size, 2, none⟩ x2).setCell ⟨w.heap.size, 3, none⟩ x3).heap[w.heap.size]? = some (.cells #[x0, x1, x2, x3] 35 (0, 0)) ∧ Rst ((((V.setCell ⟨w.heap.size, 0, none⟩ x0).setCell ⟨w.heap.size, 1, none⟩ x1).setCell ⟨w.heap.size, 2, none⟩ x2).setCell ⟨w.heap.size, 3, none⟩ x3) R D t ∧ w.grownBy ((((V.setCell ⟨w.heap.size, 0, none⟩ x0).setCell ⟨w.heap.size, 1, none⟩ x1).setCell ⟨w.heap.size, 2, none⟩ x2).setCell ⟨w.heap.size, 3, none⟩ x3) (some R) ∧ V.grownBy ((((V.setCell ⟨w.heap.size, 0, none⟩ x0).setCell ⟨w.heap.size, 1, none⟩ x1).setCell ⟨w.heap.size, 2, none⟩ x2).setCell ⟨w.heap.size, 3, none⟩ x3) (some w.heap.size)) := hid (fun V t x0 x1 x2 x3 hs hg => by
    have k0 := (hg.block _ (lt_of_heap m0) (fun e => by cases e; omega)).trans m0
    obtain ⟨f1, g2⟩ := four_set k0 x0 x1 x2 x3
    exact ⟨⟨cellOf k0 0, cellOf k0 1, cellOf k0 2, cellOf k0 3⟩, ⟨freeOf k0 0, freeOf k0 1, freeOf k0 2, freeOf k0 3⟩, f1, hs.grown g2 (fun r e => by cases e; omega), grown_new (gtrans (bgrown b0 (some R)) hg) g2 (Nat.le_refl _), g2⟩)
  have hnm := rT_le s
  unfold rSg
  simp only
  generalize rT s = q at *
  obtain ⟨nm, s1⟩ := q
  simp only at *
  have K2 := hid (fun (V : World) (hV : Rst V R D s1) => (show Calls Tryz.prog 59 #[.pointer (some ⟨R, 0, none⟩), .int .u64 12, .func (.func 60) #[.pointer (some ⟨R, 0, none⟩)] #[]] V (LsP 32 2 V R D ((rL rTy 12 s1).1.map tyc) (rL rTy 12 s1).2) from rdTypes_any V R D s1 12 rTy hV (by omega) (fun X u hX => oneType_any X R D u hX)))
  generalize rL rTy 12 s1 = q2 at *
  obtain ⟨ps, s2⟩ := q2
  simp only at *
  have K3 := hid (fun (V : World) (hV : Rst V R D s2) => oneType_any V R D s2 hV)
  generalize rTy s2 = q3 at *
  obtain ⟨⟨v1, v2⟩, s3⟩ := q3
  simp only at *
  have HNM := hid hnm
  have HRD := hid hRD
  have HDW := hid hDw
  have HZ := hid hz0
  clear h b0 m0 hRD hDw hnm hz0
  go_enter Tryz.func37, Tryz.ntmps37
  go_upto_region 1 with fail
  rw [← hW0]
  clear hW0
  go_wp2_with (first
    | (go_at_call 41; (refine (Hid.out K1).mono ?_; rintro e w1 ⟨rfl, hs, hg⟩; have HG1 := hid hg; have K2a := hid (K2.out w1 hs); clear hs hg))
    | (go_at_call 59; (refine (Hid.out K2a).mono ?_; rintro e w2 ⟨v8, rfl, hk8, hs, hg⟩; obtain ⟨a8, c8, hv8, _, _, _, _⟩ := hk8.rd; obtain ⟨l8, hl8⟩ : ∃ l8, l8 = (ps.map tyc).length := ⟨_, rfl⟩; rw [← hl8] at hv8; subst hv8; clear hl8; have HK := hid (hk8.lower (Nat.le_trans HZ.out HG1.out.size)); have HG2 := hid (gtrans HG1.out hg); have K3a := hid (K3.out w2 hs); clear hs hg hk8))
    | (go_at_call 60; (refine (Hid.out K3a).mono ?_; rintro e w3 ⟨rfl, hs, hg⟩; obtain ⟨⟨c0, c1, c2, c3⟩, ⟨f0, f1, f2, f3⟩, d2, d3, d4, d5⟩ := FIN.out w3 s3 (.string nm) (.slice a8 l8 c8) (.int .i64 v1) (.int .i64 v2) hs (gtrans HG2.out hg); have D2 := hid d2; have D3 := hid d3; have D4 := hid d4; have D5 := hid ((HK.out.grownR hg (by have := HRD.out; have := HDW.out; omega)).at d5 (Nat.le_refl _)); clear hs hg d2 d3 d4 d5)))
  have q0 := cellOf D2.out 0
  have q1 := cellOf D2.out 1
  have q2 := cellOf D2.out 2
  have q3 := cellOf D2.out 3
  simp only [List.getElem?_toArray, List.getElem?_cons_zero, List.getElem?_cons_succ] at q0 q1 q2 q3
  refine bodyPost_ret (v := .agg #[.string nm, .slice a8 l8 c8, .int .i64 v1, .int .i64 v2]) (by simp [results, Tryz.results37, go_sem, q0, q1, q2, q3]) rfl ⟨⟨nm, a8, l8, c8, v1, v2⟩, rfl, ⟨rfl, by have := HNM.out; show nm.size ≤ 1000000; omega, D5.out, rfl⟩, D3.out, D4.out⟩
set_option maxHeartbeats 2000000 in
theorem record_any (w : World) (R D : Nat) (s : Option (List Nat)) (h : Rst w R D s) : Calls Tryz.prog 33 #[.pointer (some ⟨R, 0, none⟩)] w (RcP w R D (rRc s).1 (rRc s).2) := by
  obtain ⟨W0, hW0⟩ : ∃ W0, W0 = w.alloc (.cells #[.string ⟨#[]⟩, .slice none 0 0, .slice none 0 0] 75) := ⟨_, rfl⟩
  have b0 : Below w.heap.size w W0 := by rw [hW0]; exact (Below.refl _ _).alloc (Nat.le_refl _) _
  have m0 : W0.heap[w.heap.size]? = some (.cells #[.string ⟨#[]⟩, .slice none 0 0, .slice none 0 0] 75 (0, 0)) := by rw [hW0]; exact heap_alloc_new w _
  have hz0 : w.heap.size + 1 ≤ W0.heap.size := by rw [hW0, World.size_alloc]; exact Nat.le_refl _
  have K1 := hid (text_rd W0 R D s (h.below b0))
  have hRD := h.hR
  have hDw := h.hD
  have FIN : Hid (∀ (V : World) (t : Option (List Nat)) (x0 x1 x2 : Value), Rst V R D t → W0.grownBy V (some R) → (V.cell? ⟨w.heap.size, 0, none⟩ = some (.string ⟨#[]⟩) ∧ V.cell? ⟨w.heap.size, 1, none⟩ = some (.slice none 0 0) ∧ V.cell? ⟨w.heap.size, 2, none⟩ = some (.slice none 0 0)) ∧ (V.frozen? ⟨w.heap.size, 0, none⟩ = false ∧ V.frozen? ⟨w.heap.size, 1, none⟩ = false ∧ V.frozen? ⟨w.heap.size, 2, none⟩ = false) ∧ (((V.setCell ⟨w.heap.size, 0, none⟩ x0).setCell ⟨w.heap.size, 1, none⟩ x1).setCell ⟨w.heap.size, 2, none⟩ x2).heap[w.heap.size]? = some (.cells #[x0, x1, x2] 75 (0, 0)) ∧ Rst (((V.setCell ⟨w.heap.size, 0, none⟩ x0).setCell ⟨w.heap.size, 1, none⟩ x1).setCell ⟨w.heap.size, 2, none⟩ x2) R D t ∧ w.grownBy (((V.setCell ⟨w.heap.size, 0, none⟩ x0).setCell ⟨w.heap.size, 1, none⟩ x1).setCell ⟨w.heap.size, 2, none⟩ x2) (some R) ∧ V.grownBy (((V.setCell ⟨w.heap.size, 0, none⟩ x0).setCell ⟨w.heap.size, 1, none⟩ x1).setCell ⟨w.heap.size, 2, none⟩ x2) (some w.heap.size)) := hid (fun V t x0 x1 x2 hs hg => by
    have k0 := (hg.block _ (lt_of_heap m0) (fun e => by cases e; omega)).trans m0
    obtain ⟨f1, g2⟩ := three_set k0 x0 x1 x2
    exact ⟨⟨cellOf k0 0, cellOf k0 1, cellOf k0 2⟩, ⟨freeOf k0 0, freeOf k0 1, freeOf k0 2⟩, f1, hs.grown g2 (fun r e => by cases e; omega), grown_new (gtrans (bgrown b0 (some R)) hg) g2 (Nat.le_refl _), g2⟩)
  have hnm := rT_le s
  unfold rRc
  simp only
  generalize rT s = q at *
  obtain ⟨nm, s1⟩ := q
  simp only at *
  have K2 := hid (fun (V : World) (hV : Rst V R D s1) => (show Calls Tryz.prog 40 #[.pointer (some ⟨R, 0, none⟩), .int .u64 12, .func (.func 41) #[.pointer (some ⟨R, 0, none⟩)] #[]] V (LsP 9 1 V R D ((rL rT 12 s1).1.map stc) (rL rT 12 s1).2) from rdTexts_any V R D s1 12 rT hV (by omega) (fun X u hX => text_rd X R D u hX)))
  have HL1 := hid (rL_len rT 12 s1)
  have HA1 := hid (rLn_all (P := fun x => x.size ≤ 64) (one := rT) rT_le (rC 12 s1).1 (rC 12 s1).2)
  have HA1 : Hid (∀ x ∈ (rL rT 12 s1).1, x.size ≤ 64) := HA1
  generalize rL rT 12 s1 = q2 at *
  obtain ⟨fs, s2⟩ := q2
  simp only at *
  have K3 := hid (fun (V : World) (hV : Rst V R D s2) => (show Calls Tryz.prog 59 #[.pointer (some ⟨R, 0, none⟩), .int .u64 12, .func (.func 60) #[.pointer (some ⟨R, 0, none⟩)] #[]] V (LsP 32 2 V R D ((rL rTy 12 s2).1.map tyc) (rL rTy 12 s2).2) from rdTypes_any V R D s2 12 rTy hV (by omega) (fun X u hX => oneType_any X R D u hX)))
  have HL2 := hid (rL_len rTy 12 s2)
  generalize rL rTy 12 s2 = q3 at *
  obtain ⟨ts, s3⟩ := q3
  simp only at *
  have HNM := hid hnm
  have HRD := hid hRD
  have HDW := hid hDw
  have HZ := hid hz0
  clear h b0 m0 hRD hDw hnm hz0
  go_enter Tryz.func33, Tryz.ntmps33
  go_upto_region 1 with fail
  rw [← hW0]
  clear hW0
  go_wp2_with (first
    | (go_at_call 41; (refine (Hid.out K1).mono ?_; rintro e w1 ⟨rfl, hs, hg⟩; have HG1 := hid hg; have K2a := hid (K2.out w1 hs); clear hs hg))
    | (go_at_call 40; (refine (Hid.out K2a).mono ?_; rintro e w2 ⟨v8, rfl, hk8, hs, hg⟩; obtain ⟨a8, c8, hv8, _, _, _, _⟩ := hk8.rd; obtain ⟨l8, hl8⟩ : ∃ l8, l8 = (fs.map stc).length := ⟨_, rfl⟩; rw [← hl8] at hv8; subst hv8; clear hl8; have HK := hid (hk8.lower (Nat.le_trans HZ.out HG1.out.size)); have HG2 := hid (gtrans HG1.out hg); have K3a := hid (K3.out w2 hs); clear hs hg hk8))
    | (go_at_call 59; (refine (Hid.out K3a).mono ?_; rintro e w3 ⟨v9, rfl, hk9, hs, hg⟩; obtain ⟨a9, c9, hv9, _, _, _, _⟩ := hk9.rd; obtain ⟨l9, hl9⟩ : ∃ l9, l9 = (ts.map tyc).length := ⟨_, rfl⟩; rw [← hl9] at hv9; subst hv9; clear hl9; obtain ⟨⟨c0, c1, c2⟩, ⟨f0, f1, f2⟩, d2, d3, d4, d5⟩ := FIN.out w3 s3 (.string nm) (.slice a8 l8 c8) (.slice a9 l9 c9) hs (gtrans HG2.out hg); have D2 := hid d2; have D3 := hid d3; have D4 := hid d4; have D5 := hid ((HK.out.grownR hg (by have := HRD.out; have := HDW.out; omega)).at d5 (Nat.le_refl _)); have D6 := hid ((hk9.lower (Nat.le_trans HZ.out HG2.out.size)).at d5 (Nat.le_refl _)); clear hs hg hk9 d2 d3 d4 d5)))
  have q0 := cellOf D2.out 0
  have q1 := cellOf D2.out 1
  have q2 := cellOf D2.out 2
  simp only [List.getElem?_toArray, List.getElem?_cons_zero, List.getElem?_cons_succ] at q0 q1 q2
  refine bodyPost_ret (v := .agg #[.string nm, .slice a8 l8 c8, .slice a9 l9 c9]) (by simp [results, Tryz.results33, go_sem, q0, q1, q2]) rfl ⟨⟨nm, a8, l8, c8, a9, l9, c9⟩, rfl, ⟨rfl, HNM.out, HL1.out, HL2.out, HA1.out, D5.out, D6.out⟩, D3.out, D4.out⟩
end Go.Proofs.YthnolocldeokeaaGreatDoor

