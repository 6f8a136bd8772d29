/- Blocks that go from each to the next one: what is told of them. -/
import Derived.Test.YtkkcbabhccfllaaJAC
import Derived.Sort.CutIn
namespace Go.Proofs.Ytkkcbabhccfllaa
open Go.RowKit Go.Deep Go.Shelf
set_option linter.unusedVariables false
set_option linter.unusedSimpArgs false
def rEn (n : Nat) (back : Int) (i : Nat) : Int := if (i : Int) = back then 38 else if i + 1 = n then 40 else 38
def rA (n : Nat) (back : Int) (i : Nat) : Int := if (i : Int) = back then 0 else if i + 1 = n then -1 else 0
def rT (n : Nat) (back : Int) (i : Nat) : Int := if (i : Int) = back then 0 else if i + 1 = n then 0 else (i : Int) + 1
def o35 : Opx := ⟨35, 0, 0, 0, 0⟩
structure RwB (n : Nat) (back : Int) (i : Nat) (b : Blk) : Prop where
  en : b.en = rEn n back i
  a : b.a = rA n back i
  tt : b.tt = rT n back i
  el : b.el = 0
  ops : b.ops = [o35]
def RwL (n : Nat) (back : Int) (bs : List Blk) : Prop := ∀ i b, bs[i]? = some b → RwB n back i b
theorem RwL.snoc {n : Nat} {back : Int} {bs : List Blk} (h : RwL n back bs) {b : Blk} (hb : RwB n back bs.length b) : RwL n back (bs ++ [b]) := fun i c hc => by
  by_cases hi : i < bs.length
  · rw [List.getElem?_append_left hi] at hc; exact h i c hc
  · have hi2 : i = bs.length := by
      have := (List.getElem?_eq_some_iff.1 hc).1
      simp at this; omega
    subst hi2
    rw [List.getElem?_append_right (Nat.le_refl _)] at hc
    simp at hc; subst hc; exact hb
structure Rws (n : Nat) (back : Int) (bs : List Blk) : Prop where
  h : RwL n back bs
  hl : bs.length = n
  h1 : 1 ≤ n
  h60 : n ≤ 60
  hb0 : -1 ≤ back
  hb1 : back < (n : Int)
theorem rw_ok {n : Nat} {back : Int} {bs : List Blk} (r : Rws n back bs) {i : Nat} {b : Blk} (hb : bs[i]? = some b) : okBk n b = true := by
  obtain ⟨h, hl, h1, h60, hb0, hb1⟩ := r
  have hi : i < n := by rw [← hl]; exact (List.getElem?_eq_some_iff.1 hb).1
  obtain ⟨e1, e2, e3, e4, e5⟩ := h i b hb
  unfold okBk
  rw [e1, e2, e3, e4, e5]
  have hs : strB [o35] = true := by kernel_rfl
  rw [hs, Bool.and_true]
  unfold rEn rA rT
  by_cases c1 : (i : Int) = back
  · simp only [if_pos c1]
    simp [endE, tgE, wthB]; omega
  · simp only [if_neg c1]
    by_cases c2 : i + 1 = n
    · simp only [if_pos c2]
      simp [endE, tgE, wthB]
    · simp only [if_neg c2]
      simp [endE, tgE, wthB]; omega
theorem rw_isG {n : Nat} {back : Int} {bs : List Blk} (r : Rws n back bs) : isG bs = true := by
  have r' := r
  obtain ⟨h, hl, h1, h60, hb0, hb1⟩ := r
  unfold isG
  rw [hl, decide_eq_true (by omega : 0 < n), decide_eq_true (by omega : n ≤ 2000), Bool.true_and, Bool.true_and]
  refine List.all_eq_true.2 fun b hb => ?_
  obtain ⟨i, hi⟩ := List.getElem?_of_mem hb
  exact rw_ok r' hi
theorem rw_ways {n : Nat} {back : Int} {bs : List Blk} (r : Rws n back bs) {i : Nat} (hi : i < n) : blkW bs i = if (i : Int) = back then [0] else if i + 1 = n then [] else [i + 1] := by
  obtain ⟨h, hl, h1, h60, hb0, hb1⟩ := r
  have hb : bs[i]? = some (bs[i]'(by omega)) := List.getElem?_eq_getElem _
  obtain ⟨e1, e2, e3, e4, e5⟩ := h i _ hb
  unfold blkW
  rw [hb]
  show (tgE _ _ _).map Int.toNat = _
  rw [e1, e3, e4]
  unfold rEn rT tgE
  by_cases c1 : (i : Int) = back
  · simp [c1]
  · simp only [if_neg c1]
    by_cases c2 : i + 1 = n
    · simp [c2]
    · simp only [if_neg c2]; simp
theorem rw_rch {n : Nat} {back : Int} {bs : List Blk} (r : Rws n back bs) {x : Nat} (hx : x < n) : Rch (blkW bs) x ↔ (back < 0 ∨ (x : Int) ≤ back) := by
  have r' := r
  obtain ⟨h, hl, h1, h60, hb0, hb1⟩ := r
  constructor
  · intro hr
    have key : ∀ y, Rch (blkW bs) y → y < n ∧ (back < 0 ∨ (y : Int) ≤ back) := by
      refine rch_sub ⟨by omega, by omega⟩ ?_
      rintro i t ⟨hi, hc⟩ ht
      rw [rw_ways r' hi] at ht
      by_cases c1 : (i : Int) = back
      · rw [if_pos c1] at ht; simp at ht; subst ht; exact ⟨by omega, by omega⟩
      · rw [if_neg c1] at ht
        by_cases c2 : i + 1 = n
        · rw [if_pos c2] at ht; simp at ht
        · rw [if_neg c2] at ht; simp at ht; subst ht; exact ⟨by omega, by omega⟩
    exact (key x hr).2
  · intro hc
    induction x with
    | zero => exact .zero
    | succ x ih =>
      have := ih (by omega) (by omega)
      refine .step this ?_
      rw [rw_ways r' (by omega : x < n), if_neg (by omega), if_neg (by omega)]
      simp
theorem rw_len {n : Nat} {back : Int} {bs : List Blk} (r : Rws n back bs) (j : Nat) (hj : j ≤ n) : (layA 0 (bs.take j)).length = j + (if 0 ≤ back ∧ back < (j : Int) then 1 else 0) + (if j = n ∧ back + 1 ≠ (n : Int) then 1 else 0) := by
  obtain ⟨h, hl, h1, h60, hb0, hb1⟩ := r
  induction j with
  | zero =>
    rw [List.take_zero, if_neg (by omega), if_neg (by omega)]; rfl
  | succ j ih =>
    have hb : bs[j]? = some (bs[j]'(by omega)) := List.getElem?_eq_getElem _
    obtain ⟨e1, e2, e3, e4, e5⟩ := h j _ hb
    rw [lay_take hb, List.length_append, List.length_append, ih (by omega), e5]
    have hen : (enB (bs[j]'(by omega)) j).length = if (j : Int) = back then 1 else if j + 1 = n then 1 else 0 := by
      unfold enB
      rw [e1, e2, e3, e4]
      unfold rEn rT enO lpO
      by_cases c1 : (j : Int) = back
      · simp only [if_pos c1]
        have g : ¬ (0 : Int) = (j : Int) + 1 := by omega
        simp [g]
      · simp only [if_neg c1]
        by_cases c2 : j + 1 = n
        · simp [c2]
        · simp [c2]
    rw [hen]
    have h5 : [o35].length = 1 := rfl
    rw [h5]
    by_cases c1 : (j : Int) = back
    · rw [if_pos c1]
      rw [if_neg (by omega : ¬ (0 ≤ back ∧ back < (j : Int))), if_neg (by omega : ¬ (j = n ∧ back + 1 ≠ (n : Int))), if_pos (by omega : 0 ≤ back ∧ back < ((j + 1 : Nat) : Int)), if_neg (by omega : ¬ (j + 1 = n ∧ back + 1 ≠ (n : Int)))]
    · rw [if_neg c1, if_neg (by omega : ¬ (j = n ∧ back + 1 ≠ (n : Int)))]
      have q : (0 ≤ back ∧ back < (j : Int)) ↔ (0 ≤ back ∧ back < ((j + 1 : Nat) : Int)) := by omega
      by_cases c2 : j + 1 = n
      · rw [if_pos c2, if_pos (by omega : j + 1 = n ∧ back + 1 ≠ (n : Int))]
        by_cases c3 : 0 ≤ back ∧ back < (j : Int)
        · rw [if_pos c3, if_pos (q.1 c3)]; try omega
        · rw [if_neg c3, if_neg (fun k => c3 (q.2 k))]; try omega
      · rw [if_neg c2, if_neg (by omega : ¬ (j + 1 = n ∧ back + 1 ≠ (n : Int)))]
        by_cases c3 : 0 ≤ back ∧ back < (j : Int)
        · rw [if_pos c3, if_pos (q.1 c3)]; try omega
        · rw [if_neg c3, if_neg (fun k => c3 (q.2 k))]; try omega
theorem rw_total {n : Nat} {back : Int} {bs : List Blk} (r : Rws n back bs) : (layA 0 bs).length = if 0 ≤ back ∧ back < (n : Int) - 1 then n + 2 else n + 1 := by
  have r' := r
  obtain ⟨h, hl, h1, h60, hb0, hb1⟩ := r
  have := rw_len r' n (Nat.le_refl _)
  rw [List.take_of_length_le (by omega)] at this
  rw [this]
  by_cases c : 0 ≤ back ∧ back < (n : Int) - 1
  · rw [if_pos c, if_pos (by omega), if_pos (by omega)]
  · rw [if_neg c]
    by_cases c2 : 0 ≤ back
    · rw [if_pos (by omega), if_neg (by omega)]
    · rw [if_neg (by omega), if_pos (by omega)]
theorem rw_bg {n : Nat} {back : Int} {bs : List Blk} (r : Rws n back bs) {j : Nat} (hj : j < n) : bg bs j < (layA 0 bs).length := by
  obtain ⟨h, hl, h1, h60, hb0, hb1⟩ := r
  have hb : bs[j]? = some (bs[j]'(by omega)) := List.getElem?_eq_getElem _
  have h2 := lay_pre bs (j + 1)
  rw [lay_take hb, (h j _ hb).ops, List.length_append, List.length_append] at h2
  have h5 : [o35].length = 1 := rfl
  unfold bg
  omega
theorem rw_st {n : Nat} {back : Int} {bs : List Blk} (r : Rws n back bs) : okSt (layB bs) = true := by
  have r' := r
  obtain ⟨h, hl, h1, h60, hb0, hb1⟩ := r
  have hlen : (layB bs).length = (layA 0 bs).length := by unfold layB; rw [List.length_map]
  unfold okSt
  have ht := rw_total r'
  have hp : 0 < (layB bs).length := by rw [hlen, ht]; split <;> omega
  rw [decide_eq_true hp, Bool.and_true]
  refine List.all_eq_true.2 fun o ho => ?_
  unfold layB at ho
  obtain ⟨p, hp1, rfl⟩ := List.mem_map.1 ho
  unfold okO
  unfold fixO
  by_cases hj : jmpB p = true
  · rw [if_pos hj]
    have hk := lay_jmp bs 0 (isG_all (rw_isG r')) p hp1 hj
    have hjj : jmpB { p with k := (bg bs p.k.toNat : Int) } = true := hj
    have := rw_bg r' (j := p.k.toNat) (by omega)
    rw [hjj, hlen]
    simp; omega
  · rw [if_neg hj]
    simp [hj]
end Go.Proofs.Ytkkcbabhccfllaa

namespace Go.Proofs.Ytkkcbabhccfllaa
open Go.RowKit Go.Deep Go.Shelf
set_option linter.unusedVariables false
set_option linter.unusedSimpArgs false
def FnP (w : World) (regs : Int) (bs : List Blk) (bad : Int) (e : Ending) (w' : World) : Prop := Below w.heap.size w w' ∧
  ((isG bs = true ∧ ∃ v, e = .returned (.tuple #[.agg #[.int .i64 regs, v], .int .i64 0]) ∧ OpR w' w.heap.size v (layB bs)) ∨
   (isG bs = false ∧ e = .returned (.tuple #[.agg #[.int .i64 0, .slice none 0 0], .int .i64 bad])))
def two (w : World) (b : Nat) (x y : Value) : World := (w.setCell ⟨b, 0, none⟩ x).setCell ⟨b, 1, none⟩ y
theorem two_new {w : World} {b : Nat} {p q : Value} {t : TypeId} (h : w.heap[b]? = some (.cells #[p, q] t (0, 0))) (x y : Value) : (two w b x y).heap[b]? = some (.cells #[x, y] t (0, 0)) := heap_set_at (heap_set_at h 0 x) 1 y
theorem two_below {B : Nat} {w0 w : World} (hb : Below B w0 w) {b : Nat} (hB : B ≤ b) (x y : Value) : Below B w0 (two w b x y) := by
  unfold two
  exact (hb.setCell hB _).setCell hB _
theorem two_heap (w : World) (b : Nat) (x y : Value) {k : Nat} (hk : k ≠ b) : (two w b x y).heap[k]? = w.heap[k]? := by
  unfold two
  rw [Below.heap_setCell _ _ _ _ hk, Below.heap_setCell _ _ _ _ hk]
set_option maxRecDepth 100000 in
set_option maxHeartbeats 1000000 in
theorem fn_any (w : World) (regs : Int) (a : Option Addr) (n c : Nat) (bs : List Blk) (hn : n = bs.length) (hnb : n ≤ 10000) (hr : BRd w a bs) (hnl : ∀ b ∈ bs, b.oa = none → b.oc = 0) (hT : (layA 0 bs).length ≤ 100000) : Calls Try.prog 8 #[.agg #[.int .i64 regs, .slice a n c]] w (FnP w regs bs 100) := by
  obtain ⟨X, hX⟩ : ∃ X, X = w.heap.size := ⟨_, rfl⟩
  obtain ⟨W0, hW0⟩ : ∃ W0, W0 = (w.alloc (.cells #[.int .i64 regs, .slice a n c] 24)).alloc (.cells #[.int .i64 0, .slice none 0 0] 29) := ⟨_, rfl⟩
  have bw0 : Below w.heap.size w W0 := by rw [hW0]; exact ((Below.refl _ _).alloc (Nat.le_refl _) _).alloc (by simp) _
  have z0 : W0.heap.size = X + 1 + 1 := by rw [hW0, hX]; simp
  have m0 : W0.heap[X]? = some (.cells #[.int .i64 regs, .slice a n c] 24 (0, 0)) := by rw [hW0, hX, Below.heap_alloc _ _ _ (by simp)]; exact heap_alloc_new _ _
  have m1 : W0.heap[X + 1]? = some (.cells #[.int .i64 0, .slice none 0 0] 29 (0, 0)) := by
    have := heap_alloc_new (w.alloc (.cells #[.int .i64 regs, .slice a n c] 24)) (.cells #[.int .i64 0, .slice none 0 0] 29)
    rw [World.size_alloc] at this
    rw [hW0, hX]; exact this
  have K1 := hid (isGraph_any W0 regs a n c bs hn (by omega) (hr.below bw0))
  have MB := hid (fun (v : World) (hv : Below W0.heap.size W0 v) => (⟨(hv.block X (by omega)).trans m0, (hv.block (X + 1) (by omega)).trans m1⟩ : v.heap[X]? = some (.cells #[.int .i64 regs, .slice a n c] 24 (0, 0)) ∧ v.heap[X + 1]? = some (.cells #[.int .i64 0, .slice none 0 0] 29 (0, 0))))
  have BW := hid (fun (v : World) (hv : Below W0.heap.size W0 v) => bw0.trans (hv.mono bw0.size))
  have x0 := cellOf m0 0
  have x1 := cellOf m0 1
  simp only [List.getElem?_toArray, List.getElem?_cons_zero, List.getElem?_cons_succ] at x0 x1
  have HX := hid hX
  have Z0 := hid z0
  cases hok : isG bs with
  | false =>
    rw [hok] at K1
    have HO := hid hok
    clear m0 m1 bw0 hr hn hok hnl hT z0
    go_enter Try.func8, Try.ntmps8
    go_upto_region 1 with fail
    rw [← hX, ← hW0]
    clear hW0 hX
    go_wp2_with (first | (go_at_call 15; (refine (Hid.out K1).mono ?_; rintro e w1 ⟨rfl, hb1⟩; have HM1 := hid (MB.out w1 hb1); have HB1 := hid hb1; have y0 := cellOf HM1.out.2 0; have y1 := cellOf HM1.out.2 1; have f0 := freeOf HM1.out.2 0; have f1 := freeOf HM1.out.2 1; simp only [List.getElem?_toArray, List.getElem?_cons_zero, List.getElem?_cons_succ] at y0 y1; clear hb1 x0 x1)))
    have h3 := two_new HM1.out.2 (.int .i64 0) (.slice none 0 0)
    have hbb := two_below (BW.out w1 HB1.out) (b := X + 1) (by have := HX.out; omega) (.int .i64 0) (.slice none 0 0)
    have q0 := cellOf h3 0
    have q1 := cellOf h3 1
    simp only [two, List.getElem?_toArray, List.getElem?_cons_zero, List.getElem?_cons_succ] at q0 q1 hbb
    refine bodyPost_ret (v := .tuple #[.agg #[.int .i64 0, .slice none 0 0], .int .i64 100]) (by simp [results, Try.results8, go_sem, q0, q1]) rfl ⟨hbb, .inr ⟨HO.out, rfl⟩⟩
  | true =>
    rw [hok] at K1
    have K2 := hid (fun (v : World) (hv : Below W0.heap.size W0 v) => laid_any v a n c bs hn hnb ((hr.below bw0).below hv) hnl hok hT)
    have HO := hid hok
    clear m0 m1 bw0 hr hn hok hnl hT z0
    go_enter Try.func8, Try.ntmps8
    go_upto_region 1 with fail
    rw [← hX, ← hW0]
    clear hW0 hX
    go_wp2_with (first | (go_at_call 15; (refine (Hid.out K1).mono ?_; rintro e w1 ⟨rfl, hb1⟩; have HM1 := hid (MB.out w1 hb1); have HB1 := hid hb1; have y0 := cellOf HM1.out.1 0; have y1 := cellOf HM1.out.1 1; simp only [List.getElem?_toArray, List.getElem?_cons_zero, List.getElem?_cons_succ] at y0 y1; clear hb1 x0 x1)))
    have S2 := hid (fun (v : World) (hv : Below W0.heap.size W0 v) => (⟨cellOf (MB.out v hv).1 0, cellOf (MB.out v hv).1 1⟩ : v.cell? ⟨X, 0, none⟩ = some (.int .i64 regs) ∧ v.cell? ⟨X, 1, none⟩ = some (.slice a n c)))
    have K2' := hid (K2.out w1.drew (HB1.out.trans (((Below.refl _ w1).drew).mono HB1.out.size)))
    go_region_held3 (fun v => v.cell? ⟨X, 0, none⟩ = some (.int .i64 regs) ∧ v.cell? ⟨X, 1, none⟩ = some (.slice a n c)) (first | exact s3 | exact s2 | go_keep) ((first
      | (go_at_call 16; (refine (Hid.out K2').mono ?_; rintro e w2 ⟨v2, rfl, ho2, hb2'⟩; have hb2 := HB1.out.trans ((((Below.refl _ w1).drew).trans hb2').mono HB1.out.size); have s2 := S2.out w2 hb2; have p0 := cellOf (MB.out w2 hb2).2 0; have p1 := cellOf (MB.out w2 hb2).2 1; have f0 := freeOf (MB.out w2 hb2).2 0; have f1 := freeOf (MB.out w2 hb2).2 1; simp only [List.getElem?_toArray, List.getElem?_cons_zero, List.getElem?_cons_succ] at p0 p1; obtain ⟨a2, m2, c2, rfl, Hm2, _, _⟩ := ho2.rdm; have s3 : (two w2 (X + 1) (.int .i64 regs) (.slice a2 m2 c2)).cell? ⟨X, 0, none⟩ = some (.int .i64 regs) ∧ (two w2 (X + 1) (.int .i64 regs) (.slice a2 m2 c2)).cell? ⟨X, 1, none⟩ = some (.slice a n c) := ⟨(cellOf ((two_heap w2 (X + 1) _ _ (by omega)).trans (MB.out w2 hb2).1) 0), (cellOf ((two_heap w2 (X + 1) _ _ (by omega)).trans (MB.out w2 hb2).1) 1)⟩; simp only [two] at s3))))
    have h3 := two_new (MB.out w2 hb2).2 (.int .i64 regs) (.slice a2 m2 c2)
    have hbb := two_below (BW.out w2 hb2) (b := X + 1) (by have := HX.out; omega) (.int .i64 regs) (.slice a2 m2 c2)
    have hoo : OpR (two w2 (X + 1) (.int .i64 regs) (.slice a2 m2 c2)) w.heap.size (.slice a2 m2 c2) (layB bs) := (ho2.lower (show w.heap.size ≤ w1.heap.size from (BW.out w1 HB1.out).size)).keep fun g e => two_heap _ _ _ _ (by have h1 : w1.heap.size ≤ g := (ho2.own e).1; have := HB1.out.size; have := Z0.out; omega)
    have q0 := cellOf h3 0
    have q1 := cellOf h3 1
    simp only [two, List.getElem?_toArray, List.getElem?_cons_zero, List.getElem?_cons_succ] at q0 q1 hbb hoo
    have HBB := hid hbb
    have HOO := hid hoo
    clear s2 s3 hb2 hb2' ho2 p0 p1 f0 f1 h3 hbb hoo
    go_wp2
    refine bodyPost_ret (v := .tuple #[.agg #[.int .i64 regs, .slice a2 m2 c2], .int .i64 0]) (by simp [results, Try.results8, go_sem, q0, q1]) rfl ⟨HBB.out, .inl ⟨HO.out, _, rfl, HOO.out⟩⟩
end Go.Proofs.Ytkkcbabhccfllaa

namespace Go.Proofs.Ytkkcbabhccfllaa
open Go.RowKit Go.Deep Go.Shelf
set_option linter.unusedVariables false
set_option linter.unusedSimpArgs false
/- The law's own blocks. -/
def kB : List Blk := [⟨none, 0, 0, 38, 0, 1, 0, []⟩, ⟨none, 0, 0, 40, -1, 0, 0, []⟩]
theorem kB_isG : isG kB = true := by kernel_rfl
theorem kB_lay : layB kB = [⟨40, 0, -1, 0, 0⟩] := by kernel_rfl
theorem kB_len : (layA 0 kB).length ≤ 100000 := of_decide_eq_true (by kernel_rfl)
theorem kB_rch : Rch (blkW kB) 1 := .step .zero (by show 1 ∈ [1]; simp)
theorem kB_rd {w : World} {X : Nat} (h : w.heap[X]? = some (.cells #[.slice none 0 0, .int .i64 38, .int .i64 0, .int .i64 1, .int .i64 0, .slice none 0 0, .int .i64 40, .int .i64 (-1), .int .i64 0, .int .i64 0] 47 (0, 0))) : BRd w (some ⟨X, 0, none⟩) kB := by
  have q := cellOf h
  refine ⟨fun j x hx => ?_, fun x hx => ?_⟩
  · cases j with
    | zero =>
      have : x = ⟨none, 0, 0, 38, 0, 1, 0, []⟩ := by simpa [kB] using hx.symm
      subst this
      refine ⟨X, 0, rfl, fun i hi => ?_⟩
      rcases (show i = 0 ∨ i = 1 ∨ i = 2 ∨ i = 3 ∨ i = 4 by omega) with rfl | rfl | rfl | rfl | rfl
      · exact q 0
      · exact q 1
      · exact q 2
      · exact q 3
      · exact q 4
    | succ j =>
      cases j with
      | zero =>
        have : x = ⟨none, 0, 0, 40, -1, 0, 0, []⟩ := by simpa [kB] using hx.symm
        subst this
        refine ⟨X, 0, rfl, fun i hi => ?_⟩
        rcases (show i = 0 ∨ i = 1 ∨ i = 2 ∨ i = 3 ∨ i = 4 by omega) with rfl | rfl | rfl | rfl | rfl
        · exact q 5
        · exact q 6
        · exact q 7
        · exact q 8
        · exact q 9
      | succ j => simp [kB] at hx
  · have : x.ops = [] ∧ x.on = 0 := by
      rcases List.mem_cons.1 hx with rfl | hx
      · exact ⟨rfl, rfl⟩
      · obtain rfl : x = _ := by simpa using hx
        exact ⟨rfl, rfl⟩
    exact ⟨by rw [this.1, this.2]; rfl, by omega, by rw [this.1]; intro j y hy; simp at hy⟩
theorem kB_nil : ∀ b ∈ kB, b.oa = none → b.oc = 0 := by
  intro x hx _
  rcases List.mem_cons.1 hx with rfl | hx
  · rfl
  · obtain rfl : x = _ := by simpa using hx
    rfl
set_option maxRecDepth 100000 in
set_option maxHeartbeats 2000000 in
theorem known_any (w : World) : Calls Try.prog 6 #[] w fun e w' => e = .returned (.bool true) ∧ Below w.heap.size w w' := by
  obtain ⟨X, hX⟩ : ∃ X, X = w.heap.size := ⟨_, rfl⟩
  obtain ⟨W0, hW0⟩ : ∃ W0, W0 = w.alloc (.cells #[.slice none 0 0, .int .i64 38, .int .i64 0, .int .i64 1, .int .i64 0, .slice none 0 0, .int .i64 40, .int .i64 (-1), .int .i64 0, .int .i64 0] 47) := ⟨_, rfl⟩
  obtain ⟨W1, hW1⟩ : ∃ W1, W1 = W0.alloc (.cells #[.int .i64 0, .slice (some ⟨X, 0, none⟩) 2 2] 24) := ⟨_, rfl⟩
  have z0 : W0.heap.size = X + 1 := by rw [hW0, hX]; simp
  have b0 : Below w.heap.size w W0 := by rw [hW0]; exact (Below.refl _ _).alloc (Nat.le_refl _) _
  have b1 : Below W0.heap.size W0 W1 := by rw [hW1]; exact (Below.refl _ _).alloc (Nat.le_refl _) _
  have m0 : W1.heap[X]? = some (.cells #[.slice none 0 0, .int .i64 38, .int .i64 0, .int .i64 1, .int .i64 0, .slice none 0 0, .int .i64 40, .int .i64 (-1), .int .i64 0, .int .i64 0] 47 (0, 0)) := (b1.block X (by omega)).trans (by rw [hW0, hX]; exact heap_alloc_new _ _)
  have m1 : W1.heap[X + 1]? = some (.cells #[.int .i64 0, .slice (some ⟨X, 0, none⟩) 2 2] 24 (0, 0)) := by rw [← z0, hW1]; exact heap_alloc_new _ _
  have hr := kB_rd m0
  have bw1 : Below w.heap.size w W1 := b0.trans (b1.mono b0.size)
  have K1 := hid (fn_any W1 0 (some ⟨X, 0, none⟩) 2 2 kB rfl (by omega) hr kB_nil kB_len)
  have K2 := hid (fun (v : World) (hv : Below W1.heap.size W1 v) => reached_any v 0 (some ⟨X, 0, none⟩) 2 2 kB rfl (by omega) (hr.below hv))
  have CB := hid (fun (v : World) (hv : Below W1.heap.size W1 v) => (⟨cellOf ((hv.block (X + 1) (lt_of_heap m1)).trans m1) 0, cellOf ((hv.block (X + 1) (lt_of_heap m1)).trans m1) 1⟩ : v.cell? ⟨X + 1, 0, none⟩ = some (.int .i64 0) ∧ v.cell? ⟨X + 1, 1, none⟩ = some (.slice (some ⟨X, 0, none⟩) 2 2)))
  obtain ⟨x0, x1⟩ := CB.out W1 (Below.refl _ _)
  have HB1 := hid bw1
  clear z0 b0 b1 m0 m1 hr bw1
  go_enter Try.func6, Try.ntmps6
  go_upto_region 2 with fail
  rw [← hX, ← hW0, ← hW1]
  clear hX hW0 hW1
  go_upto_region 3 with (go_at_call 8; (refine (Hid.out K1).mono ?_; rintro e w2 ⟨hb2, (⟨_, v2, rfl, ho2⟩ | ⟨hf, _⟩)⟩; rotate_left; (rw [kB_isG] at hf; cases hf); rw [kB_lay] at ho2; obtain ⟨_, g2, c2, rfl⟩ : _ ∧ ∃ g c, v2 = .slice (some ⟨g, 0, none⟩) 1 c := (by { obtain ⟨a', m', c', e', _, _, _⟩ := ho2.rdm; subst e'; obtain ⟨h1, g', h2, _⟩ := ho2.some (by simp); subst h2; subst h1; exact ⟨trivial, g', c', rfl⟩ }); have HO2 := hid ho2; have HB2 := hid hb2; clear ho2 hb2 x0 x1))
  obtain ⟨Y, hY⟩ : ∃ Y, Y = w2.heap.size := ⟨_, rfl⟩
  obtain ⟨W3, hW3⟩ : ∃ W3, W3 = w2.alloc (.cells #[.int .i64 0, .slice (some ⟨g2, 0, none⟩) 1 c2] 29) := ⟨_, rfl⟩
  have b3 : Below w2.heap.size w2 W3 := by rw [hW3]; exact (Below.refl _ _).alloc (Nat.le_refl _) _
  have m3 : W3.heap[Y]? = some (.cells #[.int .i64 0, .slice (some ⟨g2, 0, none⟩) 1 c2] 29 (0, 0)) := by rw [hW3, hY]; exact heap_alloc_new _ _
  have b13 : Below W1.heap.size W1 W3 := HB2.out.trans (b3.mono HB2.out.size)
  have HO3 := hid (HO2.out.below (Nat.le_refl _) b3)
  have K3 := hid (K2.out W3 b13)
  obtain ⟨y0, y1⟩ := CB.out W3 b13
  have RB := hid (fun (v : World) (hv : Below W3.heap.size W3 v) => (by
    have h := (hv.block Y (lt_of_heap m3)).trans m3
    obtain ⟨b', off', e', hc⟩ := (HO3.out.below (Nat.le_refl _) hv).ord 0 _ rfl
    cases e'
    exact ⟨cellOf h 0, cellOf h 1, by have := hc 0 (by omega); simpa [Opx.cs] using this⟩ : v.cell? ⟨Y, 0, none⟩ = some (.int .i64 0) ∧ v.cell? ⟨Y, 1, none⟩ = some (.slice (some ⟨g2, 0, none⟩) 1 c2) ∧ v.cell? ⟨g2, 0, none⟩ = some (.int .i64 40)))
  have HB3 := hid (HB1.out.trans (b13.mono HB1.out.size))
  rw [← hY, ← hW3]
  clear hY hW3 b3 m3 b13 K1 K2 HO2 HO3 HB2 CB
  go_wp2_with (go_at_call 10; (refine (Hid.out K3).mono ?_; rintro e w4 ⟨hb4, (⟨_, P, b4, rfl, _, hm4, hP⟩ | ⟨hf, _⟩)⟩; rotate_left; (rw [kB_isG] at hf; cases hf); obtain ⟨r0, r1, r2⟩ := RB.out w4 hb4; have r3 := cellOf hm4 1; rw [mk_get (by omega), decide_eq_true ((hP 1 (by omega)).2 kB_rch)] at r3; have HB4 := hid (HB3.out.trans (hb4.mono HB3.out.size)); clear hb4 hm4 hP y0 y1))
  go_ret
  exact ⟨rfl, HB4.out⟩
end Go.Proofs.Ytkkcbabhccfllaa

namespace Go.Proofs.Ytkkcbabhccfllaa
open Go.RowKit Go.Deep Go.Shelf
set_option linter.unusedVariables false
set_option linter.unusedSimpArgs false
structure Rf (n : Nat) (ways : Nat → List Nat) (P ws : List Nat) (k : Nat) : Prop where
  nod : P.Nodup
  lt : ∀ x ∈ P, x < n
  wlt : ∀ x ∈ ws, x < n
  rp : ∀ x ∈ ws, Rch ways x
  ps : ∀ x ∈ P, x ∈ ws
  z : 0 ∈ ws
  cl : ∀ x ∈ P, ∀ t ∈ ways x, t ∈ ws
  dn : ∀ j, j < k → ∀ x, ws[j]? = some x → x ∈ P
  len : ws.length ≤ 1 + 2 * P.length
  kl : k ≤ ws.length
theorem Rf.start {n : Nat} {ways : Nat → List Nat} (h : 0 < n) : Rf n ways [] [0] 0 :=
  ⟨by simp, by simp, fun x hx => by simp at hx; omega, fun x hx => by simp at hx; subst hx; exact .zero, by simp, by simp, by simp, fun j hj => by omega, by simp, by simp⟩
theorem Rf.skip {n k x : Nat} {ways : Nat → List Nat} {P ws : List Nat} (h : Rf n ways P ws k) (hx : ws[k]? = some x) (hp : x ∈ P) : Rf n ways P ws (k + 1) :=
  ⟨h.nod, h.lt, h.wlt, h.rp, h.ps, h.z, h.cl, fun j hj y hy => by
    by_cases e : j = k
    · subst e; rw [hx] at hy; cases hy; exact hp
    · exact h.dn j (by omega) y hy, h.len, (List.getElem?_eq_some_iff.1 hx).1⟩
theorem Rf.fin {n k : Nat} {ways : Nat → List Nat} {P ws : List Nat} (h : Rf n ways P ws k) (hk : k = ws.length) : ∀ x, x ∈ P ↔ Rch ways x := by
  have hwp : ∀ x ∈ ws, x ∈ P := fun x hx => by
    obtain ⟨j, hj⟩ := List.getElem?_of_mem hx
    exact h.dn j (by have := (List.getElem?_eq_some_iff.1 hj).1; omega) x hj
  exact fun x => ⟨fun hx => h.rp x (h.ps x hx), rch_sub (p := fun x => x ∈ P) (hwp _ h.z) (fun i t hi ht => hwp _ (h.cl i hi t ht)) x⟩
theorem Rf.room {n k : Nat} {ways : Nat → List Nat} {P ws : List Nat} (h : Rf n ways P ws k) : P.length ≤ n := nodup_le n P h.nod h.lt
end Go.Proofs.Ytkkcbabhccfllaa

namespace Go.Proofs.Ytkkcbabhccfllaa
open Go.RowKit Go.Deep Go.Shelf
set_option linter.unusedVariables false
set_option linter.unusedSimpArgs false
attribute [local go_sem] Oper.semAt_some
theorem noGoto_ret23 {Q : Exit → Act → World → Prop} {a : Act} {w : World} (h : Q .ret a w) : Exit.noGoto Q .ret a w := h
theorem noGoto_nor23 {Q : Exit → Act → World → Prop} {a : Act} {w : World} (h : Q .normal a w) : Exit.noGoto Q .normal a w := h
/- What the ways tell. -/
def Ways23 (w0 : World) (cnt Fb : Nat) (ways : Nat → List Nat) : Prop := ∀ (W : World) (i : Nat), Below w0.heap.size w0 W → i < cnt → Calls Try.prog 23 #[.int .i64 (i : Int), .pointer (some ⟨Fb, 0, none⟩)] W fun e W' => ∃ a c, e = .returned (.slice a (ways i).length c) ∧ GRow W' W.heap.size a (ways i).length c (ofN (ways i)) ∧ Below W.heap.size W W'

set_option maxRecDepth 100000 in
set_option maxHeartbeats 2000000 in
theorem walk23_in (w0 : World) (cnt Fb : Nat) (ways : Nat → List Nat) (h0 : 0 < cnt) (hcn : cnt ≤ 10000) (hwl : ∀ i, (ways i).length ≤ 2) (hwt : ∀ i, i < cnt → ∀ t ∈ ways i, t < cnt) (hW : Ways23 w0 cnt Fb ways) (n : Nat) (hn : 1 ≤ n) (l C1 C2 L T : Nat)
    (d1 : C1 ≠ L) (d2 : C1 ≠ T) (d3 : C2 ≠ L) (d4 : C2 ≠ T)
    (J Jx : List (Fin cnt) → World → Prop)
    (hY : ∀ pre x W, J pre W → pre.length < cnt → YieldAt Fence.wide (n - 1) Try.prog l (encF x) W fun e W' =>
      (e = .returned (.bool true) ∧ J (pre ++ [x]) W' ∧ KW w0.heap.size L T W W') ∨ (e = .returned (.bool false) ∧ Jx (pre ++ [x]) W'))
    (W : World) (hb : Below w0.heap.size w0 W) (hC1 : W.heap[C1]? = some (.cells #[.int .i64 (cnt : Int)] 3 (0, 0))) (hC2 : W.heap[C2]? = some (.cells #[.func (.func 23) #[] #[.pointer (some ⟨Fb, 0, none⟩)]] 54 (0, 0))) (hL : L < W.heap.size) (hT : T < W.heap.size)
    (hJa : ∀ s A A' row, J s A → A.grownBy A' row → (∀ r, row = some r → W.heap.size ≤ r) → J s A') (hJ0 : J [] W) :
    CallsIn Fence.wide n Try.prog 33 #[.func (.yield l) #[] #[], .pointer (some ⟨C1, 0, none⟩), .pointer (some ⟨C2, 0, none⟩)] W fun e W' => (∃ v, e = .returned v) ∧
      ((∃ ys : List (Fin cnt), (∀ x : Nat, x ∈ vals ys ↔ Rch ways x) ∧ J ys W') ∨ (∃ pre : List (Fin cnt), ((vals pre).Nodup ∧ ∀ x ∈ vals pre, Rch ways x) ∧ Jx pre W')) := by
  refine callsIn_of_wp Try.func33 rfl trivial ?_ rfl
  simp only [Try.ntmps33, List.size_toArray, List.length_cons, List.length_nil, Nat.reduceAdd, Nat.reduceSub, Array.replicate_succ, Array.replicate_zero, List.push_toArray, List.append_toArray, List.nil_append, List.cons_append]
  have hcI : (cnt : Int) ≤ 10000 := by omega
  have hcI0 : (0 : Int) < (cnt : Int) := by omega
  have HY := hid hY
  have HJa := hid hJa
  obtain ⟨fn', tmps, assign, body, hy, hRd⟩ := HY.out [] ⟨0, h0⟩ W hJ0 h0
  have hRd' : RoundIn Fence.wide (n - 1) Try.prog l fn' tmps assign body W (fun e W' => ∃ b : Bool, e = .returned (.bool b) ∧ ((b = true → J ([] ++ [⟨0, h0⟩]) W' ∧ KW w0.heap.size L T W W') ∧ (b = false → Jx ([] ++ [⟨0, h0⟩]) W'))) := by
    refine hRd.mono ?_
    rintro e W' (⟨rfl, h1, h2⟩ | ⟨rfl, h1⟩)
    · exact ⟨true, rfl, ⟨fun _ => ⟨h1, h2⟩, fun h => (by cases h)⟩⟩
    · exact ⟨false, rfl, ⟨fun h => (by cases h), fun _ => h1⟩⟩
  clear hRd
  have HRd := hid hRd'
  rw [show encF (⟨0, h0⟩ : Fin cnt) = #[.int .i64 0] from rfl] at hy
  have HC1 := hid hC1
  have HC2 := hid hC2
  have HB := hid hb
  have HW := hid hW
  have HJ0 := hid hJ0
  clear hRd' hY hJa hC1 hC2 hb hW hJ0
  refine wpIn_scope_wide ?_
  gi_wp2
  refine (Hid.out HRd).mono ?_
  rintro e W1 ⟨bb, rfl, hor⟩
  cases bb with
  | false =>
    have hor' := hor.2 rfl
    gi_wp2
    refine noGoto_ret23 ?_
    refine bodyPost_ret (results_none rfl _ _ _) rfl ?_
    exact ⟨⟨_, rfl⟩, .inr ⟨_, ⟨by simp [vals], fun x hx => by simp [vals] at hx; subst hx; exact .zero⟩, hor'⟩⟩
  | true =>
    have hor' := hor.1 rfl
    have HJ1 := hid hor'.1
    have HK1 := hid hor'.2
    have k1 := HK1.out.2 _ _ _ _ d1 d2 HC1.out
    have k2 := HK1.out.2 _ _ _ _ d3 d4 HC2.out
    have e1 := cellOf k1 0
    have e2 := cellOf k2 0
    have hl1 := lt_of_heap k1
    have hl2 := lt_of_heap k2
    have hz1 : W.heap.size ≤ W1.heap.size := HK1.out.1.size
    obtain ⟨SB, hSB⟩ : ∃ SB, SB = W1.heap.size := ⟨_, rfl⟩
    have mkB := run_mkB W1 cnt (by omega)
    have mk0 : (mk cnt [])[0]? = some (.bool false) := by rw [mk_get h0]; simp
    obtain ⟨Ws, hWs⟩ : ∃ Ws, Ws = (W1.alloc (.cells ((mk cnt []).setIfInBounds 0 (.bool true)) 4)).alloc (.cells #[.int .i64 0] 3) := ⟨_, rfl⟩
    have bs : Below W1.heap.size W1 Ws := by rw [hWs]; exact ((Below.refl _ _).alloc (Nat.le_refl _) _).alloc (by rw [World.size_alloc]; omega) _
    have zs : Ws.heap.size = SB + 2 := by rw [hWs, hSB]; simp
    have ms : Ws.heap[SB]? = some (.cells (mk cnt [0]) 4 (0, 0)) := by
      have := heap_alloc_new W1 (.cells ((mk cnt []).setIfInBounds 0 (.bool true)) 4)
      rw [hWs, hSB, Below.heap_alloc _ _ _ (by simp), this, mk_snoc [] h0]
      rfl
    have mo : Ws.heap[SB + 1]? = some (.cells #[.int .i64 0] 3 (0, 0)) := by
      have := heap_alloc_new (W1.alloc (.cells ((mk cnt []).setIfInBounds 0 (.bool true)) 4)) (.cells #[.int .i64 0] 3)
      rw [World.size_alloc] at this
      rw [hWs, hSB]; exact this
    have HK : Hid (WkR w0 C1 C2 SB cnt (.func (.func 23) #[] #[.pointer (some ⟨Fb, 0, none⟩)]) [0] Ws) := hid ⟨(HB.out.trans HK1.out.1).trans (bs.mono (by have := HB.out.size; omega)), (bs.block _ hl1).trans k1, (bs.block _ hl2).trans k2, ms⟩
    have HG : Hid (GRow Ws (SB + 1) (some ⟨SB + 1, 0, none⟩) 1 1 (ofN [0])) := hid ⟨rfl, Nat.le_refl _, fun x ex => by cases ex; exact ⟨_, rfl, by omega, by omega⟩, fun _ => ⟨_, _, rfl, mo, Nat.le_refl _, rfl⟩⟩
    have HJ : Hid (J [⟨0, h0⟩] Ws) := hid (HJa.out _ _ _ none HJ1.out (below_grown bs) (by simp))
    have hC1s : C1 < SB := by omega
    have hC2s : C2 < SB := by omega
    have hLs : L < SB := by omega
    have hTs : T < SB := by omega
    have hSw : W.heap.size ≤ SB := by omega
    have hS0 : w0.heap.size ≤ SB := by have := HB.out.size; omega
    have HSB := hid hSB
    clear hor hor' HRd hy bs zs ms mo k1 k2 HJ0 hl1 hl2 hz1
    gi_wp2
    refine wpIn_label ?_
    rw [← hSB, ← hWs]
    clear mkB hWs e1 e2 mk0 HSB hSB HC1 HC2 HJ1 HK1
    gi_wp2
    gi_loopg [5] (2 * (cnt - 1) + 1) (fun g x wr => ∃ (pre : List (Fin cnt)) (op : List Nat) (a : Option Addr) (m c : Nat), x = .slice a m c ∧ m = op.length ∧ 2 * (cnt - pre.length) + op.length = g ∧ pre.length ≤ cnt ∧ op.length ≤ pre.length ∧ GRow wr (SB + 1) a m c (ofN op) ∧ WkR w0 C1 C2 SB cnt (.func (.func 23) #[] #[.pointer (some ⟨Fb, 0, none⟩)]) (vals pre) wr ∧ J pre wr ∧ Good cnt ways (vals pre) op)
    case atStart => exact ⟨[⟨0, h0⟩], [0], _, _, _, rfl, rfl, by simp, h0, Nat.le_refl _, HG.out, HK.out, HJ.out, Good.start h0⟩
    case round =>
      obtain ⟨pre, op, a, m, c, rfl, hm, hg, hpc, hop, hGr, hWk, hJr, hGd⟩ := hrel
      rcases List.eq_nil_or_concat op with rfl | ⟨op', fr, rfl⟩
      · have hm0 : m = 0 := hm
        subst hm0
        have HJ2 := hid hJr
        have HG2 := hid hGd
        clear hGr hWk hJr hGd HG HK HJ hg hm
        gi_wp2
        refine noGoto_nor23 ?_
        go_end0
        exact ⟨⟨_, rfl⟩, .inl ⟨pre, HG2.out.fin, HJ2.out⟩⟩
      · rw [List.concat_eq_append] at hg hop hGd hm hGr
        obtain ⟨k, hk⟩ : ∃ k, k = op'.length := ⟨_, rfl⟩
        have hm1 : m = k + 1 := by rw [hm, hk]; simp
        subst hm1
        have hfr : fr < cnt := hGd.lt _ (hGd.o _ (by simp))
        obtain ⟨g5, rfl, hBg, hcell, _⟩ := hGr.cell (j := k) (x := (fr : Int)) (by rw [ofN_snoc, hk, ← ofN_len]; simp)
        have e2 := cellOf hWk.c2 0
        simp only [List.getElem?_toArray, List.getElem?_cons_zero] at e2
        have hkI : ((k + 1 : Nat) : Int) - 1 = (k : Int) := by omega
        have hkI0 : (0 : Int) ≤ (k : Int) := by omega
        have hkI1 : (k : Int) < 10000 := by simp at hop; omega
        have hGc := hGr
        rw [ofN_snoc] at hGc
        have HGr := hid hGc.cut
        have hcap := hGr.nc
        have hgl := lt_of_heap hWk.s
        have hSr : W.heap.size ≤ wr.heap.size := by omega
        have K9 := hid (HW.out wr fr hWk.b hfr)
        have HWk := hid hWk
        have HJr := hid hJr
        have HGd := hid hGd.pop
        have Hg := hid hg
        have Hop := hid hop
        have Hk := hid hk
        clear hGr hGc hWk hJr hGd HG HK HJ hm hg hop hk
        gi_wp2_with (refine ⟨trivial, ?_⟩; gi_at_call 23; refine (callsIn_wide.2 (Hid.out K9)).mono ?_; rintro e w1 ⟨ra, rc, rfl, hrr, hb1⟩; have HRR := hid hrr; have HB1 := hid hb1; clear hrr hb1)
        obtain ⟨q, hq⟩ : ∃ q, q = (ways fr).length := ⟨_, rfl⟩
        have hqI : (q : Int) ≤ 2 := by have := hwl fr; omega
        have HRq : Hid (GRow w1 wr.heap.size ra q rc (ofN (ways fr))) := hid (by rw [hq]; exact HRR.out)
        rw [← hq]
        have Hq := hid hq
        have HWk1 := hid (HWk.out.below HB1.out)
        have HGr1 := hid (HGr.out.below (Nat.le_refl _) HB1.out)
        have HJr1 := hid (HJa.out _ _ _ none HJr.out (below_grown HB1.out) (by simp))
        have HGr0 := HGr
        clear hq HRR e2 hcell K9 HWk HGr HJr
        obtain ⟨gk0, hgk0⟩ : ∃ x, x = gk := ⟨_, rfl⟩
        obtain ⟨r0, hr0⟩ : ∃ x, x = wr.heap.size := ⟨_, rfl⟩
        rw [← hr0] at HRq hgl
        rw [← hgk0] at Hg
        gi_loopg [5, 35] q (fun g x y wr2 => ∃ (j : Nat) (pre2 : List (Fin cnt)) (op2 : List Nat) (a2 : Option Addr) (m5 c5 : Nat), y = .int .i64 (j : Int) ∧ j + g = q ∧ x = .slice a2 m5 c5 ∧ m5 = op2.length ∧ 2 * (cnt - pre2.length) + op2.length + 1 ≤ gk0 ∧ pre2.length ≤ cnt ∧ op2.length + 1 ≤ pre2.length ∧ (∀ x y : Addr, a2 = some x → ra = some y → x.block ≠ y.block) ∧ GRow wr2 (SB + 1) a2 m5 c5 (ofN op2) ∧ GRow wr2 r0 ra q rc (ofN (ways fr)) ∧ WkR w0 C1 C2 SB cnt (.func (.func 23) #[] #[.pointer (some ⟨Fb, 0, none⟩)]) (vals pre2) wr2 ∧ J pre2 wr2 ∧ Goin cnt ways fr j (vals pre2) op2)
        case atStart => exact ⟨0, pre, op', _, _, _, rfl, by omega, rfl, Hk.out, by have := Hg.out; simp at this; omega, hpc, by have := Hop.out; simpa using this, fun x y ex ey => by obtain ⟨g1, e1, h1, h2⟩ := HGr0.out.at' x ex; obtain ⟨g2, e2, h3, h4⟩ := HRq.out.at' y ey; subst e1; subst e2; show g1 ≠ g2; omega, HGr1.out, HRq.out, HWk1.out, HJr1.out, HGd.out⟩
        case round =>
          obtain ⟨j, pre2, op2, a2, m5, c5, rfl, hj, rfl, hm5, hg2, hpc2, hop2, hdj, hGr2, hRq2, hWk2, hJr2, hGd2⟩ := hrel
          cases gk with
          | zero =>
            have hjq : j = q := by omega
            subst hjq
            have HG3 : Hid (Good cnt ways (vals pre2) op2) := hid (by have := hGd2; rw [Hq.out] at this; exact this.done)
            have HGr3 := hid hGr2
            have HWk3 := hid hWk2
            have HJ3 := hid hJr2
            have HM5 := hid hm5
            have Hgk := hid hgk0
            clear hGr2 hWk2 hJr2 hGd2 hm5 hgk0 hr0 hRq2 HWk1 HGr1 HJr1 HRq HGd Hq Hk
            gi_wp2
            gi_roundg (2 * (cnt - pre2.length) + op2.length)
            case measure => have := Hgk.out; omega
            exact ⟨pre2, op2, _, _, _, rfl, HM5.out, rfl, hpc2, by omega, HGr3.out, HWk3.out, HJ3.out, HG3.out⟩
          | succ g =>
            obtain ⟨t, ht⟩ : ∃ t, (ways fr)[j]? = some t := ⟨(ways fr)[j]'(by have := Hq.out; omega), List.getElem?_eq_getElem _⟩
            have htc : t < cnt := hwt fr hfr t (List.mem_of_getElem? ht)
            obtain ⟨g6, rfl, hB6, hc6, _⟩ := hRq2.cell (ofN_get ht)
            have hj0 : (0 : Int) ≤ (j : Int) := by omega
            have hj1 : (j : Int) < (q : Int) := by omega
            have ht0 : (0 : Int) ≤ (t : Int) := by omega
            have ht1 : (t : Int) < (cnt : Int) := by omega
            have hsc := cellOf hWk2.s t
            rw [mk_get htc] at hsc
            have Hm5 := hid hm5
            have Ht := hid ht
            have Hgk := hid hgk0
            by_cases hin : t ∈ vals pre2
            · rw [decide_eq_true hin] at hsc
              have HGr3 := hid hGr2
              have HWk3 := hid hWk2
              have HJ3 := hid hJr2
              have HRq3 := hid hRq2
              have HG3 := hid (hGd2.skip ht hin)
              clear hGr2 hWk2 hJr2 hGd2 hm5 hgk0 hr0 hRq2 HWk1 HGr1 HJr1 HRq HGd Hk ht
              gi_wp2
              gi_roundg g
              case measure => omega
              exact ⟨j + 1, pre2, op2, _, _, _, by go_num, by omega, rfl, Hm5.out, hg2, hpc2, hop2, hdj, HGr3.out, HRq3.out, HWk3.out, HJ3.out, HG3.out⟩
            · rw [decide_eq_false hin] at hsc
              have hroom : pre2.length < cnt := by have := hGd2.room hin htc; rw [vals_len] at this; exact this
              obtain ⟨fn2, tmps2, assign2, body2, hy2, hRd2⟩ := HY.out pre2 ⟨t, htc⟩ _ hJr2 hroom
              have hRd3 : RoundIn Fence.wide (n - 1) Try.prog l fn2 tmps2 assign2 body2 wr (fun e W' => ∃ b : Bool, e = .returned (.bool b) ∧ ((b = true → J (pre2 ++ [⟨t, htc⟩]) W' ∧ KW w0.heap.size L T wr W') ∧ (b = false → Jx (pre2 ++ [⟨t, htc⟩]) W'))) := by
                refine hRd2.mono ?_
                rintro e W' (⟨rfl, h1, h2⟩ | ⟨rfl, h1⟩)
                · exact ⟨true, rfl, ⟨fun _ => ⟨h1, h2⟩, fun h => (by cases h)⟩⟩
                · exact ⟨false, rfl, ⟨fun h => (by cases h), fun _ => h1⟩⟩
              rw [show encF (⟨t, htc⟩ : Fin cnt) = #[.int .i64 (t : Int)] from rfl] at hy2
              have HRd3 := hid hRd3
              have HGr3 := hid hGr2
              have HWk3 := hid hWk2
              have HJ3 := hid hJr2
              have HRq3 := hid hRq2
              have HG3 := hid (hGd2.take ht hin htc)
              have Hr0 : Hid (SB < r0) := hid hgl
              clear hGr2 hWk2 hJr2 hGd2 hm5 hgk0 hr0 hRq2 HWk1 HGr1 HJr1 HRq HGd Hk ht hRd2 hRd3
              gi_wp2
              refine (Hid.out HRd3).mono ?_
              rintro e W3 ⟨bb, rfl, hor⟩
              cases bb with
              | false =>
                have hor' := hor.2 rfl
                gi_wp2
                refine noGoto_nor23 ?_
                go_end0
                exact ⟨⟨_, rfl⟩, .inr ⟨_, ⟨by rw [vals_snoc]; exact HG3.out.nod, fun x hx => by rw [vals_snoc] at hx; exact HG3.out.rch x hx⟩, hor'⟩⟩
              | true =>
                have hor' := hor.1 rfl
                have HJ4 := hid hor'.1
                have hk4 := hor'.2
                have HWk4 := hid (HWk3.out.kw hk4 d1 d2 d3 d4 (by omega) (by omega))
                have HGr4 := hid (HGr3.out.kw hk4 (by omega) (by omega))
                have HRq4 := hid (HRq3.out.kw hk4 (by omega) (by omega))
                have hsc4 := cellOf HWk4.out.s t
                rw [mk_get htc, decide_eq_false hin] at hsc4
                have hsf4 := freeOf HWk4.out.s t
                have hSl := lt_of_heap HWk4.out.s
                have HWk5 := hid (HWk4.out.set (x := t) htc (by omega) (by omega) hS0)
                obtain ⟨W4, hW4⟩ : ∃ W4, W4 = W3.setCell ⟨SB, t, none⟩ (.bool true) := ⟨_, rfl⟩
                rw [← hW4] at HWk5
                have hz4 : W4.heap.size = W3.heap.size := by rw [hW4]; simp [World.setCell]
                have hkp : ∀ b, b ≠ SB → W4.heap[b]? = W3.heap[b]? := fun b hb => by rw [hW4]; exact Below.heap_setCell _ _ _ _ hb
                have HGr5 : Hid (GRow W4 (SB + 1) a2 m5 c5 (ofN op2)) := hid (HGr4.out.keep (by omega) (fun x ex => by obtain ⟨g', rfl, h1, h2⟩ := HGr4.out.at' x ex; exact hkp g' (by omega)))
                have HRq5 : Hid (GRow W4 r0 (some ⟨g6, 0, none⟩) q rc (ofN (ways fr))) := hid (HRq4.out.keep (by omega) (fun x ex => by obtain ⟨g', rfl, h1, h2⟩ := HRq4.out.at' x ex; exact hkp g' (by show g' ≠ SB; omega)))
                have HJ5 : Hid (J (pre2 ++ [⟨t, htc⟩]) W4) := hid (HJa.out _ _ _ (some SB) HJ4.out (by rw [hW4]; exact ⟨rfl, rfl, rfl, by simp [World.setCell], fun i hi hne => Below.heap_setCell _ _ _ _ (fun e => hne (by rw [e]))⟩) (fun b e => by cases e; exact hSw))
                have hm5b : m5 ≤ 1000000 := by have := Hm5.out; omega
                have hS5 : SB + 1 ≤ W4.heap.size := by omega
                clear hor hor' hk4 hy2 hsc hc6 hz4 hkp
                gi_upto_region 13 with fail
                rw [← hW4]
                clear hW4 hsc4 hsf4
                gi_wp2_with (gi_at_builtin; refine wpListIn_app1 W4 rfl _ _ rfl a2 m5 c5 (t : Int) (by rfl) (by rfl) (SB + 1) (ofN op2) HGr5.out hm5b hS5 ?_; intro a5 c6 W5 hg5 hgw5; have HG5 := hid hg5; have HW5 := hid hgw5; clear hg5 hgw5)
                obtain ⟨⟨row, hgr, hrow⟩, hnew⟩ := HW5.out
                have hrb : ∀ b, row = some b → SB + 1 ≤ b ∧ b ≠ g6 := fun b e => by
                  obtain ⟨x, ex, rfl⟩ := hrow b e
                  obtain ⟨g', rfl, h1, h2⟩ := HGr5.out.at' x ex
                  exact ⟨h1, hdj _ _ ex rfl⟩
                have hg6 : g6 < W4.heap.size := by
                  obtain ⟨g', e, h1, h2⟩ := HRq5.out.at' _ rfl
                  cases e; exact h2
                have ba : Below W4.heap.size W4 (W4.alloc (.cells #[.int .i64 (t : Int)] 3)) := (Below.refl _ _).alloc (Nat.le_refl _) _
                gi_roundg g
                case measure => omega
                refine ⟨j + 1, pre2 ++ [⟨t, htc⟩], op2 ++ [t], a5, m5 + 1, c6, by go_num, by omega, rfl, by rw [List.length_append, Hm5.out]; rfl, by simp only [List.length_append, List.length_cons, List.length_nil]; omega, by simp only [List.length_append, List.length_cons, List.length_nil]; omega, by simp only [List.length_append, List.length_cons, List.length_nil]; omega, ?_, by rw [ofN_snoc]; exact HG5.out, ?_, ?_, ?_, by rw [vals_snoc]; exact HG3.out⟩
                · intro x y ex ey
                  cases ey
                  rcases hnew with h | ⟨g', h, hg'⟩
                  · exact hdj x _ (h.symm.trans ex) rfl
                  · rw [ex] at h; cases h; show g' ≠ g6; rw [World.size_alloc] at hg'; omega
                · exact (HRq5.out.below (Nat.le_refl _) ba).keep hgr.size (fun x ex => by
                    cases ex
                    exact hgr.block g6 (by rw [World.size_alloc]; omega) (fun e => (hrb g6 e.symm).2 rfl))
                · rw [vals_snoc]
                  exact (HWk5.out.below ba).grown hgr (fun b e => by have := (hrb b e).1; exact ⟨by omega, by omega, by omega, by omega⟩)
                · exact HJa.out _ _ _ row (HJa.out _ _ _ none HJ5.out (below_grown ba) (fun r e => by cases e)) hgr (fun b e => by have := (hrb b e).1; omega)
end Go.Proofs.Ytkkcbabhccfllaa

namespace Go.Proofs.Ytkkcbabhccfllaa
open Go.RowKit Go.Deep Go.Shelf
set_option linter.unusedVariables false
set_option linter.unusedSimpArgs false
attribute [local go_sem] Oper.semAt_some
/- Between two rounds of met: the marks, the box of their row, how many are left. -/
structure MI23 (w : World) (cnt : Nat) (pre : List (Fin cnt)) (W : World) : Prop where
  r : W.heap[w.heap.size]? = some (.cells (mk cnt (vals pre)) 4 (0, 0))
  b : W.heap[w.heap.size + 1]? = some (.cells #[.slice (some ⟨w.heap.size, 0, none⟩) cnt cnt] 37 (0, 0))
  t : W.heap[w.heap.size + 1 + 1]? = some (.cells #[.int .i64 ((cnt : Int) - (pre.length : Int))] 3 (0, 0))
  bl : Below w.heap.size w W
theorem MI23.grown {w : World} {cnt : Nat} {pre : List (Fin cnt)} {A A' : World} {row : Option Nat} (h : MI23 w cnt pre A) (k : A.grownBy A' row) (hr : ∀ r, row = some r → w.heap.size + 3 ≤ r) : MI23 w cnt pre A' := by
  have hb : ∀ j, j < A.heap.size → j < w.heap.size + 3 → A'.heap[j]? = A.heap[j]? := fun j hj hn => k.block j hj (fun e => by have := hr j e.symm; omega)
  refine ⟨(hb _ (lt_of_heap h.r) (by omega)).trans h.r, (hb _ (lt_of_heap h.b) (by omega)).trans h.b, (hb _ (lt_of_heap h.t) (by omega)).trans h.t, ⟨k.os.trans h.bl.os, k.tape.trans h.bl.tape, k.output.trans h.bl.output, Nat.le_trans h.bl.size k.size, fun j hj => ?_⟩⟩
  exact (hb j (Nat.lt_of_lt_of_le hj h.bl.size) (by omega)).trans (h.bl.block j hj)
theorem seq23 (w0 : World) (cnt Fb : Nat) (ways : Nat → List Nat) (h0 : 0 < cnt) (hcn : cnt ≤ 10000) (hwl : ∀ i, (ways i).length ≤ 2) (hwt : ∀ i, i < cnt → ∀ t ∈ ways i, t < cnt) (hW : Ways23 w0 cnt Fb ways) (n : Nat) (hn : 1 ≤ n) (C1 C2 L T : Nat) (d1 : C1 ≠ L) (d2 : C1 ≠ T) (d3 : C2 ≠ L) (d4 : C2 ≠ T) (w : World)
    (hb : Below w0.heap.size w0 w) (hC1 : w.heap[C1]? = some (.cells #[.int .i64 (cnt : Int)] 3 (0, 0))) (hC2 : w.heap[C2]? = some (.cells #[.func (.func 23) #[] #[.pointer (some ⟨Fb, 0, none⟩)]] 54 (0, 0))) (hL : L < w.heap.size) (hT : T < w.heap.size) :
    SeqW Fence.wide n 33 #[.pointer (some ⟨C1, 0, none⟩), .pointer (some ⟨C2, 0, none⟩)] (fun x : Fin cnt => #[.int .i64 (x.val : Int)]) (KW w0.heap.size L T) (fun ys => ∀ x : Nat, x ∈ vals ys ↔ Rch ways x) (fun pre => (vals pre).Nodup ∧ ∀ x ∈ vals pre, Rch ways x) cnt w := fun l J Jx W hW1 hz hJa hY hJ0 =>
  walk23_in w0 cnt Fb ways h0 hcn hwl hwt hW n hn l C1 C2 L T d1 d2 d3 d4 J Jx hY W (hb.trans (hW1.mono hb.size)) ((hW1.block C1 (lt_of_heap hC1)).trans hC1) ((hW1.block C2 (lt_of_heap hC2)).trans hC2) (by omega) (by omega) hJa hJ0
theorem make23 (F : Fence) (n : Nat) (h31 : F.fn 31) (hro : F.round = none) (cnt : Nat) (Fb : Nat) (w : World) :
    CallsIn F n Try.prog 31 #[.int .i64 (cnt : Int), .func (.func 23) #[] #[.pointer (some ⟨Fb, 0, none⟩)]] w fun e w' => e = .returned (.func (.func 33) #[] #[.pointer (some ⟨w.heap.size, 0, none⟩), .pointer (some ⟨w.heap.size + 1, 0, none⟩)]) ∧ w' = (w.alloc (.cells #[.int .i64 (cnt : Int)] 3)).alloc (.cells #[.func (.func 23) #[] #[.pointer (some ⟨Fb, 0, none⟩)]] 54) := by
  refine callsIn_of_wp Try.func31 rfl h31 ?_ hro
  simp only [Try.ntmps31, List.size_toArray, List.length_cons, List.length_nil, Nat.reduceAdd, Nat.reduceSub, Array.replicate_succ, Array.replicate_zero, List.push_toArray, List.append_toArray, List.nil_append, List.cons_append]
  gi_wp2
  go_ret
  exact ⟨rfl, rfl⟩
set_option maxRecDepth 100000 in
set_option maxHeartbeats 2000000 in
theorem met23_any (w : World) (cnt Fb : Nat) (ways : Nat → List Nat) (h0 : 0 < cnt) (hcn : cnt ≤ 10000) (hwl : ∀ i, (ways i).length ≤ 2) (hwt : ∀ i, i < cnt → ∀ t ∈ ways i, t < cnt) (hW : Ways23 w cnt Fb ways) :
    Calls Try.prog 19 #[.int .i64 (cnt : Int), .func (.func 23) #[] #[.pointer (some ⟨Fb, 0, none⟩)]] w fun e w' => e = .returned (.slice (some ⟨w.heap.size, 0, none⟩) cnt cnt) ∧ (∃ P : List Nat, w'.heap[w.heap.size]? = some (.cells (mk cnt P) 4 (0, 0)) ∧ ∀ x, x < cnt → (x ∈ P ↔ Rch ways x)) ∧ Below w.heap.size w w' := by
  have hro : Fence.wide.round = none := rfl
  have mkB := run_mkB w cnt (by omega)
  obtain ⟨X, hX⟩ : ∃ X, X = w.heap.size := ⟨_, rfl⟩
  obtain ⟨W2, hW2⟩ : ∃ W2, W2 = ((w.alloc (.cells (mk cnt []) 4)).alloc (.cells #[.slice (some ⟨w.heap.size, 0, none⟩) cnt cnt] 37)).alloc (.cells #[.int .i64 (cnt : Int)] 3) := ⟨_, rfl⟩
  obtain ⟨W4, hW4⟩ : ∃ W4, W4 = (W2.alloc (.cells #[.int .i64 (cnt : Int)] 3)).alloc (.cells #[.func (.func 23) #[] #[.pointer (some ⟨Fb, 0, none⟩)]] 54) := ⟨_, rfl⟩
  have hcI : (cnt : Int) ≤ 10000 := by omega
  have hcI0 : (0 : Int) < (cnt : Int) := by omega
  have e0 := heap_alloc_new w (.cells (mk cnt []) 4)
  have e1 := heap_alloc_new (w.alloc (.cells (mk cnt []) 4)) (.cells #[.slice (some ⟨w.heap.size, 0, none⟩) cnt cnt] 37)
  have e2 := heap_alloc_new ((w.alloc (.cells (mk cnt []) 4)).alloc (.cells #[.slice (some ⟨w.heap.size, 0, none⟩) cnt cnt] 37)) (.cells #[.int .i64 (cnt : Int)] 3)
  have e3 := heap_alloc_new W2 (.cells #[.int .i64 (cnt : Int)] 3)
  have e4 := heap_alloc_new (W2.alloc (.cells #[.int .i64 (cnt : Int)] 3)) (.cells #[.func (.func 23) #[] #[.pointer (some ⟨Fb, 0, none⟩)]] 54)
  have z2 : W2.heap.size = w.heap.size + 1 + 1 + 1 := by rw [hW2]; simp
  have z4 : W4.heap.size = w.heap.size + 1 + 1 + 1 + 1 + 1 := by rw [hW4]; simp [z2]
  simp only [World.size_alloc] at e1 e2 e4
  have b2 : Below w.heap.size w W2 := by rw [hW2]; exact (((Below.refl _ w).alloc (Nat.le_refl _) _).alloc (by simp) _).alloc (by simp; omega) _
  have b4 : Below W2.heap.size W2 W4 := by rw [hW4]; exact ((Below.refl _ W2).alloc (Nat.le_refl _) _).alloc (by simp) _
  have q0 : W2.heap[w.heap.size]? = some (.cells (mk cnt []) 4 (0, 0)) := by rw [hW2, Below.heap_alloc _ _ _ (by simp; omega), Below.heap_alloc _ _ _ (by simp)]; exact e0
  have q1 : W2.heap[w.heap.size + 1]? = some (.cells #[.slice (some ⟨w.heap.size, 0, none⟩) cnt cnt] 37 (0, 0)) := by rw [hW2, Below.heap_alloc _ _ _ (by simp)]; exact e1
  have q2 : W2.heap[w.heap.size + 1 + 1]? = some (.cells #[.int .i64 (cnt : Int)] 3 (0, 0)) := by rw [hW2]; exact e2
  have q3 : W4.heap[W2.heap.size]? = some (.cells #[.int .i64 (cnt : Int)] 3 (0, 0)) := by rw [hW4, Below.heap_alloc _ _ _ (by simp)]; exact e3
  have q4 : W4.heap[W2.heap.size + 1]? = some (.cells #[.func (.func 23) #[] #[.pointer (some ⟨Fb, 0, none⟩)]] 54 (0, 0)) := by rw [hW4]; exact e4
  have bw4 : Below w.heap.size w W4 := b2.trans (b4.mono b2.size)
  have hI0 : MI23 w cnt [] W4 := ⟨(b4.block _ (by omega)).trans q0, (b4.block _ (by omega)).trans q1, (b4.block _ (by omega)).trans (by rw [q2]; simp), bw4⟩
  rw [z2] at q3 q4
  have hseq := seq23 w cnt Fb ways h0 hcn hwl hwt hW 5 (by omega) (w.heap.size + 1 + 1 + 1) (w.heap.size + 1 + 1 + 1 + 1) w.heap.size (w.heap.size + 1 + 1) (by omega) (by omega) (by omega) (by omega) W4 bw4 q3 q4 (by omega) (by omega)
  clear e0 e1 e2 e3 e4 b2 b4 q0 q1 q2 q3 q4 bw4 hW
  refine (callsIn_wide (n := 6)).1 ?_
  refine callsIn_of_wp_marks Try.func19 rfl trivial ?_ hro
  simp only [Try.ntmps19, List.size_toArray, List.length_cons, List.length_nil, Nat.reduceAdd, Nat.reduceSub, Array.replicate_succ, Array.replicate_zero, List.push_toArray, List.append_toArray, List.nil_append, List.cons_append]
  gi_upto_region 3 with fail
  rw [← hW2]
  clear hW2 mkB hX
  gi_wp2_with (refine ⟨trivial, ?_⟩; gi_at_call 31; refine (make23 _ _ trivial hro _ _ _).mono ?_; rintro e w7 ⟨rfl, rfl⟩)
  rw [← hW4]
  clear hW4 z2
  refine range_own (q := 0) (gf := 33) (lb := #[.pointer (some ⟨w.heap.size + 1 + 1 + 1, 0, none⟩), .pointer (some ⟨w.heap.size + 1 + 1 + 1 + 1, 0, none⟩)]) (by omega) rfl (enters_of Try.func33 (by kernel_rfl) rfl) hseq KW_t (KW_b (by omega)) (MI23 w cnt) (fun pre W => MI23 w cnt pre W ∧ pre.length = cnt) hI0
    (fun s A A' row h k hr => h.grown k (fun r e => by have := hr r e; omega)) (fun s A A' row h k hr => ⟨h.1.grown k (fun r e => by have := hr r e; omega), h.2⟩)
    (fun x : Fin cnt => { tmps := #[.int .i64 (cnt : Int), .func (.func 23) #[] #[.pointer (some ⟨Fb, 0, none⟩)], undef, undef, .slice none 0 0, .pointer (some ⟨w.heap.size + 1, 0, none⟩), .pointer (some ⟨w.heap.size + 1 + 1, 0, none⟩), .int .i64 (x.val : Int), .int .i64 (cnt : Int), .slice (some ⟨w.heap.size, 0, none⟩) cnt cnt, .int .i64 (cnt : Int), .int .i64 (cnt : Int), .func (.func 23) #[] #[.pointer (some ⟨Fb, 0, none⟩)], .func (.func 33) #[] #[.pointer (some ⟨w.heap.size + 1 + 1 + 1, 0, none⟩), .pointer (some ⟨w.heap.size + 1 + 1 + 1 + 1, 0, none⟩)], .int .i64 (x.val : Int), undef, undef, undef, undef, undef, undef, undef, undef], defers := [] }) ?assign ?body ?done ?stop
  case assign =>
    intro l x W K hK
    simp only [List.setIfInBounds_toArray, List.set_cons_succ, List.set_cons_zero]
    gi_wp2
    exact hK
  case body =>
    intro l pre x W hz hi hlt
    have hx := x.isLt
    have c0 := cellOf hi.r x.val
    rw [mk_get hx] at c0
    have f0 := freeOf hi.r x.val
    have c1 := cellOf hi.b 0
    have c2 := cellOf hi.t 0
    have f2 := freeOf hi.t 0
    simp only [List.getElem?_toArray, List.getElem?_cons_zero] at c1 c2
    have HI := hid hi
    have hl0 := lt_of_heap hi.r
    have hl2 := lt_of_heap hi.t
    obtain ⟨u, hu⟩ : ∃ u : Nat, pre.length + u + 1 = cnt := ⟨cnt - pre.length - 1, by omega⟩
    have hcu : (cnt : Int) - (pre.length : Int) = (u : Int) + 1 := by omega
    rw [hcu] at c2
    have huI : (u : Int) ≤ 10000 := by omega
    have huI0 : (0 : Int) ≤ (u : Int) := by omega
    have hxI : (x.val : Int) < (cnt : Int) := by omega
    have hxI0 : (0 : Int) ≤ (x.val : Int) := by omega
    have Hu := hid hu
    have Hcu := hid hcu
    obtain ⟨xv, hxv⟩ : ∃ xv, xv = x.val := ⟨_, rfl⟩
    have Hxv := hid hxv
    rw [← hxv] at c0 f0 hxI hxI0 hx
    simp only [← hxv]
    have h5 : ∀ (W5 : World), W5 = (W.setCell ⟨w.heap.size, xv, none⟩ (.bool true)).setCell ⟨w.heap.size + 1 + 1, 0, none⟩ (.int .i64 (u : Int)) → (W5.heap[W4.heap.size]? = W.heap[W4.heap.size]? ∧ W5.heap[W4.heap.size + 1]? = W.heap[W4.heap.size + 1]?) ∧ KW w.heap.size w.heap.size (w.heap.size + 1 + 1) W W5 ∧ MI23 w cnt (pre ++ [x]) W5 := by
      intro W5 e5
      have k5 : ∀ b, b ≠ w.heap.size → b ≠ w.heap.size + 1 + 1 → W5.heap[b]? = W.heap[b]? := fun b h1 h2 => by
        rw [e5]; exact (Below.heap_setCell _ _ _ _ h2).trans (Below.heap_setCell _ _ _ _ h1)
      have bl5 : Below w.heap.size W W5 := by
        rw [e5]; exact ((Below.refl _ W).setCell (p := ⟨w.heap.size, xv, none⟩) (Nat.le_refl _) _).setCell (p := ⟨w.heap.size + 1 + 1, 0, none⟩) (by show w.heap.size ≤ w.heap.size + 1 + 1; omega) _
      refine ⟨⟨k5 _ (by omega) (by omega), k5 _ (by omega) (by omega)⟩, ⟨bl5, fun b c t f h1 h2 h3 => (k5 b h1 h2).trans h3⟩, ⟨?_, (k5 _ (by omega) (by omega)).trans HI.out.b, ?_, HI.out.bl.trans bl5⟩⟩
      · rw [e5, Below.heap_setCell _ _ _ _ (by show w.heap.size ≠ w.heap.size + 1 + 1; omega), heap_set_at HI.out.r, vals_snoc, ← Hxv.out, mk_snoc _ hx]
      · have ht : (W.setCell ⟨w.heap.size, xv, none⟩ (.bool true)).heap[w.heap.size + 1 + 1]? = some (.cells #[.int .i64 ((cnt : Int) - (pre.length : Int))] 3 (0, 0)) := (Below.heap_setCell _ _ _ _ (by show w.heap.size + 1 + 1 ≠ w.heap.size; omega)).trans HI.out.t
        rw [e5, heap_set_at ht]
        have : ((cnt : Int) - ((pre ++ [x]).length : Int)) = (u : Int) := by rw [List.length_append]; simp; omega
        rw [this]; rfl
    have H5 := hid h5
    clear hseq hi h5 hI0 hu hcu hxv
    by_cases hu0 : u = 0
    · have hub : ((u : Int) == 0) = true := by subst hu0; rfl
      subst hu0
      gi_wp2
      exact ⟨rfl, (H5.out _ rfl).1, (H5.out _ rfl).2.2, by have := Hu.out; rw [List.length_append]; simp; omega⟩
    · have hub : ((u : Int) == 0) = false := by simp; omega
      gi_wp2
      exact H5.out _ rfl
  case done =>
    intro xs W hS hi hK
    have HS := hid hS
    clear hS
    have HK := hid hK
    have HI := hid hi
    have c1 := cellOf hi.b 0
    simp only [List.getElem?_toArray, List.getElem?_cons_zero] at c1
    clear hseq hi hK hI0
    gi_wp2
    have kD := HK.out
    have hmi : MI23 w cnt xs (W.putObj W4.heap.size (.deferred none)) := HI.out.grown (grownBy_putObj' _ _ _) (fun r e => by cases e; omega)
    refine ⟨by simp, .inl ⟨_, _, rfl, run_takeDeferred kD, ?_⟩⟩
    refine ⟨.slice (some ⟨w.heap.size, 0, none⟩) cnt cnt, by simp [results, Try.results19, go_sem], ?_⟩
    exact ⟨rfl, ⟨vals xs, hmi.r, fun x hx => HS.out x⟩, hmi.bl⟩
  case stop =>
    intro xs W hS hi hK
    obtain ⟨hi, hlen⟩ := hi
    have hall : ∀ x, x < cnt → x ∈ vals xs := fun x hx => by
      refine Classical.byContradiction fun hn => ?_
      have := nodup_le cnt (x :: vals xs) (List.nodup_cons.2 ⟨hn, hS.1⟩) (fun y hy => by
        rcases List.mem_cons.1 hy with rfl | hy
        · exact hx
        · obtain ⟨z, _, rfl⟩ := List.mem_map.1 hy
          exact z.isLt)
      rw [List.length_cons, vals_len] at this
      omega
    have HS : Hid (∀ x, x < cnt → (x ∈ vals xs ↔ Rch ways x)) := hid fun x hx => ⟨hS.2 x, fun _ => hall x hx⟩
    clear hS hall hlen
    have HK := hid hK
    have HI := hid hi
    have c1 := cellOf hi.b 0
    simp only [List.getElem?_toArray, List.getElem?_cons_zero] at c1
    clear hseq hi hK hI0
    gi_wp2
    have kD := HK.out
    have hmi : MI23 w cnt xs (W.putObj W4.heap.size (.deferred none)) := HI.out.grown (grownBy_putObj' _ _ _) (fun r e => by cases e; omega)
    refine ⟨by simp, .inl ⟨_, _, rfl, run_takeDeferred kD, ?_⟩⟩
    refine ⟨.slice (some ⟨w.heap.size, 0, none⟩) cnt cnt, by simp [results, Try.results19, go_sem], ?_⟩
    exact ⟨rfl, ⟨vals xs, hmi.r, fun x hx => HS.out x hx⟩, hmi.bl⟩
end Go.Proofs.Ytkkcbabhccfllaa

