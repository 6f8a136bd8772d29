/- met over the ways of function 23. -/
import Derived.Test.YtkkcbabhccfllaaJAD
import Derived.Sort.CutIn
namespace Go.Proofs.Ytkkcbabhccfllaa
open Go.RowKit Go.Deep Go.Shelf
set_option linter.unusedVariables false
set_option linter.unusedSimpArgs false
attribute [local go_sem] Oper.semAt_some
/- Between two rounds of met: the marks, the box of their row, how many are left. -/
structure MI23 (w : World) (cnt : Nat) (pre : List (Fin cnt)) (W : World) : Prop where
  r : W.heap[w.heap.size]? = some (.cells (mk cnt (vals pre)) 4 (0, 0))
  b : W.heap[w.heap.size + 1]? = some (.cells #[.slice (some ⟨w.heap.size, 0, none⟩) cnt cnt] 37 (0, 0))
  t : W.heap[w.heap.size + 1 + 1]? = some (.cells #[.int .i64 ((cnt : Int) - (pre.length : Int))] 3 (0, 0))
  bl : Below w.heap.size w W
theorem MI23.grown {w : World} {cnt : Nat} {pre : List (Fin cnt)} {A A' : World} {row : Option Nat} (h : MI23 w cnt pre A) (k : A.grownBy A' row) (hr : ∀ r, row = some r → w.heap.size + 3 ≤ r) : MI23 w cnt pre A' := by
  have hb : ∀ j, j < A.heap.size → j < w.heap.size + 3 → A'.heap[j]? = A.heap[j]? := fun j hj hn => k.block j hj (fun e => by have := hr j e.symm; omega)
  refine ⟨(hb _ (lt_of_heap h.r) (by omega)).trans h.r, (hb _ (lt_of_heap h.b) (by omega)).trans h.b, (hb _ (lt_of_heap h.t) (by omega)).trans h.t, ⟨k.os.trans h.bl.os, k.tape.trans h.bl.tape, k.output.trans h.bl.output, Nat.le_trans h.bl.size k.size, fun j hj => ?_⟩⟩
  exact (hb j (Nat.lt_of_lt_of_le hj h.bl.size) (by omega)).trans (h.bl.block j hj)
theorem seq23 (w0 : World) (cnt Fb : Nat) (ways : Nat → List Nat) (h0 : 0 < cnt) (hcn : cnt ≤ 10000) (hwl : ∀ i, (ways i).length ≤ 2) (hwt : ∀ i, i < cnt → ∀ t ∈ ways i, t < cnt) (hW : Ways23 w0 cnt Fb ways) (n : Nat) (hn : 1 ≤ n) (C1 C2 L T : Nat) (d1 : C1 ≠ L) (d2 : C1 ≠ T) (d3 : C2 ≠ L) (d4 : C2 ≠ T) (w : World)
    (hb : Below w0.heap.size w0 w) (hC1 : w.heap[C1]? = some (.cells #[.int .i64 (cnt : Int)] 3 (0, 0))) (hC2 : w.heap[C2]? = some (.cells #[.func (.func 23) #[] #[.pointer (some ⟨Fb, 0, none⟩)]] 54 (0, 0))) (hL : L < w.heap.size) (hT : T < w.heap.size) :
    SeqW Fence.wide n 33 #[.pointer (some ⟨C1, 0, none⟩), .pointer (some ⟨C2, 0, none⟩)] (fun x : Fin cnt => #[.int .i64 (x.val : Int)]) (KW w0.heap.size L T) (fun ys => ∀ x : Nat, x ∈ vals ys ↔ Rch ways x) (fun pre => (vals pre).Nodup ∧ ∀ x ∈ vals pre, Rch ways x) cnt w := fun l J Jx W hW1 hz hJa hY hJ0 =>
  walk23_in w0 cnt Fb ways h0 hcn hwl hwt hW n hn l C1 C2 L T d1 d2 d3 d4 J Jx hY W (hb.trans (hW1.mono hb.size)) ((hW1.block C1 (lt_of_heap hC1)).trans hC1) ((hW1.block C2 (lt_of_heap hC2)).trans hC2) (by omega) (by omega) hJa hJ0
theorem make23 (F : Fence) (n : Nat) (h31 : F.fn 31) (hro : F.round = none) (cnt : Nat) (Fb : Nat) (w : World) :
    CallsIn F n Try.prog 31 #[.int .i64 (cnt : Int), .func (.func 23) #[] #[.pointer (some ⟨Fb, 0, none⟩)]] w fun e w' => e = .returned (.func (.func 33) #[] #[.pointer (some ⟨w.heap.size, 0, none⟩), .pointer (some ⟨w.heap.size + 1, 0, none⟩)]) ∧ w' = (w.alloc (.cells #[.int .i64 (cnt : Int)] 3)).alloc (.cells #[.func (.func 23) #[] #[.pointer (some ⟨Fb, 0, none⟩)]] 54) := by
  refine callsIn_of_wp Try.func31 rfl h31 ?_ hro
  simp only [Try.ntmps31, List.size_toArray, List.length_cons, List.length_nil, Nat.reduceAdd, Nat.reduceSub, Array.replicate_succ, Array.replicate_zero, List.push_toArray, List.append_toArray, List.nil_append, List.cons_append]
  gi_wp2
  go_ret
  exact ⟨rfl, rfl⟩
set_option maxRecDepth 100000 in
set_option maxHeartbeats 2000000 in
theorem met23_any (w : World) (cnt Fb : Nat) (ways : Nat → List Nat) (h0 : 0 < cnt) (hcn : cnt ≤ 10000) (hwl : ∀ i, (ways i).length ≤ 2) (hwt : ∀ i, i < cnt → ∀ t ∈ ways i, t < cnt) (hW : Ways23 w cnt Fb ways) :
    Calls Try.prog 19 #[.int .i64 (cnt : Int), .func (.func 23) #[] #[.pointer (some ⟨Fb, 0, none⟩)]] w fun e w' => e = .returned (.slice (some ⟨w.heap.size, 0, none⟩) cnt cnt) ∧ (∃ P : List Nat, w'.heap[w.heap.size]? = some (.cells (mk cnt P) 4 (0, 0)) ∧ ∀ x, x < cnt → (x ∈ P ↔ Rch ways x)) ∧ Below w.heap.size w w' := by
  have hro : Fence.wide.round = none := rfl
  have mkB := run_mkB w cnt (by omega)
  obtain ⟨X, hX⟩ : ∃ X, X = w.heap.size := ⟨_, rfl⟩
  obtain ⟨W2, hW2⟩ : ∃ W2, W2 = ((w.alloc (.cells (mk cnt []) 4)).alloc (.cells #[.slice (some ⟨w.heap.size, 0, none⟩) cnt cnt] 37)).alloc (.cells #[.int .i64 (cnt : Int)] 3) := ⟨_, rfl⟩
  obtain ⟨W4, hW4⟩ : ∃ W4, W4 = (W2.alloc (.cells #[.int .i64 (cnt : Int)] 3)).alloc (.cells #[.func (.func 23) #[] #[.pointer (some ⟨Fb, 0, none⟩)]] 54) := ⟨_, rfl⟩
  have hcI : (cnt : Int) ≤ 10000 := by omega
  have hcI0 : (0 : Int) < (cnt : Int) := by omega
  have e0 := heap_alloc_new w (.cells (mk cnt []) 4)
  have e1 := heap_alloc_new (w.alloc (.cells (mk cnt []) 4)) (.cells #[.slice (some ⟨w.heap.size, 0, none⟩) cnt cnt] 37)
  have e2 := heap_alloc_new ((w.alloc (.cells (mk cnt []) 4)).alloc (.cells #[.slice (some ⟨w.heap.size, 0, none⟩) cnt cnt] 37)) (.cells #[.int .i64 (cnt : Int)] 3)
  have e3 := heap_alloc_new W2 (.cells #[.int .i64 (cnt : Int)] 3)
  have e4 := heap_alloc_new (W2.alloc (.cells #[.int .i64 (cnt : Int)] 3)) (.cells #[.func (.func 23) #[] #[.pointer (some ⟨Fb, 0, none⟩)]] 54)
  have z2 : W2.heap.size = w.heap.size + 1 + 1 + 1 := by rw [hW2]; simp
  have z4 : W4.heap.size = w.heap.size + 1 + 1 + 1 + 1 + 1 := by rw [hW4]; simp [z2]
  simp only [World.size_alloc] at e1 e2 e4
  have b2 : Below w.heap.size w W2 := by rw [hW2]; exact (((Below.refl _ w).alloc (Nat.le_refl _) _).alloc (by simp) _).alloc (by simp; omega) _
  have b4 : Below W2.heap.size W2 W4 := by rw [hW4]; exact ((Below.refl _ W2).alloc (Nat.le_refl _) _).alloc (by simp) _
  have q0 : W2.heap[w.heap.size]? = some (.cells (mk cnt []) 4 (0, 0)) := by rw [hW2, Below.heap_alloc _ _ _ (by simp; omega), Below.heap_alloc _ _ _ (by simp)]; exact e0
  have q1 : W2.heap[w.heap.size + 1]? = some (.cells #[.slice (some ⟨w.heap.size, 0, none⟩) cnt cnt] 37 (0, 0)) := by rw [hW2, Below.heap_alloc _ _ _ (by simp)]; exact e1
  have q2 : W2.heap[w.heap.size + 1 + 1]? = some (.cells #[.int .i64 (cnt : Int)] 3 (0, 0)) := by rw [hW2]; exact e2
  have q3 : W4.heap[W2.heap.size]? = some (.cells #[.int .i64 (cnt : Int)] 3 (0, 0)) := by rw [hW4, Below.heap_alloc _ _ _ (by simp)]; exact e3
  have q4 : W4.heap[W2.heap.size + 1]? = some (.cells #[.func (.func 23) #[] #[.pointer (some ⟨Fb, 0, none⟩)]] 54 (0, 0)) := by rw [hW4]; exact e4
  have bw4 : Below w.heap.size w W4 := b2.trans (b4.mono b2.size)
  have hI0 : MI23 w cnt [] W4 := ⟨(b4.block _ (by omega)).trans q0, (b4.block _ (by omega)).trans q1, (b4.block _ (by omega)).trans (by rw [q2]; simp), bw4⟩
  rw [z2] at q3 q4
  have hseq := seq23 w cnt Fb ways h0 hcn hwl hwt hW 5 (by omega) (w.heap.size + 1 + 1 + 1) (w.heap.size + 1 + 1 + 1 + 1) w.heap.size (w.heap.size + 1 + 1) (by omega) (by omega) (by omega) (by omega) W4 bw4 q3 q4 (by omega) (by omega)
  clear e0 e1 e2 e3 e4 b2 b4 q0 q1 q2 q3 q4 bw4 hW
  refine (callsIn_wide (n := 6)).1 ?_
  refine callsIn_of_wp_marks Try.func19 rfl trivial ?_ hro
  simp only [Try.ntmps19, List.size_toArray, List.length_cons, List.length_nil, Nat.reduceAdd, Nat.reduceSub, Array.replicate_succ, Array.replicate_zero, List.push_toArray, List.append_toArray, List.nil_append, List.cons_append]
  gi_upto_region 3 with fail
  rw [← hW2]
  clear hW2 mkB hX
  gi_wp2_with (refine ⟨trivial, ?_⟩; gi_at_call 31; refine (make23 _ _ trivial hro _ _ _).mono ?_; rintro e w7 ⟨rfl, rfl⟩)
  rw [← hW4]
  clear hW4 z2
  refine range_own (q := 0) (gf := 33) (lb := #[.pointer (some ⟨w.heap.size + 1 + 1 + 1, 0, none⟩), .pointer (some ⟨w.heap.size + 1 + 1 + 1 + 1, 0, none⟩)]) (by omega) rfl (enters_of Try.func33 (by kernel_rfl) rfl) hseq KW_t (KW_b (by omega)) (MI23 w cnt) (fun pre W => MI23 w cnt pre W ∧ pre.length = cnt) hI0
    (fun s A A' row h k hr => h.grown k (fun r e => by have := hr r e; omega)) (fun s A A' row h k hr => ⟨h.1.grown k (fun r e => by have := hr r e; omega), h.2⟩)
    (fun x : Fin cnt => { tmps := #[.int .i64 (cnt : Int), .func (.func 23) #[] #[.pointer (some ⟨Fb, 0, none⟩)], undef, undef, .slice none 0 0, .pointer (some ⟨w.heap.size + 1, 0, none⟩), .pointer (some ⟨w.heap.size + 1 + 1, 0, none⟩), .int .i64 (x.val : Int), .int .i64 (cnt : Int), .slice (some ⟨w.heap.size, 0, none⟩) cnt cnt, .int .i64 (cnt : Int), .int .i64 (cnt : Int), .func (.func 23) #[] #[.pointer (some ⟨Fb, 0, none⟩)], .func (.func 33) #[] #[.pointer (some ⟨w.heap.size + 1 + 1 + 1, 0, none⟩), .pointer (some ⟨w.heap.size + 1 + 1 + 1 + 1, 0, none⟩)], .int .i64 (x.val : Int), undef, undef, undef, undef, undef, undef, undef, undef], defers := [] }) ?assign ?body ?done ?stop
  case assign =>
    intro l x W K hK
    simp only [List.setIfInBounds_toArray, List.set_cons_succ, List.set_cons_zero]
    gi_wp2
    exact hK
  case body =>
    intro l pre x W hz hi hlt
    have hx := x.isLt
    have c0 := cellOf hi.r x.val
    rw [mk_get hx] at c0
    have f0 := freeOf hi.r x.val
    have c1 := cellOf hi.b 0
    have c2 := cellOf hi.t 0
    have f2 := freeOf hi.t 0
    simp only [List.getElem?_toArray, List.getElem?_cons_zero] at c1 c2
    have HI := hid hi
    have hl0 := lt_of_heap hi.r
    have hl2 := lt_of_heap hi.t
    obtain ⟨u, hu⟩ : ∃ u : Nat, pre.length + u + 1 = cnt := ⟨cnt - pre.length - 1, by omega⟩
    have hcu : (cnt : Int) - (pre.length : Int) = (u : Int) + 1 := by omega
    rw [hcu] at c2
    have huI : (u : Int) ≤ 10000 := by omega
    have huI0 : (0 : Int) ≤ (u : Int) := by omega
    have hxI : (x.val : Int) < (cnt : Int) := by omega
    have hxI0 : (0 : Int) ≤ (x.val : Int) := by omega
    have Hu := hid hu
    have Hcu := hid hcu
    obtain ⟨xv, hxv⟩ : ∃ xv, xv = x.val := ⟨_, rfl⟩
    have Hxv := hid hxv
    rw [← hxv] at c0 f0 hxI hxI0 hx
    simp only [← hxv]
    have h5 : ∀ (W5 : World), W5 = (W.setCell ⟨w.heap.size, xv, none⟩ (.bool true)).setCell ⟨w.heap.size + 1 + 1, 0, none⟩ (.int .i64 (u : Int)) → (W5.heap[W4.heap.size]? = W.heap[W4.heap.size]? ∧ W5.heap[W4.heap.size + 1]? = W.heap[W4.heap.size + 1]?) ∧ KW w.heap.size w.heap.size (w.heap.size + 1 + 1) W W5 ∧ MI23 w cnt (pre ++ [x]) W5 := by
      intro W5 e5
      have k5 : ∀ b, b ≠ w.heap.size → b ≠ w.heap.size + 1 + 1 → W5.heap[b]? = W.heap[b]? := fun b h1 h2 => by
        rw [e5]; exact (Below.heap_setCell _ _ _ _ h2).trans (Below.heap_setCell _ _ _ _ h1)
      have bl5 : Below w.heap.size W W5 := by
        rw [e5]; exact ((Below.refl _ W).setCell (p := ⟨w.heap.size, xv, none⟩) (Nat.le_refl _) _).setCell (p := ⟨w.heap.size + 1 + 1, 0, none⟩) (by show w.heap.size ≤ w.heap.size + 1 + 1; omega) _
      refine ⟨⟨k5 _ (by omega) (by omega), k5 _ (by omega) (by omega)⟩, ⟨bl5, fun b c t f h1 h2 h3 => (k5 b h1 h2).trans h3⟩, ⟨?_, (k5 _ (by omega) (by omega)).trans HI.out.b, ?_, HI.out.bl.trans bl5⟩⟩
      · rw [e5, Below.heap_setCell _ _ _ _ (by show w.heap.size ≠ w.heap.size + 1 + 1; omega), heap_set_at HI.out.r, vals_snoc, ← Hxv.out, mk_snoc _ hx]
      · have ht : (W.setCell ⟨w.heap.size, xv, none⟩ (.bool true)).heap[w.heap.size + 1 + 1]? = some (.cells #[.int .i64 ((cnt : Int) - (pre.length : Int))] 3 (0, 0)) := (Below.heap_setCell _ _ _ _ (by show w.heap.size + 1 + 1 ≠ w.heap.size; omega)).trans HI.out.t
        rw [e5, heap_set_at ht]
        have : ((cnt : Int) - ((pre ++ [x]).length : Int)) = (u : Int) := by rw [List.length_append]; simp; omega
        rw [this]; rfl
    have H5 := hid h5
    clear hseq hi h5 hI0 hu hcu hxv
    by_cases hu0 : u = 0
    · have hub : ((u : Int) == 0) = true := by subst hu0; rfl
      subst hu0
      gi_wp2
      exact ⟨rfl, (H5.out _ rfl).1, (H5.out _ rfl).2.2, by have := Hu.out; rw [List.length_append]; simp; omega⟩
    · have hub : ((u : Int) == 0) = false := by simp; omega
      gi_wp2
      exact H5.out _ rfl
  case done =>
    intro xs W hS hi hK
    have HS := hid hS
    clear hS
    have HK := hid hK
    have HI := hid hi
    have c1 := cellOf hi.b 0
    simp only [List.getElem?_toArray, List.getElem?_cons_zero] at c1
    clear hseq hi hK hI0
    gi_wp2
    have kD := HK.out
    have hmi : MI23 w cnt xs (W.putObj W4.heap.size (.deferred none)) := HI.out.grown (grownBy_putObj' _ _ _) (fun r e => by cases e; omega)
    refine ⟨by simp, .inl ⟨_, _, rfl, run_takeDeferred kD, ?_⟩⟩
    refine ⟨.slice (some ⟨w.heap.size, 0, none⟩) cnt cnt, by simp [results, Try.results19, go_sem], ?_⟩
    exact ⟨rfl, ⟨vals xs, hmi.r, fun x hx => HS.out x⟩, hmi.bl⟩
  case stop =>
    intro xs W hS hi hK
    obtain ⟨hi, hlen⟩ := hi
    have hall : ∀ x, x < cnt → x ∈ vals xs := fun x hx => by
      refine Classical.byContradiction fun hn => ?_
      have := nodup_le cnt (x :: vals xs) (List.nodup_cons.2 ⟨hn, hS.1⟩) (fun y hy => by
        rcases List.mem_cons.1 hy with rfl | hy
        · exact hx
        · obtain ⟨z, _, rfl⟩ := List.mem_map.1 hy
          exact z.isLt)
      rw [List.length_cons, vals_len] at this
      omega
    have HS : Hid (∀ x, x < cnt → (x ∈ vals xs ↔ Rch ways x)) := hid fun x hx => ⟨hS.2 x, fun _ => hall x hx⟩
    clear hS hall hlen
    have HK := hid hK
    have HI := hid hi
    have c1 := cellOf hi.b 0
    simp only [List.getElem?_toArray, List.getElem?_cons_zero] at c1
    clear hseq hi hK hI0
    gi_wp2
    have kD := HK.out
    have hmi : MI23 w cnt xs (W.putObj W4.heap.size (.deferred none)) := HI.out.grown (grownBy_putObj' _ _ _) (fun r e => by cases e; omega)
    refine ⟨by simp, .inl ⟨_, _, rfl, run_takeDeferred kD, ?_⟩⟩
    refine ⟨.slice (some ⟨w.heap.size, 0, none⟩) cnt cnt, by simp [results, Try.results19, go_sem], ?_⟩
    exact ⟨rfl, ⟨vals xs, hmi.r, fun x hx => HS.out x hx⟩, hmi.bl⟩
end Go.Proofs.Ytkkcbabhccfllaa

namespace Go.Proofs.Ytkkcbabhccfllaa
open Go.RowKit Go.Deep Go.Shelf
set_option linter.unusedVariables false
set_option linter.unusedSimpArgs false
theorem ways_at (W : World) (Fb : Nat) (a : Option Addr) (n c i : Nat) (L : List Nat) (c1 : W.cell? ⟨Fb, 1, none⟩ = some (.slice a n c)) (K : Calls Try.prog 24 #[.slice a n c, .int .i64 (i : Int)] W fun e w' => ∃ a' c', e = .returned (.slice a' L.length c') ∧ GRow w' W.heap.size a' L.length c' (ofN L) ∧ Below W.heap.size W w') :
    Calls Try.prog 23 #[.int .i64 (i : Int), .pointer (some ⟨Fb, 0, none⟩)] W fun e W' => ∃ a' c', e = .returned (.slice a' L.length c') ∧ GRow W' W.heap.size a' L.length c' (ofN L) ∧ Below W.heap.size W W' := by
  have HK := hid K
  clear K
  go_enter Try.func23, Try.ntmps23
  go_wp2_with (go_at_call 24; (refine (Hid.out HK).mono ?_; rintro e w1 ⟨a', c', rfl, hg, hb1⟩; have HG := hid hg; have HB := hid hb1; clear hg hb1))
  go_ret
  exact ⟨a', c', rfl, HG.out, HB.out⟩
theorem ways23 (w0 : World) (Fb : Nat) (regs : Int) (a : Option Addr) (n c : Nat) (ops : List Opx) (hbox : w0.heap[Fb]? = some (.cells #[.int .i64 regs, .slice a n c] 29 (0, 0))) (hn : n = ops.length) (hnb : n ≤ 1000000) (hr : ORd w0 a ops) (hok : okSt ops = true) : Ways23 w0 ops.length Fb (stepW ops) := fun W i hb hi => by
  have ho : ops[i]? = some ops[i] := List.getElem?_eq_getElem hi
  have K := followers_any W a n c ops hn hnb (hr.below hb) i ops[i] ho
  obtain ⟨e1, e2⟩ := stepW_ofN hok ho
  rw [← hn] at e1 e2
  rw [← e2, ← e1] at K
  exact ways_at W Fb a n c i (stepW ops i) (cellOf ((hb.block Fb (lt_of_heap hbox)).trans hbox) 1) K
set_option maxRecDepth 100000 in
set_option maxHeartbeats 1000000 in
theorem areSteps_any (w : World) (a : Option Addr) (n c : Nat) (ops : List Opx) (hn : n = ops.length) (hnb : n ≤ 1000000) (hr : ORd w a ops) : Calls Try.prog 22 #[.slice a n c] w fun e w' => e = .returned (.bool (okSt ops)) ∧ Below w.heap.size w w' := by
  have hnI : (n : Int) ≤ 1000000 := by omega
  have hn0 : (0 : Int) ≤ (n : Int) := by omega
  have HN := hid hn
  have HR := hid hr
  clear hn hr
  go_enter Try.func22, Try.ntmps22
  go_wp2
  go_loopg [7] n (fun g x wr => ∃ j : Nat, j + g = n ∧ x = .int .i64 (j : Int) ∧ (ops.take j).all (okO n) = true ∧ Below w.heap.size w wr)
  case atStart => exact ⟨0, by omega, rfl, by simp, Below.refl _ _⟩
  case round =>
    obtain ⟨j, hj, rfl, hp, hb⟩ := hrel
    cases gk with
    | zero =>
      have hjn : j = n := by omega
      subst hjn
      have HP : Hid (okSt ops = decide (0 < j)) := hid (by
        unfold okSt
        rw [HN.out, List.take_of_length_le (Nat.le_refl _)] at hp
        rw [hp, HN.out]; simp)
      have HB := hid hb
      clear hp hb
      go_wp2
      go_ret
      exact ⟨by rw [HP.out]; rfl, HB.out⟩
    | succ g =>
      obtain ⟨o, ho⟩ : ∃ o, ops[j]? = some o := ⟨ops[j]'(by have := HN.out; omega), List.getElem?_eq_getElem _⟩
      obtain ⟨b, off, rfl, hc⟩ := (HR.out.below hb) j o ho
      have ht : ops.take (j + 1) = ops.take j ++ [o] := by rw [List.take_add_one, ho]; rfl
      have hno : okO n o = false → okSt ops = false := fun h => by
        refine Bool.eq_false_iff.2 fun hk => ?_
        have := okSt_at hk ho
        rw [← HN.out, h] at this; cases this
      obtain ⟨oc, od, oa, ob, ok⟩ := o
      have c0 := hc 0 (by omega)
      have c1 := hc 1 (by omega)
      have c2 := hc 2 (by omega)
      have c3 := hc 3 (by omega)
      have c4 := hc 4 (by omega)
      simp only [Opx.cs, List.getElem?_toArray, List.getElem?_cons_zero, List.getElem?_cons_succ, Nat.add_zero] at c0 c1 c2 c3 c4
      have hjI : (j : Int) < (n : Int) := by omega
      have hj0 : (0 : Int) ≤ (j : Int) := by omega
      obtain ⟨W0, hW0⟩ : ∃ W0, W0 = wr.alloc (.cells #[.int .i64 oc, .int .i64 od, .int .i64 oa, .int .i64 ob, .int .i64 ok] 36) := ⟨_, rfl⟩
      have K := hid (isJump_any W0 oc od oa ob ok)
      have m0 : W0.heap[wr.heap.size]? = some (.cells #[.int .i64 oc, .int .i64 od, .int .i64 oa, .int .i64 ob, .int .i64 ok] 36 (0, 0)) := by rw [hW0]; exact heap_alloc_new _ _
      have bw0 : Below w.heap.size w W0 := by rw [hW0]; exact hb.trans ((Below.refl _ _).alloc hb.size _)
      have CB := hid (fun (v : World) (hv : Below W0.heap.size W0 v) => (by
        have h := (hv.block wr.heap.size (lt_of_heap m0)).trans m0
        exact ⟨cellOf h 0, cellOf h 1, cellOf h 2, cellOf h 3, cellOf h 4⟩ : v.cell? ⟨wr.heap.size, 0, none⟩ = some (.int .i64 oc) ∧ v.cell? ⟨wr.heap.size, 1, none⟩ = some (.int .i64 od) ∧ v.cell? ⟨wr.heap.size, 2, none⟩ = some (.int .i64 oa) ∧ v.cell? ⟨wr.heap.size, 3, none⟩ = some (.int .i64 ob) ∧ v.cell? ⟨wr.heap.size, 4, none⟩ = some (.int .i64 ok)))
      have BW := hid (fun (v : World) (hv : Below W0.heap.size W0 v) => bw0.trans (hv.mono bw0.size))
      have KW1 := hid (fun (v : World) => areWithin_any (v.alloc (.cells #[.int .i64 ok] 3)) (some ⟨v.heap.size, 0, none⟩) 1 1 [ok] rfl (by omega) (fun j x hx => by
        cases j with
        | zero => simp at hx; subst hx; exact ⟨_, 0, rfl, cellOf (heap_alloc_new v _) 0⟩
        | succ j => simp at hx) (n : Int))
      have BA := hid (fun (v v2 : World) (hv : Below w.heap.size w v) (h2 : Below (v.alloc (.cells #[.int .i64 ok] 3)).heap.size (v.alloc (.cells #[.int .i64 ok] 3)) v2) => hv.trans (((Below.refl _ v).alloc hv.size _).trans (h2.mono (by rw [World.size_alloc]; have := hv.size; omega))))
      obtain ⟨x0, x1, x2, x3, x4⟩ := CB.out W0 (Below.refl _ _)
      have HP := hid hp
      have HT := hid ht
      have HNO := hid hno
      clear m0 bw0 hp ht hno hc ho hb
      have hW0' := hid hW0
      cases hjb : jmpB ⟨oc, od, oa, ob, ok⟩ with
      | false =>
        rw [hjb] at K
        have HO : Hid (okO n ⟨oc, od, oa, ob, ok⟩ = true) := hid (by unfold okO; rw [hjb]; rfl)
        clear hjb KW1 BA
        go_upto_region 4 with fail
        rw [← hW0]
        clear hW0 hW0'
        go_wp2_with (first | (go_at_call 29; (refine (Hid.out K).mono ?_; rintro e w1 ⟨rfl, hb1⟩; have HB1 := hid (BW.out w1 hb1); clear hb1 x0 x1 x2 x3 x4)))
        go_roundg g
        case measure => omega
        exact ⟨j + 1, by omega, by go_num, by rw [HT.out, List.all_append, HP.out]; simp [HO.out], HB1.out⟩
      | true =>
        rw [hjb] at K
        have hok2 : okO n ⟨oc, od, oa, ob, ok⟩ = wthB (n : Int) [ok] := by unfold okO wthB; rw [hjb]; simp
        clear hjb
        cases hwt : wthB (n : Int) [ok] with
        | true =>
          rw [hwt] at KW1 hok2
          have HO := hid hok2
          clear hok2 hwt
          go_upto_region 4 with fail
          rw [← hW0]
          clear hW0 hW0'
          go_wp2_with (first | (go_at_call 29; (refine (Hid.out K).mono ?_; rintro e w1 ⟨rfl, hb1⟩; obtain ⟨d0, d1, d2, d3, d4⟩ := CB.out w1 hb1; have HB1 := hid (BW.out w1 hb1); clear hb1 x0 x1 x2 x3 x4)) | (go_at_call 26; (refine (KW1.out w1).mono ?_; rintro e w2 ⟨rfl, hb2⟩; have HB2 := hid (BA.out w1 w2 HB1.out hb2); clear hb2)))
          go_roundg g
          case measure => omega
          exact ⟨j + 1, by omega, by go_num, by rw [HT.out, List.all_append, HP.out]; simp [HO.out], HB2.out⟩
        | false =>
          rw [hwt] at KW1 hok2
          have HO := hid (HNO.out hok2)
          clear hok2 hwt
          go_upto_region 4 with fail
          rw [← hW0]
          clear hW0 hW0'
          go_wp2_with (first | (go_at_call 29; (refine (Hid.out K).mono ?_; rintro e w1 ⟨rfl, hb1⟩; obtain ⟨d0, d1, d2, d3, d4⟩ := CB.out w1 hb1; have HB1 := hid (BW.out w1 hb1); clear hb1 x0 x1 x2 x3 x4)) | (go_at_call 26; (refine (KW1.out w1).mono ?_; rintro e w2 ⟨rfl, hb2⟩; have HB2 := hid (BA.out w1 w2 HB1.out hb2); clear hb2)))
          go_ret
          exact ⟨by rw [HO.out]; rfl, HB2.out⟩
/- What Steps tells. -/
def StP (w : World) (ops : List Opx) (n : Nat) (bad : Int) (e : Ending) (w' : World) : Prop := Below w.heap.size w w' ∧
  ((okSt ops = true ∧ ∃ (P : List Nat) (b : Nat), e = .returned (.tuple #[.slice (some ⟨b, 0, none⟩) n n, .int .i64 0]) ∧ w.heap.size ≤ b ∧ w'.heap[b]? = some (.cells (mk n P) 4 (0, 0)) ∧ ∀ x, x < n → (x ∈ P ↔ Rch (stepW ops) x)) ∨
   (okSt ops = false ∧ e = .returned (.tuple #[.slice none 0 0, .int .i64 bad])))
set_option maxRecDepth 100000 in
set_option maxHeartbeats 1000000 in
theorem steps_any (w : World) (regs : Int) (a : Option Addr) (n c : Nat) (ops : List Opx) (hn : n = ops.length) (hnb : n ≤ 10000) (hr : ORd w a ops) : Calls Try.prog 13 #[.agg #[.int .i64 regs, .slice a n c]] w (StP w ops n 100) := by
  obtain ⟨W0, hW0⟩ : ∃ W0, W0 = w.alloc (.cells #[.int .i64 regs, .slice a n c] 29) := ⟨_, rfl⟩
  have bw0 : Below w.heap.size w W0 := by rw [hW0]; exact (Below.refl _ _).alloc (Nat.le_refl _) _
  have m0 : W0.heap[w.heap.size]? = some (.cells #[.int .i64 regs, .slice a n c] 29 (0, 0)) := by rw [hW0]; exact heap_alloc_new _ _
  have hnI : (n : Int) ≤ 10000 := by omega
  have K1 := hid (areSteps_any W0 a n c ops hn (by omega) (hr.below bw0))
  have CB := hid (fun (v : World) (hv : Below W0.heap.size W0 v) => (cellOf ((hv.block w.heap.size (lt_of_heap m0)).trans m0) 1 : v.cell? ⟨w.heap.size, 1, none⟩ = some (.slice a n c)))
  have BW := hid (fun (v : World) (hv : Below W0.heap.size W0 v) => bw0.trans (hv.mono bw0.size))
  have x1 := CB.out W0 (Below.refl _ _)
  cases hok : okSt ops with
  | false =>
    rw [hok] at K1
    have HO := hid hok
    clear m0 bw0 hr hn hok
    go_enter Try.func13, Try.ntmps13
    go_upto_region 1 with fail
    rw [← hW0]
    clear hW0
    go_wp2_with (first | (go_at_call 22; (refine (Hid.out K1).mono ?_; rintro e w1 ⟨rfl, hb1⟩; have HB1 := hid (BW.out w1 hb1); clear hb1 x1)))
    go_ret2
    exact ⟨HB1.out, .inr ⟨HO.out, rfl⟩⟩
  | true =>
    rw [hok] at K1
    have hn0 : 0 < ops.length := by unfold okSt at hok; simp at hok; omega
    have K2 := hid (fun (v : World) (hv : Below W0.heap.size W0 v) => met23_any v ops.length w.heap.size (stepW ops) hn0 (by omega) (stepW_len ops) (stepW_lt hok) (ways23 v w.heap.size regs a n c ops ((hv.block w.heap.size (lt_of_heap m0)).trans m0) hn (by omega) ((hr.below bw0).below hv) hok))
    rw [← hn] at K2
    have HO := hid hok
    clear m0 bw0 hr hn hok hn0
    go_enter Try.func13, Try.ntmps13
    go_upto_region 1 with fail
    rw [← hW0]
    clear hW0
    go_wp2_with (first | (go_at_call 22; (refine (Hid.out K1).mono ?_; rintro e w1 ⟨rfl, hb1⟩; have y1 := CB.out w1 hb1; have HB1 := hid hb1; have K2' := hid (K2.out w1 hb1); clear hb1 x1)) | (go_at_call 19; (refine (Hid.out K2').mono ?_; rintro e w2 ⟨rfl, ⟨P, hm2, hP⟩, hb2⟩; have HM2 := hid hm2; have HP2 := hid hP; have HB2 := hid hb2; clear hm2 hP hb2)))
    go_ret2
    have b1 := BW.out w1 HB1.out
    exact ⟨b1.trans (HB2.out.mono b1.size), .inl ⟨HO.out, P, w1.heap.size, rfl, b1.size, HM2.out, HP2.out⟩⟩
end Go.Proofs.Ytkkcbabhccfllaa

namespace Go.Proofs.Ytkkcbabhccfllaa
open Go.RowKit Go.Deep Go.Shelf
set_option linter.unusedVariables false
set_option linter.unusedSimpArgs false
/- Between two rounds of the second loop. -/
structure RS (w : World) (regs : Int) (a : Option Addr) (n c F0 OB : Nat) (P : List Nat) (wr : World) : Prop where
  b : Below w.heap.size w wr
  f : wr.heap[F0]? = some (.cells #[.int .i64 regs, .slice a n c] 29 (0, 0))
  s : wr.heap[OB]? = some (.cells (mk n P) 4 (0, 0))
theorem RS.below {w : World} {regs : Int} {a : Option Addr} {n c F0 OB : Nat} {P : List Nat} {wr w' : World} (h : RS w regs a n c F0 OB P wr) (k : Below wr.heap.size wr w') : RS w regs a n c F0 OB P w' :=
  ⟨h.b.trans (k.mono h.b.size), (k.block _ (lt_of_heap h.f)).trans h.f, (k.block _ (lt_of_heap h.s)).trans h.s⟩
theorem RS.low {w : World} {regs : Int} {a : Option Addr} {n c F0 OB : Nat} {P : List Nat} {wr w' : World} {B : Nat} (h : RS w regs a n c F0 OB P wr) (k : Below B wr w') (hB : w.heap.size ≤ B) (h1 : F0 < B) (h2 : OB < B) : RS w regs a n c F0 OB P w' :=
  ⟨h.b.trans (k.mono hB), (k.block _ h1).trans h.f, (k.block _ h2).trans h.s⟩
theorem RS.set {w : World} {regs : Int} {a : Option Addr} {n c F0 OB x : Nat} {P : List Nat} {wr : World} (h : RS w regs a n c F0 OB P wr) (hx : x < n) (h1 : F0 ≠ OB) (h2 : w.heap.size ≤ OB) : RS w regs a n c F0 OB (P ++ [x]) (wr.setCell ⟨OB, x, none⟩ (.bool true)) :=
  ⟨h.b.setCell (p := ⟨OB, x, none⟩) h2 _, (Below.heap_setCell _ _ _ _ h1).trans h.f, by rw [heap_set_at h.s, mk_snoc P hx]⟩
theorem Gwn.keep {w w' : World} {a a' : Option Addr} {b : Nat} (h : Gwn w a w' a') (hb : b < w.heap.size) (hne : ∀ x : Addr, a = some x → x.block ≠ b) : w'.heap[b]? = w.heap[b]? := by
  obtain ⟨⟨row, hg, hr⟩, _⟩ := h
  refine hg.block b hb (fun e => ?_)
  obtain ⟨x, ex, hx⟩ := hr b e.symm
  exact hne x ex hx
theorem stepW_at {ops : List Opx} {x : Nat} {o : Opx} (ho : ops[x]? = some o) : stepW ops x = (folO ops.length o x).map Int.toNat := by
  unfold stepW; rw [ho]
set_option maxRecDepth 100000 in
set_option maxHeartbeats 2000000 in
theorem refSteps_any (w : World) (regs : Int) (a : Option Addr) (n c : Nat) (ops : List Opx) (hn : n = ops.length) (hnb : n ≤ 10000) (hr : ORd w a ops) : Calls Try.prog 14 #[.agg #[.int .i64 regs, .slice a n c]] w (StP w ops n 100) := by
  obtain ⟨W0, hW0⟩ : ∃ W0, W0 = w.alloc (.cells #[.int .i64 regs, .slice a n c] 29) := ⟨_, rfl⟩
  have bw0 : Below w.heap.size w W0 := by rw [hW0]; exact (Below.refl _ _).alloc (Nat.le_refl _) _
  have z0 : W0.heap.size = w.heap.size + 1 := by rw [hW0]; simp
  have m0 : W0.heap[w.heap.size]? = some (.cells #[.int .i64 regs, .slice a n c] 29 (0, 0)) := by rw [hW0]; exact heap_alloc_new _ _
  have hnI : (n : Int) ≤ 10000 := by omega
  have hnI0 : (0 : Int) ≤ (n : Int) := by omega
  have HN := hid hn
  have HR := hid hr
  have HB0 := hid bw0
  have HM0 := hid m0
  have x1 := cellOf m0 1
  simp only [List.getElem?_toArray, List.getElem?_cons_zero, List.getElem?_cons_succ] at x1
  clear hr hn
  by_cases hz : n = 0
  · subst hz
    have HO : Hid (okSt ops = false) := hid (by unfold okSt; rw [← HN.out]; simp)
    clear m0 bw0 z0
    go_enter Try.func14, Try.ntmps14
    go_upto_region 1 with fail
    rw [← hW0]
    clear hW0
    go_wp2
    go_ret2
    exact ⟨HB0.out, .inr ⟨HO.out, rfl⟩⟩
  · have hzI : ¬ (n : Int) = 0 := by omega
    have hzb : ((n : Int) == 0) = false := by simpa using hzI
    have Z0 := hid z0
    clear m0 bw0 z0
    go_enter Try.func14, Try.ntmps14
    go_upto_region 1 with fail
    rw [← hW0]
    clear hW0
    go_wp2
    go_loopg [4] n (fun g x wr => ∃ j : Nat, j + g = n ∧ x = .int .i64 (j : Int) ∧ (ops.take j).all (okO n) = true ∧ Below W0.heap.size W0 wr)
    case atStart => exact ⟨0, by omega, rfl, by simp, Below.refl _ _⟩
    case round =>
      obtain ⟨j, hj, rfl, hp, hb⟩ := hrel
      have y1 := (hb.cell (p := ⟨w.heap.size, 1, none⟩) (lt_of_heap HM0.out)).trans x1
      cases gk with
      | zero =>
        have hjn : j = n := by omega
        subst hjn
        have HOK : Hid (okSt ops = true) := hid (by
          unfold okSt
          rw [HN.out, List.take_of_length_le (Nat.le_refl _)] at hp
          rw [hp, ← HN.out]; simp; omega)
        have hn0 : 0 < j := by omega
        obtain ⟨OB, hOB⟩ : ∃ OB, OB = wr.heap.size := ⟨_, rfl⟩
        have mkB := run_mkB wr j (by omega)
        obtain ⟨Ws, hWs⟩ : ∃ Ws, Ws = (wr.alloc (.cells (mk j []) 4)).alloc (.cells #[.int .i64 0] 3) := ⟨_, rfl⟩
        have bs : Below wr.heap.size wr Ws := by rw [hWs]; exact ((Below.refl _ _).alloc (Nat.le_refl _) _).alloc (by rw [World.size_alloc]; omega) _
        have zs : Ws.heap.size = OB + 2 := by rw [hWs, hOB]; simp
        have ms : Ws.heap[OB]? = some (.cells (mk j []) 4 (0, 0)) := by rw [hWs, hOB, Below.heap_alloc _ _ _ (by simp)]; exact heap_alloc_new _ _
        have mo : Ws.heap[OB + 1]? = some (.cells #[.int .i64 0] 3 (0, 0)) := by
          have := heap_alloc_new (wr.alloc (.cells (mk j []) 4)) (.cells #[.int .i64 0] 3)
          rw [World.size_alloc] at this
          rw [hWs, hOB]; exact this
        have bwr := HB0.out.trans (hb.mono HB0.out.size)
        have hF0 : w.heap.size < OB := by have := hb.size; have := Z0.out; omega
        have HS : Hid (RS w regs a j c w.heap.size OB [] Ws) := hid ⟨bwr.trans (bs.mono bwr.size), ((bs.block _ (by omega)).trans (hb.block _ (by have := Z0.out; omega))).trans HM0.out, ms⟩
        have HG : Hid (GRow Ws (OB + 1) (some ⟨OB + 1, 0, none⟩) 1 1 (ofN [0])) := hid ⟨rfl, Nat.le_refl _, fun x ex => by cases ex; exact ⟨_, rfl, by omega, by omega⟩, fun _ => ⟨_, _, rfl, mo, Nat.le_refl _, rfl⟩⟩
        clear bs zs ms mo bwr hp hb
        go_upto_region 11 with fail
        rw [← hOB, ← hWs]
        clear hWs hOB mkB x1 y1
        go_wp2
        go_loopg [7, 8] (2 * j + 1) (fun g x y wr2 => ∃ (P ws : List Nat) (k : Nat) (a5 : Option Addr) (m5 c5 : Nat), y = .int .i64 (k : Int) ∧ x = .slice a5 m5 c5 ∧ m5 = ws.length ∧ 2 * (j - P.length) + (ws.length - k) = g ∧ GRow wr2 (OB + 1) a5 m5 c5 (ofN ws) ∧ RS w regs a j c w.heap.size OB P wr2 ∧ Rf j (stepW ops) P ws k)
        case atStart => exact ⟨[], [0], 0, _, _, _, rfl, rfl, rfl, by simp, HG.out, HS.out, Rf.start hn0⟩
        case round =>
          obtain ⟨P, ws, k, a5, m5, c5, rfl, rfl, hm5, hg, hG, hS, hR⟩ := hrel
          have hPl := hR.room
          have hwl := hR.len
          have hm5b : (m5 : Int) ≤ 100000 := by omega
          by_cases hk : k < m5
          · obtain ⟨x, hx⟩ : ∃ x, ws[k]? = some x := ⟨ws[k]'(by omega), List.getElem?_eq_getElem _⟩
            have hxn : x < j := hR.wlt x (List.mem_of_getElem? hx)
            obtain ⟨g5, rfl, hB5, hc5, _⟩ := hG.cell (ofN_get hx)
            have hsc := cellOf hS.s x
            rw [mk_get hxn] at hsc
            have hkI : (k : Int) < (m5 : Int) := by omega
            have hk0 : (0 : Int) ≤ (k : Int) := by omega
            have hxI : (x : Int) < (j : Int) := by omega
            have hx0 : (0 : Int) ≤ (x : Int) := by omega
            have Hm5 := hid hm5
            have Hg := hid hg
            have hkw : k < ws.length := by omega
            by_cases hin : x ∈ P
            · rw [decide_eq_true hin] at hsc
              have HG2 := hid hG
              have HS2 := hid hS
              have HR2 := hid (hR.skip hx hin)
              clear hG hS hR HG HS hg hm5 hx
              go_wp2
              go_roundg (2 * (j - P.length) + (ws.length - (k + 1)))
              case measure => have := Hg.out; omega
              exact ⟨P, ws, k + 1, _, _, _, by go_num, rfl, Hm5.out, rfl, HG2.out, HS2.out, HR2.out⟩
            · rw [decide_eq_false hin] at hsc
              have hsf := freeOf hS.s x
              obtain ⟨o, ho⟩ : ∃ o, ops[x]? = some o := ⟨ops[x]'(by have := HN.out; omega), List.getElem?_eq_getElem _⟩
              have hPx : P.length < j := by
                have := nodup_le j (P ++ [x]) (by
                  rw [List.nodup_append]
                  exact ⟨hR.nod, by simp, fun a ha b hb => by simp at hb; subst hb; intro e; subst e; exact hin ha⟩) (fun y hy => by
                  rcases List.mem_append.1 hy with hy | hy
                  · exact hR.lt y hy
                  · simp at hy; omega)
                simp at this; omega
              have hokx : okO j o = true := by have := okSt_at HOK.out ho; rw [← HN.out] at this; exact this
              have HR2 := hid (hR.mark hx hin (stepW_len ops x) (by have := stepW_lt HOK.out x (by rw [← HN.out]; exact hxn); rw [← HN.out] at this; exact this))
              have HSW : Hid (stepW ops x = (folO j o x).map Int.toNat) := hid (by rw [stepW_at ho, ← HN.out])
              obtain ⟨W4, hW4⟩ : ∃ W4, W4 = wr.setCell ⟨OB, x, none⟩ (.bool true) := ⟨_, rfl⟩
              have hS4 : RS w regs a j c w.heap.size OB (P ++ [x]) W4 := by rw [hW4]; exact hS.set hxn (by omega) (by omega)
              have z4 : W4.heap.size = wr.heap.size := by rw [hW4]; simp [World.setCell]
              have hG4 : GRow W4 (OB + 1) (some ⟨g5, 0, none⟩) m5 c5 (ofN ws) := hG.keep (by omega) (fun y ey => by cases ey; rw [hW4]; exact Below.heap_setCell _ _ _ _ (by show g5 ≠ OB; omega))
              obtain ⟨b, off, ea, hc⟩ := (HR.out.below hS4.b) x o ho
              obtain ⟨oc, od, oa, ob, ok⟩ := o
              have c0 := hc 0 (by omega)
              have c1 := hc 1 (by omega)
              have c2 := hc 2 (by omega)
              have c3 := hc 3 (by omega)
              have c4 := hc 4 (by omega)
              simp only [Opx.cs, List.getElem?_toArray, List.getElem?_cons_zero, List.getElem?_cons_succ, Nat.add_zero] at c0 c1 c2 c3 c4
              obtain ⟨W5, hW5⟩ : ∃ W5, W5 = W4.alloc (.cells #[.int .i64 oc, .int .i64 od, .int .i64 oa, .int .i64 ob, .int .i64 ok] 36) := ⟨_, rfl⟩
              have b5 : Below W4.heap.size W4 W5 := by rw [hW5]; exact (Below.refl _ _).alloc (Nat.le_refl _) _
              have m5' : W5.heap[W4.heap.size]? = some (.cells #[.int .i64 oc, .int .i64 od, .int .i64 oa, .int .i64 ob, .int .i64 ok] 36 (0, 0)) := by rw [hW5]; exact heap_alloc_new _ _
              have hS5 := hS4.below b5
              have hG5 := hG4.below (Nat.le_refl _) b5
              have z5 : W5.heap.size = W4.heap.size + 1 := by rw [hW5]; simp
              have e4 := cellOf hS4.f 1
              have e5 := cellOf hS5.f 1
              simp only [List.getElem?_toArray, List.getElem?_cons_zero, List.getElem?_cons_succ] at e4 e5
              obtain ⟨X, hX⟩ : ∃ X, X = W4.heap.size := ⟨_, rfl⟩
              rw [← hX] at m5' z5
              have x0 := cellOf m5' 0
              have x4 := cellOf m5' 4
              simp only [List.getElem?_toArray, List.getElem?_cons_zero, List.getElem?_cons_succ] at x0 x4
              have hgX : g5 < X := by obtain ⟨g', e, h1, h2⟩ := hG4.at' _ rfl; cases e; omega
              have hOX : OB + 1 ≤ X := by omega
              have hO5 : OB + 1 ≤ W5.heap.size := by omega
              have HS5 := hid hS5
              have HG5 := hid hG5
              have HM5' := hid m5'
              have hm5n : m5 ≤ 1000000 := by omega
              /- What an append behind W5 leaves. -/
              have AP := hid (fun (v v2 : World) (a1 a2 : Option Addr) (y : Int) (hRS : RS w regs a j c w.heap.size OB (P ++ [x]) v) (hX2 : v.heap[X]? = some (.cells #[.int .i64 oc, .int .i64 od, .int .i64 oa, .int .i64 ob, .int .i64 ok] 36 (0, 0))) (ha : ∀ z : Addr, a1 = some z → OB + 1 ≤ z.block ∧ z.block ≠ X) (hOv : OB + 1 ≤ v.heap.size) (h : Gwn (v.alloc (.cells #[.int .i64 y] 3)) a1 v2 a2) => (by
                have hbl : Below (OB + 1) v v2 := (below_own hOv _).trans (h.below (fun z e => (ha z e).1) (by rw [World.size_alloc]; omega))
                refine ⟨hRS.low hbl (by omega) (by omega) (by omega), ?_, fun z e => ?_⟩
                · refine (h.keep (by rw [World.size_alloc]; have := lt_of_heap hX2; omega) (fun z e => (ha z e).2)).trans ?_
                  exact ((below_own (Nat.le_refl _) _).block X (lt_of_heap hX2)).trans hX2
                · rcases h.2 with h | ⟨g', h, hg'⟩
                  · exact ha z (h.symm.trans e)
                  · rw [e] at h; cases h
                    rw [World.size_alloc] at hg'
                    have := lt_of_heap hX2
                    exact ⟨by show OB + 1 ≤ g'; omega, by show g' ≠ X; omega⟩ : RS w regs a j c w.heap.size OB (P ++ [x]) v2 ∧ v2.heap[X]? = some (.cells #[.int .i64 oc, .int .i64 od, .int .i64 oa, .int .i64 ob, .int .i64 ok] 36 (0, 0)) ∧ ∀ z : Addr, a2 = some z → OB + 1 ≤ z.block ∧ z.block ≠ X))
              clear hG hS hR HG HS hg hm5 hx hS4 hG4 b5 m5' hS5 hG5 hc ho z4 z5
              rcases (show (oc = 38) ∨ (oc = 39 ∧ x + 1 < j) ∨ (oc = 39 ∧ ¬ x + 1 < j) ∨ (oc = 40) ∨ ((¬ oc = 38 ∧ ¬ oc = 39 ∧ ¬ oc = 40) ∧ x + 1 < j) ∨ ((¬ oc = 38 ∧ ¬ oc = 39 ∧ ¬ oc = 40) ∧ ¬ x + 1 < j) by omega) with h1 | ⟨h1, h2⟩ | ⟨h1, h2⟩ | h1 | ⟨⟨h1, h3, h4⟩, h2⟩ | ⟨⟨h1, h3, h4⟩, h2⟩
              · subst ea
                subst h1
                obtain ⟨kk, rfl⟩ : ∃ kk : Nat, ok = (kk : Int) := ⟨ok.toNat, by have := hokx; simp [okO, jmpB] at this; omega⟩
                have HF : Hid (stepW ops x = [kk]) := hid (by rw [HSW.out]; simp [folO, jmpB, nxtB])
                clear hokx HSW
                go_upto_region 17 with fail
                rw [← hW4]
                clear hW4 hsc hsf hc5
                go_upto_region 18 with fail
                rw [← hX, ← hW5]
                clear hX hW5 c0 c1 c2 c3 c4 e4
                go_wp2_with ((at_builtin; refine wpList_app1 W5 rfl _ _ rfl (some ⟨g5, 0, none⟩) m5 c5 (kk : Int) (by rfl) (by rfl) (OB + 1) (ofN ws) HG5.out hm5n hO5 ?_; intro a6 c6 w6 hg6 hgw6; have HG6 := hid hg6; have HA6 := hid (AP.out W5 w6 _ a6 (kk : Int) HS5.out HM5'.out (fun z e => by cases e; exact ⟨hB5, by show g5 ≠ X; omega⟩) hO5 hgw6); have t0 := cellOf HA6.out.2.1 0; have t4 := cellOf HA6.out.2.1 4; have tf := cellOf HA6.out.1.f 1; simp only [List.getElem?_toArray, List.getElem?_cons_zero, List.getElem?_cons_succ] at t0 t4 tf; have hO6 : OB + 1 ≤ w6.heap.size := by { have := lt_of_heap HA6.out.2.1; omega }; clear hg6 hgw6 x0 x4 e5))
                go_roundg (2 * (j - (P.length + 1)) + (ws.length + 1 - (k + 1)))
                case measure => have := Hg.out; omega
                exact ⟨P ++ [x], ws ++ [kk], k + 1, _, _, _, by go_num, rfl, by rw [List.length_append, ← Hm5.out]; rfl, by simp only [List.length_append, List.length_cons, List.length_nil], by rw [ofN_snoc]; exact HG6.out, HA6.out.1, by have := HR2.out; rw [HF.out] at this; exact this⟩
              · subst ea
                subst h1
                have h2I : (x : Int) + 1 < (j : Int) := by omega
                obtain ⟨kk, rfl⟩ : ∃ kk : Nat, ok = (kk : Int) := ⟨ok.toNat, by have := hokx; simp [okO, jmpB] at this; omega⟩
                have HF : Hid (stepW ops x = [kk, x + 1]) := hid (by rw [HSW.out]; simp [folO, jmpB, nxtB, h2]; try omega)
                clear hokx HSW
                go_upto_region 17 with fail
                rw [← hW4]
                clear hW4 hsc hsf hc5
                go_upto_region 18 with fail
                rw [← hX, ← hW5]
                clear hX hW5 c0 c1 c2 c3 c4 e4
                go_wp2_with (first | (at_builtin; refine wpList_app1 w6 rfl _ _ rfl a6 (m5 + 1) c6 ((x : Int) + 1) (by rfl) (by rfl) (OB + 1) (ofN ws ++ [(kk : Int)]) HG6.out (by omega) hO6 ?_; intro a7 c7 w7 hg7 hgw7; have HG7 := hid hg7; have HA7 := hid (AP.out w6 w7 _ a7 ((x : Int) + 1) HA6.out.1 HA6.out.2.1 HA6.out.2.2 hO6 hgw7); clear hg7 hgw7) | (at_builtin; refine wpList_app1 W5 rfl _ _ rfl (some ⟨g5, 0, none⟩) m5 c5 (kk : Int) (by rfl) (by rfl) (OB + 1) (ofN ws) HG5.out hm5n hO5 ?_; intro a6 c6 w6 hg6 hgw6; have HG6 := hid hg6; have HA6 := hid (AP.out W5 w6 _ a6 (kk : Int) HS5.out HM5'.out (fun z e => by cases e; exact ⟨hB5, by show g5 ≠ X; omega⟩) hO5 hgw6); have t0 := cellOf HA6.out.2.1 0; have t4 := cellOf HA6.out.2.1 4; have tf := cellOf HA6.out.1.f 1; simp only [List.getElem?_toArray, List.getElem?_cons_zero, List.getElem?_cons_succ] at t0 t4 tf; have hO6 : OB + 1 ≤ w6.heap.size := by { have := lt_of_heap HA6.out.2.1; omega }; clear hg6 hgw6 x0 x4 e5))
                go_roundg (2 * (j - (P.length + 1)) + (ws.length + 2 - (k + 1)))
                case measure => have := Hg.out; omega
                exact ⟨P ++ [x], ws ++ [kk, x + 1], k + 1, _, _, _, by go_num, rfl, by rw [List.length_append, ← Hm5.out]; rfl, by simp only [List.length_append, List.length_cons, List.length_nil], by have := HG7.out; rw [show ofN (ws ++ [kk, x + 1]) = (ofN ws ++ [(kk : Int)]) ++ [((x : Int) + 1)] from by simp [ofN]]; exact this, HA7.out.1, by have := HR2.out; rw [HF.out] at this; exact this⟩
              · subst ea
                subst h1
                have h2I : ¬ (x : Int) + 1 < (j : Int) := by omega
                have h2J : (j : Int) ≤ (x : Int) + 1 := by omega
                obtain ⟨kk, rfl⟩ : ∃ kk : Nat, ok = (kk : Int) := ⟨ok.toNat, by have := hokx; simp [okO, jmpB] at this; omega⟩
                have HF : Hid (stepW ops x = [kk]) := hid (by rw [HSW.out]; simp [folO, jmpB, nxtB, h2])
                clear hokx HSW
                go_upto_region 17 with fail
                rw [← hW4]
                clear hW4 hsc hsf hc5
                go_upto_region 18 with fail
                rw [← hX, ← hW5]
                clear hX hW5 c0 c1 c2 c3 c4 e4
                go_wp2_with ((at_builtin; refine wpList_app1 W5 rfl _ _ rfl (some ⟨g5, 0, none⟩) m5 c5 (kk : Int) (by rfl) (by rfl) (OB + 1) (ofN ws) HG5.out hm5n hO5 ?_; intro a6 c6 w6 hg6 hgw6; have HG6 := hid hg6; have HA6 := hid (AP.out W5 w6 _ a6 (kk : Int) HS5.out HM5'.out (fun z e => by cases e; exact ⟨hB5, by show g5 ≠ X; omega⟩) hO5 hgw6); have t0 := cellOf HA6.out.2.1 0; have t4 := cellOf HA6.out.2.1 4; have tf := cellOf HA6.out.1.f 1; simp only [List.getElem?_toArray, List.getElem?_cons_zero, List.getElem?_cons_succ] at t0 t4 tf; have hO6 : OB + 1 ≤ w6.heap.size := by { have := lt_of_heap HA6.out.2.1; omega }; clear hg6 hgw6 x0 x4 e5))
                go_roundg (2 * (j - (P.length + 1)) + (ws.length + 1 - (k + 1)))
                case measure => have := Hg.out; omega
                exact ⟨P ++ [x], ws ++ [kk], k + 1, _, _, _, by go_num, rfl, by rw [List.length_append, ← Hm5.out]; rfl, by simp only [List.length_append, List.length_cons, List.length_nil], by rw [ofN_snoc]; exact HG6.out, HA6.out.1, by have := HR2.out; rw [HF.out] at this; exact this⟩
              · subst ea
                subst h1
                have HF : Hid (stepW ops x = []) := hid (by rw [HSW.out]; simp [folO, jmpB, nxtB])
                clear hokx HSW
                go_upto_region 17 with fail
                rw [← hW4]
                clear hW4 hsc hsf hc5
                go_upto_region 18 with fail
                rw [← hX, ← hW5]
                clear hX hW5 c0 c1 c2 c3 c4 e4
                go_wp2
                go_roundg (2 * (j - (P.length + 1)) + (ws.length + 0 - (k + 1)))
                case measure => have := Hg.out; omega
                exact ⟨P ++ [x], ws ++ [], k + 1, _, _, _, by go_num, rfl, by rw [List.append_nil]; exact Hm5.out, by simp only [List.length_append, List.length_cons, List.length_nil], by rw [List.append_nil]; exact HG5.out, HS5.out, by have := HR2.out; rw [HF.out] at this; exact this⟩
              · subst ea
                have q1 : (oc == 38) = false := by simpa using h1
                have q2 : (oc == 39) = false := by simpa using h3
                have q3 : (oc != 38) = true := by simpa using h1
                have q4 : (oc != 40) = true := by simpa using h4
                have h2I : (x : Int) + 1 < (j : Int) := by omega
                have HF : Hid (stepW ops x = [x + 1]) := hid (by rw [HSW.out]; simp [folO, jmpB, nxtB, h1, h3, h4, h2]; try omega)
                clear hokx HSW
                go_upto_region 17 with fail
                rw [← hW4]
                clear hW4 hsc hsf hc5
                go_upto_region 18 with fail
                rw [← hX, ← hW5]
                clear hX hW5 c0 c1 c2 c3 c4 e4
                go_wp2_with ((at_builtin; refine wpList_app1 W5 rfl _ _ rfl (some ⟨g5, 0, none⟩) m5 c5 ((x : Int) + 1) (by rfl) (by rfl) (OB + 1) (ofN ws) HG5.out hm5n hO5 ?_; intro a7 c7 w7 hg7 hgw7; have HG7 := hid hg7; have HA7 := hid (AP.out W5 w7 _ a7 ((x : Int) + 1) HS5.out HM5'.out (fun z e => by cases e; exact ⟨hB5, by show g5 ≠ X; omega⟩) hO5 hgw7); clear hg7 hgw7))
                go_roundg (2 * (j - (P.length + 1)) + (ws.length + 1 - (k + 1)))
                case measure => have := Hg.out; omega
                exact ⟨P ++ [x], ws ++ [x + 1], k + 1, _, _, _, by go_num, rfl, by rw [List.length_append, ← Hm5.out]; rfl, by simp only [List.length_append, List.length_cons, List.length_nil], by rw [ofN_snoc]; exact HG7.out, HA7.out.1, by have := HR2.out; rw [HF.out] at this; exact this⟩
              · subst ea
                have q1 : (oc == 38) = false := by simpa using h1
                have q2 : (oc == 39) = false := by simpa using h3
                have q3 : (oc != 38) = true := by simpa using h1
                have q4 : (oc != 40) = true := by simpa using h4
                have h2I : ¬ (x : Int) + 1 < (j : Int) := by omega
                have h2J : (j : Int) ≤ (x : Int) + 1 := by omega
                have HF : Hid (stepW ops x = []) := hid (by rw [HSW.out]; simp [folO, jmpB, nxtB, h1, h3, h4, h2])
                clear hokx HSW
                go_upto_region 17 with fail
                rw [← hW4]
                clear hW4 hsc hsf hc5
                go_upto_region 18 with fail
                rw [← hX, ← hW5]
                clear hX hW5 c0 c1 c2 c3 c4 e4
                go_wp2
                go_roundg (2 * (j - (P.length + 1)) + (ws.length + 0 - (k + 1)))
                case measure => have := Hg.out; omega
                exact ⟨P ++ [x], ws ++ [], k + 1, _, _, _, by go_num, rfl, by rw [List.append_nil]; exact Hm5.out, by simp only [List.length_append, List.length_cons, List.length_nil], by rw [List.append_nil]; exact HG5.out, HS5.out, by have := HR2.out; rw [HF.out] at this; exact this⟩
          · have hke : k = m5 := by have := hR.kl; omega
            subst hke
            have HR2 := hid (hR.fin hm5)
            have HS2 := hid hS
            clear hG hS hR HG HS hg hm5
            go_wp2
            go_ret2
            exact ⟨HS2.out.b, .inl ⟨HOK.out, P, OB, rfl, by omega, HS2.out.s, fun x _ => HR2.out x⟩⟩
      | succ g =>
        obtain ⟨o, ho⟩ : ∃ o, ops[j]? = some o := ⟨ops[j]'(by have := HN.out; omega), List.getElem?_eq_getElem _⟩
        obtain ⟨b, off, rfl, hc⟩ := (HR.out.below (HB0.out.trans (hb.mono HB0.out.size))) j o ho
        have ht : ops.take (j + 1) = ops.take j ++ [o] := by rw [List.take_add_one, ho]; rfl
        have hno : okO n o = false → okSt ops = false := fun h => by
          refine Bool.eq_false_iff.2 fun hk => ?_
          have := okSt_at hk ho
          rw [← HN.out, h] at this; cases this
        obtain ⟨oc, od, oa, ob, ok⟩ := o
        have c0 := hc 0 (by omega)
        have c1 := hc 1 (by omega)
        have c2 := hc 2 (by omega)
        have c3 := hc 3 (by omega)
        have c4 := hc 4 (by omega)
        simp only [Opx.cs, List.getElem?_toArray, List.getElem?_cons_zero, List.getElem?_cons_succ, Nat.add_zero] at c0 c1 c2 c3 c4
        have hjI : (j : Int) < (n : Int) := by omega
        have hj0 : (0 : Int) ≤ (j : Int) := by omega
        have hwl : w.heap.size < wr.heap.size := by have := hb.size; have := Z0.out; omega
        have HP := hid hp
        have HT := hid ht
        have HNO := hid hno
        have HB := hid (hb.trans ((Below.refl _ wr).alloc hb.size (.cells #[.int .i64 oc, .int .i64 od, .int .i64 oa, .int .i64 ob, .int .i64 ok] 36)))
        clear hp ht hno hc ho hb
        by_cases h1 : oc = 38 ∨ oc = 39
        · have hjb : jmpB ⟨oc, od, oa, ob, ok⟩ = true := by unfold jmpB; rcases h1 with h | h <;> simp [h]
          have hbb : (oc == 38 || oc == 39) = true := hjb
          by_cases h2 : ok < 0 ∨ (n : Int) ≤ ok
          · have HO : Hid (okSt ops = false) := hid (HNO.out (by unfold okO; rw [hjb]; rcases h2 with h | h <;> simp <;> omega))
            clear hjb hbb
            rcases h1 with h1 | h1 <;> subst h1 <;> rcases h2 with h2 | h2
            · go_wp2
              go_ret2
              exact ⟨HB0.out.trans (HB.out.mono HB0.out.size), .inr ⟨HO.out, rfl⟩⟩
            · have h3 : ¬ ok < 0 := by omega
              go_wp2
              go_ret2
              exact ⟨HB0.out.trans (HB.out.mono HB0.out.size), .inr ⟨HO.out, rfl⟩⟩
            · go_wp2
              go_ret2
              exact ⟨HB0.out.trans (HB.out.mono HB0.out.size), .inr ⟨HO.out, rfl⟩⟩
            · have h3 : ¬ ok < 0 := by omega
              go_wp2
              go_ret2
              exact ⟨HB0.out.trans (HB.out.mono HB0.out.size), .inr ⟨HO.out, rfl⟩⟩
          · have h3 : ¬ ok < 0 := fun h => h2 (.inl h)
            have h4 : ¬ (n : Int) ≤ ok := fun h => h2 (.inr h)
            have HO : Hid (okO n ⟨oc, od, oa, ob, ok⟩ = true) := hid (by unfold okO; rw [hjb]; simp; omega)
            clear hjb hbb h2
            rcases h1 with h1 | h1 <;> subst h1
            · go_wp2
              go_roundg g
              case measure => omega
              exact ⟨j + 1, by omega, by go_num, by rw [HT.out, List.all_append, HP.out]; simp [HO.out], HB.out⟩
            · go_wp2
              go_roundg g
              case measure => omega
              exact ⟨j + 1, by omega, by go_num, by rw [HT.out, List.all_append, HP.out]; simp [HO.out], HB.out⟩
        · have h2 : ¬ oc = 38 := fun h => h1 (.inl h)
          have h3 : ¬ oc = 39 := fun h => h1 (.inr h)
          have HO : Hid (okO n ⟨oc, od, oa, ob, ok⟩ = true) := hid (by unfold okO jmpB; simp [h2, h3])
          have g2 : (oc == 38) = false := by simpa using h2
          have g3 : (oc == 39) = false := by simpa using h3
          clear h1
          go_wp2
          go_roundg g
          case measure => omega
          exact ⟨j + 1, by omega, by go_num, by rw [HT.out, List.all_append, HP.out]; simp [HO.out], HB.out⟩
end Go.Proofs.Ytkkcbabhccfllaa

namespace Go.Proofs.Ytkkcbabhccfllaa
open Go.RowKit Go.Deep Go.Shelf
set_option linter.unusedVariables false
set_option linter.unusedSimpArgs false
def mkL (n : Nat) (P : List Nat) : List Bool := (List.range n).map fun i => decide (i ∈ P)
theorem mkL_len (n : Nat) (P : List Nat) : (mkL n P).length = n := by simp [mkL]
theorem mkL_rd {w : World} {b n : Nat} {P : List Nat} (h : w.heap[b]? = some (.cells (mk n P) 4 (0, 0))) : TRd w (some ⟨b, 0, none⟩) (mkL n P) := by
  intro j x hx
  have hj : j < n := by have := (List.getElem?_eq_some_iff.1 hx).1; rw [mkL_len] at this; exact this
  refine ⟨b, 0, rfl, ?_⟩
  rw [Nat.zero_add, cellOf h, mk_get hj]
  have : decide (j ∈ P) = x := by simpa [mkL, hj] using hx
  rw [this]
theorem mkL_eq {n : Nat} {P Q : List Nat} (h : ∀ i, i < n → (i ∈ P ↔ i ∈ Q)) : mkL n P = mkL n Q := by
  unfold mkL
  apply List.map_congr_left
  intro i hi
  have := h i (List.mem_range.1 hi)
  simp [this]
set_option maxRecDepth 100000 in
set_option maxHeartbeats 1000000 in
theorem flowSteps_any (w : World) (regs : Int) (a : Option Addr) (n c : Nat) (ops : List Opx) (hn : n = ops.length) (hnm : n ≤ 9223372036854775807) (hr : ORd w a ops) : Calls Try.prog 4 #[.agg #[.int .i64 regs, .slice a n c]] w fun e w' => e = .returned (.bool true) ∧ Below w.heap.size w w' := by
  obtain ⟨W0, hW0⟩ : ∃ W0, W0 = w.alloc (.cells #[.int .i64 regs, .slice a n c] 29) := ⟨_, rfl⟩
  have bw0 : Below w.heap.size w W0 := by rw [hW0]; exact (Below.refl _ _).alloc (Nat.le_refl _) _
  have m0 : W0.heap[w.heap.size]? = some (.cells #[.int .i64 regs, .slice a n c] 29 (0, 0)) := by rw [hW0]; exact heap_alloc_new _ _
  have K1 := hid (known_any W0)
  have CB := hid (fun (v : World) (hv : Below W0.heap.size W0 v) => (⟨cellOf ((hv.block w.heap.size (lt_of_heap m0)).trans m0) 0, cellOf ((hv.block w.heap.size (lt_of_heap m0)).trans m0) 1⟩ : v.cell? ⟨w.heap.size, 0, none⟩ = some (.int .i64 regs) ∧ v.cell? ⟨w.heap.size, 1, none⟩ = some (.slice a n c)))
  have BW := hid (fun (v : World) (hv : Below W0.heap.size W0 v) => bw0.trans (hv.mono bw0.size))
  have hnI : (n : Int) ≤ 9223372036854775807 := by omega
  by_cases hbig : 2500 < n
  · have hbI : (2500 : Int) < (n : Int) := by omega
    clear m0 bw0 hr hn
    go_enter Try.func4, Try.ntmps4
    go_upto_region 1 with fail
    rw [← hW0]
    clear hW0
    go_wp2_with (go_at_call 6; (refine (Hid.out K1).mono ?_; rintro e w1 ⟨rfl, hb1⟩; obtain ⟨x0, x1⟩ := CB.out w1 hb1; have HB1 := hid (BW.out w1 hb1); clear hb1))
    go_ret
    exact ⟨rfl, HB1.out⟩
  · have hbI : ¬ (2500 : Int) < (n : Int) := by omega
    have hnb : n ≤ 10000 := by omega
    have K2 := hid (fun (v : World) (hv : Below W0.heap.size W0 v) => steps_any v regs a n c ops hn hnb ((hr.below bw0).below hv))
    have K3 := hid (fun (v : World) (hv : Below W0.heap.size W0 v) => refSteps_any v regs a n c ops hn hnb ((hr.below bw0).below hv))
    clear m0 bw0 hr hn
    cases hok : okSt ops with
    | false =>
      have K4 := hid (fun (v : World) => flags_true v none none 0 0 0 [] rfl (by omega) (fun j x hx => by simp at hx) (fun j x hx => by simp at hx))
      go_enter Try.func4, Try.ntmps4
      go_upto_region 1 with fail
      rw [← hW0]
      clear hW0
      go_wp2_with (first
        | (go_at_call 6; (refine (Hid.out K1).mono ?_; rintro e w1 ⟨rfl, hb1⟩; obtain ⟨x0, x1⟩ := CB.out w1 hb1; have HB1 := hid hb1; have K2' := hid (K2.out w1 hb1); clear hb1))
        | (go_at_call 13; (refine (Hid.out K2').mono ?_; rintro e w2 ⟨hb2', (⟨hf, _⟩ | ⟨_, rfl⟩)⟩; (rw [hok] at hf; cases hf); have hb2 := HB1.out.trans (hb2'.mono HB1.out.size); obtain ⟨y0, y1⟩ := CB.out w2 hb2; have HB2 := hid hb2; have K3' := hid (K3.out w2 hb2); clear hb2 hb2' x0 x1))
        | (go_at_call 14; (refine (Hid.out K3').mono ?_; rintro e w3 ⟨hb3', (⟨hf, _⟩ | ⟨_, rfl⟩)⟩; (rw [hok] at hf; cases hf); have hb3 := HB2.out.trans (hb3'.mono HB2.out.size); have HB3 := hid hb3; have K4' := hid (K4.out w3); clear hb3 hb3' y0 y1))
        | (go_at_call 12; (refine (Hid.out K4').mono ?_; rintro e w4 ⟨rfl, hb4⟩; have HB4 := hid (BW.out w4 (HB3.out.trans (hb4.mono HB3.out.size))); clear hb4)))
      go_ret
      exact ⟨rfl, HB4.out⟩
    | true =>
      have K4 := hid (fun (v : World) (b1 b2 : Nat) (P Q : List Nat) (h1 : v.heap[b1]? = some (.cells (mk n P) 4 (0, 0))) (h2 : v.heap[b2]? = some (.cells (mk n Q) 4 (0, 0))) (hp : ∀ x, x < n → (x ∈ P ↔ Rch (stepW ops) x)) (hq : ∀ x, x < n → (x ∈ Q ↔ Rch (stepW ops) x)) => flags_true v (some ⟨b1, 0, none⟩) (some ⟨b2, 0, none⟩) n n n (mkL n P) (mkL_len n P).symm (by omega) (mkL_rd h1) (by rw [mkL_eq (fun i hi => (hp i hi).trans (hq i hi).symm)]; exact mkL_rd h2))
      go_enter Try.func4, Try.ntmps4
      go_upto_region 1 with fail
      rw [← hW0]
      clear hW0
      go_wp2_with (first
        | (go_at_call 6; (refine (Hid.out K1).mono ?_; rintro e w1 ⟨rfl, hb1⟩; obtain ⟨x0, x1⟩ := CB.out w1 hb1; have HB1 := hid hb1; have K2' := hid (K2.out w1 hb1); clear hb1))
        | (go_at_call 13; (refine (Hid.out K2').mono ?_; rintro e w2 ⟨hb2', (⟨_, P, b2, rfl, hg2, hm2, hP⟩ | ⟨hf, _⟩)⟩; rotate_left; (rw [hok] at hf; cases hf); have hb2 := HB1.out.trans (hb2'.mono HB1.out.size); obtain ⟨y0, y1⟩ := CB.out w2 hb2; have HB2 := hid hb2; have HM2 := hid hm2; have HP2 := hid hP; have K3' := hid (K3.out w2 hb2); clear hb2 hb2' x0 x1 hg2 hm2 hP))
        | (go_at_call 14; (refine (Hid.out K3').mono ?_; rintro e w3 ⟨hb3', (⟨_, Q, b3, rfl, hg3, hm3, hQ⟩ | ⟨hf, _⟩)⟩; rotate_left; (rw [hok] at hf; cases hf); have hb3 := HB2.out.trans (hb3'.mono HB2.out.size); have HB3 := hid hb3; have K4' := hid (K4.out w3 b2 b3 P Q ((hb3'.block _ (lt_of_heap HM2.out)).trans HM2.out) hm3 HP2.out hQ); clear hb3 hb3' y0 y1 hg3 hm3 hQ))
        | (go_at_call 12; (refine (Hid.out K4').mono ?_; rintro e w4 ⟨rfl, hb4⟩; have HB4 := hid (BW.out w4 (HB3.out.trans (hb4.mono HB3.out.size))); clear hb4)))
      go_ret
      exact ⟨rfl, HB4.out⟩
end Go.Proofs.Ytkkcbabhccfllaa

