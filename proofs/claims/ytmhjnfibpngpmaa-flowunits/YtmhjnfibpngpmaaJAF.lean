/- met over the ways of function 20. -/
import Derived.Test.YtmhjnfibpngpmaaJAE
import Derived.Sort.CutIn
namespace Go.Proofs.Ytmhjnfibpngpmaa
set_option maxRecDepth 100000
open Go.RowKit Go.Deep Go.Shelf
set_option linter.unusedVariables false
set_option linter.unusedSimpArgs false
attribute [local go_sem] Oper.semAt_some
/- Between two rounds of met: the marks, the box of their row, how many are left. -/
structure MI20 (w : World) (cnt : Nat) (pre : List (Fin cnt)) (W : World) : Prop where
  r : W.heap[w.heap.size]? = some (.cells (mk cnt (vals pre)) 4 (0, 0))
  b : W.heap[w.heap.size + 1]? = some (.cells #[.slice (some ⟨w.heap.size, 0, none⟩) cnt cnt] 59 (0, 0))
  t : W.heap[w.heap.size + 1 + 1]? = some (.cells #[.int .i64 ((cnt : Int) - (pre.length : Int))] 3 (0, 0))
  bl : Below w.heap.size w W
theorem MI20.grown {w : World} {cnt : Nat} {pre : List (Fin cnt)} {A A' : World} {row : Option Nat} (h : MI20 w cnt pre A) (k : A.grownBy A' row) (hr : ∀ r, row = some r → w.heap.size + 3 ≤ r) : MI20 w cnt pre A' := by
  have hb : ∀ j, j < A.heap.size → j < w.heap.size + 3 → A'.heap[j]? = A.heap[j]? := fun j hj hn => k.block j hj (fun e => by have := hr j e.symm; omega)
  refine ⟨(hb _ (lt_of_heap h.r) (by omega)).trans h.r, (hb _ (lt_of_heap h.b) (by omega)).trans h.b, (hb _ (lt_of_heap h.t) (by omega)).trans h.t, ⟨k.os.trans h.bl.os, k.tape.trans h.bl.tape, k.output.trans h.bl.output, Nat.le_trans h.bl.size k.size, fun j hj => ?_⟩⟩
  exact (hb j (Nat.lt_of_lt_of_le hj h.bl.size) (by omega)).trans (h.bl.block j hj)
theorem seq20 (w0 : World) (cnt Fb : Nat) (ways : Nat → List Nat) (h0 : 0 < cnt) (hcn : cnt ≤ 10000) (hwl : ∀ i, (ways i).length ≤ 2) (hwt : ∀ i, i < cnt → ∀ t ∈ ways i, t < cnt) (hW : Ways20 w0 cnt Fb ways) (n : Nat) (hn : 1 ≤ n) (C1 C2 L T : Nat) (d1 : C1 ≠ L) (d2 : C1 ≠ T) (d3 : C2 ≠ L) (d4 : C2 ≠ T) (w : World)
    (hb : Below w0.heap.size w0 w) (hC1 : w.heap[C1]? = some (.cells #[.int .i64 (cnt : Int)] 3 (0, 0))) (hC2 : w.heap[C2]? = some (.cells #[.func (.func 78) #[] #[.pointer (some ⟨Fb, 0, none⟩)]] 157 (0, 0))) (hL : L < w.heap.size) (hT : T < w.heap.size) :
    SeqW Fence.wide n 151 #[.pointer (some ⟨C1, 0, none⟩), .pointer (some ⟨C2, 0, none⟩)] (fun x : Fin cnt => #[.int .i64 (x.val : Int)]) (KW w0.heap.size L T) (fun ys => ∀ x : Nat, x ∈ vals ys ↔ Rch ways x) (fun pre => (vals pre).Nodup ∧ ∀ x ∈ vals pre, Rch ways x) cnt w := fun l J Jx W hW1 hz hJa hY hJ0 =>
  walk20_in w0 cnt Fb ways h0 hcn hwl hwt hW n hn l C1 C2 L T d1 d2 d3 d4 J Jx hY W (hb.trans (hW1.mono hb.size)) ((hW1.block C1 (lt_of_heap hC1)).trans hC1) ((hW1.block C2 (lt_of_heap hC2)).trans hC2) (by omega) (by omega) hJa hJ0
theorem make20 (F : Fence) (n : Nat) (h31 : F.fn 121) (hro : F.round = none) (cnt : Nat) (Fb : Nat) (w : World) :
    CallsIn F n Try.prog 121 #[.int .i64 (cnt : Int), .func (.func 78) #[] #[.pointer (some ⟨Fb, 0, none⟩)]] w fun e w' => e = .returned (.func (.func 151) #[] #[.pointer (some ⟨w.heap.size, 0, none⟩), .pointer (some ⟨w.heap.size + 1, 0, none⟩)]) ∧ w' = (w.alloc (.cells #[.int .i64 (cnt : Int)] 3)).alloc (.cells #[.func (.func 78) #[] #[.pointer (some ⟨Fb, 0, none⟩)]] 157) := by
  refine callsIn_of_wp Try.func121 rfl h31 ?_ hro
  simp only [Try.ntmps121, List.size_toArray, List.length_cons, List.length_nil, Nat.reduceAdd, Nat.reduceSub, Array.replicate_succ, Array.replicate_zero, List.push_toArray, List.append_toArray, List.nil_append, List.cons_append]
  gi_wp2
  go_ret
  exact ⟨rfl, rfl⟩
set_option maxRecDepth 100000 in
set_option maxHeartbeats 2000000 in
theorem met20_any (w : World) (cnt Fb : Nat) (ways : Nat → List Nat) (h0 : 0 < cnt) (hcn : cnt ≤ 10000) (hwl : ∀ i, (ways i).length ≤ 2) (hwt : ∀ i, i < cnt → ∀ t ∈ ways i, t < cnt) (hW : Ways20 w cnt Fb ways) :
    Calls Try.prog 77 #[.int .i64 (cnt : Int), .func (.func 78) #[] #[.pointer (some ⟨Fb, 0, none⟩)]] w fun e w' => e = .returned (.slice (some ⟨w.heap.size, 0, none⟩) cnt cnt) ∧ (∃ P : List Nat, w'.heap[w.heap.size]? = some (.cells (mk cnt P) 4 (0, 0)) ∧ ∀ x, x < cnt → (x ∈ P ↔ Rch ways x)) ∧ Below w.heap.size w w' := by
  have hro : Fence.wide.round = none := rfl
  have mkB := run_mkB w cnt (by omega)
  obtain ⟨X, hX⟩ : ∃ X, X = w.heap.size := ⟨_, rfl⟩
  obtain ⟨W2, hW2⟩ : ∃ W2, W2 = ((w.alloc (.cells (mk cnt []) 4)).alloc (.cells #[.slice (some ⟨w.heap.size, 0, none⟩) cnt cnt] 59)).alloc (.cells #[.int .i64 (cnt : Int)] 3) := ⟨_, rfl⟩
  obtain ⟨W4, hW4⟩ : ∃ W4, W4 = (W2.alloc (.cells #[.int .i64 (cnt : Int)] 3)).alloc (.cells #[.func (.func 78) #[] #[.pointer (some ⟨Fb, 0, none⟩)]] 157) := ⟨_, rfl⟩
  have hcI : (cnt : Int) ≤ 10000 := by omega
  have hcI0 : (0 : Int) < (cnt : Int) := by omega
  have e0 := heap_alloc_new w (.cells (mk cnt []) 4)
  have e1 := heap_alloc_new (w.alloc (.cells (mk cnt []) 4)) (.cells #[.slice (some ⟨w.heap.size, 0, none⟩) cnt cnt] 59)
  have e2 := heap_alloc_new ((w.alloc (.cells (mk cnt []) 4)).alloc (.cells #[.slice (some ⟨w.heap.size, 0, none⟩) cnt cnt] 59)) (.cells #[.int .i64 (cnt : Int)] 3)
  have e3 := heap_alloc_new W2 (.cells #[.int .i64 (cnt : Int)] 3)
  have e4 := heap_alloc_new (W2.alloc (.cells #[.int .i64 (cnt : Int)] 3)) (.cells #[.func (.func 78) #[] #[.pointer (some ⟨Fb, 0, none⟩)]] 157)
  have z2 : W2.heap.size = w.heap.size + 1 + 1 + 1 := by rw [hW2]; simp
  have z4 : W4.heap.size = w.heap.size + 1 + 1 + 1 + 1 + 1 := by rw [hW4]; simp [z2]
  simp only [World.size_alloc] at e1 e2 e4
  have b2 : Below w.heap.size w W2 := by rw [hW2]; exact (((Below.refl _ w).alloc (Nat.le_refl _) _).alloc (by simp) _).alloc (by simp; omega) _
  have b4 : Below W2.heap.size W2 W4 := by rw [hW4]; exact ((Below.refl _ W2).alloc (Nat.le_refl _) _).alloc (by simp) _
  have q0 : W2.heap[w.heap.size]? = some (.cells (mk cnt []) 4 (0, 0)) := by rw [hW2, Below.heap_alloc _ _ _ (by simp; omega), Below.heap_alloc _ _ _ (by simp)]; exact e0
  have q1 : W2.heap[w.heap.size + 1]? = some (.cells #[.slice (some ⟨w.heap.size, 0, none⟩) cnt cnt] 59 (0, 0)) := by rw [hW2, Below.heap_alloc _ _ _ (by simp)]; exact e1
  have q2 : W2.heap[w.heap.size + 1 + 1]? = some (.cells #[.int .i64 (cnt : Int)] 3 (0, 0)) := by rw [hW2]; exact e2
  have q3 : W4.heap[W2.heap.size]? = some (.cells #[.int .i64 (cnt : Int)] 3 (0, 0)) := by rw [hW4, Below.heap_alloc _ _ _ (by simp)]; exact e3
  have q4 : W4.heap[W2.heap.size + 1]? = some (.cells #[.func (.func 78) #[] #[.pointer (some ⟨Fb, 0, none⟩)]] 157 (0, 0)) := by rw [hW4]; exact e4
  have bw4 : Below w.heap.size w W4 := b2.trans (b4.mono b2.size)
  have hI0 : MI20 w cnt [] W4 := ⟨(b4.block _ (by omega)).trans q0, (b4.block _ (by omega)).trans q1, (b4.block _ (by omega)).trans (by rw [q2]; simp), bw4⟩
  rw [z2] at q3 q4
  have hseq := seq20 w cnt Fb ways h0 hcn hwl hwt hW 5 (by omega) (w.heap.size + 1 + 1 + 1) (w.heap.size + 1 + 1 + 1 + 1) w.heap.size (w.heap.size + 1 + 1) (by omega) (by omega) (by omega) (by omega) W4 bw4 q3 q4 (by omega) (by omega)
  clear e0 e1 e2 e3 e4 b2 b4 q0 q1 q2 q3 q4 bw4 hW
  refine (callsIn_wide (n := 6)).1 ?_
  refine callsIn_of_wp_marks Try.func77 rfl trivial ?_ hro
  simp only [Try.ntmps77, List.size_toArray, List.length_cons, List.length_nil, Nat.reduceAdd, Nat.reduceSub, Array.replicate_succ, Array.replicate_zero, List.push_toArray, List.append_toArray, List.nil_append, List.cons_append]
  gi_upto_region 3 with fail
  rw [← hW2]
  clear hW2 mkB hX
  gi_wp2_with (refine ⟨trivial, ?_⟩; gi_at_call 121; refine (make20 _ _ trivial hro _ _ _).mono ?_; rintro e w7 ⟨rfl, rfl⟩)
  rw [← hW4]
  clear hW4 z2
  refine range_own (q := 0) (gf := 151) (lb := #[.pointer (some ⟨w.heap.size + 1 + 1 + 1, 0, none⟩), .pointer (some ⟨w.heap.size + 1 + 1 + 1 + 1, 0, none⟩)]) (by omega) rfl (enters_of Try.func151 (by kernel_rfl) rfl) hseq KW_t (KW_b (by omega)) (MI20 w cnt) (fun pre W => MI20 w cnt pre W ∧ pre.length = cnt) hI0
    (fun s A A' row h k hr => h.grown k (fun r e => by have := hr r e; omega)) (fun s A A' row h k hr => ⟨h.1.grown k (fun r e => by have := hr r e; omega), h.2⟩)
    (fun x : Fin cnt => { tmps := #[.int .i64 (cnt : Int), .func (.func 78) #[] #[.pointer (some ⟨Fb, 0, none⟩)], undef, undef, .slice none 0 0, .pointer (some ⟨w.heap.size + 1, 0, none⟩), .pointer (some ⟨w.heap.size + 1 + 1, 0, none⟩), .int .i64 (x.val : Int), .int .i64 (cnt : Int), .slice (some ⟨w.heap.size, 0, none⟩) cnt cnt, .int .i64 (cnt : Int), .int .i64 (cnt : Int), .func (.func 78) #[] #[.pointer (some ⟨Fb, 0, none⟩)], .func (.func 151) #[] #[.pointer (some ⟨w.heap.size + 1 + 1 + 1, 0, none⟩), .pointer (some ⟨w.heap.size + 1 + 1 + 1 + 1, 0, none⟩)], .int .i64 (x.val : Int), undef, undef, undef, undef, undef, undef, undef, undef], defers := [] }) ?assign ?body ?done ?stop
  case assign =>
    intro l x W K hK
    simp only [List.setIfInBounds_toArray, List.set_cons_succ, List.set_cons_zero]
    gi_wp2
    exact hK
  case body =>
    intro l pre x W hz hi hlt
    have hx := x.isLt
    have c0 := cellOf hi.r x.val
    rw [mk_get hx] at c0
    have f0 := freeOf hi.r x.val
    have c1 := cellOf hi.b 0
    have c2 := cellOf hi.t 0
    have f2 := freeOf hi.t 0
    simp only [List.getElem?_toArray, List.getElem?_cons_zero] at c1 c2
    have HI := hid hi
    have hl0 := lt_of_heap hi.r
    have hl2 := lt_of_heap hi.t
    obtain ⟨u, hu⟩ : ∃ u : Nat, pre.length + u + 1 = cnt := ⟨cnt - pre.length - 1, by omega⟩
    have hcu : (cnt : Int) - (pre.length : Int) = (u : Int) + 1 := by omega
    rw [hcu] at c2
    have huI : (u : Int) ≤ 10000 := by omega
    have huI0 : (0 : Int) ≤ (u : Int) := by omega
    have hxI : (x.val : Int) < (cnt : Int) := by omega
    have hxI0 : (0 : Int) ≤ (x.val : Int) := by omega
    have Hu := hid hu
    have Hcu := hid hcu
    obtain ⟨xv, hxv⟩ : ∃ xv, xv = x.val := ⟨_, rfl⟩
    have Hxv := hid hxv
    rw [← hxv] at c0 f0 hxI hxI0 hx
    simp only [← hxv]
    have h5 : ∀ (W5 : World), W5 = (W.setCell ⟨w.heap.size, xv, none⟩ (.bool true)).setCell ⟨w.heap.size + 1 + 1, 0, none⟩ (.int .i64 (u : Int)) → (W5.heap[W4.heap.size]? = W.heap[W4.heap.size]? ∧ W5.heap[W4.heap.size + 1]? = W.heap[W4.heap.size + 1]?) ∧ KW w.heap.size w.heap.size (w.heap.size + 1 + 1) W W5 ∧ MI20 w cnt (pre ++ [x]) W5 := by
      intro W5 e5
      have k5 : ∀ b, b ≠ w.heap.size → b ≠ w.heap.size + 1 + 1 → W5.heap[b]? = W.heap[b]? := fun b h1 h2 => by
        rw [e5]; exact (Below.heap_setCell _ _ _ _ h2).trans (Below.heap_setCell _ _ _ _ h1)
      have bl5 : Below w.heap.size W W5 := by
        rw [e5]; exact ((Below.refl _ W).setCell (p := ⟨w.heap.size, xv, none⟩) (Nat.le_refl _) _).setCell (p := ⟨w.heap.size + 1 + 1, 0, none⟩) (by show w.heap.size ≤ w.heap.size + 1 + 1; omega) _
      refine ⟨⟨k5 _ (by omega) (by omega), k5 _ (by omega) (by omega)⟩, ⟨bl5, fun b c t f h1 h2 h3 => (k5 b h1 h2).trans h3⟩, ⟨?_, (k5 _ (by omega) (by omega)).trans HI.out.b, ?_, HI.out.bl.trans bl5⟩⟩
      · rw [e5, Below.heap_setCell _ _ _ _ (by show w.heap.size ≠ w.heap.size + 1 + 1; omega), heap_set_at HI.out.r, vals_snoc, ← Hxv.out, mk_snoc _ hx]
      · have ht : (W.setCell ⟨w.heap.size, xv, none⟩ (.bool true)).heap[w.heap.size + 1 + 1]? = some (.cells #[.int .i64 ((cnt : Int) - (pre.length : Int))] 3 (0, 0)) := (Below.heap_setCell _ _ _ _ (by show w.heap.size + 1 + 1 ≠ w.heap.size; omega)).trans HI.out.t
        rw [e5, heap_set_at ht]
        have : ((cnt : Int) - ((pre ++ [x]).length : Int)) = (u : Int) := by rw [List.length_append]; simp; omega
        rw [this]; rfl
    have H5 := hid h5
    clear hseq hi h5 hI0 hu hcu hxv
    by_cases hu0 : u = 0
    · have hub : ((u : Int) == 0) = true := by subst hu0; rfl
      subst hu0
      gi_wp2
      exact ⟨rfl, (H5.out _ rfl).1, (H5.out _ rfl).2.2, by have := Hu.out; rw [List.length_append]; simp; omega⟩
    · have hub : ((u : Int) == 0) = false := by simp; omega
      gi_wp2
      exact H5.out _ rfl
  case done =>
    intro xs W hS hi hK
    have HS := hid hS
    clear hS
    have HK := hid hK
    have HI := hid hi
    have c1 := cellOf hi.b 0
    simp only [List.getElem?_toArray, List.getElem?_cons_zero] at c1
    clear hseq hi hK hI0
    gi_wp2
    have kD := HK.out
    have hmi : MI20 w cnt xs (W.putObj W4.heap.size (.deferred none)) := HI.out.grown (grownBy_putObj' _ _ _) (fun r e => by cases e; omega)
    refine ⟨by simp, .inl ⟨_, _, rfl, run_takeDeferred kD, ?_⟩⟩
    refine ⟨.slice (some ⟨w.heap.size, 0, none⟩) cnt cnt, by simp [results, Try.results77, go_sem], ?_⟩
    exact ⟨rfl, ⟨vals xs, hmi.r, fun x hx => HS.out x⟩, hmi.bl⟩
  case stop =>
    intro xs W hS hi hK
    obtain ⟨hi, hlen⟩ := hi
    have hall : ∀ x, x < cnt → x ∈ vals xs := fun x hx => by
      refine Classical.byContradiction fun hn => ?_
      have := nodup_le cnt (x :: vals xs) (List.nodup_cons.2 ⟨hn, hS.1⟩) (fun y hy => by
        rcases List.mem_cons.1 hy with rfl | hy
        · exact hx
        · obtain ⟨z, _, rfl⟩ := List.mem_map.1 hy
          exact z.isLt)
      rw [List.length_cons, vals_len] at this
      omega
    have HS : Hid (∀ x, x < cnt → (x ∈ vals xs ↔ Rch ways x)) := hid fun x hx => ⟨hS.2 x, fun _ => hall x hx⟩
    clear hS hall hlen
    have HK := hid hK
    have HI := hid hi
    have c1 := cellOf hi.b 0
    simp only [List.getElem?_toArray, List.getElem?_cons_zero] at c1
    clear hseq hi hK hI0
    gi_wp2
    have kD := HK.out
    have hmi : MI20 w cnt xs (W.putObj W4.heap.size (.deferred none)) := HI.out.grown (grownBy_putObj' _ _ _) (fun r e => by cases e; omega)
    refine ⟨by simp, .inl ⟨_, _, rfl, run_takeDeferred kD, ?_⟩⟩
    refine ⟨.slice (some ⟨w.heap.size, 0, none⟩) cnt cnt, by simp [results, Try.results77, go_sem], ?_⟩
    exact ⟨rfl, ⟨vals xs, hmi.r, fun x hx => HS.out x hx⟩, hmi.bl⟩
end Go.Proofs.Ytmhjnfibpngpmaa

namespace Go.Proofs.Ytmhjnfibpngpmaa
set_option maxRecDepth 100000
open Go.RowKit Go.Deep Go.Shelf
set_option linter.unusedVariables false
set_option linter.unusedSimpArgs false
def blkW (bs : List Blk) (i : Nat) : List Nat := match bs[i]? with
  | some b => (tgE b.en b.tt b.el).map Int.toNat
  | none => []
theorem blkW_len (bs : List Blk) (i : Nat) : (blkW bs i).length ≤ 2 := by
  unfold blkW
  split
  · rw [List.length_map]; exact tgE_len _ _ _
  · simp
theorem isG_at {bs : List Blk} (h : isG bs = true) {i : Nat} {o : Blk} (ho : bs[i]? = some o) : okBk bs.length o = true := by
  unfold isG at h
  simp only [Bool.and_eq_true] at h
  exact List.all_eq_true.1 h.2 o (List.mem_of_getElem? ho)
theorem tg_in {n : Nat} {o : Blk} (h : okBk n o = true) : ∀ x ∈ tgE o.en o.tt o.el, 0 ≤ x ∧ x < (n : Int) := by
  intro x hx
  unfold okBk at h
  simp only [Bool.and_eq_true] at h
  have := List.all_eq_true.1 h.1.2 x hx
  simpa using this
theorem blkW_lt {bs : List Blk} (h : isG bs = true) : ∀ i, i < bs.length → ∀ t ∈ blkW bs i, t < bs.length := by
  intro i hi t ht
  unfold blkW at ht
  rw [List.getElem?_eq_getElem hi] at ht
  simp only [List.mem_map] at ht
  obtain ⟨x, hx, rfl⟩ := ht
  have := tg_in (isG_at h (List.getElem?_eq_getElem hi)) x hx
  omega
theorem blkW_ofN {bs : List Blk} (h : isG bs = true) {i : Nat} {o : Blk} (ho : bs[i]? = some o) : ofN (blkW bs i) = tgE o.en o.tt o.el ∧ (blkW bs i).length = (tgE o.en o.tt o.el).length := by
  unfold blkW
  rw [ho]
  exact ⟨ofN_toNat _ (fun x hx => (tg_in (isG_at h ho) x hx).1), by simp⟩
set_option maxHeartbeats 1000000 in
theorem bways_at (W : World) (Fb : Nat) (a : Option Addr) (n c i : Nat) (oa : Option Addr) (on oc : Nat) (en ba tt el : Int) (L : List Nat) (b off : Nat) (ea : a = some ⟨b, off, none⟩) (hi : i < n) (hnb : n ≤ 1000000) (c1 : W.cell? ⟨Fb, 1, none⟩ = some (.slice a n c))
    (e0 : W.cell? ⟨b, off + i * 5, none⟩ = some (.slice oa on oc)) (e1 : W.cell? ⟨b, off + i * 5 + 1, none⟩ = some (.int .i64 en)) (e2 : W.cell? ⟨b, off + i * 5 + 2, none⟩ = some (.int .i64 ba)) (e3 : W.cell? ⟨b, off + i * 5 + 3, none⟩ = some (.int .i64 tt)) (e4 : W.cell? ⟨b, off + i * 5 + 4, none⟩ = some (.int .i64 el))
    (K : Calls Try.prog 79 #[.agg #[.slice oa on oc, .int .i64 en, .int .i64 ba, .int .i64 tt, .int .i64 el]] W fun e w' => ∃ a' c', e = .returned (.slice a' L.length c') ∧ GRow w' W.heap.size a' L.length c' (ofN L) ∧ Below W.heap.size W w') :
    Calls Try.prog 78 #[.int .i64 (i : Int), .pointer (some ⟨Fb, 0, none⟩)] W fun e W' => ∃ a' c', e = .returned (.slice a' L.length c') ∧ GRow W' W.heap.size a' L.length c' (ofN L) ∧ Below W.heap.size W W' := by
  subst ea
  have HK := hid K
  have hiI : (i : Int) < (n : Int) := by omega
  have hi0 : (0 : Int) ≤ (i : Int) := by omega
  have hnI : (n : Int) ≤ 1000000 := by omega
  clear K
  go_enter Try.func78, Try.ntmps78
  go_wp2_with (go_at_call 79; (refine (Hid.out HK).mono ?_; rintro e w1 ⟨a', c', rfl, hg, hb1⟩; have HG := hid hg; have HB := hid hb1; clear hg hb1))
  go_ret
  exact ⟨a', c', rfl, HG.out, HB.out⟩
theorem ways20 (w0 : World) (Fb : Nat) (regs : Int) (a : Option Addr) (n c : Nat) (bs : List Blk) (hbox : w0.heap[Fb]? = some (.cells #[.int .i64 regs, .slice a n c] 92 (0, 0))) (hn : n = bs.length) (hnb : n ≤ 1000000) (hr : BRd w0 a bs) (hok : isG bs = true) : Ways20 w0 bs.length Fb (blkW bs) := fun W i hb hi => by
  have ho : bs[i]? = some bs[i] := List.getElem?_eq_getElem hi
  obtain ⟨b, off, ea, hc⟩ := (hr.below hb).c i _ ho
  have K := targets_any W bs[i].oa bs[i].on bs[i].oc bs[i].en bs[i].a bs[i].tt bs[i].el
  obtain ⟨e1, e2⟩ := blkW_ofN hok ho
  rw [← e2, ← e1] at K
  exact bways_at W Fb a n c i _ _ _ _ _ _ _ (blkW bs i) b off ea (by omega) hnb (cellOf ((hb.block Fb (lt_of_heap hbox)).trans hbox) 1) (hc 0 (by omega)) (hc 1 (by omega)) (hc 2 (by omega)) (hc 3 (by omega)) (hc 4 (by omega)) K
/- What Reached tells. -/
def GrP (w : World) (bs : List Blk) (n : Nat) (bad : Int) (e : Ending) (w' : World) : Prop := Below w.heap.size w w' ∧
  ((isG bs = true ∧ ∃ (P : List Nat) (b : Nat), e = .returned (.tuple #[.slice (some ⟨b, 0, none⟩) n n, .int .i64 0]) ∧ w.heap.size ≤ b ∧ w'.heap[b]? = some (.cells (mk n P) 4 (0, 0)) ∧ ∀ x, x < n → (x ∈ P ↔ Rch (blkW bs) x)) ∨
   (isG bs = false ∧ e = .returned (.tuple #[.slice none 0 0, .int .i64 bad])))
set_option maxRecDepth 100000 in
set_option maxHeartbeats 1000000 in
theorem reached_any (w : World) (regs : Int) (a : Option Addr) (n c : Nat) (bs : List Blk) (hn : n = bs.length) (hnb : n ≤ 10000) (hr : BRd w a bs) : Calls Try.prog 28 #[.agg #[.int .i64 regs, .slice a n c]] w (GrP w bs n 100) := by
  obtain ⟨W0, hW0⟩ : ∃ W0, W0 = w.alloc (.cells #[.int .i64 regs, .slice a n c] 92) := ⟨_, rfl⟩
  have bw0 : Below w.heap.size w W0 := by rw [hW0]; exact (Below.refl _ _).alloc (Nat.le_refl _) _
  have m0 : W0.heap[w.heap.size]? = some (.cells #[.int .i64 regs, .slice a n c] 92 (0, 0)) := by rw [hW0]; exact heap_alloc_new _ _
  have hnI : (n : Int) ≤ 10000 := by omega
  have K1 := hid (isGraph_any W0 regs a n c bs hn (by omega) (hr.below bw0))
  have CB := hid (fun (v : World) (hv : Below W0.heap.size W0 v) => (⟨cellOf ((hv.block w.heap.size (lt_of_heap m0)).trans m0) 0, cellOf ((hv.block w.heap.size (lt_of_heap m0)).trans m0) 1⟩ : v.cell? ⟨w.heap.size, 0, none⟩ = some (.int .i64 regs) ∧ v.cell? ⟨w.heap.size, 1, none⟩ = some (.slice a n c)))
  have BW := hid (fun (v : World) (hv : Below W0.heap.size W0 v) => bw0.trans (hv.mono bw0.size))
  obtain ⟨x0, x1⟩ := CB.out W0 (Below.refl _ _)
  cases hok : isG bs with
  | false =>
    rw [hok] at K1
    have HO := hid hok
    clear m0 bw0 hr hn hok
    go_enter Try.func28, Try.ntmps28
    go_upto_region 1 with fail
    rw [← hW0]
    clear hW0
    go_wp2_with (first | (go_at_call 75; (refine (Hid.out K1).mono ?_; rintro e w1 ⟨rfl, hb1⟩; have HB1 := hid (BW.out w1 hb1); clear hb1 x0 x1)))
    go_ret2
    exact ⟨HB1.out, .inr ⟨HO.out, rfl⟩⟩
  | true =>
    rw [hok] at K1
    have hn0 : 0 < bs.length := by unfold isG at hok; simp at hok; omega
    have K2 := hid (fun (v : World) (hv : Below W0.heap.size W0 v) => met20_any v bs.length w.heap.size (blkW bs) hn0 (by omega) (blkW_len bs) (blkW_lt hok) (ways20 v w.heap.size regs a n c bs ((hv.block w.heap.size (lt_of_heap m0)).trans m0) hn (by omega) ((hr.below bw0).below hv) hok))
    rw [← hn] at K2
    have HO := hid hok
    clear m0 bw0 hr hn hok hn0
    go_enter Try.func28, Try.ntmps28
    go_upto_region 1 with fail
    rw [← hW0]
    clear hW0
    go_wp2_with (first | (go_at_call 75; (refine (Hid.out K1).mono ?_; rintro e w1 ⟨rfl, hb1⟩; obtain ⟨y0, y1⟩ := CB.out w1 hb1; have HB1 := hid hb1; have K2' := hid (K2.out w1 hb1); clear hb1 x0 x1)) | (go_at_call 77; (refine (Hid.out K2').mono ?_; rintro e w2 ⟨rfl, ⟨P, hm2, hP⟩, hb2⟩; have HM2 := hid hm2; have HP2 := hid hP; have HB2 := hid hb2; clear hm2 hP hb2)))
    go_ret2
    have b1 := BW.out w1 HB1.out
    exact ⟨b1.trans (HB2.out.mono b1.size), .inl ⟨HO.out, P, w1.heap.size, rfl, b1.size, HM2.out, HP2.out⟩⟩
end Go.Proofs.Ytmhjnfibpngpmaa

namespace Go.Proofs.Ytmhjnfibpngpmaa
set_option maxRecDepth 100000
open Go.RowKit Go.Deep Go.Shelf
set_option linter.unusedVariables false
set_option linter.unusedSimpArgs false
def kB : List Blk := [⟨none, 0, 0, 38, 0, 1, 0, []⟩, ⟨none, 0, 0, 40, -1, 0, 0, []⟩]
theorem kB_isG : isG kB = true := by kernel_rfl
theorem kB_lay : layB kB = [⟨40, 0, -1, 0, 0⟩] := by kernel_rfl
theorem kB_len : (layA 0 kB).length ≤ 100000 := of_decide_eq_true (by kernel_rfl)
theorem kB_rch : Rch (blkW kB) 1 := .step .zero (by show 1 ∈ [1]; simp)
theorem kB_rd {w : World} {X : Nat} (h : w.heap[X]? = some (.cells #[.slice none 0 0, .int .i64 38, .int .i64 0, .int .i64 1, .int .i64 0, .slice none 0 0, .int .i64 40, .int .i64 (-1), .int .i64 0, .int .i64 0] 89 (0, 0))) : BRd w (some ⟨X, 0, none⟩) kB := by
  have q := cellOf h
  refine ⟨fun j x hx => ?_, fun x hx => ?_⟩
  · cases j with
    | zero =>
      have : x = ⟨none, 0, 0, 38, 0, 1, 0, []⟩ := by simpa [kB] using hx.symm
      subst this
      refine ⟨X, 0, rfl, fun i hi => ?_⟩
      rcases (show i = 0 ∨ i = 1 ∨ i = 2 ∨ i = 3 ∨ i = 4 by omega) with rfl | rfl | rfl | rfl | rfl
      · exact q 0
      · exact q 1
      · exact q 2
      · exact q 3
      · exact q 4
    | succ j =>
      cases j with
      | zero =>
        have : x = ⟨none, 0, 0, 40, -1, 0, 0, []⟩ := by simpa [kB] using hx.symm
        subst this
        refine ⟨X, 0, rfl, fun i hi => ?_⟩
        rcases (show i = 0 ∨ i = 1 ∨ i = 2 ∨ i = 3 ∨ i = 4 by omega) with rfl | rfl | rfl | rfl | rfl
        · exact q 5
        · exact q 6
        · exact q 7
        · exact q 8
        · exact q 9
      | succ j => simp [kB] at hx
  · have : x.ops = [] ∧ x.on = 0 := by
      rcases List.mem_cons.1 hx with rfl | hx
      · exact ⟨rfl, rfl⟩
      · obtain rfl : x = _ := by simpa using hx
        exact ⟨rfl, rfl⟩
    exact ⟨by rw [this.1, this.2]; rfl, by omega, by rw [this.1]; intro j y hy; simp at hy⟩
theorem kB_nil : ∀ b ∈ kB, b.oa = none → b.oc = 0 := by
  intro x hx _
  rcases List.mem_cons.1 hx with rfl | hx
  · rfl
  · obtain rfl : x = _ := by simpa using hx
    rfl
set_option maxRecDepth 100000 in
set_option maxHeartbeats 2000000 in
theorem known_any (w : World) : Calls Try.prog 10 #[] w fun e w' => e = .returned (.bool true) ∧ Below w.heap.size w w' := by
  obtain ⟨X, hX⟩ : ∃ X, X = w.heap.size := ⟨_, rfl⟩
  obtain ⟨W0, hW0⟩ : ∃ W0, W0 = w.alloc (.cells #[.slice none 0 0, .int .i64 38, .int .i64 0, .int .i64 1, .int .i64 0, .slice none 0 0, .int .i64 40, .int .i64 (-1), .int .i64 0, .int .i64 0] 89) := ⟨_, rfl⟩
  obtain ⟨W1, hW1⟩ : ∃ W1, W1 = W0.alloc (.cells #[.int .i64 0, .slice (some ⟨X, 0, none⟩) 2 2] 92) := ⟨_, rfl⟩
  have z0 : W0.heap.size = X + 1 := by rw [hW0, hX]; simp
  have b0 : Below w.heap.size w W0 := by rw [hW0]; exact (Below.refl _ _).alloc (Nat.le_refl _) _
  have b1 : Below W0.heap.size W0 W1 := by rw [hW1]; exact (Below.refl _ _).alloc (Nat.le_refl _) _
  have m0 : W1.heap[X]? = some (.cells #[.slice none 0 0, .int .i64 38, .int .i64 0, .int .i64 1, .int .i64 0, .slice none 0 0, .int .i64 40, .int .i64 (-1), .int .i64 0, .int .i64 0] 89 (0, 0)) := (b1.block X (by omega)).trans (by rw [hW0, hX]; exact heap_alloc_new _ _)
  have m1 : W1.heap[X + 1]? = some (.cells #[.int .i64 0, .slice (some ⟨X, 0, none⟩) 2 2] 92 (0, 0)) := by rw [← z0, hW1]; exact heap_alloc_new _ _
  have hr := kB_rd m0
  have bw1 : Below w.heap.size w W1 := b0.trans (b1.mono b0.size)
  have K1 := hid (fn_any W1 0 (some ⟨X, 0, none⟩) 2 2 kB rfl (by omega) hr kB_nil kB_len)
  have K2 := hid (fun (v : World) (hv : Below W1.heap.size W1 v) => reached_any v 0 (some ⟨X, 0, none⟩) 2 2 kB rfl (by omega) (hr.below hv))
  have CB := hid (fun (v : World) (hv : Below W1.heap.size W1 v) => (⟨cellOf ((hv.block (X + 1) (lt_of_heap m1)).trans m1) 0, cellOf ((hv.block (X + 1) (lt_of_heap m1)).trans m1) 1⟩ : v.cell? ⟨X + 1, 0, none⟩ = some (.int .i64 0) ∧ v.cell? ⟨X + 1, 1, none⟩ = some (.slice (some ⟨X, 0, none⟩) 2 2)))
  obtain ⟨x0, x1⟩ := CB.out W1 (Below.refl _ _)
  have HB1 := hid bw1
  clear z0 b0 b1 m0 m1 hr bw1
  go_enter Try.func10, Try.ntmps10
  go_upto_region 2 with fail
  rw [← hX, ← hW0, ← hW1]
  clear hX hW0 hW1
  go_upto_region 3 with (go_at_call 27; (refine (Hid.out K1).mono ?_; rintro e w2 ⟨hb2, (⟨_, v2, rfl, ho2⟩ | ⟨hf, _⟩)⟩; rotate_left; (rw [kB_isG] at hf; cases hf); rw [kB_lay] at ho2; obtain ⟨_, g2, c2, rfl⟩ : _ ∧ ∃ g c, v2 = .slice (some ⟨g, 0, none⟩) 1 c := (by { obtain ⟨a', m', c', e', _, _, _⟩ := ho2.rdm; subst e'; obtain ⟨h1, g', h2, _⟩ := ho2.some (by simp); subst h2; subst h1; exact ⟨trivial, g', c', rfl⟩ }); have HO2 := hid ho2; have HB2 := hid hb2; clear ho2 hb2 x0 x1))
  obtain ⟨Y, hY⟩ : ∃ Y, Y = w2.heap.size := ⟨_, rfl⟩
  obtain ⟨W3, hW3⟩ : ∃ W3, W3 = w2.alloc (.cells #[.int .i64 0, .slice (some ⟨g2, 0, none⟩) 1 c2] 73) := ⟨_, rfl⟩
  have b3 : Below w2.heap.size w2 W3 := by rw [hW3]; exact (Below.refl _ _).alloc (Nat.le_refl _) _
  have m3 : W3.heap[Y]? = some (.cells #[.int .i64 0, .slice (some ⟨g2, 0, none⟩) 1 c2] 73 (0, 0)) := by rw [hW3, hY]; exact heap_alloc_new _ _
  have b13 : Below W1.heap.size W1 W3 := HB2.out.trans (b3.mono HB2.out.size)
  have HO3 := hid (HO2.out.below (Nat.le_refl _) b3)
  have K3 := hid (K2.out W3 b13)
  obtain ⟨y0, y1⟩ := CB.out W3 b13
  have RB := hid (fun (v : World) (hv : Below W3.heap.size W3 v) => (by
    have h := (hv.block Y (lt_of_heap m3)).trans m3
    obtain ⟨b', off', e', hc⟩ := (HO3.out.below (Nat.le_refl _) hv).ord 0 _ rfl
    cases e'
    exact ⟨cellOf h 0, cellOf h 1, by have := hc 0 (by omega); simpa [Opx.cs] using this⟩ : v.cell? ⟨Y, 0, none⟩ = some (.int .i64 0) ∧ v.cell? ⟨Y, 1, none⟩ = some (.slice (some ⟨g2, 0, none⟩) 1 c2) ∧ v.cell? ⟨g2, 0, none⟩ = some (.int .i64 40)))
  have HB3 := hid (HB1.out.trans (b13.mono HB1.out.size))
  rw [← hY, ← hW3]
  clear hY hW3 b3 m3 b13 K1 K2 HO2 HO3 HB2 CB
  go_wp2_with (go_at_call 28; (refine (Hid.out K3).mono ?_; rintro e w4 ⟨hb4, (⟨_, P, b4, rfl, _, hm4, hP⟩ | ⟨hf, _⟩)⟩; rotate_left; (rw [kB_isG] at hf; cases hf); obtain ⟨r0, r1, r2⟩ := RB.out w4 hb4; have r3 := cellOf hm4 1; rw [mk_get (by omega), decide_eq_true ((hP 1 (by omega)).2 kB_rch)] at r3; have HB4 := hid (HB3.out.trans (hb4.mono HB3.out.size)); clear hb4 hm4 hP y0 y1))
  go_ret
  exact ⟨rfl, HB4.out⟩
end Go.Proofs.Ytmhjnfibpngpmaa

namespace Go.Proofs.Ytmhjnfibpngpmaa
set_option maxRecDepth 100000
open Go.RowKit Go.Deep Go.Shelf
set_option linter.unusedVariables false
set_option linter.unusedSimpArgs false
set_option maxRecDepth 100000 in
set_option maxHeartbeats 2000000 in
theorem isBlock_any (w : World) (oa : Option Addr) (on oc : Nat) (en ba tt el : Int) (ops : List Opx) (hn : on = ops.length) (hnb : on ≤ 1000000) (hr : ORd w oa ops) (n : Nat) : Calls Try.prog 152 #[.agg #[.slice oa on oc, .int .i64 en, .int .i64 ba, .int .i64 tt, .int .i64 el], .int .i64 (n : Int)] w fun e w' => e = .returned (.bool (okBk n ⟨oa, on, oc, en, ba, tt, el, ops⟩)) ∧ Below w.heap.size w w' := by
  obtain ⟨X, hX⟩ : ∃ X, X = w.heap.size := ⟨_, rfl⟩
  obtain ⟨W0, hW0⟩ : ∃ W0, W0 = w.alloc (.cells #[.slice oa on oc, .int .i64 en, .int .i64 ba, .int .i64 tt, .int .i64 el] 89) := ⟨_, rfl⟩
  have bw0 : Below w.heap.size w W0 := by rw [hW0]; exact (Below.refl _ _).alloc (Nat.le_refl _) _
  have m0 : W0.heap[X]? = some (.cells #[.slice oa on oc, .int .i64 en, .int .i64 ba, .int .i64 tt, .int .i64 el] 89 (0, 0)) := by rw [hW0, hX]; exact heap_alloc_new _ _
  have x0 := cellOf m0 0
  have x1 := cellOf m0 1
  have x2 := cellOf m0 2
  have x3 := cellOf m0 3
  have x4 := cellOf m0 4
  simp only [List.getElem?_toArray, List.getElem?_cons_zero, List.getElem?_cons_succ] at x0 x1 x2 x3 x4
  have HR := hid (hr.below bw0)
  have HB0 := hid bw0
  have HN := hid hn
  have hnI : (on : Int) ≤ 1000000 := by omega
  have eok : okBk n ⟨oa, on, oc, en, ba, tt, el, ops⟩ = (endE en ba tt el && wthB (n : Int) (tgE en tt el) && strB ops) := rfl
  have EOK := hid eok
  clear bw0 m0 hr hn eok
  go_enter Try.func152, Try.ntmps152
  go_upto_region 1 with fail
  rw [← hX, ← hW0]
  clear hX hW0
  go_wp2
  go_loopg [5] on (fun g x wr => ∃ j : Nat, j + g = on ∧ x = .int .i64 (j : Int) ∧ strB (ops.take j) = true ∧ wr = W0)
  case atStart => exact ⟨0, by omega, rfl, by simp [strB], rfl⟩
  case round =>
    obtain ⟨j, hj, rfl, hp, rfl⟩ := hrel
    cases gk with
    | zero =>
      have hjn : j = on := by omega
      subst hjn
      have hst : strB ops = true := by
        rw [HN.out, List.take_of_length_le (Nat.le_refl _)] at hp
        exact hp
      have EK : Hid (okBk n ⟨oa, j, oc, en, ba, tt, el, ops⟩ = (endE en ba tt el && wthB (n : Int) (tgE en tt el))) := hid (by rw [EOK.out, hst, Bool.and_true])
      clear hp hst EOK
      by_cases e38 : en = 38
      · subst e38
        by_cases p1 : 0 ≤ tt
        · by_cases p2 : tt < (n : Int)
          · by_cases p3 : ba = 0
            · by_cases p4 : el = 0
              · have HO : Hid (okBk n ⟨oa, j, oc, 38, ba, tt, el, ops⟩ = true) := hid (by rw [EK.out]; simp [endE, tgE, wthB, p1, p2, p3, p4])
                have bp3 : (ba == 0) = true := by simpa using p3
                clear p3
                have bp4 : (el == 0) = true := by simpa using p4
                clear p4
                go_wp2
                go_ret
                exact ⟨by rw [HO.out]; rfl, HB0.out⟩
              · have HO : Hid (okBk n ⟨oa, j, oc, 38, ba, tt, el, ops⟩ = false) := hid (by rw [EK.out]; simp [endE, tgE, wthB, p1, p2, p3, p4])
                have bp3 : (ba == 0) = true := by simpa using p3
                clear p3
                have bp4 : (el == 0) = false := by simpa using p4
                clear p4
                go_wp2
                go_ret
                exact ⟨by rw [HO.out]; rfl, HB0.out⟩
            · have HO : Hid (okBk n ⟨oa, j, oc, 38, ba, tt, el, ops⟩ = false) := hid (by rw [EK.out]; simp [endE, tgE, wthB, p1, p2, p3])
              have bp3 : (ba == 0) = false := by simpa using p3
              clear p3
              go_wp2
              go_ret
              exact ⟨by rw [HO.out]; rfl, HB0.out⟩
          · have HO : Hid (okBk n ⟨oa, j, oc, 38, ba, tt, el, ops⟩ = false) := hid (by rw [EK.out]; simp [endE, tgE, wthB, p1, p2])
            go_wp2
            go_ret
            exact ⟨by rw [HO.out]; rfl, HB0.out⟩
        · have HO : Hid (okBk n ⟨oa, j, oc, 38, ba, tt, el, ops⟩ = false) := hid (by rw [EK.out]; simp [endE, tgE, wthB, p1])
          go_wp2
          go_ret
          exact ⟨by rw [HO.out]; rfl, HB0.out⟩
      · have g38 : (en == 38) = false := by simpa using e38
        by_cases e39 : en = 39
        · subst e39
          by_cases p1 : 0 ≤ tt
          · by_cases p2 : tt < (n : Int)
            · by_cases p3 : 0 ≤ el
              · by_cases p4 : el < (n : Int)
                · by_cases p5 : 0 ≤ ba
                  · have HO : Hid (okBk n ⟨oa, j, oc, 39, ba, tt, el, ops⟩ = true) := hid (by rw [EK.out]; simp [endE, tgE, wthB, p1, p2, p3, p4, p5])
                    go_wp2
                    go_ret
                    exact ⟨by rw [HO.out]; rfl, HB0.out⟩
                  · have HO : Hid (okBk n ⟨oa, j, oc, 39, ba, tt, el, ops⟩ = false) := hid (by rw [EK.out]; simp [endE, tgE, wthB, p1, p2, p3, p4, p5])
                    go_wp2
                    go_ret
                    exact ⟨by rw [HO.out]; rfl, HB0.out⟩
                · have HO : Hid (okBk n ⟨oa, j, oc, 39, ba, tt, el, ops⟩ = false) := hid (by rw [EK.out]; simp [endE, tgE, wthB, p1, p2, p3, p4])
                  go_wp2
                  go_ret
                  exact ⟨by rw [HO.out]; rfl, HB0.out⟩
              · have HO : Hid (okBk n ⟨oa, j, oc, 39, ba, tt, el, ops⟩ = false) := hid (by rw [EK.out]; simp [endE, tgE, wthB, p1, p2, p3])
                go_wp2
                go_ret
                exact ⟨by rw [HO.out]; rfl, HB0.out⟩
            · have HO : Hid (okBk n ⟨oa, j, oc, 39, ba, tt, el, ops⟩ = false) := hid (by rw [EK.out]; simp [endE, tgE, wthB, p1, p2])
              go_wp2
              go_ret
              exact ⟨by rw [HO.out]; rfl, HB0.out⟩
          · have HO : Hid (okBk n ⟨oa, j, oc, 39, ba, tt, el, ops⟩ = false) := hid (by rw [EK.out]; simp [endE, tgE, wthB, p1])
            go_wp2
            go_ret
            exact ⟨by rw [HO.out]; rfl, HB0.out⟩
        · have g39 : (en == 39) = false := by simpa using e39
          by_cases e40 : en = 40
          · subst e40
            by_cases t1 : 0 ≤ tt ∧ tt < (n : Int)
            · obtain ⟨t2, t3⟩ := t1
              by_cases p1 : -1 ≤ ba
              · by_cases p2 : tt = 0
                · by_cases p3 : el = 0
                  · have HO : Hid (okBk n ⟨oa, j, oc, 40, ba, tt, el, ops⟩ = true) := hid (by rw [EK.out]; simp [endE, tgE, wthB, p1, p2, p3])
                    have bp2 : (tt == 0) = true := by simpa using p2
                    clear p2
                    have bp3 : (el == 0) = true := by simpa using p3
                    clear p3
                    go_wp2
                    go_ret
                    exact ⟨by rw [HO.out]; rfl, HB0.out⟩
                  · have HO : Hid (okBk n ⟨oa, j, oc, 40, ba, tt, el, ops⟩ = false) := hid (by rw [EK.out]; simp [endE, tgE, wthB, p1, p2, p3])
                    have bp2 : (tt == 0) = true := by simpa using p2
                    clear p2
                    have bp3 : (el == 0) = false := by simpa using p3
                    clear p3
                    go_wp2
                    go_ret
                    exact ⟨by rw [HO.out]; rfl, HB0.out⟩
                · have HO : Hid (okBk n ⟨oa, j, oc, 40, ba, tt, el, ops⟩ = false) := hid (by rw [EK.out]; simp [endE, tgE, wthB, p1, p2])
                  have bp2 : (tt == 0) = false := by simpa using p2
                  clear p2
                  go_wp2
                  go_ret
                  exact ⟨by rw [HO.out]; rfl, HB0.out⟩
              · have HO : Hid (okBk n ⟨oa, j, oc, 40, ba, tt, el, ops⟩ = false) := hid (by rw [EK.out]; simp [endE, tgE, wthB, p1])
                go_wp2
                go_ret
                exact ⟨by rw [HO.out]; rfl, HB0.out⟩
            · by_cases t2 : 0 ≤ tt
              · have t3 : ¬ tt < (n : Int) := fun h => t1 ⟨t2, h⟩
                clear t1
                by_cases p1 : -1 ≤ ba
                · by_cases p2 : tt = 0
                  · by_cases p3 : el = 0
                    · have HO : Hid (okBk n ⟨oa, j, oc, 40, ba, tt, el, ops⟩ = true) := hid (by rw [EK.out]; simp [endE, tgE, wthB, p1, p2, p3])
                      have bp2 : (tt == 0) = true := by simpa using p2
                      clear p2
                      have bp3 : (el == 0) = true := by simpa using p3
                      clear p3
                      go_wp2
                      go_ret
                      exact ⟨by rw [HO.out]; rfl, HB0.out⟩
                    · have HO : Hid (okBk n ⟨oa, j, oc, 40, ba, tt, el, ops⟩ = false) := hid (by rw [EK.out]; simp [endE, tgE, wthB, p1, p2, p3])
                      have bp2 : (tt == 0) = true := by simpa using p2
                      clear p2
                      have bp3 : (el == 0) = false := by simpa using p3
                      clear p3
                      go_wp2
                      go_ret
                      exact ⟨by rw [HO.out]; rfl, HB0.out⟩
                  · have HO : Hid (okBk n ⟨oa, j, oc, 40, ba, tt, el, ops⟩ = false) := hid (by rw [EK.out]; simp [endE, tgE, wthB, p1, p2])
                    have bp2 : (tt == 0) = false := by simpa using p2
                    clear p2
                    go_wp2
                    go_ret
                    exact ⟨by rw [HO.out]; rfl, HB0.out⟩
                · have HO : Hid (okBk n ⟨oa, j, oc, 40, ba, tt, el, ops⟩ = false) := hid (by rw [EK.out]; simp [endE, tgE, wthB, p1])
                  go_wp2
                  go_ret
                  exact ⟨by rw [HO.out]; rfl, HB0.out⟩
              · clear t1
                by_cases p1 : -1 ≤ ba
                · by_cases p2 : tt = 0
                  · by_cases p3 : el = 0
                    · have HO : Hid (okBk n ⟨oa, j, oc, 40, ba, tt, el, ops⟩ = true) := hid (by rw [EK.out]; simp [endE, tgE, wthB, p1, p2, p3])
                      have bp2 : (tt == 0) = true := by simpa using p2
                      clear p2
                      have bp3 : (el == 0) = true := by simpa using p3
                      clear p3
                      go_wp2
                      go_ret
                      exact ⟨by rw [HO.out]; rfl, HB0.out⟩
                    · have HO : Hid (okBk n ⟨oa, j, oc, 40, ba, tt, el, ops⟩ = false) := hid (by rw [EK.out]; simp [endE, tgE, wthB, p1, p2, p3])
                      have bp2 : (tt == 0) = true := by simpa using p2
                      clear p2
                      have bp3 : (el == 0) = false := by simpa using p3
                      clear p3
                      go_wp2
                      go_ret
                      exact ⟨by rw [HO.out]; rfl, HB0.out⟩
                  · have HO : Hid (okBk n ⟨oa, j, oc, 40, ba, tt, el, ops⟩ = false) := hid (by rw [EK.out]; simp [endE, tgE, wthB, p1, p2])
                    have bp2 : (tt == 0) = false := by simpa using p2
                    clear p2
                    go_wp2
                    go_ret
                    exact ⟨by rw [HO.out]; rfl, HB0.out⟩
                · have HO : Hid (okBk n ⟨oa, j, oc, 40, ba, tt, el, ops⟩ = false) := hid (by rw [EK.out]; simp [endE, tgE, wthB, p1])
                  go_wp2
                  go_ret
                  exact ⟨by rw [HO.out]; rfl, HB0.out⟩
          · have g40 : (en == 40) = false := by simpa using e40
            have HO : Hid (okBk n ⟨oa, j, oc, en, ba, tt, el, ops⟩ = false) := hid (by rw [EK.out]; simp [endE, e38, e39, e40])
            by_cases t2 : 0 ≤ tt
            · by_cases t3 : tt < (n : Int)
              · go_wp2
                go_ret
                exact ⟨by rw [HO.out]; rfl, HB0.out⟩
              · go_wp2
                go_ret
                exact ⟨by rw [HO.out]; rfl, HB0.out⟩
            · go_wp2
              go_ret
              exact ⟨by rw [HO.out]; rfl, HB0.out⟩
    | succ g =>
      obtain ⟨o, ho⟩ : ∃ o, ops[j]? = some o := ⟨ops[j]'(by have := HN.out; omega), List.getElem?_eq_getElem _⟩
      obtain ⟨b, off, rfl, hc⟩ := HR.out j o ho
      have ht : ops.take (j + 1) = ops.take j ++ [o] := by rw [List.take_add_one, ho]; rfl
      have hno : strO o = false → strB ops = false := fun h => by
        refine Bool.eq_false_iff.2 fun hk => ?_
        have := List.all_eq_true.1 hk o (List.mem_of_getElem? ho)
        rw [h] at this; cases this
      obtain ⟨c0, od, oa', ob, ok⟩ := o
      have e0 := hc 0 (by omega)
      simp only [Opx.cs, List.getElem?_toArray, List.getElem?_cons_zero, List.getElem?_cons_succ, Nat.add_zero] at e0
      have hjI : (j : Int) < (on : Int) := by omega
      have hj0 : (0 : Int) ≤ (j : Int) := by omega
      have HP := hid hp
      have HT := hid ht
      rcases (show c0 = 38 ∨ c0 = 39 ∨ c0 = 40 ∨ (¬ c0 = 38 ∧ ¬ c0 = 39 ∧ ¬ c0 = 40) by omega) with h | h | h | ⟨h1, h2, h3⟩
      · subst h
        have HO : Hid (okBk n ⟨some ⟨b, off, none⟩, on, oc, en, ba, tt, el, ops⟩ = false) := hid (by rw [EOK.out, hno (by simp [strO, jmpB])]; simp)
        clear hp ht hno hc ho EOK
        go_wp2
        go_ret
        exact ⟨by rw [HO.out]; rfl, HB0.out⟩
      · subst h
        have HO : Hid (okBk n ⟨some ⟨b, off, none⟩, on, oc, en, ba, tt, el, ops⟩ = false) := hid (by rw [EOK.out, hno (by simp [strO, jmpB])]; simp)
        clear hp ht hno hc ho EOK
        go_wp2
        go_ret
        exact ⟨by rw [HO.out]; rfl, HB0.out⟩
      · subst h
        have HO : Hid (okBk n ⟨some ⟨b, off, none⟩, on, oc, en, ba, tt, el, ops⟩ = false) := hid (by rw [EOK.out, hno (by simp [strO, jmpB])]; simp)
        clear hp ht hno hc ho EOK
        go_wp2
        go_ret
        exact ⟨by rw [HO.out]; rfl, HB0.out⟩
      · have g1 : (c0 == 38) = false := by simpa using h1
        have g2 : (c0 == 39) = false := by simpa using h2
        have g3 : (c0 == 40) = false := by simpa using h3
        have HO : Hid (strO ⟨c0, od, oa', ob, ok⟩ = true) := hid (by simp [strO, jmpB, h1, h2, h3])
        clear hp ht hno hc ho
        go_wp2
        go_roundg g
        case measure => omega
        exact ⟨j + 1, by omega, by go_num, by rw [HT.out]; unfold strB; rw [List.all_append]; have := HP.out; unfold strB at this; rw [this]; simp [HO.out], rfl⟩
end Go.Proofs.Ytmhjnfibpngpmaa

namespace Go.Proofs.Ytmhjnfibpngpmaa
set_option maxRecDepth 100000
open Go.RowKit Go.Deep Go.Shelf
set_option linter.unusedVariables false
set_option linter.unusedSimpArgs false
set_option maxRecDepth 100000 in
set_option maxHeartbeats 1000000 in
theorem refIsGraph_any (w : World) (regs : Int) (a : Option Addr) (n c : Nat) (bs : List Blk) (hn : n = bs.length) (hnb : n ≤ 1000000) (hr : BRd w a bs) : Calls Try.prog 123 #[.agg #[.int .i64 regs, .slice a n c]] w fun e w' => e = .returned (.bool (isG bs)) ∧ Below w.heap.size w w' := by
  obtain ⟨X, hX⟩ : ∃ X, X = w.heap.size := ⟨_, rfl⟩
  obtain ⟨W0, hW0⟩ : ∃ W0, W0 = w.alloc (.cells #[.int .i64 regs, .slice a n c] 92) := ⟨_, rfl⟩
  have bw0 : Below w.heap.size w W0 := by rw [hW0]; exact (Below.refl _ _).alloc (Nat.le_refl _) _
  have m0 : W0.heap[X]? = some (.cells #[.int .i64 regs, .slice a n c] 92 (0, 0)) := by rw [hW0, hX]; exact heap_alloc_new _ _
  have x1 := cellOf m0 1
  simp only [List.getElem?_toArray, List.getElem?_cons_zero, List.getElem?_cons_succ] at x1
  have CB := hid (fun (v : World) (hv : Below W0.heap.size W0 v) => (cellOf ((hv.block X (lt_of_heap m0)).trans m0) 1 : v.cell? ⟨X, 1, none⟩ = some (.slice a n c)))
  have hnI : (n : Int) ≤ 1000000 := by omega
  have hn0 : (0 : Int) ≤ (n : Int) := by omega
  have HN := hid hn
  have HR := hid (hr.below bw0)
  have HB0 := hid bw0
  clear hn hr bw0 m0
  by_cases hz : n = 0
  · subst hz
    have HO : Hid (isG bs = false) := hid (by unfold isG; rw [← HN.out]; rfl)
    go_enter Try.func123, Try.ntmps123
    go_upto_region 1 with fail
    rw [← hX, ← hW0]
    clear hW0 hX
    go_wp2
    go_ret
    exact ⟨by rw [HO.out]; rfl, HB0.out⟩
  · have hzb : ¬ (n : Int) < 1 := by omega
    by_cases hbig : 2000 < n
    · have hbI : (2000 : Int) < (n : Int) := by omega
      have HO : Hid (isG bs = false) := hid (by unfold isG; rw [← HN.out, decide_eq_false (by omega : ¬ n ≤ 2000)]; simp)
      go_enter Try.func123, Try.ntmps123
      go_upto_region 1 with fail
      rw [← hX, ← hW0]
      clear hW0 hX
      go_wp2
      go_ret
      exact ⟨by rw [HO.out]; rfl, HB0.out⟩
    · have hbI : ¬ (2000 : Int) < (n : Int) := by omega
      go_enter Try.func123, Try.ntmps123
      go_upto_region 1 with fail
      rw [← hX, ← hW0]
      clear hW0 hX
      go_wp2
      go_loopg [4] n (fun g x wr => ∃ j : Nat, j + g = n ∧ x = .int .i64 (j : Int) ∧ (bs.take j).all (okBk n) = true ∧ Below W0.heap.size W0 wr)
      case atStart => exact ⟨0, by omega, rfl, by simp, Below.refl _ _⟩
      case round =>
        obtain ⟨j, hj, rfl, hp, hb⟩ := hrel
        cases gk with
        | zero =>
          have hjn : j = n := by omega
          subst hjn
          have HP : Hid (isG bs = true) := hid (by
            rw [HN.out, List.take_of_length_le (Nat.le_refl _)] at hp
            unfold isG
            rw [hp, ← HN.out]; simp; omega)
          have HB := hid (HB0.out.trans (hb.mono HB0.out.size))
          clear hp hb
          go_wp2
          go_ret
          exact ⟨by rw [HP.out]; rfl, HB.out⟩
        | succ g =>
          obtain ⟨o, ho⟩ : ∃ o, bs[j]? = some o := ⟨bs[j]'(by have := HN.out; omega), List.getElem?_eq_getElem _⟩
          have hrb := HR.out.below hb
          obtain ⟨b, off, rfl, hc⟩ := hrb.c j o ho
          have hbk := hrb.e o (List.mem_of_getElem? ho)
          have ht : bs.take (j + 1) = bs.take j ++ [o] := by rw [List.take_add_one, ho]; rfl
          have hno : okBk n o = false → isG bs = false := fun h => by
            refine Bool.eq_false_iff.2 fun hk => ?_
            unfold isG at hk
            simp only [Bool.and_eq_true] at hk
            have := List.all_eq_true.1 hk.2 o (List.mem_of_getElem? ho)
            rw [← HN.out, h] at this; cases this
          obtain ⟨oa, on, oc, en, ba, tt, el, ops⟩ := o
          have c0 := hc 0 (by omega)
          have c1 := hc 1 (by omega)
          have c2 := hc 2 (by omega)
          have c3 := hc 3 (by omega)
          have c4 := hc 4 (by omega)
          simp only [Blk.cs, List.getElem?_toArray, List.getElem?_cons_zero, List.getElem?_cons_succ, Nat.add_zero] at c0 c1 c2 c3 c4
          have hjI : (j : Int) < (n : Int) := by omega
          have hj0 : (0 : Int) ≤ (j : Int) := by omega
          have hon : on = ops.length := hbk.n
          have honb : on ≤ 10000 := hbk.nb
          have y1 := CB.out wr hb
          have K1 := hid (isBlock_any wr oa on oc en ba tt el ops hon (by omega) hbk.r n)
          have HP := hid hp
          have HT := hid ht
          have HNO := hid hno
          have HB := hid hb
          clear hp ht hno hc ho hb hrb hbk hon x1
          cases h1 : okBk n ⟨oa, on, oc, en, ba, tt, el, ops⟩ with
          | false =>
            rw [h1] at K1
            have HO := hid (HNO.out h1)
            clear h1
            go_wp2_with (go_at_call 152; (refine (Hid.out K1).mono ?_; rintro e w1 ⟨rfl, hb1⟩; have HB1 := hid (HB.out.trans (hb1.mono HB.out.size)); clear hb1))
            go_ret
            exact ⟨by rw [HO.out]; rfl, HB0.out.trans (HB1.out.mono HB0.out.size)⟩
          | true =>
            rw [h1] at K1
            have HO := hid h1
            clear h1
            go_wp2_with (go_at_call 152; (refine (Hid.out K1).mono ?_; rintro e w1 ⟨rfl, hb1⟩; have HB1 := hid (HB.out.trans (hb1.mono HB.out.size)); clear hb1))
            go_roundg g
            case measure => omega
            exact ⟨j + 1, by omega, by go_num, by rw [HT.out, List.all_append, HP.out]; simp [HO.out], HB1.out⟩
end Go.Proofs.Ytmhjnfibpngpmaa

namespace Go.Proofs.Ytmhjnfibpngpmaa
set_option maxRecDepth 100000
open Go.RowKit Go.Deep Go.Shelf
set_option linter.unusedVariables false
set_option linter.unusedSimpArgs false
def szE (en tt el : Int) (i : Nat) : Nat := if en = 38 then (if tt = (i : Int) + 1 then 0 else 1) else if en = 39 then (if el = (i : Int) + 1 then 1 else 2) else 1
theorem szE_eq {n i : Nat} {b : Blk} (h : okBk n b = true) : szE b.en b.tt b.el i = (enB b i).length := by
  have he : endE b.en b.a b.tt b.el = true := by
    unfold okBk at h
    simp only [Bool.and_eq_true] at h
    exact h.1.1
  have lp : ∀ x y : Int, (lpO x y).length = if x = y then 0 else 1 := by intro x y; unfold lpO; split <;> rfl
  by_cases h1 : b.en = 38
  · have e1 : enB b i = lpO b.tt ((i : Int) + 1) := by unfold enB enO; rw [if_neg (by omega), if_neg (by omega)]
    rw [e1, lp]; unfold szE; rw [if_pos h1]
  · by_cases h2 : b.en = 39
    · have e1 : enB b i = ⟨39, 0, b.a, 0, b.tt⟩ :: lpO b.el ((i : Int) + 1) := by unfold enB enO; rw [if_pos h2]
      rw [e1, List.length_cons, lp]; unfold szE; rw [if_neg h1, if_pos h2]
      split <;> rfl
    · have h3 : b.en = 40 := by
        refine Classical.byContradiction fun h3 => ?_
        unfold endE at he
        rw [if_neg h1, if_neg h2, if_neg h3] at he
        cases he
      have e1 : enB b i = [⟨40, 0, b.a, 0, 0⟩] := by unfold enB enO; rw [if_neg h2, if_pos h3]
      rw [e1]; unfold szE; rw [if_neg h1, if_neg h2]; rfl
set_option maxRecDepth 100000 in
set_option maxHeartbeats 1000000 in
theorem size_any (w : World) (oa : Option Addr) (on oc : Nat) (en ba tt el : Int) (i : Nat) (hi : i ≤ 1000000) (hon : on ≤ 1000000) : Calls Try.prog 124 #[.agg #[.slice oa on oc, .int .i64 en, .int .i64 ba, .int .i64 tt, .int .i64 el], .int .i64 (i : Int)] w fun e w' => e = .returned (.int .i64 ((on : Int) + (szE en tt el i : Int))) ∧ Below w.heap.size w w' := by
  obtain ⟨X, hX⟩ : ∃ X, X = w.heap.size := ⟨_, rfl⟩
  obtain ⟨W0, hW0⟩ : ∃ W0, W0 = w.alloc (.cells #[.slice oa on oc, .int .i64 en, .int .i64 ba, .int .i64 tt, .int .i64 el] 89) := ⟨_, rfl⟩
  have bw0 : Below w.heap.size w W0 := by rw [hW0]; exact (Below.refl _ _).alloc (Nat.le_refl _) _
  have m0 : W0.heap[X]? = some (.cells #[.slice oa on oc, .int .i64 en, .int .i64 ba, .int .i64 tt, .int .i64 el] 89 (0, 0)) := by rw [hW0, hX]; exact heap_alloc_new _ _
  have x0 := cellOf m0 0
  have x1 := cellOf m0 1
  have x3 := cellOf m0 3
  have x4 := cellOf m0 4
  simp only [List.getElem?_toArray, List.getElem?_cons_zero, List.getElem?_cons_succ] at x0 x1 x3 x4
  have HB0 := hid bw0
  have hiI : (i : Int) ≤ 1000000 := by omega
  have hi0 : (0 : Int) ≤ (i : Int) := by omega
  have hoI : (on : Int) ≤ 1000000 := by omega
  have ho0 : (0 : Int) ≤ (on : Int) := by omega
  clear bw0 m0
  by_cases h1 : en = 38
  · subst h1
    by_cases h2 : tt = (i : Int) + 1
    · have HF : Hid (szE 38 tt el i = 0) := hid (by unfold szE; rw [if_pos rfl, if_pos h2])
      have g2 : (tt != (i : Int) + 1) = false := by simp [h2]
      clear h2
      go_enter Try.func124, Try.ntmps124
      go_upto_region 1 with fail
      rw [← hX, ← hW0]
      clear hX hW0
      go_wp2
      go_ret
      exact ⟨by rw [HF.out]; simp, HB0.out⟩
    · have HF : Hid (szE 38 tt el i = 1) := hid (by unfold szE; rw [if_pos rfl, if_neg h2])
      have g2 : (tt != (i : Int) + 1) = true := by simpa using h2
      go_enter Try.func124, Try.ntmps124
      go_upto_region 1 with fail
      rw [← hX, ← hW0]
      clear hX hW0
      go_wp2
      go_ret
      exact ⟨by rw [HF.out]; simp, HB0.out⟩
  · have g1 : (en == 38) = false := by simpa using h1
    by_cases h3 : en = 39
    · subst h3
      by_cases h2 : el = (i : Int) + 1
      · have HF : Hid (szE 39 tt el i = 1) := hid (by unfold szE; rw [if_neg (by decide), if_pos rfl, if_pos h2])
        have g2 : (el != (i : Int) + 1) = false := by simp [h2]
        clear h2
        go_enter Try.func124, Try.ntmps124
        go_upto_region 1 with fail
        rw [← hX, ← hW0]
        clear hX hW0
        go_wp2
        go_ret
        exact ⟨by rw [HF.out]; simp, HB0.out⟩
      · have HF : Hid (szE 39 tt el i = 2) := hid (by unfold szE; rw [if_neg (by decide), if_pos rfl, if_neg h2])
        have g2 : (el != (i : Int) + 1) = true := by simpa using h2
        go_enter Try.func124, Try.ntmps124
        go_upto_region 1 with fail
        rw [← hX, ← hW0]
        clear hX hW0
        go_wp2
        go_ret
        exact ⟨by rw [HF.out]; simp; try omega, HB0.out⟩
    · have g3 : (en == 39) = false := by simpa using h3
      have HF : Hid (szE en tt el i = 1) := hid (by unfold szE; rw [if_neg h1, if_neg h3])
      go_enter Try.func124, Try.ntmps124
      go_upto_region 1 with fail
      rw [← hX, ← hW0]
      clear hX hW0
      go_wp2
      go_ret
      exact ⟨by rw [HF.out]; simp, HB0.out⟩
/- The box of what is made, the box of the block. -/
structure RX (W9 : World) (FB X : Nat) (regs : Int) (xc : Array Value) (a : Option Addr) (m c : Nat) (L : List Opx) (wr : World) : Prop where
  b : Below FB W9 wr
  f : wr.heap[FB]? = some (.cells #[.int .i64 regs, .slice a m c] 73 (0, 0))
  o : OpR wr (FB + 1) (.slice a m c) L
  x : wr.heap[X]? = some (.cells xc 89 (0, 0))
  xn : Value.ownBlock (.slice a m c) ≠ some X
  fx : FB < X
theorem RX.app {W9 : World} {FB X : Nat} {regs : Int} {xc : Array Value} {a : Option Addr} {m c : Nat} {L L2 : List Opx} {wr wa w2 : World} (h : RX W9 FB X regs xc a m c L wr) (hb : Below wr.heap.size wr wa) {a2 : Option Addr} {m2 c2 : Nat} (ho : OpR w2 (FB + 1) (.slice a2 m2 c2) L2) (hg : wa.grownBy w2 (Value.ownBlock (.slice a m c))) (hn : Value.ownBlock (.slice a2 m2 c2) = Value.ownBlock (.slice a m c) ∨ Value.ownBlock (.slice a2 m2 c2) = some wa.heap.size) : RX W9 FB X regs xc a2 m2 c2 L2 (w2.setCell ⟨FB, 1, none⟩ (.slice a2 m2 c2)) ∧ w2.heap[FB]? = some (.cells #[.int .i64 regs, .slice a m c] 73 (0, 0)) := by
  have hfl := lt_of_heap h.f
  have hxl := lt_of_heap h.x
  have hsz := hb.size
  have k : Below (FB + 1) wa w2 := grown_below (h.o.below (Nat.le_refl _) hb) hg (by omega)
  have k1 : Below (FB + 1) wr w2 := (hb.mono (by omega)).trans k
  have hf2 : w2.heap[FB]? = some (.cells #[.int .i64 regs, .slice a m c] 73 (0, 0)) := (k1.block FB (by omega)).trans h.f
  refine ⟨⟨(h.b.trans (k1.mono (by omega))).setCell (p := ⟨FB, 1, none⟩) (Nat.le_refl _) _, heap_set_at hf2 1 _, ho.keep (fun g e => Below.heap_setCell _ _ _ _ (by have := (ho.own e).1; show g ≠ FB; omega)), ?_, ?_, h.fx⟩, hf2⟩
  · refine (Below.heap_setCell _ _ _ _ (by have := h.fx; show X ≠ FB; omega)).trans ?_
    exact (hg.block X (by omega) (fun e => h.xn e.symm)).trans ((hb.block X hxl).trans h.x)
  · intro e
    rcases hn with hn | hn
    · exact h.xn (hn.symm.trans e)
    · rw [hn] at e; cases e; omega
end Go.Proofs.Ytmhjnfibpngpmaa

