/- Write. -/
import Derived.Test.YtbhopjnolgfpnaaF
import Derived.Maps.AppendAt
import Derived.Deep.RegionLaw
import Derived.Deep.RegionHeld3
import Derived.Deep.AppendLies
namespace Go.Proofs.Ytbhopjnolgfpnaa
open Go.RowKit Go.Deep
set_option linter.unusedVariables false
set_option linter.unusedSimpArgs false

set_option maxHeartbeats 400000 in
theorem write_no (w : World) {bd bf cf bn cn : Nat} {vr : Value} {F N : List ByteArray} {R : List (Nat × ByteArray)} {left : Int} (h : Disk w bd bf cf bn cn vr F N R left) (i : Int) (c : Int) (hc : reachB left i F.length = c) (hne : (c != 0) = true)
    (v : Value) :
    Calls Try.prog 7 #[.pointer (some ⟨bd, 0, none⟩), .int .i64 i, v] w fun e w' => e = .returned (.int .i64 c) ∧ w' = w := by
  have hr := reach_any w bd _ _ _ _ _ _ i h.dk
  rw [hc] at hr
  have Hr := hid hr
  clear hr hc h
  go_enter Try.func7, Try.ntmps7
  go_wp2_with (go_at_call 18; refine (Hid.out Hr).mono ?_; rintro e w' ⟨rfl, rfl⟩)
  go_ret
  exact ⟨rfl, rfl⟩

set_option maxHeartbeats 400000 in
theorem write_short (w : World) {bd bf cf bn cn : Nat} {vr : Value} {F N : List ByteArray} {R : List (Nat × ByteArray)} {left : Int} (h : Disk w bd bf cf bn cn vr F N R left) (i : Int) (hc : reachB left i F.length = 0)
    (a : Option Addr) (n cap : Nat) (hn : ((n : Int) != 256) = true) :
    Calls Try.prog 7 #[.pointer (some ⟨bd, 0, none⟩), .int .i64 i, .slice a n cap] w fun e w' => e = .returned (.int .i64 10) ∧ w' = w := by
  have hr := reach_any w bd _ _ _ _ _ _ i h.dk
  rw [hc] at hr
  have Hr := hid hr
  clear hr hc h
  go_enter Try.func7, Try.ntmps7
  go_wp2_with (go_at_call 18; refine (Hid.out Hr).mono ?_; rintro e w' ⟨rfl, rfl⟩)
  go_ret
  exact ⟨rfl, rfl⟩

theorem info47 : (Try.prog.info? 47).map (fun i => (i.zero, i.size, i.bytes)) = some (some (.agg #[.int .i64 0, .string ByteArray.empty]), 2, 24) := by kernel_rfl

theorem Disk.apart {w : World} {bd bf cf bn cn vr F N R left} (h : Disk w bd bf cf bn cn vr F N R left) : bd < w.heap.size ∧ bn < w.heap.size ∧ bf < w.heap.size ∧ bd ≠ bn ∧ bd ≠ bf ∧ some bd ≠ vr.ownBlock ∧ some bn ≠ vr.ownBlock ∧ some bf ≠ vr.ownBlock := by
  obtain ⟨cf1, hf1, _⟩ := ownsRow_block h.f
  obtain ⟨cn1, hn1, _⟩ := ownsRow_block h.n
  have hd := h.dk
  unfold Dk at hd
  refine ⟨(Array.getElem?_eq_some_iff.1 hd).1, (Array.getElem?_eq_some_iff.1 hn1).1, (Array.getElem?_eq_some_iff.1 hf1).1, ?_, ?_, ?_, ?_, ?_⟩
  · rintro rfl; rw [hd] at hn1; cases hn1
  · rintro rfl; rw [hd] at hf1; cases hf1
  all_goals
    intro e
    rcases h.r.2 with ⟨rfl, _⟩ | ⟨g, cp, cur, rfl, _, hh, _⟩
    · cases e
    · cases e
      first | (rw [hd] at hh; cases hh; done) | (rw [hn1] at hh; cases hh; done) | (rw [hf1] at hh; cases hh; done)

theorem step_append_run {P : Program} {ops : Array Oper} {o : Oper} {a : Act} {w : World} {K : Act → World → Prop} {Q : Exit → Act → World → Prop} {E : Prop} (hgd : o.guard = none) (s x : Operand) (t : TypeId)
    (ho : o.op = .call { callee := .builtin .append, args := #[s, x], argTypes := #[t, t] }) (v u : Value) (hs : a.eval s = v) (hx : a.eval x = u) (v' : Value) (w1 : World)
    (hrun : (Builtin.append_ #[t, t] o.type #[v, u]).run P w = .ok v' w1) (h : K (a.put o.dst v') w1) :
    if Region.wanted o (yielded ops a.tmps) = true then Oper.wp P o a w K Q else E := by
  have hw : Region.wanted o (yielded ops a.tmps) = true := by simp [Region.wanted, hgd]
  rw [if_pos hw]
  unfold Oper.wp execOp
  simp only [ho, resolve, invoke, builtin, Sem.run_bind, Sem.run_pure, Result.andThen_ok, List.map_toArray, List.map_cons, List.map_nil, hs, hx, hrun]
  exact h

/- What an append to the row leaves, behind two new blocks and a draw. -/
theorem grown_cells {w : World} {bd bf cf bn cn : Nat} {vr : Value} {F N : List ByteArray} {R : List (Nat × ByteArray)} {left : Int} (h : Disk w bd bf cf bn cn vr F N R left) {k : Nat} (hk : k < F.length) (o1 o2 : Obj)
    {a0 a1 : Value} (ho1 : o1 = .cells #[a0, a1] 47 (0, 0)) {w1 : World} (hg : (((w.alloc o1).alloc o2).drew).grownBy w1 vr.ownBlock) :
    Dk w1 bd (.slice (some ⟨bf, 0, none⟩) F.length cf) (.slice (some ⟨bn, 0, none⟩) F.length cn) vr left ∧ w1.heap[bn]? = w.heap[bn]? ∧ w1.heap[bf]? = w.heap[bf]? ∧ w1.cell? ⟨w.heap.size, 0, none⟩ = some a0 ∧ w1.cell? ⟨w.heap.size, 1, none⟩ = some a1 ∧
      (∃ u, w1.cell? ⟨bn, k, none⟩ = some u) ∧ w1.frozen? ⟨bn, k, none⟩ = false ∧ (∀ j, j < w.heap.size → some j ≠ vr.ownBlock → w1.heap[j]? = w.heap[j]?) ∧ w.heap.size + 2 ≤ w1.heap.size := by
  obtain ⟨l1, l2, l3, n1, n2, n3, n4, n5⟩ := h.apart
  have old : ∀ j, j < w.heap.size → some j ≠ vr.ownBlock → w1.heap[j]? = w.heap[j]? := fun j hj hne => by
    rw [hg.block j (by simp; omega) hne]
    show (((w.alloc o1).alloc o2).heap)[j]? = _
    rw [Below.heap_alloc _ _ _ (by simp; omega), Below.heap_alloc _ _ _ hj]
  have hne : some w.heap.size ≠ vr.ownBlock := fun e => by have := (h.r.lt _ e.symm).2; omega
  have hbox : w1.heap[w.heap.size]? = some (.cells #[a0, a1] 47 (0, 0)) := by
    rw [hg.block _ (by simp; omega) hne]
    show (((w.alloc o1).alloc o2).heap)[w.heap.size]? = _
    rw [Below.heap_alloc _ _ _ (by simp), heap_alloc_new, ho1]
  obtain ⟨cn1, hn1, hn2, _, hn4, _⟩ := ownsRow_block h.n
  have hbn := old bn l2 n4
  refine ⟨by unfold Dk; rw [old bd l1 n3]; exact h.dk, hbn, old bf l3 n5, by rw [cellOf hbox]; rfl, by rw [cellOf hbox]; rfl, ?_, freeOf (hbn.trans hn1) k, old, ?_⟩
  · refine ⟨cn1[k]'(by omega), ?_⟩
    rw [cellOf (hbn.trans hn1), Array.getElem?_eq_getElem]
  · have := hg.size; simp at this; omega

def decLeft (l : Int) : Int := if 0 < l then l - 1 else l

theorem rowVals_snoc (R : List (Nat × ByteArray)) (k : Nat) (s : ByteArray) : rowVals (R ++ [(k, s)]) = rowVals R ++ [.int .i64 (k : Int), .string s] := by simp [rowVals]

theorem Disk.setLeft {w : World} {bd bf cf bn cn vr F N R left} (h : Disk w bd bf cf bn cn vr F N R left) (l : Int) : Disk (w.setCell ⟨bd, 3, none⟩ (.int .i64 l)) bd bf cf bn cn vr F N R l := by
  obtain ⟨l1, l2, l3, n1, n2, n3, n4, n5⟩ := h.apart
  have e : ∀ j, j ≠ bd → (w.setCell ⟨bd, 3, none⟩ (.int .i64 l)).heap[j]? = w.heap[j]? := fun j hj => Below.heap_setCell _ _ _ _ hj
  refine ⟨?_, ownsRow_same h.f (fun g e' => by cases e'; exact e _ n2.symm), ownsRow_same h.n (fun g e' => by cases e'; exact e _ n1.symm), ownsRow_same h.r (fun g e' => e _ (fun q => n3 (by rw [e', q]))), h.fn, h.pos, h.small, h.rin⟩
  exact heap_setCell_at h.dk 3 _

theorem write_mid {w w1 W2 : World} {b : Nat} {ns : List Int} {bd bf cf bn cn : Nat} {vr : Value} {F N : List ByteArray} {R : List (Nat × ByteArray)} {left : Int} {k : Nat} (hk : k < F.length) {gg cap' : Nat} {s : ByteArray} {o1 o2 : Obj}
    (HH : Dk w1 bd (.slice (some ⟨bf, 0, none⟩) F.length cf) (.slice (some ⟨bn, 0, none⟩) F.length cn) vr left ∧ w1.heap[bn]? = w.heap[bn]? ∧ w1.heap[bf]? = w.heap[bf]? ∧ (∀ j, j < w.heap.size → some j ≠ vr.ownBlock → w1.heap[j]? = w.heap[j]?) ∧
      w1.ownsRow 0 47 2 (.slice (some ⟨gg, 0, none⟩) (R.length + 1) cap') (R.length + 1) (rowVals R ++ [.int .i64 (k : Int), .string s]) ∧ (((w.alloc o1).alloc o2).drew).grownBy w1 vr.ownBlock ∧
      ((Value.slice (some ⟨gg, 0, none⟩) (R.length + 1) cap').ownBlock = vr.ownBlock ∨ (Value.slice (some ⟨gg, 0, none⟩) (R.length + 1) cap').ownBlock = some (((w.alloc o1).alloc o2).drew).heap.size) ∧ Disk w bd bf cf bn cn vr F N R left ∧ By w b 256 ns)
    (hW : W2.heap = ((w1.setCell ⟨bd, 2, none⟩ (.slice (some ⟨gg, 0, none⟩) (R.length + 1) cap')).setCell ⟨bn, k, none⟩ (.string s)).heap) (ho : W2.os = w1.os) (ht : W2.tape = w1.tape) (hp : W2.output = w1.output) :
    Disk W2 bd bf cf bn cn (.slice (some ⟨gg, 0, none⟩) (R.length + 1) cap') F (N.set k s) (R ++ [(k, s)]) left ∧
      ((Value.slice (some ⟨gg, 0, none⟩) (R.length + 1) cap').ownBlock = vr.ownBlock ∨ ∃ g, (Value.slice (some ⟨gg, 0, none⟩) (R.length + 1) cap').ownBlock = some g ∧ w.heap.size ≤ g) ∧
      w.heap.size ≤ W2.heap.size ∧ (∀ j, j < w.heap.size → j ≠ bd → j ≠ bn → some j ≠ vr.ownBlock → W2.heap[j]? = w.heap[j]?) ∧ Below 0 w W2 := by
  obtain ⟨d1, d2, d3, d8, hown, hg, hat, h, _⟩ := HH
  obtain ⟨l1, l2, l3, n1, n2, n3, n4, n5⟩ := h.apart
  obtain ⟨cur, hr1, hr2⟩ := ownsRow_block hown
  have ggd : gg ≠ bd := by rintro rfl; unfold Dk at d1; rw [d1] at hr1; cases hr1
  obtain ⟨cn1, hn1, hn2, hn3, hn4, hn5⟩ := ownsRow_block h.n
  have hbn1 : w1.heap[bn]? = some (.cells cn1 9 (0, 0)) := d2.trans hn1
  have ggn : gg ≠ bn := by rintro rfl; rw [hbn1] at hr1; cases hr1
  have far : ∀ j, j ≠ bd → j ≠ bn → W2.heap[j]? = w1.heap[j]? := fun j h1 h2 => by
    rw [hW, Below.heap_setCell _ _ _ _ h2, Below.heap_setCell _ _ _ _ h1]
  have hsz : W2.heap.size = w1.heap.size := by rw [hW]; simp [World.setCell]
  have hs1 := hg.size
  simp at hs1
  have hkn : k < N.length := by rw [h.nlen]; exact hk
  refine ⟨⟨?_, ?_, ?_, ?_, h.fn, h.pos, h.small, ?_⟩, ?_, by omega, fun j hj a b c => (far j a b).trans (d8 j hj c), ⟨?_, ?_, ?_, by omega, fun j hj => by omega⟩⟩
  · unfold Dk
    rw [hW, Below.heap_setCell _ _ _ _ n1]
    rw [heap_setCell_at d1 2]
    rfl
  · exact ownsRow_same h.f (fun g e => by cases e; exact (far bf n2.symm h.fn).trans d3)
  · have hb2 : W2.heap[bn]? = some (.cells (cn1.setIfInBounds k (.string s)) 9 (0, 0)) := by
      rw [hW]
      exact heap_setCell_at (by rw [Below.heap_setCell _ _ _ _ n1.symm]; exact hbn1) k _
    refine ownsRow_of_block (by rw [strs_length, List.length_set, h.nlen, Nat.mul_one]) (Nat.zero_le _) hb2 hn2 hn3 (by simpa using hn4) ?_
    rw [Nat.mul_one] at hn5 ⊢
    rw [Array.toList_setIfInBounds, List.take_set, hn5]
    simp [strs, List.map_set]
  · rw [rowVals_snoc]
    rw [List.length_append]
    exact ownsRow_same hown (fun g e => by cases e; exact far gg ggd ggn)
  · intro p hp'
    rw [List.mem_append] at hp'
    rcases hp' with hp' | hp'
    · exact h.rin p hp'
    · simp at hp'; subst hp'; exact hk
  · rcases hat with hat | hat
    · exact .inl hat
    · exact .inr ⟨_, hat, by simp; omega⟩
  · rw [ho, hg.os]; rfl
  · rw [ht, hg.tape]; rfl
  · rw [hp, hg.output]; rfl

set_option maxHeartbeats 1000000 in
theorem write_yes (w : World) {bd bf cf bn cn : Nat} {vr : Value} {F N : List ByteArray} {R : List (Nat × ByteArray)} {left : Int} (h : Disk w bd bf cf bn cn vr F N R left) (k : Nat) (hk : k < F.length) (hl : left ≠ 0)
    (b cap : Nat) (ns : List Int) (hb : By w b 256 ns) (hR : R.length ≤ 1000) (hlm : left ≤ 9223372036854775807) :
    Calls Try.prog 7 #[.pointer (some ⟨bd, 0, none⟩), .int .i64 (k : Int), .slice (some ⟨b, 0, none⟩) 256 cap] w fun e w' => e = .returned (.int .i64 0) ∧
      ∃ vr', Disk w' bd bf cf bn cn vr' F (N.set k (mkStr ns)) (R ++ [(k, mkStr ns)]) (decLeft left) ∧ (vr'.ownBlock = vr.ownBlock ∨ ∃ g, vr'.ownBlock = some g ∧ w.heap.size ≤ g) ∧
        w.heap.size ≤ w'.heap.size ∧ (∀ j, j < w.heap.size → j ≠ bd → j ≠ bn → some j ≠ vr.ownBlock → w'.heap[j]? = w.heap[j]?) ∧ Below 0 w w' := by
  have hr := reach_any w bd _ _ _ _ _ _ (k : Int) h.dk
  rw [show reachB left (k : Int) F.length = 0 from by simp [reachB, hl]; omega] at hr
  have Hr := hid hr
  have c1 := h.dk.c1
  have c2 := h.dk.c2
  have c3 := h.dk.c3
  have f2 := h.dk.f 2
  have f3 := h.dk.f 3
  have hcv := hb.conv cap
  have hsm := h.small
  clear hr
  obtain ⟨i0, hi, hz0, hz1, hz2⟩ := info_parts info47
  obtain ⟨l1, l2, l3, n1, n2, n3, n4, n5⟩ := h.apart
  have n1' : ¬ bn = bd := fun e => n1 e.symm
  have n1'' : ¬ bd = bn := n1
  have hnw : ∀ j u, (#[Value.int .i64 (k : Int), .string (mkStr ns)] : Array Value).toList[j]? = some u → (((w.alloc (.cells #[.int .i64 (k : Int), .string (mkStr ns)] 47)).alloc (.cells #[.int .i64 (k : Int), .string (mkStr ns)] 47)).drew).cell? ((⟨w.heap.size + 1, 0, none⟩ : Addr).add j) = some u := by
    have hh := heap_alloc_new (w.alloc (.cells #[.int .i64 (k : Int), .string (mkStr ns)] 47)) (.cells #[.int .i64 (k : Int), .string (mkStr ns)] 47)
    rw [World.size_alloc] at hh
    exact World.news_of_block (w := (((w.alloc _).alloc _).drew)) hh
  have hor := ((h.r.alloc (.cells #[.int .i64 (k : Int), .string (mkStr ns)] 47)).alloc (.cells #[.int .i64 (k : Int), .string (mkStr ns)] 47)).drew
  have hm1 : R.length + 1 ≤ maxLen := by unfold maxLen; omega
  obtain ⟨v', w1, hrun, hown1, hgrow, hnn, hat⟩ := run_append_own_at (P := Try.prog) _ 0 48 48 47 i0 _ 2 24 Try.underlying48 hi hz0 hz1 hz2 rfl (by decide) vr R.length (rowVals R) hor ⟨w.heap.size + 1, 0, none⟩ 1 1 [.int .i64 (k : Int), .string (mkStr ns)] rfl hnw (by simp [Value.oneCell']) hm1 (by omega) (Nat.zero_le _)
  obtain ⟨gg, cap', rfl⟩ : ∃ gg cap', v' = .slice (some ⟨gg, 0, none⟩) (R.length + 1) cap' := by
    rcases hown1.2 with ⟨e, _⟩ | ⟨g, c, cur, e, _⟩
    · exact absurd (hnn.1 e).2 (by omega)
    · exact ⟨g, c, e⟩
  obtain ⟨d1, d2, d3, d4, d5, ⟨u, d6⟩, d7, d8, d9⟩ := grown_cells h hk _ _ rfl hgrow
  have q1 := d1.c1
  have q2 := d1.c2
  have q3 := d1.c3
  have p2 := d1.f 2
  have p3 := d1.f 3
  have m1 : ¬ w.heap.size = bd := by omega
  have m1' : ¬ bd = w.heap.size := by omega
  have m2 : ¬ w.heap.size = bn := by omega
  have Hrun := hid hrun
  have HH := hid (And.intro d1 (And.intro d2 (And.intro d3 (And.intro d8 (And.intro hown1 (And.intro hgrow (And.intro hat (And.intro h hb))))))))
  clear h hb hnw hor hm1 hrun d1 d2 d3 d8 hown1 hgrow hat hnn
  go_enter Try.func7, Try.ntmps7
  go_wp2_with (go_at_call 18; refine (Hid.out Hr).mono ?_; rintro e w' ⟨rfl, rfl⟩)
  clear hcv
  go_region_law (refine step_append_run (by rfl) _ _ _ (by rfl) vr _ (by rfl) (by rfl) _ w1 Hrun.out ?_)
  all_goals
    clear c1 c2 c3 f2 f3
    have hk0 : (0 : Int) ≤ (k : Int) := Int.natCast_nonneg _
    have hk1 : (k : Int) < (F.length : Int) := by omega
    go_wp2
    go_region
    rcases (show left < 0 ∨ 0 < left from by omega) with hneg | hpos
    · go_wp2
      go_ret
      rw [show decLeft left = left from if_neg (by omega)]
      exact ⟨rfl, _, write_mid hk HH.out rfl rfl rfl rfl⟩
    · go_wp2
      go_ret
      rw [show decLeft left = left - 1 from if_pos hpos]
      obtain ⟨a1, a2, a3, a4, a5⟩ := write_mid hk HH.out (W2 := ((w1.setCell ⟨bd, 2, none⟩ (.slice (some ⟨gg, 0, none⟩) (R.length + 1) cap')).setCell ⟨bn, k, none⟩ (.string (mkStr ns))).drew) rfl rfl rfl rfl
      exact ⟨rfl, _, a1.setLeft (left - 1), a2, by simpa [World.setCell] using a3, fun j hj x y z => by rw [← a4 j hj x y z]; exact Below.heap_setCell _ _ _ _ x, a5.setCell (Nat.zero_le _) _⟩
end Go.Proofs.Ytbhopjnolgfpnaa
