/- heap.Snapshot. -/
import Derived.Test.YtenfgahedbeekaaJAL
namespace Go.Proofs.Ytenfgahedbeekaa
open Go.RowKit Go.Deep Go.Shelf
set_option linter.unusedVariables false
set_option linter.unusedSimpArgs false
attribute [local go_sem] Oper.semAt_some

/- A call in a region that is walked by hand: by its contract, without touching the frame. -/
theorem step_call {P : Program} {ops : Array Oper} {o : Oper} {a : Act} {w : World} {K : Act → World → Prop} {Q : Exit → Act → World → Prop} {E : Prop} (hgd : o.guard = none) (f : FuncId) (s : List Operand) (ty : Array TypeId)
    (ho : o.op = .call { callee := .value (.func f), args := s.toArray, argTypes := ty }) (hf : ∀ (args : Array Value) (w : World), (callFunc f args).run P w = .ok (.enter f args) w) (args : List Value) (hs : s.map a.eval = args) {R : Ending → World → Prop} (hc : Calls P f args.toArray w R)
    (k : ∀ e w', R e w' → ∃ v, e = .returned v ∧ K (a.put o.dst v) w') : if Region.wanted o (yielded ops a.tmps) = true then Oper.wp P o a w K Q else E := by
  have hw : Region.wanted o (yielded ops a.tmps) = true := by simp [Region.wanted, hgd]
  rw [if_pos hw]
  unfold Oper.wp
  have hr : (execOp a.eval o).run P w = .ok (.enter f args.toArray) w := by
    have h := hf (args.toArray ++ #[]) w
    simp only [execOp, ho, resolve, Deferred.ofValue, Act.eval, invoke, Sem.run_bind, Sem.run_pure, Result.andThen_ok] at h ⊢
    subst hs
    simpa using h
  rw [hr]
  refine hc.mono ?_
  intro e w' h
  obtain ⟨v, rfl, hk⟩ := k e w' h
  exact hk

theorem Grw.ofBelow {W W' : World} (h : Below W.heap.size W W') (v : Value) : Grw W v W' v := ⟨⟨h.os, h.tape, h.output, h.size, fun i hi _ => h.block i hi⟩, .inl rfl⟩
theorem Row.cells5 {W : World} {B : Nat} {v : Value} {xs : List Nat} (h : Row W B v xs) {g : Nat} (e : v.ownBlock = some g) : ∃ c, W.heap[g]? = some (.cells c 5 (0, 0)) := by
  rcases h.2 with ⟨rfl, _⟩ | ⟨g', cap, cur, rfl, hb, hgg, rest⟩
  · cases e
  · cases e; exact ⟨_, hgg⟩
/- What is no row of bytes stays where a row of bytes grows. -/
theorem Grw.other {W W' : World} {v v' : Value} {B : Nat} {xs : List Nat} (hg : Grw W v W' v') (hr : Row W B v xs) {b : Nat} {o : Obj} (hb : W.heap[b]? = some o) (ho : ∀ c f, o ≠ .cells c 5 f) : W'.heap[b]? = some o :=
  (hg.1.block b (Array.getElem?_eq_some_iff.1 hb).1 (fun e => by
    obtain ⟨c, hc⟩ := hr.cells5 e.symm
    rw [hb] at hc
    exact ho c _ (Option.some.inj hc))).trans hb
def dmk (D : Nat) : Deferred := { target := .collected D, args := #[] }
/- At the end: the marks of a loop's ranges are taken, one by one. -/
structure ShutM (ds : List Nat) (W W' : World) : Prop where
  os : W'.os = W.os
  tape : W'.tape = W.tape
  output : W'.output = W.output
  size : W'.heap.size = W.heap.size
  block : ∀ b, b ∉ ds → W'.heap[b]? = W.heap[b]?
theorem leaves_all {F : Fence} {n : Nat} {P : Program} {fn : Func} {tmps : Array Value} {R : Ending → World → Prop} : ∀ (ds : List Nat) (W : World), ds.Nodup → (∀ D ∈ ds, W.heap[D]? = some (.deferred (some []))) →
    (∀ W', ShutM ds W W' → ∃ v, (results fn tmps).run P W' = .ok v W' ∧ R (.returned v) W') → LeavesInM F n P fn tmps R (ds.map dmk) .returning W
  | [], W, _, _, h => h W ⟨rfl, rfl, rfl, rfl, fun _ _ => rfl⟩
  | D :: ds, W, hn, hd, h => by
    have hD := hd D (List.mem_cons_self ..)
    have g := grownBy_putObj' W D (.deferred none)
    have hz : (W.putObj D (.deferred none)).heap.size = W.heap.size := by simp [World.putObj]
    have hb : ∀ b, b ≠ D → (W.putObj D (.deferred none)).heap[b]? = W.heap[b]? := fun b hb => by
      rcases Nat.lt_or_ge b W.heap.size with hl | hl
      · exact g.block b hl (fun e => hb (Option.some.inj e))
      · rw [Array.getElem?_eq_none (by omega), Array.getElem?_eq_none (by omega)]
    refine ⟨by simp, .inl ⟨D, _, rfl, run_takeDeferred hD, ?_⟩⟩
    refine leaves_all ds _ (List.nodup_cons.1 hn).2 (fun E hE => (hb E (fun e => (List.nodup_cons.1 hn).1 (e ▸ hE))).trans (hd E (List.mem_cons_of_mem _ hE))) (fun W' s => h W' ⟨s.os.trans g.os, s.tape.trans g.tape, s.output.trans g.output, s.size.trans hz, fun b hb' => (s.block b (fun e => hb' (List.mem_cons_of_mem _ e))).trans (hb b (fun e => hb' (e ▸ List.mem_cons_self ..)))⟩)
/- Between two rounds: the box of the bytes, what lies below, the marks. -/
structure SnI (w1 : World) (ds : List Nat) (xs : List Nat) (W : World) : Prop where
  bx : ∃ xa xn xc, W.heap[w1.heap.size]? = some (.cells #[.slice xa xn xc] 56 (0, 0)) ∧ Row W (w1.heap.size + 1) (.slice xa xn xc) xs
  bel : Below w1.heap.size w1 W
  dfs : ∀ D ∈ ds, w1.heap.size < D ∧ W.heap[D]? = some (.deferred (some []))
theorem SnI.sz {w1 W : World} {ds xs : List Nat} (h : SnI w1 ds xs W) : w1.heap.size + 1 ≤ W.heap.size := by
  obtain ⟨_, _, _, h1, _⟩ := h.bx
  exact (Array.getElem?_eq_some_iff.1 h1).1
theorem SnI.below {w1 W W' : World} {ds xs : List Nat} (h : SnI w1 ds xs W) (hb : Below W.heap.size W W') : SnI w1 ds xs W' := by
  have hl : ∀ {b : Nat} {o : Obj}, W.heap[b]? = some o → W'.heap[b]? = some o := fun e => (hb.block _ (Array.getElem?_eq_some_iff.1 e).1).trans e
  obtain ⟨xa, xn, xc, h1, h2⟩ := h.bx
  exact ⟨⟨xa, xn, xc, hl h1, h2.below (Nat.le_refl _) hb⟩, h.bel.trans (hb.mono h.bel.size), fun D hD => ⟨(h.dfs D hD).1, hl (h.dfs D hD).2⟩⟩
theorem Row.cells {W W' : World} {B : Nat} {v : Value} {xs : List Nat} (h : Row W B v xs) (e : ∀ (b : Nat) (c : Array Value) (t : TypeId) (f : Nat × Nat), W.heap[b]? = some (Obj.cells c t f) → W'.heap[b]? = W.heap[b]?) : Row W' B v xs :=
  h.same (fun g eg => by obtain ⟨c, hc⟩ := h.cells5 eg; exact e _ _ _ _ hc)
theorem SnI.own {w1 W W' : World} {ds xs : List Nat} {row : Option Nat} {B : Nat} (h : SnI w1 ds xs W) (hB : w1.heap.size ≤ B) (hds : ∀ D ∈ ds, D < B) (hg : W.grownBy W' row) (hr : ∀ r, row = some r → B ≤ r ∧ ∃ o : Obj, W.heap[r]? = some o ∧ o.isCells = false) : SnI w1 ds xs W' := by
  obtain ⟨xa, xn, xc, h1, h2⟩ := h.bx
  exact ⟨⟨xa, xn, xc, keep_cells h1 hg hr, h2.cells (grown_cells hg hr)⟩, ownFrom_below (β := Unit) (Nat.le_refl _) hB () W W' row h.bel hg hr, fun D hD => ⟨(h.dfs D hD).1, (hg.block D (Array.getElem?_eq_some_iff.1 (h.dfs D hD).2).1 (fun e => by have := (hr D e.symm).1; have := hds D hD; omega)).trans (h.dfs D hD).2⟩⟩
/- The row has grown: then it is stored. -/
theorem SnI.more {w1 W w2 : World} {ds xs ys : List Nat} {xa ya : Option Addr} {xn xc yn yc : Nat} (h : SnI w1 ds xs W) (h1 : W.heap[w1.heap.size]? = some (.cells #[.slice xa xn xc] 56 (0, 0))) (h2 : Row W (w1.heap.size + 1) (.slice xa xn xc) xs)
    (hg : Grw W (.slice xa xn xc) w2 (.slice ya yn yc)) (hr : Row w2 (w1.heap.size + 1) (.slice ya yn yc) ys) :
    w2.heap[w1.heap.size]? = some (.cells #[.slice xa xn xc] 56 (0, 0)) ∧ KeepsOthers W w2 ∧ SnI w1 ds ys (w2.setCell ⟨w1.heap.size, 0, none⟩ (.slice ya yn yc)) := by
  have hb := hg.other h2 h1 (by intro c f e; injection e with _ e2 _; exact absurd e2 (by decide))
  have st : ∀ b, b ≠ w1.heap.size → (w2.setCell ⟨w1.heap.size, 0, none⟩ (.slice ya yn yc)).heap[b]? = w2.heap[b]? := fun b hb => Below.heap_setCell _ _ _ _ hb
  refine ⟨hb, KeepsOthers.of_grownBy hg.1 (fun j o ej ho => by obtain ⟨c, hc⟩ := h2.cells5 ej; rw [hc] at ho; cases ho; rfl), ⟨ya, yn, yc, set_cells hb _, hr.same (fun g e => st g (by have := (hr.own g e).1; omega))⟩, ?_, fun D hD => ⟨(h.dfs D hD).1, (st D (by have := (h.dfs D hD).1; omega)).trans (hg.other h2 (h.dfs D hD).2 (by intro c f e; cases e))⟩⟩
  have hB : Below w1.heap.size w1 w2 := ⟨hg.1.os.trans h.bel.os, hg.1.tape.trans h.bel.tape, hg.1.output.trans h.bel.output, Nat.le_trans h.bel.size hg.1.size, fun j hj => (hg.1.block j (by have := h.bel.size; omega) (fun e => by have := (h2.own j e.symm).1; omega)).trans (h.bel.block j hj)⟩
  exact hB.setCell (p := ⟨w1.heap.size, 0, none⟩) (Nat.le_refl _) _
/- Within a range: what was written so far. -/
def preE (k : Nat) (row : Rw (k + 2)) (pre : List (Fin row.length)) : List Nat := pre.flatMap fun x => encN k row[x]
theorem preE_snoc (k : Nat) (row : Rw (k + 2)) (pre : List (Fin row.length)) (x : Fin row.length) : preE k row (pre ++ [x]) = preE k row pre ++ encN k row[x] := by simp [preE]
theorem flat_fin {α : Type} (l : List α) (f : α → List Nat) : (List.finRange l.length).flatMap (fun x => f l[x]) = l.flatMap f := by
  have h := List.flatMap_map (fun x : Fin l.length => l[x]) f (List.finRange l.length)
  rw [← h]
  congr 1
  apply List.ext_getElem
  · simp
  · intro i h1 h2; simp
theorem preE_all (k : Nat) (row : Rw (k + 2)) : preE k row (List.finRange row.length) = row.flatMap (encN k) := flat_fin row (encN k)
structure SnJ (k : Nat) (w1 : World) (ds xs : List Nat) (row : Rw (k + 2)) (Bx By : Nat) (cx cy : Array Value) (pre : List (Fin row.length)) (W : World) : Prop where
  i : SnI w1 ds (xs ++ preE k row pre) W
  x : W.heap[Bx]? = some (.cells cx 27 (0, 0))
  y : W.heap[By]? = some (.cells cy 3 (0, 0))
  n : pre.length ≤ row.length
theorem SnJ_own {k : Nat} {w1 : World} {ds xs : List Nat} {row : Rw (k + 2)} {Bx By : Nat} {cx cy : Array Value} {B : Nat} (hB : w1.heap.size ≤ B) (hds : ∀ D ∈ ds, D < B) : OwnFrom B (SnJ k w1 ds xs row Bx By cx cy) := fun s A A' rw' hs hg hr =>
  ⟨hs.i.own hB hds hg hr, keep_cells hs.x hg hr, keep_cells hs.y hg hr, hs.n⟩
theorem KB.st {n₀ Bx By b : Nat} {W W' : World} (h : KB n₀ Bx By W W') (v : Value) (h0 : n₀ ≤ b) (h1 : b ≠ Bx) (h2 : b ≠ By) : KB n₀ Bx By W (W'.setCell ⟨b, 0, none⟩ v) :=
  ⟨h.1.setCell (p := ⟨b, 0, none⟩) h0 _, (Below.heap_setCell _ _ _ _ (fun e => h1 e.symm)).trans h.2.1, (Below.heap_setCell _ _ _ _ (fun e => h2 e.symm)).trans h.2.2⟩
theorem preE_le {k : Nat} {w : World} {row : Rw (k + 2)} (hr : ∀ q ∈ row, (Rds (k + 2) w q.1 ∧ Rds (k + 2) w q.2) ∧ plV k q.1 = true ∧ plV k q.2 = true) : ∀ pre : List (Fin row.length), (preE k row pre).length ≤ 2000 * pre.length
  | [] => by simp [preE]
  | x :: pre => by
    have ih := preE_le hr pre
    have hx := hr row[x] (List.getElem_mem _)
    have h1 := encW_le hx.1.1 hx.2.1
    have h2 := encW_le hx.1.2 hx.2.2
    have : preE k row (x :: pre) = encN k row[x] ++ preE k row pre := by simp [preE]
    rw [this]
    simp only [encN, List.length_append, List.length_cons]
    omega
theorem encRw_le {k : Nat} {w : World} {row : Rw (k + 2)} (h24 : row.length ≤ 24) (hr : ∀ q ∈ row, (Rds (k + 2) w q.1 ∧ Rds (k + 2) w q.2) ∧ plV k q.1 = true ∧ plV k q.2 = true) : (encRw k row).length ≤ 50000 := by
  have h1 := preE_le hr (List.finRange row.length)
  have h2 := enc_le row.length (by omega)
  rw [preE_all, List.length_finRange] at h1
  unfold encRw
  rw [List.length_append]
  omega
theorem encSt_le {k : Nat} : ∀ rows : List (Rw (k + 2)), (∀ r ∈ rows, (encRw k r).length ≤ 50000) → (encSt k rows).length ≤ 50000 * rows.length
  | [], _ => by simp [encSt]
  | r :: rows, h => by
    have ih := encSt_le rows (fun r hr => h r (List.mem_cons_of_mem _ hr))
    have h1 := h r (List.mem_cons_self ..)
    have : encSt k (r :: rows) = encRw k r ++ encSt k rows := by simp [encSt]
    rw [this]
    simp only [List.length_append, List.length_cons]
    omega
theorem encSt_take {k : Nat} {rows : List (Rw (k + 2))} (h : ∀ r ∈ rows, (encRw k r).length ≤ 50000) (i : Nat) (hi : i ≤ 1000) : (encSt k (rows.take i)).length ≤ 50000000 := by
  have h1 := encSt_le (rows.take i) (fun r hr => h r (List.mem_of_mem_take hr))
  have h2 : (rows.take i).length ≤ i := by rw [List.length_take]; omega
  omega
theorem encSt_snoc {k : Nat} {rows : List (Rw (k + 2))} {i : Nat} {r : Rw (k + 2)} (h : rows[i]? = some r) : encSt k (rows.take (i + 1)) = encSt k (rows.take i) ++ encRw k r := by
  rw [List.take_add_one, h]
  simp [encSt]
theorem Row.shape {W : World} {B : Nat} {v : Value} {xs : List Nat} (h : Row W B v xs) : ∃ a n cap, v = .slice a n cap := by
  rcases h.2 with ⟨rfl, _⟩ | ⟨g', cap, cur, rfl, hb, hgg, rest⟩
  · exact ⟨_, _, _, rfl⟩
  · exact ⟨_, _, _, rfl⟩

set_option maxRecDepth 100000 in
set_option maxHeartbeats 2000000 in
theorem snap31 (k : Nat) (w : World) (ra ma fa ea sa : Option Addr) (rn rc mn mc fn fc en ec sn sc : Nat) (ms : List (Sl × Rw (k + 2))) (hs : StR (k + 2) w sa sn ms) (b : Bool)
    (K29 : ∀ w1, Below w.heap.size w w1 → Calls Try.prog 29 #[.agg #[.slice ra rn rc, .slice ma mn mc, .slice fa fn fc, .slice ea en ec], .agg #[.slice sa sn sc]] w1 fun e w' => e = .returned (.bool b) ∧ Below w1.heap.size w1 w')
    (hpl : b = true → ∀ m ∈ ms, m.2.length ≤ 24 ∧ ∀ q ∈ m.2, plV k q.1 = true ∧ plV k q.2 = true) :
    Calls Try.prog 31 #[.agg #[.slice ra rn rc, .slice ma mn mc, .slice fa fn fc, .slice ea en ec], .agg #[.slice sa sn sc]] w fun e w' => Below w.heap.size w w' ∧ ∃ v', e = .returned (.tuple #[v', .int .i64 (if b then 0 else 40)]) ∧ Row w' w.heap.size v' (if b then encSt k (ms.map (·.2)) else []) := by
  have hro : Fence.wide.round = none := rfl
  obtain ⟨W0, hW0⟩ : ∃ W0, W0 = (w.alloc (.cells #[.slice ra rn rc, .slice ma mn mc, .slice fa fn fc, .slice ea en ec] 50)).alloc (.cells #[.slice sa sn sc] 27) := ⟨_, rfl⟩
  have q1 : W0.heap[w.heap.size]? = some (.cells #[.slice ra rn rc, .slice ma mn mc, .slice fa fn fc, .slice ea en ec] 50 (0, 0)) := by rw [hW0]; exact (Below.heap_alloc _ _ _ (by simp)).trans (heap_alloc_new w _)
  have q2 : W0.heap[w.heap.size + 1]? = some (.cells #[.slice sa sn sc] 27 (0, 0)) := by
    have := heap_alloc_new (w.alloc (.cells #[.slice ra rn rc, .slice ma mn mc, .slice fa fn fc, .slice ea en ec] 50)) (.cells #[.slice sa sn sc] 27)
    rw [World.size_alloc] at this
    rw [hW0]; exact this
  have hb0 : Below w.heap.size w W0 := by rw [hW0]; exact boxes2 _ _ _ _ _
  have K0 := hid (K29 W0 hb0)
  have HB0 := hid hb0
  refine (callsIn_wide (n := 6)).1 ?_
  refine callsIn_of_wp_marks Try.func31 rfl trivial ?_ hro
  simp only [Try.ntmps31, List.size_toArray, List.length_cons, List.length_nil, Nat.reduceAdd, Nat.reduceSub, Array.replicate_succ, Array.replicate_zero, List.push_toArray, List.append_toArray, List.nil_append, List.cons_append]
  cases b with
  | false =>
    gi_wp2_with (refine ⟨trivial, ?_⟩; gi_at_call 29; rw [← hW0]; (refine (callsIn_wide.2 (Hid.out K0)).mono ?_; rintro e w1 ⟨rfl, hb1⟩))
    refine ⟨.tuple #[.slice none 0 0, .int .i64 40], by simp [results, Try.results31, go_sem], ?_⟩
    exact ⟨hb0.trans (hb1.mono hb0.size), _, rfl, Row.nil _ _⟩
  | true =>
    have HPL := hid (hpl rfl)
    have R := hid hs
    have Hsn := hid hs.n1
    have hle := hs.n2
    have hle2 : (sn : Int) ≤ 1000 := by omega
    have hn0 : (0 : Int) ≤ (sn : Int) := by omega
    have Q1 := hid q1
    have Q2 := hid q2
    have FX : Hid (∀ w2 : World, Below W0.heap.size W0 w2 → w2.cell? ⟨w.heap.size + 1, 0, none⟩ = some (.slice sa sn sc) ∧ (∀ o, (w2.alloc o).cell? ⟨w.heap.size + 1, 0, none⟩ = some (.slice sa sn sc)) ∧ Below w.heap.size w w2) := hid (fun w2 hb => by
      have bz := (hb.block _ (Array.getElem?_eq_some_iff.1 q2).1).trans q2
      exact ⟨cellOf bz 0, fun o => cellOf ((Below.heap_alloc _ _ _ (Array.getElem?_eq_some_iff.1 bz).1).trans bz) 0, hb0.trans (hb.mono hb0.size)⟩)
    have HG : Hid (∀ r ∈ ms.map (·.2), (encRw k r).length ≤ 50000) := hid (fun r hr => by
      simp only [List.mem_map] at hr
      obtain ⟨m, hm, rfl⟩ := hr
      exact encRw_le (w := w) (hpl rfl m hm).1 (fun q hq => ⟨(hs.el m hm).1.el q hq, (hpl rfl m hm).2 q hq⟩))
    clear hpl hs q1 q2 hb0 K29
    gi_wp2_with (refine ⟨trivial, ?_⟩; gi_at_call 29; rw [← hW0]; (refine (callsIn_wide.2 (Hid.out K0)).mono ?_; rintro e w1 ⟨rfl, hb1⟩; obtain ⟨f0, f1, _⟩ := FX.out w1 hb1; have HB1 := hid hb1; clear hb1))
    refine wpIn_loop (fun (a' : Act) (wr : World) => ∃ (i : Nat) (ds : List Nat) (dl : List Deferred) (u7 u8 u10 u19 u20 u21 u22 u23 u24 u25 u26 u27 u28 u29 u30 u31 u32 u33 u34 u35 u36 u37 u38 u39 u40 u41 : Value), (i ≤ sn ∧ ds.Nodup ∧ dl = ds.map dmk ∧ SnI w1 ds (encSt k ((ms.map (·.2)).take i)) wr) ∧ a' = { tmps := List.toArray ((.agg #[.slice ra rn rc, .slice ma mn mc, .slice fa fn fc, .slice ea en ec]) :: (.agg #[.slice sa sn sc]) :: (.pointer (some ⟨w.heap.size, 0, none⟩)) :: (.pointer (some ⟨w.heap.size + 1, 0, none⟩)) :: (.slice none 0 0) :: (.int .i64 0) :: (.pointer (some ⟨w1.heap.size, 0, none⟩)) :: u7 :: u8 :: undef :: u10 :: (.agg #[.slice ra rn rc, .slice ma mn mc, .slice fa fn fc, .slice ea en ec]) :: (.agg #[.slice sa sn sc]) :: (.bool true) :: (.bool false) :: (.pointer (some ⟨w.heap.size + 1, 0, none⟩)) :: (.slice sa sn sc) :: (.int .i64 (sn : Int)) :: (.int .i64 (i : Int)) :: u19 :: u20 :: u21 :: u22 :: u23 :: u24 :: u25 :: u26 :: u27 :: u28 :: u29 :: u30 :: u31 :: u32 :: u33 :: u34 :: u35 :: u36 :: u37 :: u38 :: u39 :: u40 :: u41 :: undef :: []), defers := dl }) (fun (a' : Act) (_ : World) => sn - (intOf (a'.tmps.getD 18 undef)).toNat) ?_ ?_
    · refine ⟨0, [], [], _, _, _, _, _, _, _, _, _, _, _, _, _, _, _, _, _, _, _, _, _, _, _, _, _, _, ⟨Nat.zero_le _, List.nodup_nil, rfl, ?_⟩, rfl⟩
      exact ⟨⟨none, 0, 0, heap_alloc_new w1 _, by simpa [encSt] using Row.nil _ _⟩, (Below.refl _ w1).alloc (Nat.le_refl _) _, fun D hD => by cases hD⟩
    · rintro a' wr ⟨i, ds, dl, u7, u8, u10, u19, u20, u21, u22, u23, u24, u25, u26, u27, u28, u29, u30, u31, u32, u33, u34, u35, u36, u37, u38, u39, u40, u41, ⟨hi, hnd, hdl, hI⟩, rfl⟩
      dsimp only
      have HI := hid hI
      have Hnd := hid hnd
      have Hdl := hid hdl
      have hszr := hI.sz
      have HBw : Hid (Below w.heap.size w wr) := hid ((FX.out wr (HB1.out.trans (hI.bel.mono HB1.out.size))).2.2)
      obtain ⟨g0, _, _⟩ := FX.out wr (HB1.out.trans (hI.bel.mono HB1.out.size))
      clear hI hnd hdl f0 f1
      by_cases hin : i < sn
      · have hin' : (i : Int) < (sn : Int) := by omega
        have hi0 : (0 : Int) ≤ (i : Int) := by omega
        obtain ⟨p, hp⟩ : ∃ p, ms[i]? = some p := ⟨ms[i]'(by rw [← Hsn.out]; exact hin), List.getElem?_eq_getElem _⟩
        obtain ⟨b2, o2, ea2, dc⟩ := (R.out.below (Nat.le_refl _) HBw.out).rd i p.1 (by rw [List.getElem?_map, hp]; rfl)
        subst ea2
        have hel := (R.out.below (Nat.le_refl _) HBw.out).el p (List.mem_of_getElem? hp)
        obtain ⟨⟨xa, xn, xc⟩, row⟩ := p
        simp only [Sl.v] at dc
        simp only at hel
        have hxn := hel.1.n2
        have hxn1 := hid hel.1.n1
        have hxn2 : (xn : Int) ≤ 1000 := by omega
        have hxn3 : (0 : Int) ≤ (xn : Int) := by omega
        obtain ⟨ya, yn, yc, hbx, hrw⟩ := HI.out.bx
        have c0 := cellOf hbx 0
        simp only [List.getElem?_toArray, List.getElem?_cons_zero] at c0
        have Hbx := hid hbx
        have Hrw := hid hrw
        have Hel := hid hel.1
        have Hp := hid hp
        clear hbx hrw hel hp
        have hwu : IntKind.u64.wrap (xn : Int) = (xn : Int) := by rw [IntKind.wrap_u64]; omega
        have Hlx := hid (show (encSt k ((ms.map (·.2)).take i)).length ≤ 1099511627776 from Nat.le_trans (encSt_take HG.out i (by omega)) (by decide))
        have Hle := hid (show (enc xn).length ≤ 1099511627776 from Nat.le_trans (enc_le xn (by omega)) (by decide))
        have C55 := hid (fun (W : World) => putUint_any W xn (by omega))
        gi_wp2
        refine wpIn_mono (Q := Exit.then (fun a' w' => ∃ u v28 : Value, a' = { tmps := List.toArray ((.agg #[.slice ra rn rc, .slice ma mn mc, .slice fa fn fc, .slice ea en ec]) :: (.agg #[.slice (some ⟨b2, o2, none⟩) sn sc]) :: (.pointer (some ⟨w.heap.size, 0, none⟩)) :: (.pointer (some ⟨w.heap.size + 1, 0, none⟩)) :: (.slice none 0 0) :: (.int .i64 0) :: (.pointer (some ⟨w1.heap.size, 0, none⟩)) :: (.int .i64 (i : Int)) :: (.slice xa xn xc) :: undef :: u10 :: (.agg #[.slice ra rn rc, .slice ma mn mc, .slice fa fn fc, .slice ea en ec]) :: (.agg #[.slice (some ⟨b2, o2, none⟩) sn sc]) :: (.bool true) :: (.bool false) :: (.pointer (some ⟨w.heap.size + 1, 0, none⟩)) :: (.slice (some ⟨b2, o2, none⟩) sn sc) :: (.int .i64 (sn : Int)) :: (.int .i64 (i : Int)) :: (.bool true) :: (.int .i64 (i : Int)) :: (.pointer (some ⟨b2, o2 + i, none⟩)) :: (.slice xa xn xc) :: (.slice ya yn yc) :: (.slice xa xn xc) :: (.int .i64 (xn : Int)) :: (.int .u64 (xn : Int)) :: u :: v28 :: u29 :: u30 :: u31 :: u32 :: u33 :: u34 :: u35 :: u36 :: u37 :: u38 :: u39 :: u40 :: u41 :: undef :: []), defers := dl } ∧ SnI w1 ds (encSt k ((ms.map (·.2)).take i) ++ enc xn) w') (fun _ _ _ => False)) ?_ ?_
        · as_aux_lemma =>
          refine wpIn_wide.2 ?_
          refine wp_region_held_drew (S := fun _ => True) (by kernel_rfl) trivial (fun hHeld => ?_)
          refine wpAnyH_take (i := 1) (oi := { dst := some 24, op := Op.move (Operand.tmp 8), type := 70, pos := "snapshot.go:15", after := #[], guard := none }) (v := .slice xa xn xc) rfl (by kernel_rfl) (by kernel_rfl) (by kernel_rfl) (fun _ _ _ h => h) (Or.inl ⟨by rfl, ?_⟩) (by trivial) ?_
          · intro w hSw; (try dsimp only at hSw); go_simp
          try simp only [Act.put, List.setIfInBounds_toArray, List.set_cons_zero, List.set_cons_succ]
          refine wpAnyH_take (i := 2) (oi := { dst := some 25, op := Op.call { callee := Callee.builtin Builtin.len, args := #[Operand.tmp 24], argTypes := #[70] }, type := 3, pos := "snapshot.go:15", after := #[{ on := 1, ground := Ground.data }], guard := none }) (v := .int .i64 (xn : Int)) rfl (by kernel_rfl) (by kernel_rfl) (by kernel_rfl) (fun _ _ _ h => h) (Or.inl ⟨by rfl, ?_⟩) (by trivial) ?_
          · intro w hSw; (try dsimp only at hSw); go_simp
          try simp only [Act.put, List.setIfInBounds_toArray, List.set_cons_zero, List.set_cons_succ]
          refine wpAnyH_take (i := 3) (oi := { dst := some 26, op := Op.convert 3 101 (Operand.tmp 25), type := 101, pos := "snapshot.go:15", after := #[{ on := 2, ground := Ground.data }], guard := none }) (v := .int .u64 (xn : Int)) rfl (by kernel_rfl) (by kernel_rfl) (by kernel_rfl) (fun _ _ _ h => h) (Or.inl ⟨by rfl, ?_⟩) (by trivial) ?_
          · intro w hSw; (try dsimp only at hSw); go_simp
          try simp only [Act.put, List.setIfInBounds_toArray, List.set_cons_zero, List.set_cons_succ]
          refine wpAnyH_ready (rs := [0, 4]) (by kernel_rfl) (by simp) ?_
          refine AllReadyH.cons (o := { dst := some 23, op := Op.load 56 (Operand.tmp 6), type := 56, pos := "snapshot.go:15", after := #[], guard := none }) rfl (fun K hK => ?_) ?_
          · go_simp
            refine hK.out _ _ trivial (fun hHeldN => ?_)
            clear hK K hHeld
            have hHeld := hHeldN
            clear hHeldN
            try simp only [Act.put, List.setIfInBounds_toArray, List.set_cons_zero, List.set_cons_succ]
            refine wpAnyH_ready (rs := [4]) (by kernel_rfl) (by simp) ?_
            refine AllReadyH.cons (o := { dst := some 27, op := Op.call { callee := Callee.value (Operand.func 55), args := #[Operand.tmp 26], argTypes := #[101] }, type := 56, pos := "snapshot.go:15", after := #[{ on := 3, ground := Ground.data }], guard := none }) rfl (fun K hK => ?_) AllReadyH.nil
            go_wp2_with (go_at_call 55; (refine (C55.out _).mono ?_; rintro e w3 ⟨u, rfl, hu, hb3⟩; have Hu := hid hu; have HB3 : Hid (Below wr.heap.size wr w3) := hid ((Below.refl _ wr).drew.trans hb3); have Hrw3 := hid (Hrw.out.below (Nat.le_refl _) HB3.out); have hs3 := HB3.out.size; clear hu hb3))
            refine hK.out _ _ trivial (fun hHeldN => ?_)
            clear hK K hHeld
            have hHeld := hHeldN
            clear hHeldN
            try simp only [Act.put, List.setIfInBounds_toArray, List.set_cons_zero, List.set_cons_succ]
            refine wpAnyH_ready (rs := [5]) (by kernel_rfl) (by simp) ?_
            refine AllReadyH.cons (o := { dst := some 28, op := Op.call { callee := Callee.builtin Builtin.append, args := #[Operand.tmp 23, Operand.tmp 27], argTypes := #[56, 56] }, type := 56, pos := "snapshot.go:15", after := #[{ on := 0, ground := Ground.data }, { on := 4, ground := Ground.data }, { on := 4, ground := Ground.chain }], guard := none }) rfl (fun K hK => ?_) AllReadyH.nil
            refine step_appR rfl (.tmp 23) (.tmp 27) rfl (.slice ya yn yc) u rfl rfl (w1.heap.size + 1) _ (enc xn) Hrw3.out (Hu.out.rd (enc_byt _)) Hu.out.nilOf (by omega) Hlx.out Hle.out ?_
            intro v28 w4 hr4 hg4
            have hg5 := (Grw.ofBelow HB3.out (.slice ya yn yc)).trans hg4
            obtain ⟨va, vn, vc, rfl⟩ := hr4.shape
            obtain ⟨z1, z2, z3⟩ := HI.out.more Hbx.out Hrw.out hg5 hr4
            have z4 := cellOf z1 0
            have z5 := freeOf z1 0
            simp only [List.getElem?_toArray, List.getElem?_cons_zero] at z4
            refine hK.out _ _ trivial (fun hHeldN => ?_)
            clear hK K hHeld
            have hHeld := hHeldN
            clear hHeldN
            try simp only [Act.put, List.setIfInBounds_toArray, List.set_cons_zero, List.set_cons_succ]
            refine wpAnyH_ready (rs := [6]) (by kernel_rfl) (by simp) ?_
            refine AllReadyH.cons (o := { dst := none, op := Op.store 56 (Operand.tmp 6) (Operand.tmp 28), type := 0, pos := "snapshot.go:15", after := #[{ on := 5, ground := Ground.data }, { on := 5, ground := Ground.chain }, { on := 0, ground := Ground.phase }, { on := 1, ground := Ground.phase }, { on := 2, ground := Ground.phase }, { on := 3, ground := Ground.phase }, { on := 4, ground := Ground.phase }, { on := 5, ground := Ground.phase }], guard := none }) rfl (fun K hK => ?_) AllReadyH.nil
            go_simp
            refine hK.out _ _ trivial (fun hHeldN => ?_)
            clear hK K hHeld
            have hHeld := hHeldN
            clear hHeldN
            try simp only [Act.put, List.setIfInBounds_toArray, List.set_cons_zero, List.set_cons_succ]
            refine wpAnyH_done (by kernel_rfl) ?_ _
            exact ⟨_, _, rfl, z3⟩
          · refine AllReadyH.cons (o := { dst := some 27, op := Op.call { callee := Callee.value (Operand.func 55), args := #[Operand.tmp 26], argTypes := #[101] }, type := 56, pos := "snapshot.go:15", after := #[{ on := 3, ground := Ground.data }], guard := none }) rfl (fun K hK => ?_) AllReadyH.nil
            go_wp2_with (go_at_call 55; (refine (C55.out _).mono ?_; rintro e w3 ⟨u, rfl, hu, hb3⟩; have Hu := hid hu; have HB3 : Hid (Below wr.heap.size wr w3) := hid ((Below.refl _ wr).drew.trans hb3); have Hrw3 := hid (Hrw.out.below (Nat.le_refl _) HB3.out); have hs3 := HB3.out.size; clear hu hb3))
            refine hK.out _ _ trivial (fun hHeldN => ?_)
            clear hK K hHeld
            have hHeld := hHeldN
            clear hHeldN
            try simp only [Act.put, List.setIfInBounds_toArray, List.set_cons_zero, List.set_cons_succ]
            refine wpAnyH_ready (rs := [0]) (by kernel_rfl) (by simp) ?_
            refine AllReadyH.cons (o := { dst := some 23, op := Op.load 56 (Operand.tmp 6), type := 56, pos := "snapshot.go:15", after := #[], guard := none }) rfl (fun K hK => ?_) AllReadyH.nil
            have c03 := (HB3.out.cell (p := ⟨w1.heap.size, 0, none⟩) (by show w1.heap.size < wr.heap.size; omega)).trans c0
            go_simp
            refine hK.out _ _ trivial (fun hHeldN => ?_)
            clear hK K hHeld
            have hHeld := hHeldN
            clear hHeldN
            try simp only [Act.put, List.setIfInBounds_toArray, List.set_cons_zero, List.set_cons_succ]
            refine wpAnyH_ready (rs := [5]) (by kernel_rfl) (by simp) ?_
            refine AllReadyH.cons (o := { dst := some 28, op := Op.call { callee := Callee.builtin Builtin.append, args := #[Operand.tmp 23, Operand.tmp 27], argTypes := #[56, 56] }, type := 56, pos := "snapshot.go:15", after := #[{ on := 0, ground := Ground.data }, { on := 4, ground := Ground.data }, { on := 4, ground := Ground.chain }], guard := none }) rfl (fun K hK => ?_) AllReadyH.nil
            refine step_appR rfl (.tmp 23) (.tmp 27) rfl (.slice ya yn yc) u rfl rfl (w1.heap.size + 1) _ (enc xn) Hrw3.out (Hu.out.rd (enc_byt _)) Hu.out.nilOf (by omega) Hlx.out Hle.out ?_
            intro v28 w4 hr4 hg4
            have hg5 := (Grw.ofBelow HB3.out (.slice ya yn yc)).trans hg4
            obtain ⟨va, vn, vc, rfl⟩ := hr4.shape
            obtain ⟨z1, z2, z3⟩ := HI.out.more Hbx.out Hrw.out hg5 hr4
            have z4 := cellOf z1 0
            have z5 := freeOf z1 0
            simp only [List.getElem?_toArray, List.getElem?_cons_zero] at z4
            refine hK.out _ _ trivial (fun hHeldN => ?_)
            clear hK K hHeld
            have hHeld := hHeldN
            clear hHeldN
            try simp only [Act.put, List.setIfInBounds_toArray, List.set_cons_zero, List.set_cons_succ]
            refine wpAnyH_ready (rs := [6]) (by kernel_rfl) (by simp) ?_
            refine AllReadyH.cons (o := { dst := none, op := Op.store 56 (Operand.tmp 6) (Operand.tmp 28), type := 0, pos := "snapshot.go:15", after := #[{ on := 5, ground := Ground.data }, { on := 5, ground := Ground.chain }, { on := 0, ground := Ground.phase }, { on := 1, ground := Ground.phase }, { on := 2, ground := Ground.phase }, { on := 3, ground := Ground.phase }, { on := 4, ground := Ground.phase }, { on := 5, ground := Ground.phase }], guard := none }) rfl (fun K hK => ?_) AllReadyH.nil
            go_simp
            refine hK.out _ _ trivial (fun hHeldN => ?_)
            clear hK K hHeld
            have hHeld := hHeldN
            clear hHeldN
            try simp only [Act.put, List.setIfInBounds_toArray, List.set_cons_zero, List.set_cons_succ]
            refine wpAnyH_done (by kernel_rfl) ?_ _
            exact ⟨_, _, rfl, z3⟩
        · intro e a' w5 hq
          cases e with
          | normal =>
            simp only [Exit.then] at hq ⊢
            obtain ⟨u27, u28, rfl, hI5⟩ := hq
            have H5 := hid hI5
            have hs5 := hI5.sz
            have hB5 : Below w.heap.size w w5 := (FX.out w5 (HB1.out.trans (hI5.bel.mono HB1.out.size))).2.2
            obtain ⟨g5, _, _⟩ := FX.out w5 (HB1.out.trans (hI5.bel.mono HB1.out.size))
            obtain ⟨W1, hW1⟩ : ∃ W1, W1 = (w5.alloc (.cells #[.slice (some ⟨b2, o2, none⟩) sn sc] 27)).alloc (.cells #[.int .i64 (i : Int)] 3) := ⟨_, rfl⟩
            have hz1 : W1.heap.size = w5.heap.size + 1 + 1 := by rw [hW1]; simp
            have n5 := heap_alloc_new w5 (.cells #[.slice (some ⟨b2, o2, none⟩) sn sc] 27)
            have n6 := heap_alloc_new (w5.alloc (.cells #[.slice (some ⟨b2, o2, none⟩) sn sc] 27)) (.cells #[.int .i64 (i : Int)] 3)
            rw [World.size_alloc] at n6
            have q5 : W1.heap[w5.heap.size]? = some (.cells #[.slice (some ⟨b2, o2, none⟩) sn sc] 27 (0, 0)) := by rw [hW1]; exact (Below.heap_alloc _ _ _ (by simp)).trans n5
            have q6 : W1.heap[w5.heap.size + 1]? = some (.cells #[.int .i64 (i : Int)] 3 (0, 0)) := by rw [hW1]; exact n6
            have hb51 : Below w5.heap.size w5 W1 := by rw [hW1]; exact ((Below.refl _ w5).alloc (Nat.le_refl _) _).alloc (by simp) _
            have hrow : row = rowAt ms (i : Int) := (rowAt_yes Hp.out).symm
            have hb11 : Below w1.heap.size w1 W1 := hI5.bel.trans (hb51.mono hI5.bel.size)
            have hR1 : StR (k + 2) w1 (some ⟨b2, o2, none⟩) sn ms := R.out.below (Nat.le_refl _) (FX.out w1 HB1.out).2.2
            have hseq := entries_stops (k + 2) w1 (some ⟨b2, o2, none⟩) sn sc ms hR1 (i : Int) row hrow 5 (by omega) w5.heap.size (w5.heap.size + 1) W1 hb11 q5 q6
            have h70 : SnJ k w1 ds (encSt k ((ms.map (·.2)).take i) ++ enc xn) row w5.heap.size (w5.heap.size + 1) #[.slice (some ⟨b2, o2, none⟩) sn sc] #[.int .i64 (i : Int)] [] W1 := ⟨by simpa [preE] using hI5.below hb51, q5, q6, by simp⟩
            have hC : w1.heap.size ≤ W1.heap.size := by omega
            have hdB : ∀ D ∈ ds, D < W1.heap.size := fun D hD => by
              have := (Array.getElem?_eq_some_iff.1 (hI5.dfs D hD).2).1
              omega
            clear n5 n6 hI5 HI Hbx Hrw C55 Hlx Hle c0 dc g0
            gi_wp2_with (refine ⟨trivial, ?_⟩; gi_at_call 44; refine (entries_in _ _ trivial hro _ rfl _ _).mono ?_; rintro e w7 ⟨rfl, rfl⟩)
            rw [← hW1]
            clear hW1
            have Hb51 := hid hb51
            have HR : Hid (∀ (W : World), Below w.heap.size w W → RwR (k + 2) W xa xn row) := hid (fun (W : World) (hb : Below w.heap.size w W) => ((R.out.below (Nat.le_refl _) hb).el _ (List.mem_of_getElem? Hp.out)).1)
            have HPR : Hid (row.length ≤ 24 ∧ ∀ q ∈ row, plV k q.1 = true ∧ plV k q.2 = true) := hid (HPL.out _ (List.mem_of_getElem? Hp.out))
            obtain ⟨xs0, hxs0⟩ : ∃ xs0, xs0 = encSt k ((ms.map (·.2)).take i) ++ enc xn := ⟨_, rfl⟩
            rw [← hxs0] at H5 h70
            have hl0 : xs0.length ≤ 60000000 := by
              rw [hxs0, List.length_append]
              have h1 := encSt_take HG.out i (by omega)
              have h2 := enc_le xn (by omega)
              omega
            have Hxs0 := hid hxs0
            clear hxs0
            refine wpIn_rangeFunc_ownH hro (by omega) (gf := 63) (lb := #[.pointer (some ⟨w5.heap.size, 0, none⟩), .pointer (some ⟨w5.heap.size + 1, 0, none⟩)]) rfl trivial (enters_of Try.func63 (by kernel_rfl) rfl) hseq KB_t (KB_b (by omega) (by omega) (by omega)) (Below.refl _ _) (fun _ => rfl)
              (SnJ k w1 ds xs0 row w5.heap.size (w5.heap.size + 1) #[.slice (some ⟨b2, o2, none⟩) sn sc] #[.int .i64 (i : Int)]) NoX (SnJ_own hC hdB) (fun c s A A' rw' hs hg hr => hs)
              h70
              (fun (x : Fin row.length) (a' : Act) (W : World) => ∃ X : Nat, W.heap[X]? = some (Obj.cells (enT (k + 2) row[x]).cs.toArray 81 (0, 0)) ∧ a' = { tmps := List.toArray ((.agg #[.slice ra rn rc, .slice ma mn mc, .slice fa fn fc, .slice ea en ec]) :: (.agg #[.slice (some ⟨b2, o2, none⟩) sn sc]) :: (.pointer (some ⟨w.heap.size, 0, none⟩)) :: (.pointer (some ⟨w.heap.size + 1, 0, none⟩)) :: (.slice none 0 0) :: (.int .i64 0) :: (.pointer (some ⟨w1.heap.size, 0, none⟩)) :: (.int .i64 (i : Int)) :: (.slice xa xn xc) :: undef :: (.pointer (some ⟨X, 0, none⟩)) :: (.agg #[.slice ra rn rc, .slice ma mn mc, .slice fa fn fc, .slice ea en ec]) :: (.agg #[.slice (some ⟨b2, o2, none⟩) sn sc]) :: (.bool true) :: (.bool false) :: (.pointer (some ⟨w.heap.size + 1, 0, none⟩)) :: (.slice (some ⟨b2, o2, none⟩) sn sc) :: (.int .i64 (sn : Int)) :: (.int .i64 (i : Int)) :: (.bool true) :: (.int .i64 (i : Int)) :: (.pointer (some ⟨b2, o2 + i, none⟩)) :: (.slice xa xn xc) :: (.slice ya yn yc) :: (.slice xa xn xc) :: (.int .i64 (xn : Int)) :: (.int .u64 (xn : Int)) :: u27 :: u28 :: (.agg #[.slice (some ⟨b2, o2, none⟩) sn sc]) :: (.int .i64 (i : Int)) :: (.func (.func 63) #[] #[.pointer (some ⟨w5.heap.size, 0, none⟩), .pointer (some ⟨w5.heap.size + 1, 0, none⟩)]) :: (.int .i64 (x.val : Int)) :: ((enT (k + 2) row[x]).v) :: u34 :: u35 :: u36 :: u37 :: u38 :: u39 :: u40 :: u41 :: undef :: []), defers := [] })
              (fun x a' u A B rw' hs hg hr => by
                obtain ⟨X, h2, h4⟩ := hs
                exact ⟨X, keep_cells h2 hg hr, h4⟩)
              ?assign ?body ?done ?stop
            case assign =>
              as_aux_lemma =>
              rintro ll pre x W K hi hK
              simp only [encE, enT, En.v, En.cs] at hK ⊢
              generalize hdT (k + 2) row[x].1 = hd1 at *
              generalize hdT (k + 2) row[x].2 = hd2 at *
              have hsz := (Array.getElem?_eq_some_iff.1 hi.y).1
              have hsz2 := hi.i.sz
              gi_wp2
              exact hK _ _ ((KeepsOthers.alloc _ _).from _) (KB_of ((Below.refl _ W).alloc (Nat.le_refl _) _) (by omega) (by omega) (by omega)) ((SnJ_own hC hdB).alloc _ hi) ⟨W.heap.size, heap_alloc_new W _, rfl⟩
            case body =>
              as_aux_lemma =>
              rintro ll pre x a' W hll ⟨rr, hrr⟩ hi ⟨X, hx, rfl⟩ hlt
              have HJ := hid hi
              have hbW : Below w.heap.size w W := (FX.out W (HB1.out.trans (hi.i.bel.mono HB1.out.size))).2.2
              obtain ⟨pa, pn, pc, hbx, hrw⟩ := hi.i.bx
              have c0 := cellOf hbx 0
              simp only [List.getElem?_toArray, List.getElem?_cons_zero] at c0
              have hsz := (Array.getElem?_eq_some_iff.1 hi.y).1
              have hsz2 := hi.i.sz
              have hrX := (HR.out W hbW).el row[x] (List.getElem_mem _)
              have hpX := HPR.out.2 row[x] (List.getElem_mem _)
              have hlp : (xs0 ++ preE k row pre).length ≤ 900000000 := by
                rw [List.length_append]
                have h1 := preE_le (w := W) (fun q hq => ⟨(HR.out W hbW).el q hq, HPR.out.2 q hq⟩) pre
                have h2 := hxn1.out
                omega
              have KB1 := hid (fun (W2 : World) (hb : Below w.heap.size w W2) (v : Value) (zs : List Nat) (hr : Row W2 (w1.heap.size + 1) v zs) (hB : w1.heap.size + 1 ≤ W2.heap.size) (hl : zs.length ≤ 1000000000) => heapAppendT_any k W2 (w1.heap.size + 1) v zs row[x].1 ((HR.out W2 hb).el row[x] (List.getElem_mem _)).1 hpX.1 hr hB hl)
              have KB2 := hid (fun (W2 : World) (hb : Below w.heap.size w W2) (v : Value) (zs : List Nat) (hr : Row W2 (w1.heap.size + 1) v zs) (hB : w1.heap.size + 1 ≤ W2.heap.size) (hl : zs.length ≤ 1000000000) => heapAppendT_any k W2 (w1.heap.size + 1) v zs row[x].2 ((HR.out W2 hb).el row[x] (List.getElem_mem _)).2 hpX.2 hr hB hl)
              have hlk := encW_le hrX.1 hpX.1
              obtain ⟨bk, hbk⟩ : ∃ bk, bk = encW k row[x].1 := ⟨_, rfl⟩
              obtain ⟨bz, hbz⟩ : ∃ bz, bz = encW k row[x].2 := ⟨_, rfl⟩
              simp only [← hbk] at KB1 hlk
              simp only [← hbz] at KB2
              have Hsn2 : Hid (xs0 ++ preE k row pre ++ bk ++ bz = xs0 ++ preE k row (pre ++ [x])) := hid (by rw [preE_snoc, hbk, hbz]; simp [encN])
              have d0 := cellOf hx 0
              have d1 := cellOf hx 1
              have d2 := cellOf hx 2
              have d3 := cellOf hx 3
              have d4 := cellOf hx 4
              have d5 := cellOf hx 5
              have d6 := cellOf hx 6
              have d7 := cellOf hx 7
              have d8 := cellOf hx 8
              have d9 := cellOf hx 9
              simp only [En.cs, enT, List.getElem?_toArray, List.getElem?_cons_zero, List.getElem?_cons_succ] at d0 d1 d2 d3 d4 d5 d6 d7 d8 d9
              have Hx := hid hx
              have hXne : X ≠ w1.heap.size := fun e => by rw [e, hbx] at hx; cases hx
              have FXX : Hid (∀ W2 : World, W2.heap[X]? = some (Obj.cells (enT (k + 2) row[x]).cs.toArray 81 (0, 0)) → ∀ j, W2.cell? ⟨X, j, none⟩ = W.cell? ⟨X, j, none⟩) := hid (fun W2 h j => World.cell?_of_block (a := ⟨X, j, none⟩) (h.trans Hx.out.symm))
              simp only [enT, En.v, En.cs] at ⊢
              obtain ⟨h1, eh1⟩ : ∃ h1, h1 = hdT (k + 2) row[x].1 := ⟨_, rfl⟩
              obtain ⟨h2, eh2⟩ : ∃ h2, h2 = hdT (k + 2) row[x].2 := ⟨_, rfl⟩
              rw [← eh1] at d0 d1 d2 d3 d4
              rw [← eh2] at d5 d6 d7 d8 d9
              simp only [← eh1, ← eh2] at KB1 KB2 ⊢
              obtain ⟨yk, yi, yt, yr, ya2, yn2, yc2⟩ := h1
              obtain ⟨zk, zi, zt, zr, za, zn, zc⟩ := h2
              simp only [Hd.v] at KB1 KB2 d0 d1 d2 d3 d4 d5 d6 d7 d8 d9 ⊢
              have Hbx := hid hbx
              have Hrw := hid hrw
              have HbW := hid hbW
              clear hx hrr hseq hi h70 eh1 eh2 hbx hrw hrX hpX hbk hbz hbW hR1 hrow
              refine wpIn_block ?_
              refine wpIn_region_round (S := (fun w2 : World => w2.cell? ⟨X, 0, none⟩ = some (.int .i64 yk) ∧ w2.cell? ⟨X, 1, none⟩ = some (.int .i64 yi) ∧ w2.cell? ⟨X, 2, none⟩ = some (.string yt) ∧ w2.cell? ⟨X, 3, none⟩ = some (.int .i64 yr) ∧ w2.cell? ⟨X, 4, none⟩ = some (.slice ya2 yn2 yc2) ∧ w2.cell? ⟨X, 5, none⟩ = some (.int .i64 zk) ∧ w2.cell? ⟨X, 6, none⟩ = some (.int .i64 zi) ∧ w2.cell? ⟨X, 7, none⟩ = some (.string zt) ∧ w2.cell? ⟨X, 8, none⟩ = some (.int .i64 zr) ∧ w2.cell? ⟨X, 9, none⟩ = some (.slice za zn zc))) (by kernel_rfl) (nodefer (by kernel_rfl)) (by rintro ⟨a, w, h⟩; exact h) ⟨d0, d1, d2, d3, d4, d5, d6, d7, d8, d9⟩ (fun hHeld => ?_)
              refine wpAnyH_take (i := 1) (oi := { dst := some 35, op := Op.fieldAddr 81 (Operand.tmp 10) 0, type := 0, pos := "snapshot.go:17", after := #[], guard := none }) (v := .pointer (some ⟨X, 0, none⟩)) rfl (by kernel_rfl) (by kernel_rfl) (by kernel_rfl) (fun _ _ _ h => h) (Or.inl ⟨by rfl, ?_⟩) (by assumption) ?_
              · intro w hSw; (try dsimp only at hSw); go_simp
              try simp only [Act.put, List.setIfInBounds_toArray, List.set_cons_zero, List.set_cons_succ]
              refine wpAnyH_take (i := 2) (oi := { dst := some 36, op := Op.load 31 (Operand.tmp 35), type := 31, pos := "snapshot.go:17", after := #[{ on := 1, ground := Ground.data }], guard := none }) (v := .agg #[.int .i64 yk, .int .i64 yi, .string yt, .int .i64 yr, .slice ya2 yn2 yc2]) rfl (by kernel_rfl) (by kernel_rfl) (by kernel_rfl) (fun _ _ _ h => h) (Or.inl ⟨by rfl, ?_⟩) (by assumption) ?_
              · intro w hSw; (try dsimp only at hSw); go_simp
              try simp only [Act.put, List.setIfInBounds_toArray, List.set_cons_zero, List.set_cons_succ]
              refine wpAnyH_take (i := 4) (oi := { dst := some 38, op := Op.fieldAddr 81 (Operand.tmp 10) 1, type := 0, pos := "snapshot.go:17", after := #[], guard := none }) (v := .pointer (some ⟨X, 5, none⟩)) rfl (by kernel_rfl) (by kernel_rfl) (by kernel_rfl) (fun _ _ _ h => h) (Or.inl ⟨by rfl, ?_⟩) (by assumption) ?_
              · intro w hSw; (try dsimp only at hSw); go_simp
              try simp only [Act.put, List.setIfInBounds_toArray, List.set_cons_zero, List.set_cons_succ]
              refine wpAnyH_take (i := 5) (oi := { dst := some 39, op := Op.load 31 (Operand.tmp 38), type := 31, pos := "snapshot.go:17", after := #[{ on := 4, ground := Ground.data }], guard := none }) (v := .agg #[.int .i64 zk, .int .i64 zi, .string zt, .int .i64 zr, .slice za zn zc]) rfl (by kernel_rfl) (by kernel_rfl) (by kernel_rfl) (fun _ _ _ h => h) (Or.inl ⟨by rfl, ?_⟩) (by assumption) ?_
              · intro w hSw; (try dsimp only at hSw); go_simp
              try simp only [Act.put, List.setIfInBounds_toArray, List.set_cons_zero, List.set_cons_succ]
              refine wpAnyH_ready (rs := [0]) (by kernel_rfl) (by simp) ?_
              refine AllReadyH.cons (o := { dst := some 34, op := Op.load 56 (Operand.tmp 6), type := 56, pos := "snapshot.go:17", after := #[], guard := none }) rfl (fun K hK => ?_) AllReadyH.nil
              go_simp
              refine hK.out _ _ hHeld (fun hHeldN => ?_)
              clear hK K hHeld
              have hHeld := hHeldN
              clear hHeldN
              try simp only [Act.put, List.setIfInBounds_toArray, List.set_cons_zero, List.set_cons_succ]
              refine wpAnyH_ready (rs := [3]) (by kernel_rfl) (by simp) ?_
              refine AllReadyH.cons (o := { dst := some 37, op := Op.call { callee := Callee.value (Operand.func 56), args := #[Operand.tmp 34, Operand.tmp 36], argTypes := #[56, 31] }, type := 56, pos := "snapshot.go:17", after := #[{ on := 0, ground := Ground.data }, { on := 2, ground := Ground.data }], guard := none }) rfl (fun K hK => ?_) AllReadyH.nil
              refine step_call rfl 56 _ _ rfl (enters_of Try.func56 (by kernel_rfl) rfl) [.slice pa pn pc, .agg #[.int .i64 yk, .int .i64 yi, .string yt, .int .i64 yr, .slice ya2 yn2 yc2]] rfl (KB1.out W.drew ((HbW.out).trans (((Below.refl _ W).drew).mono HbW.out.size)) (.slice pa pn pc) _ (Hrw.out.drew) hsz2 (by omega)) ?_
              rintro e w8 ⟨v8, rfl, hr8, hg8⟩
              refine ⟨v8, rfl, ?_⟩
              have hg8' := hg8.drewl
              have hx8 : w8.heap[X]? = _ := hg8'.other Hrw.out Hx.out (by intro c f e; injection e with _ e2 _; exact absurd e2 (by decide))
              have S8 := FXX.out w8 hx8
              have hb8 : Below w.heap.size w w8 := (HbW.out).trans ((hg8'.below Hrw.out hsz2).mono (by have := HB1.out.size; have := HbW.out.size; have := HB0.out.size; omega))
              refine hK.out _ _ (by simp only [S8]; exact ⟨d0, d1, d2, d3, d4, d5, d6, d7, d8, d9⟩) (fun hHeldN => ?_)
              clear hK K hHeld
              have hHeld := hHeldN
              clear hHeldN
              try simp only [Act.put, List.setIfInBounds_toArray, List.set_cons_zero, List.set_cons_succ]
              clear S8
              refine wpAnyH_ready (rs := [6]) (by kernel_rfl) (by simp) ?_
              refine AllReadyH.cons (o := { dst := some 40, op := Op.call { callee := Callee.value (Operand.func 56), args := #[Operand.tmp 37, Operand.tmp 39], argTypes := #[56, 31] }, type := 56, pos := "snapshot.go:17", after := #[{ on := 3, ground := Ground.data }, { on := 5, ground := Ground.data }, { on := 3, ground := Ground.chain }], guard := none }) rfl (fun K hK => ?_) AllReadyH.nil
              refine step_call rfl 56 _ _ rfl (enters_of Try.func56 (by kernel_rfl) rfl) [v8, .agg #[.int .i64 zk, .int .i64 zi, .string zt, .int .i64 zr, .slice za zn zc]] rfl (KB2.out w8 hb8 v8 _ hr8 (Nat.le_trans hsz2 hg8'.size) (by rw [List.length_append]; omega)) ?_
              rintro e w9 ⟨v9, rfl, hr9, hg9⟩
              refine ⟨v9, rfl, ?_⟩
              have hg := hg8'.trans hg9
              have hx9 : w9.heap[X]? = _ := hg.other Hrw.out Hx.out (by intro c f e; injection e with _ e2 _; exact absurd e2 (by decide))
              have S9 := FXX.out w9 hx9
              rw [Hsn2.out] at hr9
              obtain ⟨va, vn, vc, rfl⟩ := hr9.shape
              obtain ⟨z1, z2, z3⟩ := HJ.out.i.more Hbx.out Hrw.out hg hr9
              have z4 := cellOf z1 0
              have z5 := freeOf z1 0
              simp only [List.getElem?_toArray, List.getElem?_cons_zero] at z4
              refine hK.out _ _ (by simp only [S9]; exact ⟨d0, d1, d2, d3, d4, d5, d6, d7, d8, d9⟩) (fun hHeldN => ?_)
              clear hK K hHeld
              have hHeld := hHeldN
              clear hHeldN
              try simp only [Act.put, List.setIfInBounds_toArray, List.set_cons_zero, List.set_cons_succ]
              clear S9
              have hxE : (w9.setCell ⟨w1.heap.size, 0, none⟩ (.slice va vn vc)).heap[X]? = _ := (Below.heap_setCell _ _ _ _ hXne).trans hx9
              have SE := FXX.out _ hxE
              refine wpAnyH_ready (rs := [7]) (by kernel_rfl) (by simp) ?_
              refine AllReadyH.cons (o := { dst := none, op := Op.store 56 (Operand.tmp 6) (Operand.tmp 40), type := 0, pos := "snapshot.go:17", after := #[{ on := 6, ground := Ground.data }, { on := 6, ground := Ground.chain }, { on := 0, ground := Ground.phase }, { on := 1, ground := Ground.phase }, { on := 2, ground := Ground.phase }, { on := 3, ground := Ground.phase }, { on := 4, ground := Ground.phase }, { on := 5, ground := Ground.phase }, { on := 6, ground := Ground.phase }], guard := none }) rfl (fun K hK => ?_) AllReadyH.nil
              go_simp
              refine hK.out _ _ (by simp only [SE]; exact ⟨d0, d1, d2, d3, d4, d5, d6, d7, d8, d9⟩) (fun hHeldN => ?_)
              clear hK K hHeld
              have hHeld := hHeldN
              clear hHeldN
              try simp only [Act.put, List.setIfInBounds_toArray, List.set_cons_zero, List.set_cons_succ]
              refine wpAnyH_done (by kernel_rfl) ?_ _
              have hX9 := hg.other Hrw.out HJ.out.x (by intro c f e; injection e with _ e2 _; exact absurd e2 (by decide))
              have hY9 := hg.other Hrw.out HJ.out.y (by intro c f e; injection e with _ e2 _; exact absurd e2 (by decide))
              refine ⟨(z2.from _).trans ((KeepsOthers.setCell _ _ _).from _), KB.st ⟨(hg.below Hrw.out hsz2).mono (by omega), hX9.trans HJ.out.x.symm, hY9.trans HJ.out.y.symm⟩ _ (Nat.le_refl _) (by omega) (by omega), z3, (Below.heap_setCell _ _ _ _ (by show w5.heap.size ≠ w1.heap.size; omega)).trans hX9, (Below.heap_setCell _ _ _ _ (by show w5.heap.size + 1 ≠ w1.heap.size; omega)).trans hY9, by rw [List.length_append]; exact hlt⟩
            case done =>
              as_aux_lemma =>
              rintro D' ys W hD rfl hI hK
              have hJ := hI.i
              rw [preE_all, Hxs0.out, hxn1.out, List.append_assoc] at hJ
              have hJ2 : SnI w1 (D' :: ds) (encSt k ((ms.map (·.2)).take (i + 1))) W := ⟨by rw [encSt_snoc (r := row) (by rw [List.getElem?_map, Hp.out]; rfl)]; exact hJ.bx, hJ.bel, fun D hD' => by
                rcases List.mem_cons.1 hD' with rfl | h
                · exact ⟨by omega, hK⟩
                · exact hJ.dfs D h⟩
              have Hn2 : Hid (D' :: ds).Nodup := hid (List.nodup_cons.2 ⟨fun h => by have := hdB D' h; omega, Hnd.out⟩)
              have Hd2 : Hid (({ target := .collected D', args := #[] } : Deferred) :: dl = (D' :: ds).map dmk) := hid (by rw [Hdl.out]; rfl)
              have HJ2 := hid hJ2
              clear hJ hJ2 hI hK hseq h70 hR1 hrow
              gi_wp2
              first | exact ⟨⟨i + 1, ⟨by omega, D' :: ds, Hn2.out, Hd2.out, HJ2.out⟩, by omega⟩, by simp [intOf]; omega⟩ | (refine ⟨⟨i + 1, D' :: ds, _, _, _, _, _, _, _, _, _, _, _, _, _, _, _, _, _, _, _, _, _, _, _, _, _, _, _, ⟨by omega, Hn2.out, Hd2.out, HJ2.out⟩, rfl⟩, ?_⟩; simp [intOf]; omega)
            case stop =>
              rintro D' c' pre W hD _ hX hK
              exact hX.elim
          | _ => exact hq.elim
      · as_aux_lemma =>
        obtain rfl : i = sn := by omega
        obtain ⟨ya, yn, yc, hbx, hrw⟩ := HI.out.bx
        have c0 := cellOf hbx 0
        simp only [List.getElem?_toArray, List.getElem?_cons_zero] at c0
        have hall : encSt k ((ms.map (·.2)).take i) = encSt k (ms.map (·.2)) := by rw [List.take_of_length_le (by rw [List.length_map, ← Hsn.out]; exact Nat.le_refl _)]
        rw [hall] at hrw
        have Hrw := hid hrw
        clear hbx hrw hall
        gi_wp2
        rw [Hdl.out]
        refine leaves_all ds wr Hnd.out (fun D hD => (HI.out.dfs D hD).2) (fun W' s => ?_)
        refine ⟨.tuple #[.slice ya yn yc, .int .i64 0], by simp [results, Try.results31, go_sem], ?_, _, rfl, ?_⟩
        · exact ⟨s.os.trans HBw.out.os, s.tape.trans HBw.out.tape, s.output.trans HBw.out.output, by rw [s.size]; exact HBw.out.size, fun b hb => (s.block b (fun h => by have h1 := (HI.out.dfs b h).1; have h2 := HB0.out.size; have h3 := HB1.out.size; omega)).trans (HBw.out.block b hb)⟩
        · refine Row.mono (B := w1.heap.size + 1) (Hrw.out.same (fun g e => s.block g (fun h => ?_))) (by have h2 := HB0.out.size; have h3 := HB1.out.size; omega)
          obtain ⟨c, hc⟩ := Hrw.out.cells5 e
          rw [(HI.out.dfs g h).2] at hc
          cases hc
end Go.Proofs.Ytenfgahedbeekaa

namespace Go.Proofs.Ytenfgahedbeekaa
open Go.RowKit Go.Deep Go.Shelf
set_option linter.unusedVariables false
set_option linter.unusedSimpArgs false

theorem alN {W : World} {x : Obj} {k : Nat} (h : W.heap[k]? = some x) (o : Obj) : (W.alloc o).heap[k]? = some x := (Below.heap_alloc _ _ _ (Array.getElem?_eq_some_iff.1 h).1).trans h
/- Ten cells written. -/
end Go.Proofs.Ytenfgahedbeekaa

namespace Go.Proofs.Ytenfgahedbeekaa
open Go.RowKit Go.Deep Go.Shelf
set_option linter.unusedVariables false
set_option linter.unusedSimpArgs false

/- Values that were read, as trees. -/
def fl (f : Hd) : VT 2 := (f, [])
def tre (h : Hd) (x : Vl) : VT 3 := (h, x.fs.map fl)
def nrm (t : VT 3) : VT 3 := ((⟨t.1.kind, t.1.int, t.1.text, t.1.rc, none, t.1.n, 0⟩ : Hd), t.2)
def tvl (x : Vl) : VT 3 := tre (hdOf x) x
def nrmP (q : VT 3 × VT 3) : VT 3 × VT 3 := (nrm q.1, nrm q.2)
def tvlP (e : Vl × Vl) : VT 3 × VT 3 := (tvl e.1, tvl e.2)
structure GV (x : Vl) : Prop where
  plain : plainB (hdOf x) x.fs = true
  hin : (hdOf x).In
  fin : ∀ f ∈ x.fs, f.In
theorem GV.small {x : Vl} (g : GV x) : x.fs.length ≤ 12 ∧ ∀ f ∈ x.fs, f.n = 0 := by
  have h := g.plain
  by_cases hk : (hdOf x).kind = 4
  · rw [plainB_rec hk] at h
    simp only [Bool.and_eq_true, decide_eq_true_eq] at h
    refine ⟨h.1.2, fun f hf => ?_⟩
    have := List.all_eq_true.1 h.2 f hf
    exact (simpleB_cases this).2.1
  · unfold plainB at h
    rw [if_neg hk] at h
    have h0 := (simpleB_cases h).2.1
    have : x.fs = [] := List.eq_nil_of_length_eq_zero h0
    rw [this]
    exact ⟨by simp, fun f hf => by cases hf⟩
theorem flat_back : ∀ l : List Hd, (l.map fl).map (hdT 2) = l
  | [] => rfl
  | a :: l => by rw [List.map_cons, List.map_cons, flat_back l]; rfl
theorem rep_tree {w : World} {x : Vl} {h : Hd} {B : Nat} (g : GV x) (r : Rep w x h) (hn : ∀ b, (Value.slice h.a h.n h.cap).ownBlock = some b → B ≤ b) : RdP 3 w (fun b => B ≤ b ∧ b < w.heap.size) (tre h x) ∧ nrm (tre h x) = tvl x := by
  obtain ⟨kind, int, text, rc, a, n, cap⟩ := h
  obtain ⟨r1, r2, r3, r4, r5, r6⟩ := r
  simp only at r1 r2 r3 r4 r5 r6 hn
  subst r1 r2 r3 r4 r5
  have gi := g.hin
  refine ⟨⟨⟨gi.i0, gi.i1, gi.k0, gi.k1, gi.r0, gi.r1, gi.t, gi.n⟩, (List.length_map (f := fl)).symm, by show x.fs.length ≤ 1000; have := g.small.1; omega, ?_, ?_, ?_⟩, rfl⟩
  · have : (tre ⟨x.kind, x.int, x.text, x.rc, a, x.fs.length, cap⟩ x).2.map (hdT 2) = x.fs := by
      exact flat_back x.fs
    rw [this]
    exact r6
  · intro ad ha hne
    have hne' : x.fs ≠ [] := fun e => hne (by show x.fs.map fl = []; rw [e]; rfl)
    obtain ⟨f, hf⟩ : ∃ f, x.fs[0]? = some f := by
      cases hx : x.fs with
      | nil => exact absurd hx hne'
      | cons f r => exact ⟨f, rfl⟩
    obtain ⟨b, off, e, hc⟩ := r6 0 f hf
    simp only [tre] at ha
    rw [e] at ha
    cases ha
    have hlt := World.block_lt_of_cell? w _ ((hc 0 (by omega)).trans (show f.cs[0]? = some _ from rfl))
    exact ⟨hn b (by rw [e]; rfl), hlt⟩
  · intro u hu
    have hu' : u ∈ x.fs.map fl := hu
    obtain ⟨f, hf, rfl⟩ := List.mem_map.1 hu'
    have h0 := g.small.2 f hf
    exact ⟨g.fin f hf, (show f.n = 0 from h0), by show f.n ≤ 1000; omega, (fun j y hy => by have hy' : ([] : List Hd)[j]? = some y := hy; simp at hy'), (fun _ _ e => absurd rfl e), (fun u hu => by have hu' : u ∈ ([] : List (VT 1)) := hu; cases hu')⟩
/- Between two rounds. -/
structure RrI (w wr : World) (fa : Option Addr) (fn fc : Nat) (ps : Rw 3) (acc : List (Vl × Vl)) : Prop where
  bel : Below w.heap.size w wr
  row : ERow wr w.heap.size (.slice fa fn fc) (ps.map (enT 3))
  el : ∀ q ∈ ps, RdP 3 wr (fun b => w.heap.size ≤ b ∧ b < wr.heap.size ∧ some b ≠ (Value.slice fa fn fc).ownBlock) q.1 ∧ RdP 3 wr (fun b => w.heap.size ≤ b ∧ b < wr.heap.size ∧ some b ≠ (Value.slice fa fn fc).ownBlock) q.2
  eq : ps.map nrmP = acc.map tvlP
theorem RrI.nil (w : World) : RrI w w none 0 0 [] [] := ⟨Below.refl _ _, ERow.nil _ _, (fun q hq => by cases hq), rfl⟩
theorem RrI.len {w wr : World} {fa : Option Addr} {fn fc : Nat} {ps : Rw 3} {acc : List (Vl × Vl)} (h : RrI w wr fa fn fc ps acc) : ps.length = acc.length := by
  have := congrArg List.length h.eq
  simpa using this
theorem RrI.more {w wr w2 w4 : World} {fa va : Option Addr} {fn fc vn vc : Nat} {ps : Rw 3} {acc : List (Vl × Vl)} {x y : Vl} {hx hy : Hd} {o1 o2 : Obj} (h : RrI w wr fa fn fc ps acc) (hb : Below wr.heap.size wr w2) (gx : GV x) (gy : GV y) (rx : Rep w2 x hx) (ry : Rep w2 y hy)
    (nx : ∀ b, (Value.slice hx.a hx.n hx.cap).ownBlock = some b → wr.heap.size ≤ b) (ny : ∀ b, (Value.slice hy.a hy.n hy.cap).ownBlock = some b → wr.heap.size ≤ b)
    (hr : ERow w4 w.heap.size (.slice va vn vc) (ps.map (enT 3) ++ [⟨hx, hy⟩])) (hg : Grw ((w2.alloc o1).alloc o2) (.slice fa fn fc) w4 (.slice va vn vc)) :
    RrI w w4 va vn vc (ps ++ [(tre hx x, tre hy y)]) (acc ++ [(x, y)]) := by
  have hs2 : w2.heap.size + 2 ≤ w4.heap.size := by have := hg.1.size; simpa using this
  have hs1 := hb.size
  have own : ∀ b, (Value.slice fa fn fc).ownBlock = some b → w.heap.size ≤ b ∧ b < wr.heap.size := fun b e => h.row.own b e
  have own4 : ∀ b, (Value.slice va vn vc).ownBlock = some b → (Value.slice fa fn fc).ownBlock = some b ∨ w2.heap.size ≤ b := fun b e => by
    rcases hg.2 with e2 | ⟨g, e2, e3⟩
    · exact .inl (e2 ▸ e)
    · rw [e] at e2; cases e2; simp at e3; exact .inr (by omega)
  have blk : ∀ b, b < w2.heap.size → some b ≠ (Value.slice fa fn fc).ownBlock → w4.heap[b]? = w2.heap[b]? := fun b hb2 hne => (hg.1.block b (by simp; omega) hne).trans ((Below.heap_alloc _ _ _ (by simp; omega)).trans (Below.heap_alloc _ _ _ hb2))
  obtain ⟨t1, e1⟩ := rep_tree gx rx nx
  obtain ⟨t2, e2⟩ := rep_tree gy ry ny
  refine ⟨?_, by rw [List.map_append]; exact hr, ?_, by rw [List.map_append, List.map_append, h.eq]; simp only [List.map_cons, List.map_nil, nrmP, tvlP, e1, e2]⟩
  · exact ⟨(hg.1.os.trans hb.os).trans h.bel.os, (hg.1.tape.trans hb.tape).trans h.bel.tape, (hg.1.output.trans hb.output).trans h.bel.output, by have := h.bel.size; omega, fun j hj => (blk j (by have := h.bel.size; omega) (fun e => by have := (own j e.symm).1; omega)).trans ((hb.block j (by have := h.bel.size; omega)).trans (h.bel.block j hj))⟩
  · intro q hq
    have kp : ∀ b, (w.heap.size ≤ b ∧ b < wr.heap.size ∧ some b ≠ (Value.slice fa fn fc).ownBlock) → w4.heap[b]? = wr.heap[b]? := fun b hA => (blk b (by omega) hA.2.2).trans (hb.block b hA.2.1)
    have im : ∀ b, (w.heap.size ≤ b ∧ b < wr.heap.size ∧ some b ≠ (Value.slice fa fn fc).ownBlock) → (w.heap.size ≤ b ∧ b < w4.heap.size ∧ some b ≠ (Value.slice va vn vc).ownBlock) := fun b hA => ⟨hA.1, by omega, fun e => by
      rcases own4 b e.symm with h1 | h1
      · exact hA.2.2 h1.symm
      · omega⟩
    have kp2 : ∀ b, (wr.heap.size ≤ b ∧ b < w2.heap.size) → w4.heap[b]? = w2.heap[b]? := fun b hA => blk b hA.2 (fun e => by have := (own b e.symm).2; omega)
    have im2 : ∀ b, (wr.heap.size ≤ b ∧ b < w2.heap.size) → (w.heap.size ≤ b ∧ b < w4.heap.size ∧ some b ≠ (Value.slice va vn vc).ownBlock) := fun b hA => ⟨by have := h.bel.size; omega, by omega, fun e => by
      rcases own4 b e.symm with h1 | h1
      · have := (own b h1).2; omega
      · omega⟩
    rcases List.mem_append.1 hq with hq | hq
    · exact ⟨((h.el q hq).1.keep 3 kp).imp 3 im, ((h.el q hq).2.keep 3 kp).imp 3 im⟩
    · simp only [List.mem_singleton] at hq
      subst hq
      exact ⟨(t1.keep 3 kp2).imp 3 im2, (t2.keep 3 kp2).imp 3 im2⟩
theorem RrI.out {w wr : World} {fa : Option Addr} {fn fc : Nat} {ps : Rw 3} {acc : List (Vl × Vl)} (h : RrI w wr fa fn fc ps acc) (hl : acc.length ≤ 24) : RwP 3 wr (fun b => w.heap.size ≤ b ∧ b < wr.heap.size) fa fn ps ∧ fn ≤ fc := by
  obtain ⟨a9, c9, e9, h9⟩ := h.row.form
  cases e9
  have := h.len
  rw [List.length_map] at h9 ⊢
  refine ⟨⟨rfl, by omega, h.row.rd, fun x e ne => ?_, fun q hq => ⟨(h.el q hq).1.imp 3 (fun b hA => ⟨hA.1, hA.2.1⟩), (h.el q hq).2.imp 3 (fun b hA => ⟨hA.1, hA.2.1⟩)⟩⟩, h9⟩
  have := h.row.own x.block (by rw [e]; rfl)
  exact this
end Go.Proofs.Ytenfgahedbeekaa

