/- heap.place. -/
import Derived.Test.YtenfgahedbeekaaW
namespace Go.Proofs.Ytenfgahedbeekaa
open Go.RowKit Go.Deep Go.Shelf
set_option linter.unusedVariables false
set_option linter.unusedSimpArgs false
attribute [local go_sem] Oper.semAt_some

/- Where a key stands, or would stand: c tells how an element compares with it. -/
def plQ {α : Type} (c : α → Int) (a : α) : Bool := c a == 0 || c a == 1
def placeR {α : Type} (c : α → Int) (l : List α) : Nat × Bool := (l.findIdx (plQ c), ((l.find? (plQ c)).map fun a => c a == 0).getD false)
theorem place_none {α : Type} (c : α → Int) (l : List α) (h : ∀ x ∈ List.finRange l.length, plQ c l[x] = false) : placeR c l = (l.length, false) := by
  have hn := find_none l (plQ c) h
  unfold placeR
  rw [hn, List.findIdx_eq_length.2]
  · rfl
  · intro x hx
    have := List.find?_eq_none.1 hn x hx
    simpa using this
theorem take_last {n : Nat} (i : Nat) (hi : i ≤ n) (pre' : List (Fin n)) (x : Fin n) (e : (List.finRange n).take i = pre' ++ [x]) : x.val = pre'.length := by
  have hlen : pre'.length + 1 = i := by
    have := congrArg List.length e
    rw [List.length_take, List.length_finRange, List.length_append] at this
    simp at this; omega
  have hpx : (List.finRange n)[pre'.length]? = some x := by
    have : ((List.finRange n).take i)[pre'.length]? = some x := by rw [e]; simp
    rw [List.getElem?_take, if_pos (by omega)] at this
    exact this
  exact finr _ _ x hpx
theorem place_some {α : Type} (c : α → Int) (l : List α) (i : Nat) (hi : i ≤ l.length) (pre' : List (Fin l.length)) (x : Fin l.length) (e : (List.finRange l.length).take i = pre' ++ [x]) (h : ∀ y ∈ pre', plQ c l[y] = false) (hx : plQ c l[x] = true) : placeR c l = (x.val, c l[x] == 0) := by
  have hs := find_some l (plQ c) i hi pre' x e h hx
  have hxv := take_last i hi pre' x e
  unfold placeR
  rw [hs]
  refine Prod.ext ?_ rfl
  show l.findIdx (plQ c) = x.val
  rw [List.findIdx_eq x.isLt]
  refine ⟨hx, fun j hj => ?_⟩
  have hlen : pre'.length + 1 = i := by
    have := congrArg List.length e
    rw [List.length_take, List.length_finRange, List.length_append] at this
    simp at this; omega
  have hjp : (⟨j, by omega⟩ : Fin l.length) ∈ pre' := by
    have h1 : ((List.finRange l.length).take i)[j]? = some (⟨j, by omega⟩ : Fin l.length) := by
      rw [List.getElem?_take, if_pos (by omega), List.getElem?_eq_getElem (by rw [List.length_finRange]; omega)]
      simp
    rw [e, List.getElem?_append_left (by omega)] at h1
    exact List.mem_of_getElem? h1
  exact h _ hjp
theorem wpIn_scope_wide {P : Program} {n : Nat} {c : Code} {Q : Exit → Act → World → Prop} {a : Act} {w : World} (h : c.wpIn Fence.wide n P (Exit.noGoto Q) a w) : (Code.scope c).wpIn Fence.wide n P Q a w :=
  wpIn_wide.2 (wp_scope_straight ((wpIn_wide (n := n)).1 h))
/- Between two rounds. -/
def PI (w : World) (kc : Array Value) {m : Nat} (P : Fin m → Bool) (pre : List (Fin m)) (W : World) : Prop :=
  (W.heap[w.heap.size + 1]? = some (.cells kc 31 (0, 0)) ∧ W.heap[w.heap.size + 1 + 1]? = some (.cells #[.int .i64 0] 3 (0, 0)) ∧ W.heap[w.heap.size + 1 + 1 + 1]? = some (.cells #[.bool false] 4 (0, 0)) ∧ W.heap[w.heap.size + 1 + 1 + 1 + 1]? = some (.cells #[.int .i64 (pre.length : Int)] 3 (0, 0))) ∧ (∀ x ∈ pre, P x = false) ∧ Below w.heap.size w W ∧ w.heap.size + 7 ≤ W.heap.size
theorem PI_own (w : World) (kc : Array Value) {m : Nat} (P : Fin m → Bool) {B : Nat} (hB : w.heap.size ≤ B) : OwnFrom B (PI w kc P) := fun s A A' row hs hg hr =>
  ⟨⟨keep_cells hs.1.1 hg hr, keep_cells hs.1.2.1 hg hr, keep_cells hs.1.2.2.1 hg hr, keep_cells hs.1.2.2.2 hg hr⟩, hs.2.1, ownFrom_below (β := Unit) (Nat.le_refl _) hB () A A' row hs.2.2.1 hg hr, Nat.le_trans hs.2.2.2 hg.size⟩
theorem PI.below {w W W' : World} {kc : Array Value} {m : Nat} {P : Fin m → Bool} {pre : List (Fin m)} (h : PI w kc P pre W) (k : Below W.heap.size W W') : PI w kc P pre W' := by
  have hl : ∀ {b : Nat} {o : Obj}, W.heap[b]? = some o → W'.heap[b]? = some o := fun e => (k.block _ (Array.getElem?_eq_some_iff.1 e).1).trans e
  exact ⟨⟨hl h.1.1, hl h.1.2.1, hl h.1.2.2.1, hl h.1.2.2.2⟩, h.2.1, h.2.2.1.trans (k.mono h.2.2.1.size), Nat.le_trans h.2.2.2 k.size⟩
theorem PI.snoc {w W : World} {kc : Array Value} {m : Nat} {P : Fin m → Bool} {pre : List (Fin m)} {x : Fin m} (h : PI w kc P pre W) (hx : P x = false) : PI w kc P (pre ++ [x]) (W.setCell ⟨w.heap.size + 1 + 1 + 1 + 1, 0, none⟩ (.int .i64 ((pre.length : Int) + 1))) := by
  have st : ∀ b, b ≠ w.heap.size + 1 + 1 + 1 + 1 → (W.setCell ⟨w.heap.size + 1 + 1 + 1 + 1, 0, none⟩ (.int .i64 ((pre.length : Int) + 1))).heap[b]? = W.heap[b]? := fun b hb => Below.heap_setCell _ _ _ _ hb
  refine ⟨⟨(st _ (by omega)).trans h.1.1, (st _ (by omega)).trans h.1.2.1, (st _ (by omega)).trans h.1.2.2.1, ?_⟩, fun y hy => ?_, ?_, ?_⟩
  · have := set_cells h.1.2.2.2 (.int .i64 ((pre.length : Int) + 1))
    rw [List.length_append]
    simpa using this
  · rcases List.mem_append.1 hy with hy | hy
    · exact h.2.1 y hy
    · simp at hy; subst hy; exact hx
  · exact h.2.2.1.setCell (p := ⟨w.heap.size + 1 + 1 + 1 + 1, 0, none⟩) (by show w.heap.size ≤ w.heap.size + 1 + 1 + 1 + 1; omega) _
  · have := h.2.2.2
    simp [World.setCell]; omega
def PX (w : World) {m : Nat} (P : Fin m → Bool) (z : Fin m → Int) (ex : Nat) (c : Code) (pre : List (Fin m)) (W : World) : Prop :=
  (∃ pre' x, pre = pre' ++ [x] ∧ (∀ y ∈ pre', P y = false) ∧ P x = true ∧ ((c = .ret ∧ z x = 0 ∧ W.heap[w.heap.size + 1 + 1]? = some (.cells #[.int .i64 (x.val : Int)] 3 (0, 0)) ∧ W.heap[w.heap.size + 1 + 1 + 1]? = some (.cells #[.bool true] 4 (0, 0))) ∨ (c = .exit ex ∧ z x = 1 ∧ W.heap[w.heap.size + 1 + 1]? = some (.cells #[.int .i64 0] 3 (0, 0)) ∧ W.heap[w.heap.size + 1 + 1 + 1]? = some (.cells #[.bool false] 4 (0, 0)) ∧ W.heap[w.heap.size + 1 + 1 + 1 + 1]? = some (.cells #[.int .i64 (pre'.length : Int)] 3 (0, 0))))) ∧ Below w.heap.size w W
theorem PX_own (w : World) {m : Nat} (P : Fin m → Bool) (z : Fin m → Int) (ex : Nat) (c : Code) {B : Nat} (hB : w.heap.size ≤ B) : OwnFrom B (PX w P z ex c) := fun s A A' row hs hg hr => by
  obtain ⟨⟨pre', x, e, hp, hx, hor⟩, h4⟩ := hs
  refine ⟨⟨pre', x, e, hp, hx, ?_⟩, ownFrom_below (β := Unit) (Nat.le_refl _) hB () A A' row h4 hg hr⟩
  rcases hor with ⟨h1, h2, h3, h5⟩ | ⟨h1, h2, h3, h5, h6⟩
  · exact .inl ⟨h1, h2, keep_cells h3 hg hr, keep_cells h5 hg hr⟩
  · exact .inr ⟨h1, h2, keep_cells h3 hg hr, keep_cells h5 hg hr, keep_cells h6 hg hr⟩

set_option maxRecDepth 100000 in
set_option maxHeartbeats 2000000 in
theorem place_any (k : Nat) (w : World) (sa : Option Addr) (sn sc : Nat) (ms : List (Sl × Rw k)) (hd : StR k w sa sn ms) (m : Int) (kt : VT k) (hk : Rds k w kt) :
    Calls Try.prog 40 #[.agg #[.slice sa sn sc], .int .i64 m, (hdT k kt).v] w fun e w' => e = .returned (.tuple #[.int .i64 ((placeR (fun p => cmpT k p.1 kt) (rowAt ms m)).1 : Int), .bool (placeR (fun p => cmpT k p.1 kt) (rowAt ms m)).2]) ∧ Below w.heap.size w w' := by
  have D := hid hd
  have DK := hid hk
  obtain ⟨row, hrow⟩ : ∃ row, row = rowAt ms m := ⟨_, rfl⟩
  have Hrow := hid hrow
  rw [← hrow]
  obtain ⟨c, hP⟩ : ∃ c : VT k × VT k → Int, c = fun p => cmpT k p.1 kt := ⟨_, rfl⟩
  have HP := hid hP
  rw [← hP]
  obtain ⟨res, hres⟩ : ∃ res, res = placeR c row := ⟨_, rfl⟩
  rw [← hres]
  have Hres := hid hres
  have hmem : ∀ q ∈ rowAt ms m, ∀ w1 : World, Below w.heap.size w w1 → Rds k w1 q.1 ∧ Rds k w1 q.2 := by
    intro q hq w1 hb
    unfold rowAt at hq
    split at hq
    · cases e : ms[m.toNat]? with
      | none => rw [e] at hq; simp at hq
      | some p => rw [e] at hq; exact ((hd.el p (List.mem_of_getElem? e)).1.below (Nat.le_refl _) hb).el q hq
    · simp at hq
  have hlen : row.length ≤ 1000 := by
    rw [hrow]
    unfold rowAt
    split
    · cases e : ms[m.toNat]? with
      | none => simp
      | some p => have h1 := (hd.el p (List.mem_of_getElem? e)).1; have h2 := h1.n1; have h3 := h1.n2; show p.2.length ≤ 1000; omega
    · simp
  rw [← hrow] at hmem
  have hro : Fence.wide.round = none := rfl
  have KC : Hid (∀ (x : Fin row.length) (w1 : World), Below w.heap.size w w1 → Calls Try.prog 47 #[(hdT k row[x].1).v, (hdT k kt).v] w1 fun e w' => e = .returned (.int .i64 (cmpT k row[x].1 kt)) ∧ Below w1.heap.size w1 w') := hid (fun x w1 hb => compare_any k w1 row[x].1 kt (hmem row[x] (List.getElem_mem _) w1 hb).1 (Rds.below k hk (Nat.le_refl _) hb))
  clear hd hk hrow hP hres hmem
  generalize hdT k kt = hkt at *
  obtain ⟨kk, ki, kx, kr, ka, kn, kc⟩ := hkt
  simp only [Hd.v] at KC ⊢
  obtain ⟨W0, hW0⟩ : ∃ W0, W0 = ((((w.alloc (.cells #[.slice sa sn sc] 27)).alloc (.cells #[.int .i64 kk, .int .i64 ki, .string kx, .int .i64 kr, .slice ka kn kc] 31)).alloc (.cells #[.int .i64 0] 3)).alloc (.cells #[.bool false] 4)).alloc (.cells #[.int .i64 0] 3) := ⟨_, rfl⟩
  obtain ⟨W1, hW1⟩ : ∃ W1, W1 = (W0.alloc (.cells #[.slice sa sn sc] 27)).alloc (.cells #[.int .i64 m] 3) := ⟨_, rfl⟩
  have pl' : ∀ {w : World} {o x : Obj} {k : Nat}, w.heap[k]? = some x → (w.alloc o).heap[k]? = some x := fun h => (Below.heap_alloc _ _ _ (Array.getElem?_eq_some_iff.1 h).1).trans h
  have n2 := heap_alloc_new (w.alloc (.cells #[.slice sa sn sc] 27)) (.cells #[.int .i64 kk, .int .i64 ki, .string kx, .int .i64 kr, .slice ka kn kc] 31)
  have n3 := heap_alloc_new ((w.alloc (.cells #[.slice sa sn sc] 27)).alloc (.cells #[.int .i64 kk, .int .i64 ki, .string kx, .int .i64 kr, .slice ka kn kc] 31)) (.cells #[.int .i64 0] 3)
  have n4 := heap_alloc_new (((w.alloc (.cells #[.slice sa sn sc] 27)).alloc (.cells #[.int .i64 kk, .int .i64 ki, .string kx, .int .i64 kr, .slice ka kn kc] 31)).alloc (.cells #[.int .i64 0] 3)) (.cells #[.bool false] 4)
  have n4b := heap_alloc_new ((((w.alloc (.cells #[.slice sa sn sc] 27)).alloc (.cells #[.int .i64 kk, .int .i64 ki, .string kx, .int .i64 kr, .slice ka kn kc] 31)).alloc (.cells #[.int .i64 0] 3)).alloc (.cells #[.bool false] 4)) (.cells #[.int .i64 0] 3)
  have n5 := heap_alloc_new W0 (.cells #[.slice sa sn sc] 27)
  have n6 := heap_alloc_new (W0.alloc (.cells #[.slice sa sn sc] 27)) (.cells #[.int .i64 m] 3)
  have hz0 : W0.heap.size = w.heap.size + 1 + 1 + 1 + 1 + 1 := by rw [hW0]; simp
  have hz1 : W1.heap.size = w.heap.size + 1 + 1 + 1 + 1 + 1 + 1 + 1 := by rw [hW1]; simp; omega
  simp only [World.size_alloc, hz0] at n2 n3 n4 n4b n5 n6
  have q2 : W1.heap[w.heap.size + 1]? = some (.cells #[.int .i64 kk, .int .i64 ki, .string kx, .int .i64 kr, .slice ka kn kc] 31 (0, 0)) := by rw [hW1, hW0]; exact pl' (pl' (pl' (pl' (pl' n2))))
  have q3 : W1.heap[w.heap.size + 1 + 1]? = some (.cells #[.int .i64 0] 3 (0, 0)) := by rw [hW1, hW0]; exact pl' (pl' (pl' (pl' n3)))
  have q4 : W1.heap[w.heap.size + 1 + 1 + 1]? = some (.cells #[.bool false] 4 (0, 0)) := by rw [hW1, hW0]; exact pl' (pl' (pl' n4))
  have q4b : W1.heap[w.heap.size + 1 + 1 + 1 + 1]? = some (.cells #[.int .i64 0] 3 (0, 0)) := by rw [hW1, hW0]; exact pl' (pl' n4b)
  have q5 : W1.heap[w.heap.size + 1 + 1 + 1 + 1 + 1]? = some (.cells #[.slice sa sn sc] 27 (0, 0)) := by rw [hW1]; exact pl' n5
  have q6 : W1.heap[w.heap.size + 1 + 1 + 1 + 1 + 1 + 1]? = some (.cells #[.int .i64 m] 3 (0, 0)) := by rw [hW1]; exact n6
  have hb1 : Below w.heap.size w W1 := by
    rw [hW1, hW0]; exact (((((((Below.refl _ w).alloc (Nat.le_refl _) _).alloc (by simp) _).alloc (by simp; omega) _).alloc (by simp; omega) _).alloc (by simp; omega) _).alloc (by simp; omega) _).alloc (by simp; omega) _
  have hseq := entries_stops k w sa sn sc ms D.out m row Hrow.out 5 (by omega) (w.heap.size + 1 + 1 + 1 + 1 + 1) (w.heap.size + 1 + 1 + 1 + 1 + 1 + 1) W1 hb1 q5 q6
  have h70 : PI w #[.int .i64 kk, .int .i64 ki, .string kx, .int .i64 kr, .slice ka kn kc] (fun x : Fin row.length => plQ c row[x]) [] W1 := ⟨⟨q2, q3, q4, q4b⟩, by simp, hb1, by omega⟩
  have hC : w.heap.size ≤ W1.heap.size := by omega
  clear n2 n3 n4 n4b n5 n6 pl' q2 q3 q4 q4b q5 q6 hb1
  refine (callsIn_wide (n := 6)).1 ?_
  refine callsIn_of_wp_marks Try.func40 rfl trivial ?_ hro
  simp only [Try.ntmps40, List.size_toArray, List.length_cons, List.length_nil, Nat.reduceAdd, Nat.reduceSub, Array.replicate_succ, Array.replicate_zero, List.push_toArray, List.append_toArray, List.nil_append, List.cons_append]
  gi_wp2
  try refine wpIn_scope_wide ?_
  gi_wp2
  refine wpIn_label ?_
  gi_wp2_with (refine ⟨trivial, ?_⟩; gi_at_call 44; refine (entries_in _ _ trivial hro _ rfl _ _).mono ?_; rintro e w7 ⟨rfl, rfl⟩)
  try rw [← hW0]
  try simp only [hz0]
  try rw [← hW1]
  refine wpIn_rangeFunc_ownH hro (by omega) (gf := 63) (lb := #[.pointer (some ⟨w.heap.size + 1 + 1 + 1 + 1 + 1, 0, none⟩), .pointer (some ⟨w.heap.size + 1 + 1 + 1 + 1 + 1 + 1, 0, none⟩)]) rfl trivial (enters_of Try.func63 (by kernel_rfl) rfl) hseq KB_t (KB_b (by omega) (by omega) (by omega)) (Below.refl _ _) (fun _ => rfl)
      (PI w #[.int .i64 kk, .int .i64 ki, .string kx, .int .i64 kr, .slice ka kn kc] (fun x : Fin row.length => plQ c row[x])) (PX w (fun x : Fin row.length => plQ c row[x]) (fun x => c row[x]) 0) (PI_own w _ _ hC) (fun c => PX_own w _ _ _ c hC)
      h70
      (fun (x : Fin row.length) (a' : Act) (W : World) => ∃ X : Nat, W.heap[X]? = some (Obj.cells (enT k row[x]).cs.toArray 81 (0, 0)) ∧ a' = { tmps := #[.agg #[.slice sa sn sc], .int .i64 m, .agg #[.int .i64 kk, .int .i64 ki, .string kx, .int .i64 kr, .slice ka kn kc], .pointer (some ⟨w.heap.size, 0, none⟩), undef, .pointer (some ⟨w.heap.size + 1, 0, none⟩), .pointer (some ⟨w.heap.size + 1 + 1, 0, none⟩), .pointer (some ⟨w.heap.size + 1 + 1 + 1, 0, none⟩), .pointer (some ⟨w.heap.size + 1 + 1 + 1 + 1, 0, none⟩), .int .i64 (x.val : Int), .pointer (some ⟨X, 0, none⟩), .agg #[.slice sa sn sc], .int .i64 m, .func (.func 63) #[] #[.pointer (some ⟨w.heap.size + 1 + 1 + 1 + 1 + 1, 0, none⟩), .pointer (some ⟨w.heap.size + 1 + 1 + 1 + 1 + 1 + 1, 0, none⟩)], .int .i64 (x.val : Int), (enT k row[x]).v, undef, undef, undef, undef, undef, undef, undef, undef, undef, undef, undef, undef], defers := [] })
      (fun x a' u A B rw' hs hg hr => by
        obtain ⟨X, h2, h4⟩ := hs
        exact ⟨X, keep_cells h2 hg hr, h4⟩)
      ?assign ?body ?done ?stop
  case assign =>
    rintro ll pre x W K hi hK
    simp only [encE, enT, En.v, En.cs] at hK ⊢
    generalize hdT k row[x].1 = hd1 at *
    generalize hdT k row[x].2 = hd2 at *
    gi_wp2
    exact hK _ _ ((KeepsOthers.alloc _ _).from _) (KB_of ((Below.refl _ W).alloc (Nat.le_refl _) _) (by have := hi.2.2.2; omega) (by have := hi.2.2.2; omega) (by have := hi.2.2.2; omega)) ((PI_own w _ _ hC).alloc _ hi) ⟨W.heap.size, heap_alloc_new W _, rfl⟩
  case body =>
    rintro ll pre x a' W hll ⟨rr, hrr⟩ hi ⟨X, hx, rfl⟩ hlt
    have HI := hid hi
    have d0 := cellOf hx 0
    have d1 := cellOf hx 1
    have d2 := cellOf hx 2
    have d3 := cellOf hx 3
    have d4 := cellOf hx 4
    simp only [En.cs, enT, List.getElem?_toArray, List.getElem?_cons_zero, List.getElem?_cons_succ] at d0 d1 d2 d3 d4
    have e0 := cellOf hi.1.1 0
    have e1 := cellOf hi.1.1 1
    have e2 := cellOf hi.1.1 2
    have e3 := cellOf hi.1.1 3
    have e4 := cellOf hi.1.1 4
    simp only [List.getElem?_toArray, List.getElem?_cons_zero, List.getElem?_cons_succ] at e0 e1 e2 e3 e4
    have K1 := hid (KC.out x W hi.2.2.1)
    have hPx : c row[x] = cmpT k row[x].1 kt := by rw [HP.out]
    have hpl : (pre.length : Int) ≤ 1000 := by omega
    have hpl0 : (0 : Int) ≤ (pre.length : Int) := by omega
    have FX : Hid (∀ w8 : World, Below W.heap.size W w8 → w8.cell? ⟨w.heap.size + 1 + 1 + 1 + 1, 0, none⟩ = some (.int .i64 (pre.length : Int)) ∧ w8.frozen? ⟨w.heap.size + 1 + 1 + 1 + 1, 0, none⟩ = false ∧ w8.cell? ⟨w.heap.size + 1 + 1, 0, none⟩ = some (.int .i64 0) ∧ w8.frozen? ⟨w.heap.size + 1 + 1, 0, none⟩ = false ∧ w8.cell? ⟨w.heap.size + 1 + 1 + 1, 0, none⟩ = some (.bool false) ∧ w8.frozen? ⟨w.heap.size + 1 + 1 + 1, 0, none⟩ = false) := hid (fun w8 hb => by
      have h := hi.below hb
      exact ⟨cellOf h.1.2.2.2 0, freeOf h.1.2.2.2 0, cellOf h.1.2.1 0, freeOf h.1.2.1 0, cellOf h.1.2.2.1 0, freeOf h.1.2.2.1 0⟩)
    simp only [En.v, En.cs, enT] at *
    obtain ⟨h1, eh1⟩ : ∃ h1, h1 = hdT k row[x].1 := ⟨_, rfl⟩
    rw [← eh1] at d0 d1 d2 d3 d4
    simp only [← eh1] at K1 ⊢
    obtain ⟨cv, hcv⟩ : ∃ cv, cv = cmpT k row[x].1 kt := ⟨_, rfl⟩
    rw [← hcv] at hPx K1
    obtain ⟨yk, yi, yt, yr, ya, yn, yc⟩ := h1
    simp only at K1 d0 d1 d2 d3 d4 ⊢
    generalize hdT k row[x].2 = hd2 at *
    have HPx := hid hPx
    clear hx hrr hseq hi h70 eh1 hcv D DK hPx
    by_cases h0 : cv = 0
    · subst h0
      gi_wp2_with (refine ⟨trivial, ?_⟩; gi_at_call 47; refine (CallsIn.inRound ll (callsIn_wide.2 (Hid.out K1))).mono ?_; rintro e w8 ⟨rfl, hb8⟩; obtain ⟨f1, f2, f3, f4, f5, f6⟩ := FX.out w8 hb8)
      have G := HI.out.below hb8
      refine ⟨((keepsFrom_below hb8).trans ((KeepsOthers.setCell _ _ _).from _)).trans ((KeepsOthers.setCell _ _ _).from _), ⟨pre, x, rfl, HI.out.2.1, by show (c row[x] == 0 || c row[x] == 1) = true; rw [HPx.out]; rfl, .inl ⟨rfl, HPx.out, ?_, ?_⟩⟩, ?_⟩
      · exact (Below.heap_setCell _ _ _ _ (by show w.heap.size + 1 + 1 ≠ w.heap.size + 1 + 1 + 1; omega)).trans (set_cells G.1.2.1 _)
      · exact set_cells ((Below.heap_setCell _ _ _ _ (by show w.heap.size + 1 + 1 + 1 ≠ w.heap.size + 1 + 1; omega)).trans G.1.2.2.1) _
      · exact ((G.2.2.1).setCell (p := ⟨w.heap.size + 1 + 1, 0, none⟩) (by show w.heap.size ≤ w.heap.size + 1 + 1; omega) _).setCell (p := ⟨w.heap.size + 1 + 1 + 1, 0, none⟩) (by show w.heap.size ≤ w.heap.size + 1 + 1 + 1; omega) _
    · have h0b : (cv == 0) = false := by simpa using h0
      by_cases h1 : cv = 1
      · subst h1
        gi_wp2_with (refine ⟨trivial, ?_⟩; gi_at_call 47; refine (CallsIn.inRound ll (callsIn_wide.2 (Hid.out K1))).mono ?_; rintro e w8 ⟨rfl, hb8⟩; obtain ⟨f1, f2, f3, f4, f5, f6⟩ := FX.out w8 hb8)
        have G := HI.out.below hb8
        exact ⟨keepsFrom_below hb8, ⟨pre, x, rfl, HI.out.2.1, by show (c row[x] == 0 || c row[x] == 1) = true; rw [HPx.out]; rfl, .inr ⟨rfl, HPx.out, G.1.2.1, G.1.2.2.1, G.1.2.2.2⟩⟩, G.2.2.1⟩
      · have h1b : (cv == 1) = false := by simpa using h1
        have hwr : IntKind.i64.wrap ((pre.length : Int) + 1) = (pre.length : Int) + 1 := by rw [IntKind.wrap_i64]; omega
        gi_wp2_with (refine ⟨trivial, ?_⟩; gi_at_call 47; refine (CallsIn.inRound ll (callsIn_wide.2 (Hid.out K1))).mono ?_; rintro e w8 ⟨rfl, hb8⟩; obtain ⟨f1, f2, f3, f4, f5, f6⟩ := FX.out w8 hb8)
        have G := HI.out.below hb8
        have sA := HI.out.2.2.2
        refine ⟨(keepsFrom_below hb8).trans ((KeepsOthers.setCell _ _ _).from _), KB_t (KB_of hb8 (by omega) (by omega) (by omega)) ⟨(Below.refl _ _).setCell (p := ⟨w.heap.size + 1 + 1 + 1 + 1, 0, none⟩) (by show w.heap.size ≤ w.heap.size + 1 + 1 + 1 + 1; omega) _, Below.heap_setCell _ _ _ _ (by show w.heap.size + 1 + 1 + 1 + 1 + 1 ≠ w.heap.size + 1 + 1 + 1 + 1; omega), Below.heap_setCell _ _ _ _ (by show w.heap.size + 1 + 1 + 1 + 1 + 1 + 1 ≠ w.heap.size + 1 + 1 + 1 + 1; omega)⟩, ?_⟩
        exact G.snoc (by show (c row[x] == 0 || c row[x] == 1) = false; rw [HPx.out, h0b, h1b]; rfl)
  case done =>
    rintro D' ys W hD rfl hI hK
    have hval : res = (row.length, false) := by rw [Hres.out]; exact place_none c row hI.2.1
    have HK := hid hK
    have HI := hid hI
    have g2 := hI.1.2.1
    have g3 := hI.1.2.2.1
    have g4 := hI.1.2.2.2
    rw [List.length_finRange] at g4
    have Hval := hid hval
    have u2 := cellOf g2 0
    have v2 := freeOf g2 0
    have u3 := cellOf g3 0
    have v3 := freeOf g3 0
    have u4 := cellOf g4 0
    simp only [List.getElem?_toArray, List.getElem?_cons_zero, List.getElem?_cons_succ] at u2 u3 u4
    have G2 := hid g2
    have G3 := hid g3
    clear hseq hI hK hval h70 g2 g3 g4 D DK KC
    gi_wp2
    obtain ⟨Wf, hWf⟩ : ∃ Wf, Wf = (W.setCell ⟨w.heap.size + 1 + 1, 0, none⟩ (.int .i64 (row.length : Int))).setCell ⟨w.heap.size + 1 + 1 + 1, 0, none⟩ (.bool false) := ⟨_, rfl⟩
    have k2 : Wf.heap[w.heap.size + 1 + 1]? = some (.cells #[.int .i64 (row.length : Int)] 3 (0, 0)) := by
      rw [hWf]; exact (Below.heap_setCell _ _ _ _ (by show w.heap.size + 1 + 1 ≠ w.heap.size + 1 + 1 + 1; omega)).trans (set_cells G2.out _)
    have k3 : Wf.heap[w.heap.size + 1 + 1 + 1]? = some (.cells #[.bool false] 4 (0, 0)) := by
      rw [hWf]; exact set_cells ((Below.heap_setCell _ _ _ _ (by show w.heap.size + 1 + 1 + 1 ≠ w.heap.size + 1 + 1; omega)).trans G3.out) _
    have kD : Wf.heap[D']? = some (.deferred (some [])) := by
      rw [hWf]; exact ((Below.heap_setCell _ _ _ _ (by show D' ≠ w.heap.size + 1 + 1 + 1; omega)).trans (Below.heap_setCell _ _ _ _ (by show D' ≠ w.heap.size + 1 + 1; omega))).trans HK.out
    have kB : Below w.heap.size w Wf := by
      rw [hWf]; exact ((HI.out.2.2.1).setCell (p := ⟨w.heap.size + 1 + 1, 0, none⟩) (by show w.heap.size ≤ w.heap.size + 1 + 1; omega) _).setCell (p := ⟨w.heap.size + 1 + 1 + 1, 0, none⟩) (by show w.heap.size ≤ w.heap.size + 1 + 1 + 1; omega) _
    rw [← hWf]
    have h9 := keep_cells (B := 0) k2 (grownBy_putObj' _ D' (.deferred none)) (fun r e => by cases e; exact ⟨Nat.zero_le _, _, kD, rfl⟩)
    have h9' := keep_cells (B := 0) k3 (grownBy_putObj' _ D' (.deferred none)) (fun r e => by cases e; exact ⟨Nat.zero_le _, _, kD, rfl⟩)
    have h10 : Below w.heap.size w (Wf.putObj D' (.deferred none)) := ownFrom_below (β := Unit) (Nat.le_refl _) (Nat.le_refl _) () _ _ _ kB (grownBy_putObj' _ D' (.deferred none)) (fun r e => by cases e; exact ⟨by omega, _, kD, rfl⟩)
    have r0 := cellOf h9 0
    have r5 := cellOf h9' 0
    simp only [List.getElem?_toArray, List.getElem?_cons_zero, List.getElem?_cons_succ] at r0 r5
    refine ⟨by simp, .inl ⟨_, _, rfl, run_takeDeferred kD, ?_⟩⟩
    refine ⟨.tuple #[.int .i64 (row.length : Int), .bool false], by simp [results, Try.results40, go_sem, r0, r5], ?_⟩
    rw [Hval.out]
    exact ⟨rfl, h10⟩
  case stop =>
    rintro D' c' pre W hD ⟨ii, hii, epre⟩ ⟨⟨pre', x, e0, hp, hx, hor⟩, kB⟩ hK
    have hpl := place_some c row ii hii pre' x (epre.symm.trans e0) hp hx
    have hxv := take_last ii hii pre' x (epre.symm.trans e0)
    have HK := hid hK
    have Hpl := hid (Hres.out.trans hpl)
    have HB := hid kB
    clear hseq h70 D DK KC hK kB epre e0 hp hpl
    rcases hor with ⟨rfl, hz, k2, k3⟩ | ⟨rfl, hz, g2, g3, g4⟩
    · have kD := HK.out
      have h9 := keep_cells (B := 0) k2 (grownBy_putObj' _ D' (.deferred none)) (fun r e => by cases e; exact ⟨Nat.zero_le _, _, kD, rfl⟩)
      have h9' := keep_cells (B := 0) k3 (grownBy_putObj' _ D' (.deferred none)) (fun r e => by cases e; exact ⟨Nat.zero_le _, _, kD, rfl⟩)
      have h10 : Below w.heap.size w (W.putObj D' (.deferred none)) := ownFrom_below (β := Unit) (Nat.le_refl _) (Nat.le_refl _) () _ _ _ HB.out (grownBy_putObj' _ D' (.deferred none)) (fun r e => by cases e; exact ⟨by omega, _, kD, rfl⟩)
      have H10 := hid h10
      have r0 := cellOf h9 0
      have r5 := cellOf h9' 0
      simp only [List.getElem?_toArray, List.getElem?_cons_zero, List.getElem?_cons_succ] at r0 r5
      clear h9 h9' h10 k2 k3 kD
      gi_wp2
      refine ⟨by simp, .inl ⟨_, _, rfl, run_takeDeferred HK.out, ?_⟩⟩
      refine ⟨.tuple #[.int .i64 (x.val : Int), .bool true], by simp [results, Try.results40, go_sem, r0, r5], ?_⟩
      rw [Hpl.out]
      try simp only at hz
      rw [hz]
      exact ⟨rfl, H10.out⟩
    · have u2 := cellOf g2 0
      have v2 := freeOf g2 0
      have u3 := cellOf g3 0
      have v3 := freeOf g3 0
      have u4 := cellOf g4 0
      simp only [List.getElem?_toArray, List.getElem?_cons_zero, List.getElem?_cons_succ] at u2 u3 u4
      have G2 := hid g2
      have G3 := hid g3
      clear g2 g3 g4
      gi_wp2
      obtain ⟨Wf, hWf⟩ : ∃ Wf, Wf = (W.setCell ⟨w.heap.size + 1 + 1, 0, none⟩ (.int .i64 (pre'.length : Int))).setCell ⟨w.heap.size + 1 + 1 + 1, 0, none⟩ (.bool false) := ⟨_, rfl⟩
      have k2 : Wf.heap[w.heap.size + 1 + 1]? = some (.cells #[.int .i64 (pre'.length : Int)] 3 (0, 0)) := by
        rw [hWf]; exact (Below.heap_setCell _ _ _ _ (by show w.heap.size + 1 + 1 ≠ w.heap.size + 1 + 1 + 1; omega)).trans (set_cells G2.out _)
      have k3 : Wf.heap[w.heap.size + 1 + 1 + 1]? = some (.cells #[.bool false] 4 (0, 0)) := by
        rw [hWf]; exact set_cells ((Below.heap_setCell _ _ _ _ (by show w.heap.size + 1 + 1 + 1 ≠ w.heap.size + 1 + 1; omega)).trans G3.out) _
      have kD : Wf.heap[D']? = some (.deferred (some [])) := by
        rw [hWf]; exact ((Below.heap_setCell _ _ _ _ (by show D' ≠ w.heap.size + 1 + 1 + 1; omega)).trans (Below.heap_setCell _ _ _ _ (by show D' ≠ w.heap.size + 1 + 1; omega))).trans HK.out
      have kB : Below w.heap.size w Wf := by
        rw [hWf]; exact ((HB.out).setCell (p := ⟨w.heap.size + 1 + 1, 0, none⟩) (by show w.heap.size ≤ w.heap.size + 1 + 1; omega) _).setCell (p := ⟨w.heap.size + 1 + 1 + 1, 0, none⟩) (by show w.heap.size ≤ w.heap.size + 1 + 1 + 1; omega) _
      rw [← hWf]
      have h9 := keep_cells (B := 0) k2 (grownBy_putObj' _ D' (.deferred none)) (fun r e => by cases e; exact ⟨Nat.zero_le _, _, kD, rfl⟩)
      have h9' := keep_cells (B := 0) k3 (grownBy_putObj' _ D' (.deferred none)) (fun r e => by cases e; exact ⟨Nat.zero_le _, _, kD, rfl⟩)
      have h10 : Below w.heap.size w (Wf.putObj D' (.deferred none)) := ownFrom_below (β := Unit) (Nat.le_refl _) (Nat.le_refl _) () _ _ _ kB (grownBy_putObj' _ D' (.deferred none)) (fun r e => by cases e; exact ⟨by omega, _, kD, rfl⟩)
      have r0 := cellOf h9 0
      have r5 := cellOf h9' 0
      simp only [List.getElem?_toArray, List.getElem?_cons_zero, List.getElem?_cons_succ] at r0 r5
      refine ⟨by simp, .inl ⟨_, _, rfl, run_takeDeferred kD, ?_⟩⟩
      refine ⟨.tuple #[.int .i64 (pre'.length : Int), .bool false], by simp [results, Try.results40, go_sem, r0, r5], ?_⟩
      rw [Hpl.out]
      try simp only at hz
      rw [hz, hxv]
      exact ⟨rfl, h10⟩
end Go.Proofs.Ytenfgahedbeekaa
