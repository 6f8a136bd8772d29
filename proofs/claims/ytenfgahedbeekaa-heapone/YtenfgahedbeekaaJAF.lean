/- heap.place. -/
import Derived.Test.YtenfgahedbeekaaJAE
namespace Go.Proofs.Ytenfgahedbeekaa
open Go.RowKit Go.Deep Go.Shelf
set_option linter.unusedVariables false
set_option linter.unusedSimpArgs false
attribute [local go_sem] Oper.semAt_some

/- Where a key stands, or would stand: c tells how an element compares with it. -/
def plQ {α : Type} (c : α → Int) (a : α) : Bool := c a == 0 || c a == 1
def placeR {α : Type} (c : α → Int) (l : List α) : Nat × Bool := (l.findIdx (plQ c), ((l.find? (plQ c)).map fun a => c a == 0).getD false)
theorem place_none {α : Type} (c : α → Int) (l : List α) (h : ∀ x ∈ List.finRange l.length, plQ c l[x] = false) : placeR c l = (l.length, false) := by
  have hn := find_none l (plQ c) h
  unfold placeR
  rw [hn, List.findIdx_eq_length.2]
  · rfl
  · intro x hx
    have := List.find?_eq_none.1 hn x hx
    simpa using this
theorem take_last {n : Nat} (i : Nat) (hi : i ≤ n) (pre' : List (Fin n)) (x : Fin n) (e : (List.finRange n).take i = pre' ++ [x]) : x.val = pre'.length := by
  have hlen : pre'.length + 1 = i := by
    have := congrArg List.length e
    rw [List.length_take, List.length_finRange, List.length_append] at this
    simp at this; omega
  have hpx : (List.finRange n)[pre'.length]? = some x := by
    have : ((List.finRange n).take i)[pre'.length]? = some x := by rw [e]; simp
    rw [List.getElem?_take, if_pos (by omega)] at this
    exact this
  exact finr _ _ x hpx
theorem place_some {α : Type} (c : α → Int) (l : List α) (i : Nat) (hi : i ≤ l.length) (pre' : List (Fin l.length)) (x : Fin l.length) (e : (List.finRange l.length).take i = pre' ++ [x]) (h : ∀ y ∈ pre', plQ c l[y] = false) (hx : plQ c l[x] = true) : placeR c l = (x.val, c l[x] == 0) := by
  have hs := find_some l (plQ c) i hi pre' x e h hx
  have hxv := take_last i hi pre' x e
  unfold placeR
  rw [hs]
  refine Prod.ext ?_ rfl
  show l.findIdx (plQ c) = x.val
  rw [List.findIdx_eq x.isLt]
  refine ⟨hx, fun j hj => ?_⟩
  have hlen : pre'.length + 1 = i := by
    have := congrArg List.length e
    rw [List.length_take, List.length_finRange, List.length_append] at this
    simp at this; omega
  have hjp : (⟨j, by omega⟩ : Fin l.length) ∈ pre' := by
    have h1 : ((List.finRange l.length).take i)[j]? = some (⟨j, by omega⟩ : Fin l.length) := by
      rw [List.getElem?_take, if_pos (by omega), List.getElem?_eq_getElem (by rw [List.length_finRange]; omega)]
      simp
    rw [e, List.getElem?_append_left (by omega)] at h1
    exact List.mem_of_getElem? h1
  exact h _ hjp
theorem wpIn_scope_wide {P : Program} {n : Nat} {c : Code} {Q : Exit → Act → World → Prop} {a : Act} {w : World} (h : c.wpIn Fence.wide n P (Exit.noGoto Q) a w) : (Code.scope c).wpIn Fence.wide n P Q a w :=
  wpIn_wide.2 (wp_scope_straight ((wpIn_wide (n := n)).1 h))
/- Between two rounds. -/
def PI (w : World) (kc : Array Value) {m : Nat} (P : Fin m → Bool) (pre : List (Fin m)) (W : World) : Prop :=
  (W.heap[w.heap.size + 1]? = some (.cells kc 31 (0, 0)) ∧ W.heap[w.heap.size + 1 + 1]? = some (.cells #[.int .i64 0] 3 (0, 0)) ∧ W.heap[w.heap.size + 1 + 1 + 1]? = some (.cells #[.bool false] 4 (0, 0)) ∧ W.heap[w.heap.size + 1 + 1 + 1 + 1]? = some (.cells #[.int .i64 (pre.length : Int)] 3 (0, 0))) ∧ (∀ x ∈ pre, P x = false) ∧ Below w.heap.size w W ∧ w.heap.size + 7 ≤ W.heap.size
theorem PI_own (w : World) (kc : Array Value) {m : Nat} (P : Fin m → Bool) {B : Nat} (hB : w.heap.size ≤ B) : OwnFrom B (PI w kc P) := fun s A A' row hs hg hr =>
  ⟨⟨keep_cells hs.1.1 hg hr, keep_cells hs.1.2.1 hg hr, keep_cells hs.1.2.2.1 hg hr, keep_cells hs.1.2.2.2 hg hr⟩, hs.2.1, ownFrom_below (β := Unit) (Nat.le_refl _) hB () A A' row hs.2.2.1 hg hr, Nat.le_trans hs.2.2.2 hg.size⟩
theorem PI.below {w W W' : World} {kc : Array Value} {m : Nat} {P : Fin m → Bool} {pre : List (Fin m)} (h : PI w kc P pre W) (k : Below W.heap.size W W') : PI w kc P pre W' := by
  have hl : ∀ {b : Nat} {o : Obj}, W.heap[b]? = some o → W'.heap[b]? = some o := fun e => (k.block _ (Array.getElem?_eq_some_iff.1 e).1).trans e
  exact ⟨⟨hl h.1.1, hl h.1.2.1, hl h.1.2.2.1, hl h.1.2.2.2⟩, h.2.1, h.2.2.1.trans (k.mono h.2.2.1.size), Nat.le_trans h.2.2.2 k.size⟩
theorem PI.snoc {w W : World} {kc : Array Value} {m : Nat} {P : Fin m → Bool} {pre : List (Fin m)} {x : Fin m} (h : PI w kc P pre W) (hx : P x = false) : PI w kc P (pre ++ [x]) (W.setCell ⟨w.heap.size + 1 + 1 + 1 + 1, 0, none⟩ (.int .i64 ((pre.length : Int) + 1))) := by
  have st : ∀ b, b ≠ w.heap.size + 1 + 1 + 1 + 1 → (W.setCell ⟨w.heap.size + 1 + 1 + 1 + 1, 0, none⟩ (.int .i64 ((pre.length : Int) + 1))).heap[b]? = W.heap[b]? := fun b hb => Below.heap_setCell _ _ _ _ hb
  refine ⟨⟨(st _ (by omega)).trans h.1.1, (st _ (by omega)).trans h.1.2.1, (st _ (by omega)).trans h.1.2.2.1, ?_⟩, fun y hy => ?_, ?_, ?_⟩
  · have := set_cells h.1.2.2.2 (.int .i64 ((pre.length : Int) + 1))
    rw [List.length_append]
    simpa using this
  · rcases List.mem_append.1 hy with hy | hy
    · exact h.2.1 y hy
    · simp at hy; subst hy; exact hx
  · exact h.2.2.1.setCell (p := ⟨w.heap.size + 1 + 1 + 1 + 1, 0, none⟩) (by show w.heap.size ≤ w.heap.size + 1 + 1 + 1 + 1; omega) _
  · have := h.2.2.2
    simp [World.setCell]; omega
def PX (w : World) {m : Nat} (P : Fin m → Bool) (z : Fin m → Int) (ex : Nat) (c : Code) (pre : List (Fin m)) (W : World) : Prop :=
  (∃ pre' x, pre = pre' ++ [x] ∧ (∀ y ∈ pre', P y = false) ∧ P x = true ∧ ((c = .ret ∧ z x = 0 ∧ W.heap[w.heap.size + 1 + 1]? = some (.cells #[.int .i64 (x.val : Int)] 3 (0, 0)) ∧ W.heap[w.heap.size + 1 + 1 + 1]? = some (.cells #[.bool true] 4 (0, 0))) ∨ (c = .exit ex ∧ z x = 1 ∧ W.heap[w.heap.size + 1 + 1]? = some (.cells #[.int .i64 0] 3 (0, 0)) ∧ W.heap[w.heap.size + 1 + 1 + 1]? = some (.cells #[.bool false] 4 (0, 0)) ∧ W.heap[w.heap.size + 1 + 1 + 1 + 1]? = some (.cells #[.int .i64 (pre'.length : Int)] 3 (0, 0))))) ∧ Below w.heap.size w W
theorem PX_own (w : World) {m : Nat} (P : Fin m → Bool) (z : Fin m → Int) (ex : Nat) (c : Code) {B : Nat} (hB : w.heap.size ≤ B) : OwnFrom B (PX w P z ex c) := fun s A A' row hs hg hr => by
  obtain ⟨⟨pre', x, e, hp, hx, hor⟩, h4⟩ := hs
  refine ⟨⟨pre', x, e, hp, hx, ?_⟩, ownFrom_below (β := Unit) (Nat.le_refl _) hB () A A' row h4 hg hr⟩
  rcases hor with ⟨h1, h2, h3, h5⟩ | ⟨h1, h2, h3, h5, h6⟩
  · exact .inl ⟨h1, h2, keep_cells h3 hg hr, keep_cells h5 hg hr⟩
  · exact .inr ⟨h1, h2, keep_cells h3 hg hr, keep_cells h5 hg hr, keep_cells h6 hg hr⟩

set_option maxRecDepth 100000 in
set_option maxHeartbeats 2000000 in
theorem place_any (k : Nat) (w : World) (sa : Option Addr) (sn sc : Nat) (ms : List (Sl × Rw k)) (hd : StR k w sa sn ms) (m : Int) (kt : VT k) (hk : Rds k w kt) :
    Calls Try.prog 40 #[.agg #[.slice sa sn sc], .int .i64 m, (hdT k kt).v] w fun e w' => e = .returned (.tuple #[.int .i64 ((placeR (fun p => cmpT k p.1 kt) (rowAt ms m)).1 : Int), .bool (placeR (fun p => cmpT k p.1 kt) (rowAt ms m)).2]) ∧ Below w.heap.size w w' := by
  have D := hid hd
  have DK := hid hk
  obtain ⟨row, hrow⟩ : ∃ row, row = rowAt ms m := ⟨_, rfl⟩
  have Hrow := hid hrow
  rw [← hrow]
  obtain ⟨c, hP⟩ : ∃ c : VT k × VT k → Int, c = fun p => cmpT k p.1 kt := ⟨_, rfl⟩
  have HP := hid hP
  rw [← hP]
  obtain ⟨res, hres⟩ : ∃ res, res = placeR c row := ⟨_, rfl⟩
  rw [← hres]
  have Hres := hid hres
  have hmem : ∀ q ∈ rowAt ms m, ∀ w1 : World, Below w.heap.size w w1 → Rds k w1 q.1 ∧ Rds k w1 q.2 := by
    intro q hq w1 hb
    unfold rowAt at hq
    split at hq
    · cases e : ms[m.toNat]? with
      | none => rw [e] at hq; simp at hq
      | some p => rw [e] at hq; exact ((hd.el p (List.mem_of_getElem? e)).1.below (Nat.le_refl _) hb).el q hq
    · simp at hq
  have hlen : row.length ≤ 1000 := by
    rw [hrow]
    unfold rowAt
    split
    · cases e : ms[m.toNat]? with
      | none => simp
      | some p => have h1 := (hd.el p (List.mem_of_getElem? e)).1; have h2 := h1.n1; have h3 := h1.n2; show p.2.length ≤ 1000; omega
    · simp
  rw [← hrow] at hmem
  have hro : Fence.wide.round = none := rfl
  have KC : Hid (∀ (x : Fin row.length) (w1 : World), Below w.heap.size w w1 → Calls Try.prog 47 #[(hdT k row[x].1).v, (hdT k kt).v] w1 fun e w' => e = .returned (.int .i64 (cmpT k row[x].1 kt)) ∧ Below w1.heap.size w1 w') := hid (fun x w1 hb => compare_any k w1 row[x].1 kt (hmem row[x] (List.getElem_mem _) w1 hb).1 (Rds.below k hk (Nat.le_refl _) hb))
  clear hd hk hrow hP hres hmem
  generalize hdT k kt = hkt at *
  obtain ⟨kk, ki, kx, kr, ka, kn, kc⟩ := hkt
  simp only [Hd.v] at KC ⊢
  obtain ⟨W0, hW0⟩ : ∃ W0, W0 = ((((w.alloc (.cells #[.slice sa sn sc] 27)).alloc (.cells #[.int .i64 kk, .int .i64 ki, .string kx, .int .i64 kr, .slice ka kn kc] 31)).alloc (.cells #[.int .i64 0] 3)).alloc (.cells #[.bool false] 4)).alloc (.cells #[.int .i64 0] 3) := ⟨_, rfl⟩
  obtain ⟨W1, hW1⟩ : ∃ W1, W1 = (W0.alloc (.cells #[.slice sa sn sc] 27)).alloc (.cells #[.int .i64 m] 3) := ⟨_, rfl⟩
  have pl' : ∀ {w : World} {o x : Obj} {k : Nat}, w.heap[k]? = some x → (w.alloc o).heap[k]? = some x := fun h => (Below.heap_alloc _ _ _ (Array.getElem?_eq_some_iff.1 h).1).trans h
  have n2 := heap_alloc_new (w.alloc (.cells #[.slice sa sn sc] 27)) (.cells #[.int .i64 kk, .int .i64 ki, .string kx, .int .i64 kr, .slice ka kn kc] 31)
  have n3 := heap_alloc_new ((w.alloc (.cells #[.slice sa sn sc] 27)).alloc (.cells #[.int .i64 kk, .int .i64 ki, .string kx, .int .i64 kr, .slice ka kn kc] 31)) (.cells #[.int .i64 0] 3)
  have n4 := heap_alloc_new (((w.alloc (.cells #[.slice sa sn sc] 27)).alloc (.cells #[.int .i64 kk, .int .i64 ki, .string kx, .int .i64 kr, .slice ka kn kc] 31)).alloc (.cells #[.int .i64 0] 3)) (.cells #[.bool false] 4)
  have n4b := heap_alloc_new ((((w.alloc (.cells #[.slice sa sn sc] 27)).alloc (.cells #[.int .i64 kk, .int .i64 ki, .string kx, .int .i64 kr, .slice ka kn kc] 31)).alloc (.cells #[.int .i64 0] 3)).alloc (.cells #[.bool false] 4)) (.cells #[.int .i64 0] 3)
  have n5 := heap_alloc_new W0 (.cells #[.slice sa sn sc] 27)
  have n6 := heap_alloc_new (W0.alloc (.cells #[.slice sa sn sc] 27)) (.cells #[.int .i64 m] 3)
  have hz0 : W0.heap.size = w.heap.size + 1 + 1 + 1 + 1 + 1 := by rw [hW0]; simp
  have hz1 : W1.heap.size = w.heap.size + 1 + 1 + 1 + 1 + 1 + 1 + 1 := by rw [hW1]; simp; omega
  simp only [World.size_alloc, hz0] at n2 n3 n4 n4b n5 n6
  have q2 : W1.heap[w.heap.size + 1]? = some (.cells #[.int .i64 kk, .int .i64 ki, .string kx, .int .i64 kr, .slice ka kn kc] 31 (0, 0)) := by rw [hW1, hW0]; exact pl' (pl' (pl' (pl' (pl' n2))))
  have q3 : W1.heap[w.heap.size + 1 + 1]? = some (.cells #[.int .i64 0] 3 (0, 0)) := by rw [hW1, hW0]; exact pl' (pl' (pl' (pl' n3)))
  have q4 : W1.heap[w.heap.size + 1 + 1 + 1]? = some (.cells #[.bool false] 4 (0, 0)) := by rw [hW1, hW0]; exact pl' (pl' (pl' n4))
  have q4b : W1.heap[w.heap.size + 1 + 1 + 1 + 1]? = some (.cells #[.int .i64 0] 3 (0, 0)) := by rw [hW1, hW0]; exact pl' (pl' n4b)
  have q5 : W1.heap[w.heap.size + 1 + 1 + 1 + 1 + 1]? = some (.cells #[.slice sa sn sc] 27 (0, 0)) := by rw [hW1]; exact pl' n5
  have q6 : W1.heap[w.heap.size + 1 + 1 + 1 + 1 + 1 + 1]? = some (.cells #[.int .i64 m] 3 (0, 0)) := by rw [hW1]; exact n6
  have hb1 : Below w.heap.size w W1 := by
    rw [hW1, hW0]; exact (((((((Below.refl _ w).alloc (Nat.le_refl _) _).alloc (by simp) _).alloc (by simp; omega) _).alloc (by simp; omega) _).alloc (by simp; omega) _).alloc (by simp; omega) _).alloc (by simp; omega) _
  have hseq := entries_stops k w sa sn sc ms D.out m row Hrow.out 5 (by omega) (w.heap.size + 1 + 1 + 1 + 1 + 1) (w.heap.size + 1 + 1 + 1 + 1 + 1 + 1) W1 hb1 q5 q6
  have h70 : PI w #[.int .i64 kk, .int .i64 ki, .string kx, .int .i64 kr, .slice ka kn kc] (fun x : Fin row.length => plQ c row[x]) [] W1 := ⟨⟨q2, q3, q4, q4b⟩, by simp, hb1, by omega⟩
  have hC : w.heap.size ≤ W1.heap.size := by omega
  clear n2 n3 n4 n4b n5 n6 pl' q2 q3 q4 q4b q5 q6 hb1
  refine (callsIn_wide (n := 6)).1 ?_
  refine callsIn_of_wp_marks Try.func40 rfl trivial ?_ hro
  simp only [Try.ntmps40, List.size_toArray, List.length_cons, List.length_nil, Nat.reduceAdd, Nat.reduceSub, Array.replicate_succ, Array.replicate_zero, List.push_toArray, List.append_toArray, List.nil_append, List.cons_append]
  gi_wp2
  try refine wpIn_scope_wide ?_
  gi_wp2
  refine wpIn_label ?_
  gi_wp2_with (refine ⟨trivial, ?_⟩; gi_at_call 44; refine (entries_in _ _ trivial hro _ rfl _ _).mono ?_; rintro e w7 ⟨rfl, rfl⟩)
  try rw [← hW0]
  try simp only [hz0]
  try rw [← hW1]
  refine wpIn_rangeFunc_ownH hro (by omega) (gf := 63) (lb := #[.pointer (some ⟨w.heap.size + 1 + 1 + 1 + 1 + 1, 0, none⟩), .pointer (some ⟨w.heap.size + 1 + 1 + 1 + 1 + 1 + 1, 0, none⟩)]) rfl trivial (enters_of Try.func63 (by kernel_rfl) rfl) hseq KB_t (KB_b (by omega) (by omega) (by omega)) (Below.refl _ _) (fun _ => rfl)
      (PI w #[.int .i64 kk, .int .i64 ki, .string kx, .int .i64 kr, .slice ka kn kc] (fun x : Fin row.length => plQ c row[x])) (PX w (fun x : Fin row.length => plQ c row[x]) (fun x => c row[x]) 0) (PI_own w _ _ hC) (fun c => PX_own w _ _ _ c hC)
      h70
      (fun (x : Fin row.length) (a' : Act) (W : World) => ∃ X : Nat, W.heap[X]? = some (Obj.cells (enT k row[x]).cs.toArray 81 (0, 0)) ∧ a' = { tmps := #[.agg #[.slice sa sn sc], .int .i64 m, .agg #[.int .i64 kk, .int .i64 ki, .string kx, .int .i64 kr, .slice ka kn kc], .pointer (some ⟨w.heap.size, 0, none⟩), undef, .pointer (some ⟨w.heap.size + 1, 0, none⟩), .pointer (some ⟨w.heap.size + 1 + 1, 0, none⟩), .pointer (some ⟨w.heap.size + 1 + 1 + 1, 0, none⟩), .pointer (some ⟨w.heap.size + 1 + 1 + 1 + 1, 0, none⟩), .int .i64 (x.val : Int), .pointer (some ⟨X, 0, none⟩), .agg #[.slice sa sn sc], .int .i64 m, .func (.func 63) #[] #[.pointer (some ⟨w.heap.size + 1 + 1 + 1 + 1 + 1, 0, none⟩), .pointer (some ⟨w.heap.size + 1 + 1 + 1 + 1 + 1 + 1, 0, none⟩)], .int .i64 (x.val : Int), (enT k row[x]).v, undef, undef, undef, undef, undef, undef, undef, undef, undef, undef, undef, undef], defers := [] })
      (fun x a' u A B rw' hs hg hr => by
        obtain ⟨X, h2, h4⟩ := hs
        exact ⟨X, keep_cells h2 hg hr, h4⟩)
      ?assign ?body ?done ?stop
  case assign =>
    rintro ll pre x W K hi hK
    simp only [encE, enT, En.v, En.cs] at hK ⊢
    generalize hdT k row[x].1 = hd1 at *
    generalize hdT k row[x].2 = hd2 at *
    gi_wp2
    exact hK _ _ ((KeepsOthers.alloc _ _).from _) (KB_of ((Below.refl _ W).alloc (Nat.le_refl _) _) (by have := hi.2.2.2; omega) (by have := hi.2.2.2; omega) (by have := hi.2.2.2; omega)) ((PI_own w _ _ hC).alloc _ hi) ⟨W.heap.size, heap_alloc_new W _, rfl⟩
  case body =>
    rintro ll pre x a' W hll ⟨rr, hrr⟩ hi ⟨X, hx, rfl⟩ hlt
    have HI := hid hi
    have d0 := cellOf hx 0
    have d1 := cellOf hx 1
    have d2 := cellOf hx 2
    have d3 := cellOf hx 3
    have d4 := cellOf hx 4
    simp only [En.cs, enT, List.getElem?_toArray, List.getElem?_cons_zero, List.getElem?_cons_succ] at d0 d1 d2 d3 d4
    have e0 := cellOf hi.1.1 0
    have e1 := cellOf hi.1.1 1
    have e2 := cellOf hi.1.1 2
    have e3 := cellOf hi.1.1 3
    have e4 := cellOf hi.1.1 4
    simp only [List.getElem?_toArray, List.getElem?_cons_zero, List.getElem?_cons_succ] at e0 e1 e2 e3 e4
    have K1 := hid (KC.out x W hi.2.2.1)
    have hPx : c row[x] = cmpT k row[x].1 kt := by rw [HP.out]
    have hpl : (pre.length : Int) ≤ 1000 := by omega
    have hpl0 : (0 : Int) ≤ (pre.length : Int) := by omega
    have FX : Hid (∀ w8 : World, Below W.heap.size W w8 → w8.cell? ⟨w.heap.size + 1 + 1 + 1 + 1, 0, none⟩ = some (.int .i64 (pre.length : Int)) ∧ w8.frozen? ⟨w.heap.size + 1 + 1 + 1 + 1, 0, none⟩ = false ∧ w8.cell? ⟨w.heap.size + 1 + 1, 0, none⟩ = some (.int .i64 0) ∧ w8.frozen? ⟨w.heap.size + 1 + 1, 0, none⟩ = false ∧ w8.cell? ⟨w.heap.size + 1 + 1 + 1, 0, none⟩ = some (.bool false) ∧ w8.frozen? ⟨w.heap.size + 1 + 1 + 1, 0, none⟩ = false) := hid (fun w8 hb => by
      have h := hi.below hb
      exact ⟨cellOf h.1.2.2.2 0, freeOf h.1.2.2.2 0, cellOf h.1.2.1 0, freeOf h.1.2.1 0, cellOf h.1.2.2.1 0, freeOf h.1.2.2.1 0⟩)
    simp only [En.v, En.cs, enT] at *
    obtain ⟨h1, eh1⟩ : ∃ h1, h1 = hdT k row[x].1 := ⟨_, rfl⟩
    rw [← eh1] at d0 d1 d2 d3 d4
    simp only [← eh1] at K1 ⊢
    obtain ⟨cv, hcv⟩ : ∃ cv, cv = cmpT k row[x].1 kt := ⟨_, rfl⟩
    rw [← hcv] at hPx K1
    obtain ⟨yk, yi, yt, yr, ya, yn, yc⟩ := h1
    simp only at K1 d0 d1 d2 d3 d4 ⊢
    generalize hdT k row[x].2 = hd2 at *
    have HPx := hid hPx
    clear hx hrr hseq hi h70 eh1 hcv D DK hPx
    by_cases h0 : cv = 0
    · subst h0
      gi_wp2_with (refine ⟨trivial, ?_⟩; gi_at_call 47; refine (CallsIn.inRound ll (callsIn_wide.2 (Hid.out K1))).mono ?_; rintro e w8 ⟨rfl, hb8⟩; obtain ⟨f1, f2, f3, f4, f5, f6⟩ := FX.out w8 hb8)
      have G := HI.out.below hb8
      refine ⟨((keepsFrom_below hb8).trans ((KeepsOthers.setCell _ _ _).from _)).trans ((KeepsOthers.setCell _ _ _).from _), ⟨pre, x, rfl, HI.out.2.1, by show (c row[x] == 0 || c row[x] == 1) = true; rw [HPx.out]; rfl, .inl ⟨rfl, HPx.out, ?_, ?_⟩⟩, ?_⟩
      · exact (Below.heap_setCell _ _ _ _ (by show w.heap.size + 1 + 1 ≠ w.heap.size + 1 + 1 + 1; omega)).trans (set_cells G.1.2.1 _)
      · exact set_cells ((Below.heap_setCell _ _ _ _ (by show w.heap.size + 1 + 1 + 1 ≠ w.heap.size + 1 + 1; omega)).trans G.1.2.2.1) _
      · exact ((G.2.2.1).setCell (p := ⟨w.heap.size + 1 + 1, 0, none⟩) (by show w.heap.size ≤ w.heap.size + 1 + 1; omega) _).setCell (p := ⟨w.heap.size + 1 + 1 + 1, 0, none⟩) (by show w.heap.size ≤ w.heap.size + 1 + 1 + 1; omega) _
    · have h0b : (cv == 0) = false := by simpa using h0
      by_cases h1 : cv = 1
      · subst h1
        gi_wp2_with (refine ⟨trivial, ?_⟩; gi_at_call 47; refine (CallsIn.inRound ll (callsIn_wide.2 (Hid.out K1))).mono ?_; rintro e w8 ⟨rfl, hb8⟩; obtain ⟨f1, f2, f3, f4, f5, f6⟩ := FX.out w8 hb8)
        have G := HI.out.below hb8
        exact ⟨keepsFrom_below hb8, ⟨pre, x, rfl, HI.out.2.1, by show (c row[x] == 0 || c row[x] == 1) = true; rw [HPx.out]; rfl, .inr ⟨rfl, HPx.out, G.1.2.1, G.1.2.2.1, G.1.2.2.2⟩⟩, G.2.2.1⟩
      · have h1b : (cv == 1) = false := by simpa using h1
        have hwr : IntKind.i64.wrap ((pre.length : Int) + 1) = (pre.length : Int) + 1 := by rw [IntKind.wrap_i64]; omega
        gi_wp2_with (refine ⟨trivial, ?_⟩; gi_at_call 47; refine (CallsIn.inRound ll (callsIn_wide.2 (Hid.out K1))).mono ?_; rintro e w8 ⟨rfl, hb8⟩; obtain ⟨f1, f2, f3, f4, f5, f6⟩ := FX.out w8 hb8)
        have G := HI.out.below hb8
        have sA := HI.out.2.2.2
        refine ⟨(keepsFrom_below hb8).trans ((KeepsOthers.setCell _ _ _).from _), KB_t (KB_of hb8 (by omega) (by omega) (by omega)) ⟨(Below.refl _ _).setCell (p := ⟨w.heap.size + 1 + 1 + 1 + 1, 0, none⟩) (by show w.heap.size ≤ w.heap.size + 1 + 1 + 1 + 1; omega) _, Below.heap_setCell _ _ _ _ (by show w.heap.size + 1 + 1 + 1 + 1 + 1 ≠ w.heap.size + 1 + 1 + 1 + 1; omega), Below.heap_setCell _ _ _ _ (by show w.heap.size + 1 + 1 + 1 + 1 + 1 + 1 ≠ w.heap.size + 1 + 1 + 1 + 1; omega)⟩, ?_⟩
        exact G.snoc (by show (c row[x] == 0 || c row[x] == 1) = false; rw [HPx.out, h0b, h1b]; rfl)
  case done =>
    rintro D' ys W hD rfl hI hK
    have hval : res = (row.length, false) := by rw [Hres.out]; exact place_none c row hI.2.1
    have HK := hid hK
    have HI := hid hI
    have g2 := hI.1.2.1
    have g3 := hI.1.2.2.1
    have g4 := hI.1.2.2.2
    rw [List.length_finRange] at g4
    have Hval := hid hval
    have u2 := cellOf g2 0
    have v2 := freeOf g2 0
    have u3 := cellOf g3 0
    have v3 := freeOf g3 0
    have u4 := cellOf g4 0
    simp only [List.getElem?_toArray, List.getElem?_cons_zero, List.getElem?_cons_succ] at u2 u3 u4
    have G2 := hid g2
    have G3 := hid g3
    clear hseq hI hK hval h70 g2 g3 g4 D DK KC
    gi_wp2
    obtain ⟨Wf, hWf⟩ : ∃ Wf, Wf = (W.setCell ⟨w.heap.size + 1 + 1, 0, none⟩ (.int .i64 (row.length : Int))).setCell ⟨w.heap.size + 1 + 1 + 1, 0, none⟩ (.bool false) := ⟨_, rfl⟩
    have k2 : Wf.heap[w.heap.size + 1 + 1]? = some (.cells #[.int .i64 (row.length : Int)] 3 (0, 0)) := by
      rw [hWf]; exact (Below.heap_setCell _ _ _ _ (by show w.heap.size + 1 + 1 ≠ w.heap.size + 1 + 1 + 1; omega)).trans (set_cells G2.out _)
    have k3 : Wf.heap[w.heap.size + 1 + 1 + 1]? = some (.cells #[.bool false] 4 (0, 0)) := by
      rw [hWf]; exact set_cells ((Below.heap_setCell _ _ _ _ (by show w.heap.size + 1 + 1 + 1 ≠ w.heap.size + 1 + 1; omega)).trans G3.out) _
    have kD : Wf.heap[D']? = some (.deferred (some [])) := by
      rw [hWf]; exact ((Below.heap_setCell _ _ _ _ (by show D' ≠ w.heap.size + 1 + 1 + 1; omega)).trans (Below.heap_setCell _ _ _ _ (by show D' ≠ w.heap.size + 1 + 1; omega))).trans HK.out
    have kB : Below w.heap.size w Wf := by
      rw [hWf]; exact ((HI.out.2.2.1).setCell (p := ⟨w.heap.size + 1 + 1, 0, none⟩) (by show w.heap.size ≤ w.heap.size + 1 + 1; omega) _).setCell (p := ⟨w.heap.size + 1 + 1 + 1, 0, none⟩) (by show w.heap.size ≤ w.heap.size + 1 + 1 + 1; omega) _
    rw [← hWf]
    have h9 := keep_cells (B := 0) k2 (grownBy_putObj' _ D' (.deferred none)) (fun r e => by cases e; exact ⟨Nat.zero_le _, _, kD, rfl⟩)
    have h9' := keep_cells (B := 0) k3 (grownBy_putObj' _ D' (.deferred none)) (fun r e => by cases e; exact ⟨Nat.zero_le _, _, kD, rfl⟩)
    have h10 : Below w.heap.size w (Wf.putObj D' (.deferred none)) := ownFrom_below (β := Unit) (Nat.le_refl _) (Nat.le_refl _) () _ _ _ kB (grownBy_putObj' _ D' (.deferred none)) (fun r e => by cases e; exact ⟨by omega, _, kD, rfl⟩)
    have r0 := cellOf h9 0
    have r5 := cellOf h9' 0
    simp only [List.getElem?_toArray, List.getElem?_cons_zero, List.getElem?_cons_succ] at r0 r5
    refine ⟨by simp, .inl ⟨_, _, rfl, run_takeDeferred kD, ?_⟩⟩
    refine ⟨.tuple #[.int .i64 (row.length : Int), .bool false], by simp [results, Try.results40, go_sem, r0, r5], ?_⟩
    rw [Hval.out]
    exact ⟨rfl, h10⟩
  case stop =>
    rintro D' c' pre W hD ⟨ii, hii, epre⟩ ⟨⟨pre', x, e0, hp, hx, hor⟩, kB⟩ hK
    have hpl := place_some c row ii hii pre' x (epre.symm.trans e0) hp hx
    have hxv := take_last ii hii pre' x (epre.symm.trans e0)
    have HK := hid hK
    have Hpl := hid (Hres.out.trans hpl)
    have HB := hid kB
    clear hseq h70 D DK KC hK kB epre e0 hp hpl
    rcases hor with ⟨rfl, hz, k2, k3⟩ | ⟨rfl, hz, g2, g3, g4⟩
    · have kD := HK.out
      have h9 := keep_cells (B := 0) k2 (grownBy_putObj' _ D' (.deferred none)) (fun r e => by cases e; exact ⟨Nat.zero_le _, _, kD, rfl⟩)
      have h9' := keep_cells (B := 0) k3 (grownBy_putObj' _ D' (.deferred none)) (fun r e => by cases e; exact ⟨Nat.zero_le _, _, kD, rfl⟩)
      have h10 : Below w.heap.size w (W.putObj D' (.deferred none)) := ownFrom_below (β := Unit) (Nat.le_refl _) (Nat.le_refl _) () _ _ _ HB.out (grownBy_putObj' _ D' (.deferred none)) (fun r e => by cases e; exact ⟨by omega, _, kD, rfl⟩)
      have H10 := hid h10
      have r0 := cellOf h9 0
      have r5 := cellOf h9' 0
      simp only [List.getElem?_toArray, List.getElem?_cons_zero, List.getElem?_cons_succ] at r0 r5
      clear h9 h9' h10 k2 k3 kD
      gi_wp2
      refine ⟨by simp, .inl ⟨_, _, rfl, run_takeDeferred HK.out, ?_⟩⟩
      refine ⟨.tuple #[.int .i64 (x.val : Int), .bool true], by simp [results, Try.results40, go_sem, r0, r5], ?_⟩
      rw [Hpl.out]
      try simp only at hz
      rw [hz]
      exact ⟨rfl, H10.out⟩
    · have u2 := cellOf g2 0
      have v2 := freeOf g2 0
      have u3 := cellOf g3 0
      have v3 := freeOf g3 0
      have u4 := cellOf g4 0
      simp only [List.getElem?_toArray, List.getElem?_cons_zero, List.getElem?_cons_succ] at u2 u3 u4
      have G2 := hid g2
      have G3 := hid g3
      clear g2 g3 g4
      gi_wp2
      obtain ⟨Wf, hWf⟩ : ∃ Wf, Wf = (W.setCell ⟨w.heap.size + 1 + 1, 0, none⟩ (.int .i64 (pre'.length : Int))).setCell ⟨w.heap.size + 1 + 1 + 1, 0, none⟩ (.bool false) := ⟨_, rfl⟩
      have k2 : Wf.heap[w.heap.size + 1 + 1]? = some (.cells #[.int .i64 (pre'.length : Int)] 3 (0, 0)) := by
        rw [hWf]; exact (Below.heap_setCell _ _ _ _ (by show w.heap.size + 1 + 1 ≠ w.heap.size + 1 + 1 + 1; omega)).trans (set_cells G2.out _)
      have k3 : Wf.heap[w.heap.size + 1 + 1 + 1]? = some (.cells #[.bool false] 4 (0, 0)) := by
        rw [hWf]; exact set_cells ((Below.heap_setCell _ _ _ _ (by show w.heap.size + 1 + 1 + 1 ≠ w.heap.size + 1 + 1; omega)).trans G3.out) _
      have kD : Wf.heap[D']? = some (.deferred (some [])) := by
        rw [hWf]; exact ((Below.heap_setCell _ _ _ _ (by show D' ≠ w.heap.size + 1 + 1 + 1; omega)).trans (Below.heap_setCell _ _ _ _ (by show D' ≠ w.heap.size + 1 + 1; omega))).trans HK.out
      have kB : Below w.heap.size w Wf := by
        rw [hWf]; exact ((HB.out).setCell (p := ⟨w.heap.size + 1 + 1, 0, none⟩) (by show w.heap.size ≤ w.heap.size + 1 + 1; omega) _).setCell (p := ⟨w.heap.size + 1 + 1 + 1, 0, none⟩) (by show w.heap.size ≤ w.heap.size + 1 + 1 + 1; omega) _
      rw [← hWf]
      have h9 := keep_cells (B := 0) k2 (grownBy_putObj' _ D' (.deferred none)) (fun r e => by cases e; exact ⟨Nat.zero_le _, _, kD, rfl⟩)
      have h9' := keep_cells (B := 0) k3 (grownBy_putObj' _ D' (.deferred none)) (fun r e => by cases e; exact ⟨Nat.zero_le _, _, kD, rfl⟩)
      have h10 : Below w.heap.size w (Wf.putObj D' (.deferred none)) := ownFrom_below (β := Unit) (Nat.le_refl _) (Nat.le_refl _) () _ _ _ kB (grownBy_putObj' _ D' (.deferred none)) (fun r e => by cases e; exact ⟨by omega, _, kD, rfl⟩)
      have r0 := cellOf h9 0
      have r5 := cellOf h9' 0
      simp only [List.getElem?_toArray, List.getElem?_cons_zero, List.getElem?_cons_succ] at r0 r5
      refine ⟨by simp, .inl ⟨_, _, rfl, run_takeDeferred kD, ?_⟩⟩
      refine ⟨.tuple #[.int .i64 (pre'.length : Int), .bool false], by simp [results, Try.results40, go_sem, r0, r5], ?_⟩
      rw [Hpl.out]
      try simp only at hz
      rw [hz, hxv]
      exact ⟨rfl, h10⟩
end Go.Proofs.Ytenfgahedbeekaa

namespace Go.Proofs.Ytenfgahedbeekaa
open Go.RowKit Go.Deep Go.Shelf
set_option linter.unusedVariables false
set_option linter.unusedSimpArgs false
attribute [local go_sem] Oper.semAt_some

theorem wpListIn_appE {F : Fence} {n : Nat} {ops : Array Oper} {rest : List Oper} {o : Oper} {a : Act} {Q : Exit → Act → World → Prop} (w : World) (hgd : o.guard = none) (sl x : Operand)
    (ho : o.op = .call { callee := .builtin .append, args := #[sl, x], argTypes := #[70, 70] }) (v : Value) (h : En) (hs : a.eval sl = v) (hx : a.eval x = .slice (some ⟨w.heap.size, 0, none⟩) 1 1)
    (B : Nat) (ss : List En) (hr : ERow w B v ss) (hB : B ≤ w.heap.size) (hl : ss.length ≤ 1000000)
    (k : ∀ v' w', ERow w' B v' (ss ++ [h]) → Grw (w.alloc (.cells h.cs.toArray 81)) v w' v' → wpListIn F n Try.prog ops Q rest (a.put o.dst v') w') :
    wpListIn F n Try.prog ops Q (o :: rest) a (w.alloc (.cells h.cs.toArray 81)) := by
  refine wpListIn_plain hgd fun K hK => ?_
  have hr' : ERow (w.alloc (.cells h.cs.toArray 81)) B v ss := hr.below (Nat.le_refl _) ((Below.refl _ w).alloc (Nat.le_refl _) _)
  obtain ⟨v', w', hrun, h2, h3⟩ := run_appE _ o.type B v ss h w.heap.size hr' (heap_alloc_new w _) (by simp; omega) hl
  unfold Oper.wpIn
  refine ⟨?_, ?_⟩
  · simp [Oper.about, ho, resolve, Target.leads, Sem.run_pure]
  · rw [Oper.semAt_plain F _ _ (by rw [ho]; intro c hc'; cases hc')]
    simp only [execOp, ho, resolve, invoke, builtin, Sem.run_bind, Sem.run_pure, Result.andThen_ok, List.map_toArray, List.map_cons, List.map_nil, hs, hx, hrun]
    exact hK _ _ (k v' w' h2 h3)
theorem StP.keep {k : Nat} {w w' : World} {A : Nat → Prop} {a : Option Addr} {n : Nat} {ms : List (Sl × Rw k)} (h : StP k w A a n ms) (e : ∀ b, A b → w'.heap[b]? = w.heap[b]?) : StP k w' A a n ms :=
  ⟨h.n1, h.n2, fun j x hx => by
    obtain ⟨b, off, rfl, hc⟩ := h.rd j x hx
    refine ⟨b, off, rfl, ?_⟩
    rw [← hc]
    exact World.cell?_of_block (a := ⟨b, off + j, none⟩) (show w'.heap[b]? = w.heap[b]? from e b (h.at' ⟨b, off, none⟩ rfl (fun h0 => by rw [h0] at hx; simp at hx))), h.at', fun m hm => ⟨(h.el m hm).1.keep e, (h.el m hm).2⟩⟩
theorem StP.imp {k : Nat} {w : World} {A B : Nat → Prop} {a : Option Addr} {n : Nat} {ms : List (Sl × Rw k)} (h : StP k w A a n ms) (i : ∀ b, A b → B b) : StP k w B a n ms :=
  ⟨h.n1, h.n2, h.rd, fun x e ne => i _ (h.at' x e ne), fun m hm => ⟨(h.el m hm).1.imp i, (h.el m hm).2⟩⟩
theorem StP.str {k : Nat} {w : World} {A : Nat → Prop} {a : Option Addr} {n : Nat} {ms : List (Sl × Rw k)} (h : StP k w A a n ms) : StR k w a n ms :=
  ⟨h.n1, h.n2, h.rd, fun m hm => ⟨(h.el m hm).1.rwr, (h.el m hm).2⟩⟩
/- Kept so far. -/
def keptR {k : Nat} (row : Rw k) (P : Fin row.length → Bool) (pre : List (Fin row.length)) : Rw k := (pre.filter fun x => !P x).map fun x => row[x]
theorem keptR_yes {k : Nat} {row : Rw k} {P : Fin row.length → Bool} {pre : List (Fin row.length)} {x : Fin row.length} (h : P x = true) : keptR row P (pre ++ [x]) = keptR row P pre := by
  simp [keptR, h]
theorem keptR_no {k : Nat} {row : Rw k} {P : Fin row.length → Bool} {pre : List (Fin row.length)} {x : Fin row.length} (h : P x = false) : keptR row P (pre ++ [x]) = keptR row P pre ++ [row[x]] := by
  simp [keptR, h]
theorem finRange_map {α : Type} (l : List α) : (List.finRange l.length).map (fun x => l[x]) = l := by
  apply List.ext_getElem
  · simp
  · intro i h1 h2; simp
theorem keptR_all {k : Nat} (row : Rw k) (P : VT k × VT k → Bool) : keptR row (fun x => P row[x]) (List.finRange row.length) = row.filter fun q => !P q := by
  have h : ∀ (l : List (Fin row.length)), (l.filter fun x => !P row[x]).map (fun x => row[x]) = (l.map fun x => row[x]).filter fun q => !P q := by
    intro l
    induction l with
    | nil => rfl
    | cons a l ih =>
      rw [List.map_cons, List.filter_cons, List.filter_cons]
      split
      · rw [List.map_cons, ih]
      · exact ih
  unfold keptR
  rw [h, finRange_map]
/- Between two rounds. -/
structure DlI (k : Nat) (w : World) (sv : Value) (kc : Array Value) (row : Rw k) (P : Fin row.length → Bool) (pre : List (Fin row.length)) (W : World) : Prop where
  b0 : W.heap[w.heap.size]? = some (.cells #[sv] 27 (0, 0))
  b1 : W.heap[w.heap.size + 1]? = some (.cells kc 31 (0, 0))
  b2 : W.heap[w.heap.size + 1 + 1]? = some (.cells #[.slice none 0 0] 27 (0, 0))
  b3 : ∃ fa fn fc, W.heap[w.heap.size + 1 + 1 + 1]? = some (.cells #[.slice fa fn fc] 70 (0, 0)) ∧ ERow W (w.heap.size + 1 + 1 + 1 + 1 + 1 + 1) (.slice fa fn fc) ((keptR row P pre).map (enT k))
  bel : Below w.heap.size w W
  sz : w.heap.size + 6 ≤ W.heap.size
  ln : pre.length ≤ row.length
theorem ERow.cells {W W' : World} {B : Nat} {v : Value} {es : List En} (h : ERow W B v es) (e : ∀ (b : Nat) (c : Array Value) (t : TypeId) (f : Nat × Nat), W.heap[b]? = some (Obj.cells c t f) → W'.heap[b]? = W.heap[b]?) : ERow W' B v es := by
  refine h.same (fun g eg => ?_)
  rcases h.2 with ⟨rfl, _⟩ | ⟨g', cap, cur, rfl, hb, hgg, rest⟩
  · cases eg
  · cases eg; exact e _ _ _ _ hgg
theorem DlI_own (k : Nat) (w : World) (sv : Value) (kc : Array Value) (row : Rw k) (P : Fin row.length → Bool) {B : Nat} (hB : w.heap.size ≤ B) : OwnFrom B (DlI k w sv kc row P) := fun s A A' rw' hs hg hr => by
  obtain ⟨fa, fn, fc, h3, h4⟩ := hs.b3
  exact ⟨keep_cells hs.b0 hg hr, keep_cells hs.b1 hg hr, keep_cells hs.b2 hg hr, ⟨fa, fn, fc, keep_cells h3 hg hr, h4.cells (grown_cells hg hr)⟩, ownFrom_below (β := Unit) (Nat.le_refl _) hB () A A' rw' hs.bel hg hr, Nat.le_trans hs.sz hg.size, hs.ln⟩
theorem DlI.below {k : Nat} {w W W' : World} {sv : Value} {kc : Array Value} {row : Rw k} {P : Fin row.length → Bool} {pre : List (Fin row.length)} (h : DlI k w sv kc row P pre W) (hb : Below W.heap.size W W') : DlI k w sv kc row P pre W' := by
  have hl : ∀ {b : Nat} {o : Obj}, W.heap[b]? = some o → W'.heap[b]? = some o := fun e => (hb.block _ (Array.getElem?_eq_some_iff.1 e).1).trans e
  obtain ⟨fa, fn, fc, h3, h4⟩ := h.b3
  exact ⟨hl h.b0, hl h.b1, hl h.b2, ⟨fa, fn, fc, hl h3, h4.below (Nat.le_refl _) hb⟩, h.bel.trans (hb.mono h.bel.size), Nat.le_trans h.sz hb.size, h.ln⟩
theorem DlI.skip {k : Nat} {w W : World} {sv : Value} {kc : Array Value} {row : Rw k} {P : Fin row.length → Bool} {pre : List (Fin row.length)} {x : Fin row.length} (h : DlI k w sv kc row P pre W) (hx : P x = true) (hl : pre.length < row.length) : DlI k w sv kc row P (pre ++ [x]) W :=
  ⟨h.b0, h.b1, h.b2, by rw [keptR_yes hx]; exact h.b3, h.bel, h.sz, by rw [List.length_append]; exact hl⟩
theorem DlI.more {k : Nat} {w W w10 : World} {sv : Value} {kc : Array Value} {row : Rw k} {P : Fin row.length → Bool} {pre : List (Fin row.length)} {x : Fin row.length} {fa : Option Addr} {fn fc : Nat} {o2 : Obj} {f2 : Option Addr} {n2 c2 : Nat} (h : DlI k w sv kc row P pre W) (hx : P x = false) (hl : pre.length < row.length)
    (h4 : ERow W (w.heap.size + 1 + 1 + 1 + 1 + 1 + 1) (.slice fa fn fc) ((keptR row P pre).map (enT k))) (h3 : W.heap[w.heap.size + 1 + 1 + 1]? = some (.cells #[.slice fa fn fc] 70 (0, 0)))
    (hr : ERow w10 (w.heap.size + 1 + 1 + 1 + 1 + 1 + 1) (.slice f2 n2 c2) ((keptR row P pre).map (enT k) ++ [enT k row[x]])) (hg : Grw (W.alloc o2) (.slice fa fn fc) w10 (.slice f2 n2 c2)) :
    KeepsOthers (W.alloc o2) w10 ∧ KB w.heap.size (w.heap.size + 1 + 1 + 1 + 1) (w.heap.size + 1 + 1 + 1 + 1 + 1) W w10 ∧ w10.heap[w.heap.size + 1 + 1 + 1]? = some (.cells #[.slice fa fn fc] 70 (0, 0)) ∧ DlI k w sv kc row P (pre ++ [x]) (w10.setCell ⟨w.heap.size + 1 + 1 + 1, 0, none⟩ (.slice f2 n2 c2)) := by
  have own : ∀ b, (Value.slice fa fn fc).ownBlock = some b → w.heap.size + 6 ≤ b ∧ b < W.heap.size := fun b e => h4.own b e
  have blk : ∀ b, b < W.heap.size → b < w.heap.size + 1 + 1 + 1 + 1 + 1 + 1 → w10.heap[b]? = W.heap[b]? := fun b hb hne => (hg.1.block b (by simp; omega) (fun e => by have := (own b e.symm).1; omega)).trans (Below.heap_alloc _ _ _ hb)
  have sz := h.sz
  have s10 : W.heap.size + 1 ≤ w10.heap.size := by have := hg.1.size; simpa using this
  have st : ∀ b, b ≠ w.heap.size + 1 + 1 + 1 → (w10.setCell ⟨w.heap.size + 1 + 1 + 1, 0, none⟩ (.slice f2 n2 c2)).heap[b]? = w10.heap[b]? := fun b hb => Below.heap_setCell _ _ _ _ hb
  have hc3 := (blk (w.heap.size + 1 + 1 + 1) (by omega) (by omega)).trans h3
  refine ⟨KeepsOthers.of_grownBy hg.1 (fun j o ej ho => ?_), ⟨?_, blk _ (by omega) (by omega), blk _ (by omega) (by omega)⟩, hc3, ?_⟩
  · rcases h4.2 with ⟨e, _⟩ | ⟨g, cap, cur, e, hb, hgg, rest⟩
    · rw [e] at ej; cases ej
    · rw [e] at ej; cases ej
      have hlt := (Array.getElem?_eq_some_iff.1 hgg).1
      rw [Below.heap_alloc _ _ _ hlt, hgg] at ho
      cases ho; rfl
  · exact ⟨hg.1.os, hg.1.tape, hg.1.output, by omega, fun j hj => blk j (by have := h.bel.size; omega) (by omega)⟩
  · refine ⟨(st _ (by omega)).trans ((blk _ (by omega) (by omega)).trans h.b0), (st _ (by omega)).trans ((blk _ (by omega) (by omega)).trans h.b1), (st _ (by omega)).trans ((blk _ (by omega) (by omega)).trans h.b2), ⟨f2, n2, c2, set_cells hc3 _, ?_⟩, ?_, ?_, by rw [List.length_append]; exact hl⟩
    · rw [keptR_no hx, List.map_append]
      exact hr.same (fun g e => st g (by have := (hr.own g e).1; omega))
    · refine Below.setCell (p := ⟨w.heap.size + 1 + 1 + 1, 0, none⟩) ?_ (by show w.heap.size ≤ w.heap.size + 1 + 1 + 1; omega) _
      exact ⟨hg.1.os.trans h.bel.os, hg.1.tape.trans h.bel.tape, hg.1.output.trans h.bel.output, by have := h.bel.size; omega, fun j hj => (blk j (by have := h.bel.size; omega) (by omega)).trans (h.bel.block j hj)⟩
    · simp [World.setCell]; omega
theorem KB.set3 {w W W' : World} (h : KB w.heap.size (w.heap.size + 1 + 1 + 1 + 1) (w.heap.size + 1 + 1 + 1 + 1 + 1) W W') (v : Value) : KB w.heap.size (w.heap.size + 1 + 1 + 1 + 1) (w.heap.size + 1 + 1 + 1 + 1 + 1) W (W'.setCell ⟨w.heap.size + 1 + 1 + 1, 0, none⟩ v) :=
  ⟨h.1.setCell (p := ⟨w.heap.size + 1 + 1 + 1, 0, none⟩) (by show w.heap.size ≤ w.heap.size + 1 + 1 + 1; omega) _, (Below.heap_setCell _ _ _ _ (by show w.heap.size + 1 + 1 + 1 + 1 ≠ w.heap.size + 1 + 1 + 1; omega)).trans h.2.1, (Below.heap_setCell _ _ _ _ (by show w.heap.size + 1 + 1 + 1 + 1 + 1 ≠ w.heap.size + 1 + 1 + 1; omega)).trans h.2.2⟩
def NoX {m : Nat} (c : Code) (pre : List (Fin m)) (W : World) : Prop := False

set_option maxRecDepth 100000 in
set_option maxHeartbeats 2000000 in
theorem del_any (k : Nat) (w : World) (sa : Option Addr) (sn sc : Nat) (ms : List (Sl × Rw k)) (hd : StR k w sa sn ms) (m : Int) (kt : VT k) (hk : Rds k w kt) :
    Calls Try.prog 15 #[.agg #[.slice sa sn sc], .int .i64 m, (hdT k kt).v] w (CwP k w m ((rowAt ms m).filter fun p => !(cmpT k p.1 kt == 0)) ms) := by
  have D := hid hd
  have DK := hid hk
  obtain ⟨row, hrow⟩ : ∃ row, row = rowAt ms m := ⟨_, rfl⟩
  have Hrow := hid hrow
  rw [← hrow]
  obtain ⟨P, hP⟩ : ∃ P : VT k × VT k → Bool, P = fun p => (cmpT k p.1 kt == 0) := ⟨_, rfl⟩
  have HP := hid hP
  have hres : (fun p : VT k × VT k => !(cmpT k p.1 kt == 0)) = fun p => !P p := by rw [hP]
  rw [hres]
  obtain ⟨kp, hkp⟩ : ∃ kp, kp = row.filter fun q => !P q := ⟨_, rfl⟩
  rw [← hkp]
  have Hkp := hid hkp
  clear hkp
  have hmem : ∀ q ∈ rowAt ms m, ∀ w1 : World, Below w.heap.size w w1 → Rds k w1 q.1 ∧ Rds k w1 q.2 := by
    intro q hq w1 hb
    unfold rowAt at hq
    split at hq
    · cases e : ms[m.toNat]? with
      | none => rw [e] at hq; simp at hq
      | some p => rw [e] at hq; exact ((hd.el p (List.mem_of_getElem? e)).1.below (Nat.le_refl _) hb).el q hq
    · simp at hq
  have hlen : row.length ≤ 1000 := by
    rw [hrow]
    unfold rowAt
    split
    · cases e : ms[m.toNat]? with
      | none => simp
      | some p => have h1 := (hd.el p (List.mem_of_getElem? e)).1; have h2 := h1.n1; have h3 := h1.n2; show p.2.length ≤ 1000; omega
    · simp
  rw [← hrow] at hmem
  have hro : Fence.wide.round = none := rfl
  have KC : Hid (∀ (x : Fin row.length) (w1 : World), Below w.heap.size w w1 → Calls Try.prog 45 #[(hdT k row[x].1).v, (hdT k kt).v] w1 fun e w' => e = .returned (.bool (cmpT k row[x].1 kt == 0)) ∧ Below w1.heap.size w1 w') := hid (fun x w1 hb => same_any k w1 row[x].1 kt (hmem row[x] (List.getElem_mem _) w1 hb).1 (Rds.below k hk (Nat.le_refl _) hb))
  have Hmem := hid hmem
  clear hd hk hrow hP hres hmem
  generalize hdT k kt = hkt at *
  obtain ⟨kk, ki, kx, kr, ka, kn, kc⟩ := hkt
  simp only [Hd.v] at KC ⊢
  obtain ⟨W0, hW0⟩ : ∃ W0, W0 = (((w.alloc (.cells #[.slice sa sn sc] 27)).alloc (.cells #[.int .i64 kk, .int .i64 ki, .string kx, .int .i64 kr, .slice ka kn kc] 31)).alloc (.cells #[.slice none 0 0] 27)).alloc (.cells #[.slice none 0 0] 70) := ⟨_, rfl⟩
  obtain ⟨W1, hW1⟩ : ∃ W1, W1 = (W0.alloc (.cells #[.slice sa sn sc] 27)).alloc (.cells #[.int .i64 m] 3) := ⟨_, rfl⟩
  have pl' : ∀ {w : World} {o x : Obj} {k : Nat}, w.heap[k]? = some x → (w.alloc o).heap[k]? = some x := fun h => (Below.heap_alloc _ _ _ (Array.getElem?_eq_some_iff.1 h).1).trans h
  have n1 := heap_alloc_new w (.cells #[.slice sa sn sc] 27)
  have n2 := heap_alloc_new (w.alloc (.cells #[.slice sa sn sc] 27)) (.cells #[.int .i64 kk, .int .i64 ki, .string kx, .int .i64 kr, .slice ka kn kc] 31)
  have n3 := heap_alloc_new ((w.alloc (.cells #[.slice sa sn sc] 27)).alloc (.cells #[.int .i64 kk, .int .i64 ki, .string kx, .int .i64 kr, .slice ka kn kc] 31)) (.cells #[.slice none 0 0] 27)
  have n4 := heap_alloc_new (((w.alloc (.cells #[.slice sa sn sc] 27)).alloc (.cells #[.int .i64 kk, .int .i64 ki, .string kx, .int .i64 kr, .slice ka kn kc] 31)).alloc (.cells #[.slice none 0 0] 27)) (.cells #[.slice none 0 0] 70)
  have n5 := heap_alloc_new W0 (.cells #[.slice sa sn sc] 27)
  have n6 := heap_alloc_new (W0.alloc (.cells #[.slice sa sn sc] 27)) (.cells #[.int .i64 m] 3)
  have hz0 : W0.heap.size = w.heap.size + 1 + 1 + 1 + 1 := by rw [hW0]; simp
  have hz1 : W1.heap.size = w.heap.size + 1 + 1 + 1 + 1 + 1 + 1 := by rw [hW1]; simp; omega
  simp only [World.size_alloc, hz0] at n2 n3 n4 n5 n6
  have q1 : W1.heap[w.heap.size]? = some (.cells #[.slice sa sn sc] 27 (0, 0)) := by rw [hW1, hW0]; exact pl' (pl' (pl' (pl' (pl' n1))))
  have q2 : W1.heap[w.heap.size + 1]? = some (.cells #[.int .i64 kk, .int .i64 ki, .string kx, .int .i64 kr, .slice ka kn kc] 31 (0, 0)) := by rw [hW1, hW0]; exact pl' (pl' (pl' (pl' n2)))
  have q3 : W1.heap[w.heap.size + 1 + 1]? = some (.cells #[.slice none 0 0] 27 (0, 0)) := by rw [hW1, hW0]; exact pl' (pl' (pl' n3))
  have q4 : W1.heap[w.heap.size + 1 + 1 + 1]? = some (.cells #[.slice none 0 0] 70 (0, 0)) := by rw [hW1, hW0]; exact pl' (pl' n4)
  have q5 : W1.heap[w.heap.size + 1 + 1 + 1 + 1]? = some (.cells #[.slice sa sn sc] 27 (0, 0)) := by rw [hW1]; exact pl' n5
  have q6 : W1.heap[w.heap.size + 1 + 1 + 1 + 1 + 1]? = some (.cells #[.int .i64 m] 3 (0, 0)) := by rw [hW1]; exact n6
  have hb1 : Below w.heap.size w W1 := by
    rw [hW1, hW0]; exact ((((((Below.refl _ w).alloc (Nat.le_refl _) _).alloc (by simp) _).alloc (by simp; omega) _).alloc (by simp; omega) _).alloc (by simp; omega) _).alloc (by simp; omega) _
  have hseq := entries_stops k w sa sn sc ms D.out m row Hrow.out 5 (by omega) (w.heap.size + 1 + 1 + 1 + 1) (w.heap.size + 1 + 1 + 1 + 1 + 1) W1 hb1 q5 q6
  have h70 : DlI k w (.slice sa sn sc) #[.int .i64 kk, .int .i64 ki, .string kx, .int .i64 kr, .slice ka kn kc] row (fun x : Fin row.length => P row[x]) [] W1 := ⟨q1, q2, q3, ⟨none, 0, 0, q4, by simpa [keptR] using ERow.nil _ _⟩, hb1, by omega, by simp⟩
  have hC : w.heap.size ≤ W1.heap.size := by omega
  clear n1 n2 n3 n4 n5 n6 pl' q1 q2 q3 q4 q5 q6 hb1
  refine (callsIn_wide (n := 6)).1 ?_
  refine callsIn_of_wp_marks Try.func15 rfl trivial ?_ hro
  simp only [Try.ntmps15, List.size_toArray, List.length_cons, List.length_nil, Nat.reduceAdd, Nat.reduceSub, Array.replicate_succ, Array.replicate_zero, List.push_toArray, List.append_toArray, List.nil_append, List.cons_append]
  gi_wp2_with (refine ⟨trivial, ?_⟩; gi_at_call 44; refine (entries_in _ _ trivial hro _ rfl _ _).mono ?_; rintro e w7 ⟨rfl, rfl⟩)
  try rw [← hW0]
  try simp only [hz0]
  try rw [← hW1]
  clear hW0 hW1
  refine wpIn_rangeFunc_ownH hro (by omega) (gf := 63) (lb := #[.pointer (some ⟨w.heap.size + 1 + 1 + 1 + 1, 0, none⟩), .pointer (some ⟨w.heap.size + 1 + 1 + 1 + 1 + 1, 0, none⟩)]) rfl trivial (enters_of Try.func63 (by kernel_rfl) rfl) hseq KB_t (KB_b (by omega) (by omega) (by omega)) (Below.refl _ _) (fun _ => rfl)
      (DlI k w (.slice sa sn sc) #[.int .i64 kk, .int .i64 ki, .string kx, .int .i64 kr, .slice ka kn kc] row (fun x : Fin row.length => P row[x])) NoX (DlI_own k w _ _ row _ hC) (fun c s A A' rw' hs hg hr => hs)
      h70
      (fun (x : Fin row.length) (a' : Act) (W : World) => ∃ X : Nat, W.heap[X]? = some (Obj.cells (enT k row[x]).cs.toArray 81 (0, 0)) ∧ a' = { tmps := #[.agg #[.slice sa sn sc], .int .i64 m, .agg #[.int .i64 kk, .int .i64 ki, .string kx, .int .i64 kr, .slice ka kn kc], .pointer (some ⟨w.heap.size, 0, none⟩), undef, .pointer (some ⟨w.heap.size + 1, 0, none⟩), .pointer (some ⟨w.heap.size + 1 + 1, 0, none⟩), .pointer (some ⟨w.heap.size + 1 + 1 + 1, 0, none⟩), undef, .pointer (some ⟨X, 0, none⟩), .agg #[.slice sa sn sc], .int .i64 m, .func (.func 63) #[] #[.pointer (some ⟨w.heap.size + 1 + 1 + 1 + 1, 0, none⟩), .pointer (some ⟨w.heap.size + 1 + 1 + 1 + 1 + 1, 0, none⟩)], .int .i64 (x.val : Int), (enT k row[x]).v, undef, undef, undef, undef, undef, undef, undef, undef, undef, undef, undef, undef, undef], defers := [] })
      (fun x a' u A B rw' hs hg hr => by
        obtain ⟨X, h2, h4⟩ := hs
        exact ⟨X, keep_cells h2 hg hr, h4⟩)
      ?assign ?body ?done ?stop
  case assign =>
    rintro ll pre x W K hi hK
    simp only [encE, enT, En.v, En.cs] at hK ⊢
    generalize hdT k row[x].1 = hd1 at *
    generalize hdT k row[x].2 = hd2 at *
    have hsz := hi.sz
    gi_wp2
    exact hK _ _ ((KeepsOthers.alloc _ _).from _) (KB_of ((Below.refl _ W).alloc (Nat.le_refl _) _) (by omega) (by omega) (by omega)) ((DlI_own k w _ _ row _ hC).alloc _ hi) ⟨W.heap.size, heap_alloc_new W _, rfl⟩
  case body =>
    rintro ll pre x a' W hll ⟨rr, hrr⟩ hi ⟨X, hx, rfl⟩ hlt
    have HI := hid hi
    have d0 := cellOf hx 0
    have d1 := cellOf hx 1
    have d2 := cellOf hx 2
    have d3 := cellOf hx 3
    have d4 := cellOf hx 4
    have d5 := cellOf hx 5
    have d6 := cellOf hx 6
    have d7 := cellOf hx 7
    have d8 := cellOf hx 8
    have d9 := cellOf hx 9
    simp only [En.cs, enT, List.getElem?_toArray, List.getElem?_cons_zero, List.getElem?_cons_succ] at d0 d1 d2 d3 d4 d5 d6 d7 d8 d9
    have e0 := cellOf hi.b1 0
    have e1 := cellOf hi.b1 1
    have e2 := cellOf hi.b1 2
    have e3 := cellOf hi.b1 3
    have e4 := cellOf hi.b1 4
    simp only [List.getElem?_toArray, List.getElem?_cons_zero, List.getElem?_cons_succ] at e0 e1 e2 e3 e4
    have K1 := hid (KC.out x W hi.bel)
    have hPx : P row[x] = (cmpT k row[x].1 kt == 0) := by rw [HP.out]
    have hsz := hi.sz
    obtain ⟨fa, fn, fc, h3, h4⟩ := hi.b3
    have FX : Hid (∀ w8 : World, Below W.heap.size W w8 → (∀ i, w8.cell? ⟨X, i, none⟩ = W.cell? ⟨X, i, none⟩) ∧ w8.cell? ⟨w.heap.size + 1 + 1 + 1, 0, none⟩ = some (.slice fa fn fc) ∧ w8.heap[w.heap.size + 1 + 1 + 1]? = some (.cells #[.slice fa fn fc] 70 (0, 0)) ∧ ERow w8 (w.heap.size + 1 + 1 + 1 + 1 + 1 + 1) (.slice fa fn fc) ((keptR row (fun x : Fin row.length => P row[x]) pre).map (enT k))) := hid (fun w8 hb => by
      have hh := (hb.block _ (Array.getElem?_eq_some_iff.1 h3).1).trans h3
      exact ⟨fun i => hb.cell (p := ⟨X, i, none⟩) (Array.getElem?_eq_some_iff.1 hx).1, cellOf hh 0, hh, h4.below (Nat.le_refl _) hb⟩)
    have hlv : ((keptR row (fun x : Fin row.length => P row[x]) pre).map (enT k)).length ≤ 1000000 := by
      rw [List.length_map]
      unfold keptR
      rw [List.length_map]
      exact Nat.le_trans (List.length_filter_le _ pre) (by omega)
    have Hlv := hid hlv
    obtain ⟨en, hen⟩ : ∃ en, en = enT k row[x] := ⟨_, rfl⟩
    have Hen := hid hen
    simp only [En.v, En.cs, enT] at d0 d1 d2 d3 d4 d5 d6 d7 d8 d9 ⊢
    obtain ⟨h1, eh1⟩ : ∃ h1, h1 = hdT k row[x].1 := ⟨_, rfl⟩
    obtain ⟨h2, eh2⟩ : ∃ h2, h2 = hdT k row[x].2 := ⟨_, rfl⟩
    have hen2 : en = ⟨h1, h2⟩ := by rw [hen, eh1, eh2]; rfl
    rw [← eh1] at d0 d1 d2 d3 d4
    rw [← eh2] at d5 d6 d7 d8 d9
    simp only [← eh1, ← eh2] at K1 ⊢
    obtain ⟨cv, hcv⟩ : ∃ cv, cv = (cmpT k row[x].1 kt == 0) := ⟨_, rfl⟩
    rw [← hcv] at hPx K1
    obtain ⟨yk, yi, yt, yr, ya, yn, yc⟩ := h1
    obtain ⟨zk, zi, zt, zr, za, zn, zc⟩ := h2
    simp only at K1 d0 d1 d2 d3 d4 d5 d6 d7 d8 d9 ⊢
    have Hen2 := hid hen2
    clear hx hrr hseq hi h70 eh1 eh2 hcv D DK hen hen2 hlv h3 h4
    cases hq : cv with
    | true =>
      rw [hq] at K1
      gi_wp2_with (refine ⟨trivial, ?_⟩; gi_at_call 45; refine (CallsIn.inRound ll (callsIn_wide.2 (Hid.out K1))).mono ?_; rintro e w8 ⟨rfl, hb8⟩)
      exact ⟨keepsFrom_below hb8, KB_of hb8 (by omega) (by omega) (by omega), (HI.out.below hb8).skip (hPx.trans hq) hlt⟩
    | false =>
      rw [hq] at K1
      gi_wp2_with (first
        | (refine ⟨trivial, ?_⟩; gi_at_call 45; refine (CallsIn.inRound ll (callsIn_wide.2 (Hid.out K1))).mono ?_; rintro e w8 ⟨rfl, hb8⟩; obtain ⟨FX8, c3, b3, r3⟩ := FX.out w8 hb8; rw [← FX8] at d0 d1 d2 d3 d4 d5 d6 d7 d8 d9; have HB8 := hid hb8; have R3 := hid r3; have B3 := hid b3; have hs8 := hb8.size; clear FX8 hb8 r3 b3)
        | (gi_at_builtin; refine wpListIn_appE w8 rfl _ _ rfl (.slice fa fn fc) ⟨⟨yk, yi, yt, yr, ya, yn, yc⟩, ⟨zk, zi, zt, zr, za, zn, zc⟩⟩ (by rfl) (by rfl) (w.heap.size + 1 + 1 + 1 + 1 + 1 + 1) ((keptR row (fun x : Fin row.length => P row[x]) pre).map (enT k)) R3.out (by omega) Hlv.out ?_; intro v4 w4 hr4 hg4; rw [← Hen2.out, Hen.out] at hr4; obtain ⟨f2, n2, e4', hc4⟩ := hr4.form; obtain ⟨nn, hnn⟩ : ∃ nn, nn = ((keptR row (fun x : Fin row.length => P row[x]) pre).map (enT k) ++ [enT k row[x]]).length := ⟨_, rfl⟩; rw [← hnn] at e4'; subst e4'; obtain ⟨z1, z2, z3, z4⟩ := (HI.out.below HB8.out).more (hPx.trans hq) hlt R3.out B3.out hr4 hg4; have y3 := cellOf z3 0; have y4 := freeOf z3 0; simp only [List.getElem?_toArray, List.getElem?_cons_zero] at y3; have Z1 := hid z1; have Z2 := hid z2; have Z4 := hid z4; clear z1 z2 z3 z4 hr4 hg4 hc4 hnn))
      exact ⟨(((keepsFrom_below HB8.out).trans ((KeepsOthers.alloc _ _).from _)).trans (Z1.out.from _)).trans ((KeepsOthers.setCell _ _ _).from _), KB.set3 (KB_t (KB_of HB8.out (by omega) (by omega) (by omega)) Z2.out) _, Z4.out⟩
  case done =>
    rintro D' ys W hD rfl hI hK
    obtain ⟨fa, fn, fc, h3, h4⟩ := hI.b3
    rw [keptR_all row P] at h4
    have HK := hid hK
    have HI := hid hI
    have c0 := cellOf hI.b0 0
    have c3 := cellOf h3 0
    simp only [List.getElem?_toArray, List.getElem?_cons_zero] at c0 c3
    rw [← Hkp.out] at h4
    have hfn : fn = kp.length := by
      obtain ⟨a9, c9, e9, _⟩ := h4.form
      cases e9; simp
    have hkl : kp.length ≤ 1000 := by rw [Hkp.out]; exact Nat.le_trans (List.length_filter_le _ _) hlen
    have hrw : RwR k W fa fn kp := ⟨hfn, by omega, h4.rd, fun q hq => Hmem.out q (by rw [Hkp.out] at hq; exact (List.mem_filter.1 hq).1) W hI.bel⟩
    have K41 := hid (with_any k W sa sn sc ms (D.out.below (Nat.le_refl _) hI.bel) m fa fn fc kp hrw)
    have FX : Hid (∀ w9 : World, Below W.heap.size W w9 → w9.heap[w.heap.size + 1 + 1]? = some (.cells #[.slice none 0 0] 27 (0, 0)) ∧ w9.heap[D']? = some (.deferred (some [])) ∧ Below w.heap.size w w9) := hid (fun w9 hb => ⟨(hb.block _ (Array.getElem?_eq_some_iff.1 hI.b2).1).trans hI.b2, (hb.block _ (Array.getElem?_eq_some_iff.1 hK).1).trans hK, hI.bel.trans (hb.mono hI.bel.size)⟩)
    have hDl : D' < W.heap.size := (Array.getElem?_eq_some_iff.1 hK).1
    have hsz := hI.sz
    clear hseq hI hK h70 D DK KC h3 h4 hrw hfn hkl
    gi_wp2_with (refine ⟨trivial, ?_⟩; gi_at_call 41; refine (callsIn_wide.2 (Hid.out K41)).mono ?_; rintro e w9 ⟨ga, gn, gc, ns, rfl, hb9, hgc, hst, hns⟩; obtain ⟨g2, gD, gB⟩ := FX.out w9 hb9; have u2 := cellOf g2 0; have v2 := freeOf g2 0; simp only [List.getElem?_toArray, List.getElem?_cons_zero] at u2; have G2 := hid g2; have GD := hid gD; have GB := hid gB; have HST := hid hst; have HNS := hid hns; have hs9 := hb9.size; clear g2 gD gB hst hns hb9)
    obtain ⟨Wf, hWf⟩ : ∃ Wf, Wf = w9.setCell ⟨w.heap.size + 1 + 1, 0, none⟩ (.slice ga gn gc) := ⟨_, rfl⟩
    have k2 : Wf.heap[w.heap.size + 1 + 1]? = some (.cells #[.slice ga gn gc] 27 (0, 0)) := by rw [hWf]; exact set_cells G2.out _
    have kD : Wf.heap[D']? = some (.deferred (some [])) := by
      rw [hWf]; exact (Below.heap_setCell _ _ _ _ (by show D' ≠ w.heap.size + 1 + 1; omega)).trans GD.out
    have kB : Below w.heap.size w Wf := by
      rw [hWf]; exact (GB.out).setCell (p := ⟨w.heap.size + 1 + 1, 0, none⟩) (by show w.heap.size ≤ w.heap.size + 1 + 1; omega) _
    have kS : Wf.heap.size = w9.heap.size := by rw [hWf]; simp [World.setCell]
    have kst : ∀ b, W.heap.size ≤ b → (Wf.putObj D' (.deferred none)).heap[b]? = w9.heap[b]? := fun b hb => by
      rcases Nat.lt_or_ge b Wf.heap.size with hlb | hlb
      · rw [(grownBy_putObj' Wf D' (.deferred none)).block b hlb (fun e => by cases e; omega), hWf]
        exact Below.heap_setCell _ _ _ _ (by show b ≠ w.heap.size + 1 + 1; omega)
      · rw [Array.getElem?_eq_none (by simp [World.putObj]; omega), Array.getElem?_eq_none (by omega)]
    rw [← hWf]
    have h9 := keep_cells (B := 0) k2 (grownBy_putObj' _ D' (.deferred none)) (fun r e => by cases e; exact ⟨Nat.zero_le _, _, kD, rfl⟩)
    have h10 : Below w.heap.size w (Wf.putObj D' (.deferred none)) := ownFrom_below (β := Unit) (Nat.le_refl _) (Nat.le_refl _) () _ _ _ kB (grownBy_putObj' _ D' (.deferred none)) (fun r e => by cases e; exact ⟨by omega, _, kD, rfl⟩)
    have h11 := (grownBy_putObj' Wf D' (.deferred none)).size
    have r0 := cellOf h9 0
    simp only [List.getElem?_toArray, List.getElem?_cons_zero, List.getElem?_cons_succ] at r0
    refine ⟨by simp, .inl ⟨_, _, rfl, run_takeDeferred kD, ?_⟩⟩
    refine ⟨.agg #[.slice ga gn gc], by simp [results, Try.results15, go_sem, r0], ?_⟩
    exact ⟨ga, gn, gc, ns, rfl, h10, hgc, (HST.out.keep (fun b hb => kst b hb.1)).imp (fun b hb => ⟨by omega, by omega⟩), HNS.out⟩
  case stop =>
    rintro D' c' pre W hD _ hX hK
    exact hX.elim
end Go.Proofs.Ytenfgahedbeekaa

