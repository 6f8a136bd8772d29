/- heap.Next, heap.Get. -/
import Derived.Test.YtenfgahedbeekaaJAI
namespace Go.Proofs.Ytenfgahedbeekaa
open Go.RowKit Go.Deep Go.Shelf
set_option linter.unusedVariables false
set_option linter.unusedSimpArgs false
attribute [local go_sem] Oper.semAt_some

theorem cell_cells {W : World} {a : Addr} {v : Value} (h : W.cell? a = some v) : ∃ c t f, W.heap[a.block]? = some (.cells c t f) := by
  unfold World.cell? at h
  split at h
  · rename_i c t f hc
    exact ⟨_, _, _, hc⟩
  · cases h
theorem VRd.cells {W W' : World} {a : Option Addr} {hs : List Hd} (h : VRd W a hs) (e : ∀ (b : Nat) (c : Array Value) (t : TypeId) (f : Nat × Nat), W.heap[b]? = some (Obj.cells c t f) → W'.heap[b]? = W.heap[b]?) : VRd W' a hs := by
  intro j x hx
  obtain ⟨b, off, rfl, hc⟩ := h j x hx
  refine ⟨b, off, rfl, fun i hi => ?_⟩
  obtain ⟨c, t, f, hb⟩ := cell_cells ((hc 0 (by omega)).trans (show x.cs[0]? = some (.int .i64 x.kind) from rfl))
  rw [← hc i hi]
  exact World.cell?_of_block (a := ⟨b, off + j * 5 + i, none⟩) (show W'.heap[b]? = W.heap[b]? from e b c t f hb)
theorem RdP.cells : ∀ (k : Nat) {W W' : World} {A : Nat → Prop} {t : VT k}, RdP k W A t → (∀ (b : Nat) (c : Array Value) (t : TypeId) (f : Nat × Nat), W.heap[b]? = some (Obj.cells c t f) → W'.heap[b]? = W.heap[b]?) → RdP k W' A t
  | 0, _, _, _, _, h, _ => h.elim
  | k + 1, W, W', A, t, h, e => ⟨h.1, h.2.1, h.2.2.1, h.2.2.2.1.cells e, h.2.2.2.2.1, fun u hu => RdP.cells k (h.2.2.2.2.2 u hu) e⟩
theorem grown_cells {W W' : World} {row : Option Nat} {B : Nat} (hg : W.grownBy W' row) (hr : ∀ r, row = some r → B ≤ r ∧ ∃ o : Obj, W.heap[r]? = some o ∧ o.isCells = false) : ∀ (b : Nat) (c : Array Value) (t : TypeId) (f : Nat × Nat), W.heap[b]? = some (Obj.cells c t f) → W'.heap[b]? = W.heap[b]? := fun b c t f h =>
  hg.block b (Array.getElem?_eq_some_iff.1 h).1 (fun e => by
    obtain ⟨_, o, ho, hc⟩ := hr b e.symm
    rw [h] at ho; cases ho; cases hc)
/- Between two rounds: boxes of the key, of the results; none so far. -/
def NI (w : World) (kc : Array Value) {m : Nat} (P : Fin m → Bool) (pre : List (Fin m)) (W : World) : Prop :=
  (W.heap[w.heap.size + 1]? = some (.cells kc 31 (0, 0)) ∧ W.heap[w.heap.size + 1 + 1]? = some (.cells #[.int .i64 0, .int .i64 0, .string ⟨#[]⟩, .int .i64 0, .slice none 0 0] 31 (0, 0)) ∧ W.heap[w.heap.size + 1 + 1 + 1]? = some (.cells #[.bool false] 4 (0, 0))) ∧ (∀ x ∈ pre, P x = false) ∧ Below w.heap.size w W ∧ w.heap.size + 6 ≤ W.heap.size
theorem NI_own (w : World) (kc : Array Value) {m : Nat} (P : Fin m → Bool) {B : Nat} (hB : w.heap.size ≤ B) : OwnFrom B (NI w kc P) := fun s A A' row hs hg hr =>
  ⟨⟨keep_cells hs.1.1 hg hr, keep_cells hs.1.2.1 hg hr, keep_cells hs.1.2.2 hg hr⟩, hs.2.1, ownFrom_below (β := Unit) (Nat.le_refl _) hB () A A' row hs.2.2.1 hg hr, Nat.le_trans hs.2.2.2 hg.size⟩
theorem NI.below {w W W' : World} {kc : Array Value} {m : Nat} {P : Fin m → Bool} {pre : List (Fin m)} (h : NI w kc P pre W) (k : Below W.heap.size W W') : NI w kc P pre W' := by
  have hl : ∀ {b : Nat} {o : Obj}, W.heap[b]? = some o → W'.heap[b]? = some o := fun e => (k.block _ (Array.getElem?_eq_some_iff.1 e).1).trans e
  exact ⟨⟨hl h.1.1, hl h.1.2.1, hl h.1.2.2⟩, h.2.1, h.2.2.1.trans (k.mono h.2.2.1.size), Nat.le_trans h.2.2.2 k.size⟩
theorem NI.snoc {w W : World} {kc : Array Value} {m : Nat} {P : Fin m → Bool} {pre : List (Fin m)} {x : Fin m} (h : NI w kc P pre W) (hx : P x = false) : NI w kc P (pre ++ [x]) W := ⟨h.1, fun y hy => by
  rcases List.mem_append.1 hy with hy | hy
  · exact h.2.1 y hy
  · simp at hy; subst hy; exact hx, h.2.2⟩
/- Found. -/
def NX (k : Nat) (w : World) {m : Nat} (P : Fin m → Bool) (g : Fin m → CT k) (c : Code) (pre : List (Fin m)) (W : World) : Prop :=
  c = .ret ∧ (∃ pre' x, pre = pre' ++ [x] ∧ (∀ y ∈ pre', P y = false) ∧ P x = true ∧ ∃ t : VT k, RdP k W (fun b => w.heap.size ≤ b ∧ b < W.heap.size) t ∧ ofT k t = g x ∧ W.heap[w.heap.size + 1 + 1]? = some (.cells #[.int .i64 (hdT k t).kind, .int .i64 (hdT k t).int, .string (hdT k t).text, .int .i64 (hdT k t).rc, .slice (hdT k t).a (hdT k t).n (hdT k t).cap] 31 (0, 0))) ∧ W.heap[w.heap.size + 1 + 1 + 1]? = some (.cells #[.bool true] 4 (0, 0)) ∧ Below w.heap.size w W
theorem NX_own (k : Nat) (w : World) {m : Nat} (P : Fin m → Bool) (g : Fin m → CT k) (c : Code) {B : Nat} (hB : w.heap.size ≤ B) : OwnFrom B (NX k w P g c) := fun s A A' row hs hg hr => by
  obtain ⟨h1, ⟨pre', x, e, hp, hx, t, ht, he, hb⟩, h3, h4⟩ := hs
  exact ⟨h1, ⟨pre', x, e, hp, hx, t, (ht.cells k (grown_cells hg hr)).imp k (fun b hb => ⟨hb.1, Nat.lt_of_lt_of_le hb.2 hg.size⟩), he, keep_cells hb hg hr⟩, keep_cells h3 hg hr, ownFrom_below (β := Unit) (Nat.le_refl _) hB () A A' row h4 hg hr⟩
/- The first one of a row. -/
theorem find_none {α : Type} (l : List α) (P : α → Bool) (h : ∀ x ∈ List.finRange l.length, P l[x] = false) : l.find? P = none := by
  rw [List.find?_eq_none]
  intro a ha
  obtain ⟨i, hi, e⟩ := List.getElem_of_mem ha
  have := h ⟨i, hi⟩ (List.mem_finRange _)
  have e2 : l[(⟨i, hi⟩ : Fin l.length)] = a := e
  rw [e2] at this
  simp [this]
theorem find_some {α : Type} (l : List α) (P : α → Bool) (i : Nat) (hi : i ≤ l.length) (pre' : List (Fin l.length)) (x : Fin l.length) (e : (List.finRange l.length).take i = pre' ++ [x]) (h : ∀ y ∈ pre', P l[y] = false) (hx : P l[x] = true) : l.find? P = some l[x] := by
  have hlen : pre'.length + 1 = i := by
    have := congrArg List.length e
    rw [List.length_take, List.length_finRange, List.length_append] at this
    simp at this; omega
  have hpx : (List.finRange l.length)[pre'.length]? = some x := by
    have : ((List.finRange l.length).take i)[pre'.length]? = some x := by rw [e]; simp
    rw [List.getElem?_take, if_pos (by omega)] at this
    exact this
  have hxv := finr _ _ x hpx
  rw [List.find?_eq_some_iff_getElem]
  refine ⟨hx, x.val, x.isLt, rfl, fun j hj => ?_⟩
  have hjp : (⟨j, by omega⟩ : Fin l.length) ∈ pre' := by
    have h1 : ((List.finRange l.length).take i)[j]? = some (⟨j, by omega⟩ : Fin l.length) := by
      rw [List.getElem?_take, if_pos (by omega), List.getElem?_eq_getElem (by rw [List.length_finRange]; omega)]
      simp
    rw [e, List.getElem?_append_left (by omega)] at h1
    exact List.mem_of_getElem? h1
  have := h _ hjp
  have e2 : l[(⟨j, by omega⟩ : Fin l.length)] = l[j] := rfl
  rw [e2] at this
  simp [this]

set_option maxRecDepth 100000 in
set_option maxHeartbeats 2000000 in
theorem next_any (k : Nat) (w : World) (sa : Option Addr) (sn sc : Nat) (ms : List (Sl × Rw k)) (hd : StR k w sa sn ms) (m : Int) (kt : VT k) (hk : Rds k w kt) :
    Calls Try.prog 19 #[.agg #[.slice sa sn sc], .int .i64 m, (hdT k kt).v] w (MbP k w (((rowAt ms m).find? (fun p => decide (0 < cmpT k p.1 kt))).map fun p => ofT k p.1)) := by
  have D := hid hd
  have DK := hid hk
  obtain ⟨row, hrow⟩ : ∃ row, row = rowAt ms m := ⟨_, rfl⟩
  have Hrow := hid hrow
  rw [← hrow]
  obtain ⟨P, hP⟩ : ∃ P : VT k × VT k → Bool, P = fun p => decide (0 < cmpT k p.1 kt) := ⟨_, rfl⟩
  have HP := hid hP
  rw [← hP]
  obtain ⟨res, hres⟩ : ∃ res, res = (row.find? P).map fun p => ofT k p.1 := ⟨_, rfl⟩
  rw [← hres]
  have Hres := hid hres
  have KQ : Hid (∀ (x : Fin row.length) (w1 : World), Below w.heap.size w w1 → Rds k w1 row[x].1 ∧ Rds k w1 row[x].2) := hid (fun x w1 hb => by
    have hmem : row[x] ∈ row := List.getElem_mem _
    have : ∀ q ∈ rowAt ms m, Rds k w1 q.1 ∧ Rds k w1 q.2 := by
      intro q hq
      unfold rowAt at hq
      split at hq
      · cases e : ms[m.toNat]? with
        | none => rw [e] at hq; simp at hq
        | some p => rw [e] at hq; exact ((hd.el p (List.mem_of_getElem? e)).1.below (Nat.le_refl _) hb).el q hq
      · simp at hq
    rw [← hrow] at this
    exact this _ hmem)
  have KK : Hid (∀ w1 : World, Below w.heap.size w w1 → Rds k w1 kt) := hid (fun w1 hb => Rds.below k hk (Nat.le_refl _) hb)
  have hro : Fence.wide.round = none := rfl
  have KC : Hid (∀ (x : Fin row.length) (w1 : World), Below w.heap.size w w1 → Calls Try.prog 47 #[(hdT k row[x].1).v, (hdT k kt).v] w1 fun e w' => e = .returned (.int .i64 (cmpT k row[x].1 kt)) ∧ Below w1.heap.size w1 w') := hid (fun x w1 hb => compare_any k w1 row[x].1 kt (KQ.out x w1 hb).1 (KK.out w1 hb))
  have KD : Hid (∀ (x : Fin row.length) (w1 : World), Below w.heap.size w w1 → Calls Try.prog 46 #[(hdT k row[x].1).v] w1 (CpP k w1 row[x].1)) := hid (fun x w1 hb => copy_any k w1 row[x].1 (KQ.out x w1 hb).1)
  clear hd hk hrow hP hres
  generalize hdT k kt = hkt at *
  obtain ⟨kk, ki, kx, kr, ka, kn, kc⟩ := hkt
  simp only [Hd.v] at KC ⊢
  obtain ⟨W0, hW0⟩ : ∃ W0, W0 = (((w.alloc (.cells #[.slice sa sn sc] 27)).alloc (.cells #[.int .i64 kk, .int .i64 ki, .string kx, .int .i64 kr, .slice ka kn kc] 31)).alloc (.cells #[.int .i64 0, .int .i64 0, .string ⟨#[]⟩, .int .i64 0, .slice none 0 0] 31)).alloc (.cells #[.bool false] 4) := ⟨_, rfl⟩
  obtain ⟨W1, hW1⟩ : ∃ W1, W1 = (W0.alloc (.cells #[.slice sa sn sc] 27)).alloc (.cells #[.int .i64 m] 3) := ⟨_, rfl⟩
  have pl' : ∀ {w : World} {o x : Obj} {k : Nat}, w.heap[k]? = some x → (w.alloc o).heap[k]? = some x := fun h => (Below.heap_alloc _ _ _ (Array.getElem?_eq_some_iff.1 h).1).trans h
  have n2 := heap_alloc_new (w.alloc (.cells #[.slice sa sn sc] 27)) (.cells #[.int .i64 kk, .int .i64 ki, .string kx, .int .i64 kr, .slice ka kn kc] 31)
  have n3 := heap_alloc_new ((w.alloc (.cells #[.slice sa sn sc] 27)).alloc (.cells #[.int .i64 kk, .int .i64 ki, .string kx, .int .i64 kr, .slice ka kn kc] 31)) (.cells #[.int .i64 0, .int .i64 0, .string ⟨#[]⟩, .int .i64 0, .slice none 0 0] 31)
  have n4 := heap_alloc_new (((w.alloc (.cells #[.slice sa sn sc] 27)).alloc (.cells #[.int .i64 kk, .int .i64 ki, .string kx, .int .i64 kr, .slice ka kn kc] 31)).alloc (.cells #[.int .i64 0, .int .i64 0, .string ⟨#[]⟩, .int .i64 0, .slice none 0 0] 31)) (.cells #[.bool false] 4)
  have n5 := heap_alloc_new W0 (.cells #[.slice sa sn sc] 27)
  have n6 := heap_alloc_new (W0.alloc (.cells #[.slice sa sn sc] 27)) (.cells #[.int .i64 m] 3)
  have hz0 : W0.heap.size = w.heap.size + 1 + 1 + 1 + 1 := by rw [hW0]; simp
  have hz1 : W1.heap.size = w.heap.size + 1 + 1 + 1 + 1 + 1 + 1 := by rw [hW1]; simp; omega
  simp only [World.size_alloc, hz0] at n2 n3 n4 n5 n6
  have q2 : W1.heap[w.heap.size + 1]? = some (.cells #[.int .i64 kk, .int .i64 ki, .string kx, .int .i64 kr, .slice ka kn kc] 31 (0, 0)) := by rw [hW1, hW0]; exact pl' (pl' (pl' (pl' n2)))
  have q3 : W1.heap[w.heap.size + 1 + 1]? = some (.cells #[.int .i64 0, .int .i64 0, .string ⟨#[]⟩, .int .i64 0, .slice none 0 0] 31 (0, 0)) := by rw [hW1, hW0]; exact pl' (pl' (pl' n3))
  have q4 : W1.heap[w.heap.size + 1 + 1 + 1]? = some (.cells #[.bool false] 4 (0, 0)) := by rw [hW1, hW0]; exact pl' (pl' n4)
  have q5 : W1.heap[w.heap.size + 1 + 1 + 1 + 1]? = some (.cells #[.slice sa sn sc] 27 (0, 0)) := by rw [hW1]; exact pl' n5
  have q6 : W1.heap[w.heap.size + 1 + 1 + 1 + 1 + 1]? = some (.cells #[.int .i64 m] 3 (0, 0)) := by rw [hW1]; exact n6
  have hb1 : Below w.heap.size w W1 := by
    rw [hW1, hW0]; exact ((((((Below.refl _ w).alloc (Nat.le_refl _) _).alloc (by simp) _).alloc (by simp; omega) _).alloc (by simp; omega) _).alloc (by simp; omega) _).alloc (by simp; omega) _
  have hseq := entries_stops k w sa sn sc ms D.out m row Hrow.out 5 (by omega) (w.heap.size + 1 + 1 + 1 + 1) (w.heap.size + 1 + 1 + 1 + 1 + 1) W1 hb1 q5 q6
  have h70 : NI w #[.int .i64 kk, .int .i64 ki, .string kx, .int .i64 kr, .slice ka kn kc] (fun x : Fin row.length => P row[x]) [] W1 := ⟨⟨q2, q3, q4⟩, by simp, hb1, by omega⟩
  have hC : w.heap.size ≤ W1.heap.size := by omega
  clear n2 n3 n4 n5 n6 pl' q2 q3 q4 q5 q6 hb1
  refine (callsIn_wide (n := 6)).1 ?_
  refine callsIn_of_wp_marks Try.func19 rfl trivial ?_ hro
  simp only [Try.ntmps19, List.size_toArray, List.length_cons, List.length_nil, Nat.reduceAdd, Nat.reduceSub, Array.replicate_succ, Array.replicate_zero, List.push_toArray, List.append_toArray, List.nil_append, List.cons_append]
  gi_wp2_with (refine ⟨trivial, ?_⟩; gi_at_call 44; refine (entries_in _ _ trivial hro _ rfl _ _).mono ?_; rintro e w7 ⟨rfl, rfl⟩)
  rw [← hW0]
  try simp only [hz0]
  rw [← hW1]
  clear hW0 hW1
  refine wpIn_rangeFunc_ownH hro (by omega) (gf := 63) (lb := #[.pointer (some ⟨w.heap.size + 1 + 1 + 1 + 1, 0, none⟩), .pointer (some ⟨w.heap.size + 1 + 1 + 1 + 1 + 1, 0, none⟩)]) rfl trivial (enters_of Try.func63 (by kernel_rfl) rfl) hseq KB_t (KB_b (by omega) (by omega) (by omega)) (Below.refl _ _) (fun _ => rfl)
      (NI w #[.int .i64 kk, .int .i64 ki, .string kx, .int .i64 kr, .slice ka kn kc] (fun x : Fin row.length => P row[x])) (NX k w (fun x : Fin row.length => P row[x]) (fun x => ofT k row[x].1)) (NI_own w _ _ hC) (fun c => NX_own k w _ _ c hC)
      h70
      (fun (x : Fin row.length) (a' : Act) (W : World) => ∃ X : Nat, W.heap[X]? = some (Obj.cells (enT k row[x]).cs.toArray 81 (0, 0)) ∧ a' = { tmps := #[.agg #[.slice sa sn sc], .int .i64 m, .agg #[.int .i64 kk, .int .i64 ki, .string kx, .int .i64 kr, .slice ka kn kc], .pointer (some ⟨w.heap.size, 0, none⟩), undef, .pointer (some ⟨w.heap.size + 1, 0, none⟩), .pointer (some ⟨w.heap.size + 1 + 1, 0, none⟩), .pointer (some ⟨w.heap.size + 1 + 1 + 1, 0, none⟩), undef, .pointer (some ⟨X, 0, none⟩), .agg #[.slice sa sn sc], .int .i64 m, .func (.func 63) #[] #[.pointer (some ⟨w.heap.size + 1 + 1 + 1 + 1, 0, none⟩), .pointer (some ⟨w.heap.size + 1 + 1 + 1 + 1 + 1, 0, none⟩)], .int .i64 (x.val : Int), (enT k row[x]).v, undef, undef, undef, undef, undef, undef, undef, undef, undef], defers := [] })
      (fun x a' u A B rw' hs hg hr => by
        obtain ⟨X, h2, h4⟩ := hs
        exact ⟨X, keep_cells h2 hg hr, h4⟩)
      ?assign ?body ?done ?stop
  case assign =>
    rintro ll pre x W K hi hK
    simp only [encE, enT, En.v, En.cs] at hK ⊢
    generalize hdT k row[x].1 = hd1 at *
    generalize hdT k row[x].2 = hd2 at *
    gi_wp2
    exact hK _ _ ((KeepsOthers.alloc _ _).from _) (KB_of ((Below.refl _ W).alloc (Nat.le_refl _) _) (by have := hi.2.2.2; omega) (by have := hi.2.2.2; omega) (by have := hi.2.2.2; omega)) ((NI_own w _ _ hC).alloc _ hi) ⟨W.heap.size, heap_alloc_new W _, rfl⟩
  case body =>
    rintro ll pre x a' W hll ⟨rr, hrr⟩ hi ⟨X, hx, rfl⟩ hlt
    have HI := hid hi
    have HX := hid hx
    have d0 := cellOf hx 0
    have d1 := cellOf hx 1
    have d2 := cellOf hx 2
    have d3 := cellOf hx 3
    have d4 := cellOf hx 4
    have d5 := cellOf hx 5
    have d6 := cellOf hx 6
    have d7 := cellOf hx 7
    have d8 := cellOf hx 8
    have d9 := cellOf hx 9
    simp only [En.cs, enT, List.getElem?_toArray, List.getElem?_cons_zero, List.getElem?_cons_succ] at d0 d1 d2 d3 d4 d5 d6 d7 d8 d9
    have e0 := cellOf hi.1.1 0
    have e1 := cellOf hi.1.1 1
    have e2 := cellOf hi.1.1 2
    have e3 := cellOf hi.1.1 3
    have e4 := cellOf hi.1.1 4
    simp only [List.getElem?_toArray, List.getElem?_cons_zero, List.getElem?_cons_succ] at e0 e1 e2 e3 e4
    have K1 := hid (KC.out x W hi.2.2.1)
    have K2 := hid (fun (w1 : World) (hb : Below W.heap.size W w1) => KD.out x w1 (hi.2.2.1.trans (hb.mono hi.2.2.1.size)))
    have hPx : P row[x] = decide (0 < cmpT k row[x].1 kt) := by rw [HP.out]
    have FX : Hid (∀ w8 : World, Below W.heap.size W w8 → ∀ i, w8.cell? ⟨X, i, none⟩ = W.cell? ⟨X, i, none⟩) := hid (fun w8 hb i => hb.cell (p := ⟨X, i, none⟩) (Array.getElem?_eq_some_iff.1 hx).1)
    simp only [En.v, En.cs, enT] at *
    obtain ⟨h1, eh1⟩ : ∃ h1, h1 = hdT k row[x].1 := ⟨_, rfl⟩
    obtain ⟨h2, eh2⟩ : ∃ h2, h2 = hdT k row[x].2 := ⟨_, rfl⟩
    rw [← eh1] at d0 d1 d2 d3 d4
    rw [← eh2] at d5 d6 d7 d8 d9
    simp only [← eh1, ← eh2] at K1 K2 ⊢
    obtain ⟨cv, hcv⟩ : ∃ cv, cv = cmpT k row[x].1 kt := ⟨_, rfl⟩
    rw [← hcv] at hPx K1
    obtain ⟨yk, yi, yt, yr, ya, yn, yc⟩ := h1
    obtain ⟨zk, zi, zt, zr, za, zn, zc⟩ := h2
    simp only at K1 K2 d0 d1 d2 d3 d4 d5 d6 d7 d8 d9 ⊢
    clear hx hrr hseq hi h70 eh1 eh2 hcv D DK HX
    cases hq : decide (0 < cv) with
    | false =>
      have hq1 : ¬ 0 < cv := of_decide_eq_false hq
      gi_wp2_with (refine ⟨trivial, ?_⟩; gi_at_call 47; refine (CallsIn.inRound ll (callsIn_wide.2 (Hid.out K1))).mono ?_; rintro e w8 ⟨rfl, hb8⟩)
      exact ⟨keepsFrom_below hb8, KB_of hb8 (by have := HI.out.2.2.2; omega) (by have := HI.out.2.2.2; omega) (by have := HI.out.2.2.2; omega), (HI.out.below hb8).snoc (hPx.trans hq)⟩
    | true =>
      have hq1 : 0 < cv := of_decide_eq_true hq
      gi_wp2_with (first
        | (refine ⟨trivial, ?_⟩; gi_at_call 47; refine (CallsIn.inRound ll (callsIn_wide.2 (Hid.out K1))).mono ?_; rintro e w8 ⟨rfl, hb8⟩; have FX8 := FX.out w8 hb8; rw [← FX8] at d0 d1 d2 d3 d4 d5 d6 d7 d8 d9; have HB8 := hid hb8; clear FX8 hb8)
        | (refine ⟨trivial, ?_⟩; gi_at_call 46; refine (CallsIn.inRound ll (callsIn_wide.2 (Hid.out K2 w8 HB8.out))).mono ?_; rintro e w9 ⟨t, rfl, hb9, hrt, het⟩; simp only [Hd.v]; have HB9 := hid (HB8.out.trans (hb9.mono HB8.out.size)); have HI9 := hid (HI.out.below HB9.out); have Hrt := hid hrt; have Het := hid het; have HB9' := hid hb9; have g2 := HI9.out.1.2.1; have g3 := HI9.out.1.2.2; have u0 := cellOf g2 0; have u1 := cellOf g2 1; have u2 := cellOf g2 2; have u3 := cellOf g2 3; have u4 := cellOf g2 4; have v0 := freeOf g2 0; have v1 := freeOf g2 1; have v2 := freeOf g2 2; have v3 := freeOf g2 3; have v4 := freeOf g2 4; have u5 := cellOf g3 0; have v5 := freeOf g3 0; simp only [List.getElem?_toArray, List.getElem?_cons_zero, List.getElem?_cons_succ] at u0 u1 u2 u3 u4 u5; have G2 := hid g2; have G3 := hid g3; clear hb9 hrt het g2 g3))
      have sA := HI.out.2.2.2
      have s8 := HB8.out.size
      have s9 := HB9.out.size
      have Z5 := five_new G2.out (hdT k t)
      have st : ∀ b, b ≠ w.heap.size + 1 + 1 → b ≠ w.heap.size + 1 + 1 + 1 → ((five w9 (w.heap.size + 1 + 1) 0 (hdT k t)).setCell ⟨w.heap.size + 1 + 1 + 1, 0, none⟩ (.bool true)).heap[b]? = w9.heap[b]? := fun b h2 h3 => (Below.heap_setCell _ _ _ _ h3).trans (five_heap _ _ _ _ h2)
      have ss : ((five w9 (w.heap.size + 1 + 1) 0 (hdT k t)).setCell ⟨w.heap.size + 1 + 1 + 1, 0, none⟩ (.bool true)).heap.size = w9.heap.size := by simp [five, World.setCell]
      refine ⟨((((((keepsFrom_below HB9.out).trans ((KeepsOthers.setCell _ _ _).from _)).trans ((KeepsOthers.setCell _ _ _).from _)).trans ((KeepsOthers.setCell _ _ _).from _)).trans ((KeepsOthers.setCell _ _ _).from _)).trans ((KeepsOthers.setCell _ _ _).from _)).trans ((KeepsOthers.setCell _ _ _).from _), ?_⟩
      change NX k w _ _ _ _ ((five w9 (w.heap.size + 1 + 1) 0 (hdT k t)).setCell ⟨w.heap.size + 1 + 1 + 1, 0, none⟩ (.bool true))
      refine ⟨rfl, ⟨pre, x, rfl, HI.out.2.1, hPx.trans hq, t, ?_, Het.out, ?_⟩, ?_, ?_⟩
      · refine (Hrt.out.keep k (fun b hb => st b (by omega) (by omega))).imp k (fun b hb => ⟨by omega, by rw [ss]; exact hb.2⟩)
      · exact (Below.heap_setCell _ _ _ _ (by show w.heap.size + 1 + 1 ≠ w.heap.size + 1 + 1 + 1; omega)).trans Z5
      · have := heap_set_at ((five_heap w9 (w.heap.size + 1 + 1) 0 (hdT k t) (k := w.heap.size + 1 + 1 + 1) (by omega)).trans G3.out) 0 (.bool true)
        simpa using this
      · exact (five_below (HI9.out.2.2.1) (by omega) _).setCell (p := ⟨w.heap.size + 1 + 1 + 1, 0, none⟩) (by show w.heap.size ≤ w.heap.size + 1 + 1 + 1; omega) _
  case done =>
    rintro D' ys W hD rfl hI hK
    have hval : res = none := by
      rw [Hres.out, find_none row P hI.2.1]; rfl
    have Hval := hid hval
    have HK := hid hK
    have HI := hid hI
    have g2 := hI.1.2.1
    have g3 := hI.1.2.2
    have u0 := cellOf g2 0
    have u1 := cellOf g2 1
    have u2 := cellOf g2 2
    have u3 := cellOf g2 3
    have u4 := cellOf g2 4
    have v0 := freeOf g2 0
    have v1 := freeOf g2 1
    have v2 := freeOf g2 2
    have v3 := freeOf g2 3
    have v4 := freeOf g2 4
    have u5 := cellOf g3 0
    have v5 := freeOf g3 0
    simp only [List.getElem?_toArray, List.getElem?_cons_zero, List.getElem?_cons_succ] at u0 u1 u2 u3 u4 u5
    have G2 := hid g2
    have G3 := hid g3
    clear hseq hI hK hval h70 g2 g3 D DK KC KD KQ KK
    gi_wp2
    obtain ⟨Wf, hWf⟩ : ∃ Wf, Wf = (five W (w.heap.size + 1 + 1) 0 ⟨0, 0, ⟨#[]⟩, 0, none, 0, 0⟩).setCell ⟨w.heap.size + 1 + 1 + 1, 0, none⟩ (.bool false) := ⟨_, rfl⟩
    have k2 : Wf.heap[w.heap.size + 1 + 1]? = some (.cells #[.int .i64 0, .int .i64 0, .string ⟨#[]⟩, .int .i64 0, .slice none 0 0] 31 (0, 0)) := by
      rw [hWf]; exact (Below.heap_setCell _ _ _ _ (by show w.heap.size + 1 + 1 ≠ w.heap.size + 1 + 1 + 1; omega)).trans (five_new G2.out ⟨0, 0, ⟨#[]⟩, 0, none, 0, 0⟩)
    have k3 : Wf.heap[w.heap.size + 1 + 1 + 1]? = some (.cells #[.bool false] 4 (0, 0)) := by
      have := heap_set_at ((five_heap W (w.heap.size + 1 + 1) 0 ⟨0, 0, ⟨#[]⟩, 0, none, 0, 0⟩ (k := w.heap.size + 1 + 1 + 1) (by omega)).trans G3.out) 0 (.bool false)
      rw [hWf]; simpa using this
    have kD : Wf.heap[D']? = some (.deferred (some [])) := by
      rw [hWf]; exact ((Below.heap_setCell _ _ _ _ (by show D' ≠ w.heap.size + 1 + 1 + 1; omega)).trans (five_heap _ _ _ _ (by omega))).trans HK.out
    have kB : Below w.heap.size w Wf := by
      rw [hWf]; exact (five_below (HI.out.2.2.1) (by omega) _).setCell (p := ⟨w.heap.size + 1 + 1 + 1, 0, none⟩) (by show w.heap.size ≤ w.heap.size + 1 + 1 + 1; omega) _
    have h9 := keep_cells (B := 0) k2 (grownBy_putObj' _ D' (.deferred none)) (fun r e => by cases e; exact ⟨Nat.zero_le _, _, kD, rfl⟩)
    have h9' := keep_cells (B := 0) k3 (grownBy_putObj' _ D' (.deferred none)) (fun r e => by cases e; exact ⟨Nat.zero_le _, _, kD, rfl⟩)
    have h10 : Below w.heap.size w (Wf.putObj D' (.deferred none)) := ownFrom_below (β := Unit) (Nat.le_refl _) (Nat.le_refl _) () _ _ _ kB (grownBy_putObj' _ D' (.deferred none)) (fun r e => by cases e; exact ⟨by omega, _, kD, rfl⟩)
    have r0 := cellOf h9 0
    have r1 := cellOf h9 1
    have r2 := cellOf h9 2
    have r3 := cellOf h9 3
    have r4 := cellOf h9 4
    have r5 := cellOf h9' 0
    simp only [List.getElem?_toArray, List.getElem?_cons_zero, List.getElem?_cons_succ] at r0 r1 r2 r3 r4 r5
    rw [show (((((W.setCell ⟨w.heap.size + 1 + 1, 0, none⟩ (.int .i64 0)).setCell ⟨w.heap.size + 1 + 1, 1, none⟩ (.int .i64 0)).setCell ⟨w.heap.size + 1 + 1, 2, none⟩ (.string ⟨#[]⟩)).setCell ⟨w.heap.size + 1 + 1, 3, none⟩ (.int .i64 0)).setCell ⟨w.heap.size + 1 + 1, 4, none⟩ (.slice none 0 0)).setCell ⟨w.heap.size + 1 + 1 + 1, 0, none⟩ (.bool false) = Wf from hWf.symm]
    refine ⟨by simp, .inl ⟨_, _, rfl, run_takeDeferred kD, ?_⟩⟩
    refine ⟨.tuple #[.agg #[.int .i64 0, .int .i64 0, .string ⟨#[]⟩, .int .i64 0, .slice none 0 0], .bool false], by simp [results, Try.results19, go_sem, r0, r1, r2, r3, r4, r5], ?_⟩
    rw [Hval.out]
    exact ⟨h10, rfl⟩
  case stop =>
    rintro D' c pre W hD ⟨ii, hii, epre⟩ ⟨rfl, ⟨pre', x, e0, hp, hx, t, ht, het, k2⟩, k3, kB⟩ hK
    have hval : res = some (ofT k t) := by
      rw [Hres.out, find_some row P ii hii pre' x (epre.symm.trans e0) hp hx, het]; rfl
    have Hval := hid hval
    have HK := hid hK
    have Ht := hid ht
    have kD := hK
    have h9 := keep_cells (B := 0) k2 (grownBy_putObj' _ D' (.deferred none)) (fun r e => by cases e; exact ⟨Nat.zero_le _, _, kD, rfl⟩)
    have h9' := keep_cells (B := 0) k3 (grownBy_putObj' _ D' (.deferred none)) (fun r e => by cases e; exact ⟨Nat.zero_le _, _, kD, rfl⟩)
    have h10 : Below w.heap.size w (W.putObj D' (.deferred none)) := ownFrom_below (β := Unit) (Nat.le_refl _) (Nat.le_refl _) () _ _ _ kB (grownBy_putObj' _ D' (.deferred none)) (fun r e => by cases e; exact ⟨by omega, _, kD, rfl⟩)
    have h11 := (ht.cells k (grown_cells (B := 0) (grownBy_putObj' _ D' (.deferred none)) (fun r e => by cases e; exact ⟨Nat.zero_le _, _, kD, rfl⟩))).imp k (B := fun b => w.heap.size ≤ b ∧ b < (W.putObj D' (.deferred none)).heap.size) (fun b hb => ⟨hb.1, Nat.lt_of_lt_of_le hb.2 (grownBy_putObj' W D' (.deferred none)).size⟩)
    have H10 := hid h10
    have H11 := hid h11
    have r0 := cellOf h9 0
    have r1 := cellOf h9 1
    have r2 := cellOf h9 2
    have r3 := cellOf h9 3
    have r4 := cellOf h9 4
    have r5 := cellOf h9' 0
    simp only [List.getElem?_toArray, List.getElem?_cons_zero, List.getElem?_cons_succ] at r0 r1 r2 r3 r4 r5
    clear hseq hval h70 D DK KC KD KQ KK hK ht h10 h11 h9 h9' k2 k3 kB epre e0 hp hx het kD
    gi_wp2
    refine ⟨by simp, .inl ⟨_, _, rfl, run_takeDeferred HK.out, ?_⟩⟩
    refine ⟨.tuple #[(hdT k t).v, .bool true], by simp [results, Try.results19, go_sem, r0, r1, r2, r3, r4, r5, Hd.v], ?_⟩
    rw [Hval.out]
    exact ⟨H10.out, t, rfl, H11.out, rfl⟩

set_option maxRecDepth 100000 in
set_option maxHeartbeats 2000000 in
theorem get_any (k : Nat) (w : World) (sa : Option Addr) (sn sc : Nat) (ms : List (Sl × Rw k)) (hd : StR k w sa sn ms) (m : Int) (kt : VT k) (hk : Rds k w kt) :
    Calls Try.prog 17 #[.agg #[.slice sa sn sc], .int .i64 m, (hdT k kt).v] w (MbP k w (((rowAt ms m).find? (fun p => cmpT k p.1 kt == 0)).map fun p => ofT k p.2)) := by
  have D := hid hd
  have DK := hid hk
  obtain ⟨row, hrow⟩ : ∃ row, row = rowAt ms m := ⟨_, rfl⟩
  have Hrow := hid hrow
  rw [← hrow]
  obtain ⟨P, hP⟩ : ∃ P : VT k × VT k → Bool, P = fun p => cmpT k p.1 kt == 0 := ⟨_, rfl⟩
  have HP := hid hP
  rw [← hP]
  obtain ⟨res, hres⟩ : ∃ res, res = (row.find? P).map fun p => ofT k p.2 := ⟨_, rfl⟩
  rw [← hres]
  have Hres := hid hres
  have KQ : Hid (∀ (x : Fin row.length) (w1 : World), Below w.heap.size w w1 → Rds k w1 row[x].1 ∧ Rds k w1 row[x].2) := hid (fun x w1 hb => by
    have hmem : row[x] ∈ row := List.getElem_mem _
    have : ∀ q ∈ rowAt ms m, Rds k w1 q.1 ∧ Rds k w1 q.2 := by
      intro q hq
      unfold rowAt at hq
      split at hq
      · cases e : ms[m.toNat]? with
        | none => rw [e] at hq; simp at hq
        | some p => rw [e] at hq; exact ((hd.el p (List.mem_of_getElem? e)).1.below (Nat.le_refl _) hb).el q hq
      · simp at hq
    rw [← hrow] at this
    exact this _ hmem)
  have KK : Hid (∀ w1 : World, Below w.heap.size w w1 → Rds k w1 kt) := hid (fun w1 hb => Rds.below k hk (Nat.le_refl _) hb)
  have hro : Fence.wide.round = none := rfl
  have KC : Hid (∀ (x : Fin row.length) (w1 : World), Below w.heap.size w w1 → Calls Try.prog 45 #[(hdT k row[x].1).v, (hdT k kt).v] w1 fun e w' => e = .returned (.bool (cmpT k row[x].1 kt == 0)) ∧ Below w1.heap.size w1 w') := hid (fun x w1 hb => same_any k w1 row[x].1 kt (KQ.out x w1 hb).1 (KK.out w1 hb))
  have KD : Hid (∀ (x : Fin row.length) (w1 : World), Below w.heap.size w w1 → Calls Try.prog 46 #[(hdT k row[x].2).v] w1 (CpP k w1 row[x].2)) := hid (fun x w1 hb => copy_any k w1 row[x].2 (KQ.out x w1 hb).2)
  clear hd hk hrow hP hres
  generalize hdT k kt = hkt at *
  obtain ⟨kk, ki, kx, kr, ka, kn, kc⟩ := hkt
  simp only [Hd.v] at KC ⊢
  obtain ⟨W0, hW0⟩ : ∃ W0, W0 = (((w.alloc (.cells #[.slice sa sn sc] 27)).alloc (.cells #[.int .i64 kk, .int .i64 ki, .string kx, .int .i64 kr, .slice ka kn kc] 31)).alloc (.cells #[.int .i64 0, .int .i64 0, .string ⟨#[]⟩, .int .i64 0, .slice none 0 0] 31)).alloc (.cells #[.bool false] 4) := ⟨_, rfl⟩
  obtain ⟨W1, hW1⟩ : ∃ W1, W1 = (W0.alloc (.cells #[.slice sa sn sc] 27)).alloc (.cells #[.int .i64 m] 3) := ⟨_, rfl⟩
  have pl' : ∀ {w : World} {o x : Obj} {k : Nat}, w.heap[k]? = some x → (w.alloc o).heap[k]? = some x := fun h => (Below.heap_alloc _ _ _ (Array.getElem?_eq_some_iff.1 h).1).trans h
  have n2 := heap_alloc_new (w.alloc (.cells #[.slice sa sn sc] 27)) (.cells #[.int .i64 kk, .int .i64 ki, .string kx, .int .i64 kr, .slice ka kn kc] 31)
  have n3 := heap_alloc_new ((w.alloc (.cells #[.slice sa sn sc] 27)).alloc (.cells #[.int .i64 kk, .int .i64 ki, .string kx, .int .i64 kr, .slice ka kn kc] 31)) (.cells #[.int .i64 0, .int .i64 0, .string ⟨#[]⟩, .int .i64 0, .slice none 0 0] 31)
  have n4 := heap_alloc_new (((w.alloc (.cells #[.slice sa sn sc] 27)).alloc (.cells #[.int .i64 kk, .int .i64 ki, .string kx, .int .i64 kr, .slice ka kn kc] 31)).alloc (.cells #[.int .i64 0, .int .i64 0, .string ⟨#[]⟩, .int .i64 0, .slice none 0 0] 31)) (.cells #[.bool false] 4)
  have n5 := heap_alloc_new W0 (.cells #[.slice sa sn sc] 27)
  have n6 := heap_alloc_new (W0.alloc (.cells #[.slice sa sn sc] 27)) (.cells #[.int .i64 m] 3)
  have hz0 : W0.heap.size = w.heap.size + 1 + 1 + 1 + 1 := by rw [hW0]; simp
  have hz1 : W1.heap.size = w.heap.size + 1 + 1 + 1 + 1 + 1 + 1 := by rw [hW1]; simp; omega
  simp only [World.size_alloc, hz0] at n2 n3 n4 n5 n6
  have q2 : W1.heap[w.heap.size + 1]? = some (.cells #[.int .i64 kk, .int .i64 ki, .string kx, .int .i64 kr, .slice ka kn kc] 31 (0, 0)) := by rw [hW1, hW0]; exact pl' (pl' (pl' (pl' n2)))
  have q3 : W1.heap[w.heap.size + 1 + 1]? = some (.cells #[.int .i64 0, .int .i64 0, .string ⟨#[]⟩, .int .i64 0, .slice none 0 0] 31 (0, 0)) := by rw [hW1, hW0]; exact pl' (pl' (pl' n3))
  have q4 : W1.heap[w.heap.size + 1 + 1 + 1]? = some (.cells #[.bool false] 4 (0, 0)) := by rw [hW1, hW0]; exact pl' (pl' n4)
  have q5 : W1.heap[w.heap.size + 1 + 1 + 1 + 1]? = some (.cells #[.slice sa sn sc] 27 (0, 0)) := by rw [hW1]; exact pl' n5
  have q6 : W1.heap[w.heap.size + 1 + 1 + 1 + 1 + 1]? = some (.cells #[.int .i64 m] 3 (0, 0)) := by rw [hW1]; exact n6
  have hb1 : Below w.heap.size w W1 := by
    rw [hW1, hW0]; exact ((((((Below.refl _ w).alloc (Nat.le_refl _) _).alloc (by simp) _).alloc (by simp; omega) _).alloc (by simp; omega) _).alloc (by simp; omega) _).alloc (by simp; omega) _
  have hseq := entries_stops k w sa sn sc ms D.out m row Hrow.out 5 (by omega) (w.heap.size + 1 + 1 + 1 + 1) (w.heap.size + 1 + 1 + 1 + 1 + 1) W1 hb1 q5 q6
  have h70 : NI w #[.int .i64 kk, .int .i64 ki, .string kx, .int .i64 kr, .slice ka kn kc] (fun x : Fin row.length => P row[x]) [] W1 := ⟨⟨q2, q3, q4⟩, by simp, hb1, by omega⟩
  have hC : w.heap.size ≤ W1.heap.size := by omega
  clear n2 n3 n4 n5 n6 pl' q2 q3 q4 q5 q6 hb1
  refine (callsIn_wide (n := 6)).1 ?_
  refine callsIn_of_wp_marks Try.func17 rfl trivial ?_ hro
  simp only [Try.ntmps17, List.size_toArray, List.length_cons, List.length_nil, Nat.reduceAdd, Nat.reduceSub, Array.replicate_succ, Array.replicate_zero, List.push_toArray, List.append_toArray, List.nil_append, List.cons_append]
  gi_wp2_with (refine ⟨trivial, ?_⟩; gi_at_call 44; refine (entries_in _ _ trivial hro _ rfl _ _).mono ?_; rintro e w7 ⟨rfl, rfl⟩)
  rw [← hW0]
  try simp only [hz0]
  rw [← hW1]
  clear hW0 hW1
  refine wpIn_rangeFunc_ownH hro (by omega) (gf := 63) (lb := #[.pointer (some ⟨w.heap.size + 1 + 1 + 1 + 1, 0, none⟩), .pointer (some ⟨w.heap.size + 1 + 1 + 1 + 1 + 1, 0, none⟩)]) rfl trivial (enters_of Try.func63 (by kernel_rfl) rfl) hseq KB_t (KB_b (by omega) (by omega) (by omega)) (Below.refl _ _) (fun _ => rfl)
      (NI w #[.int .i64 kk, .int .i64 ki, .string kx, .int .i64 kr, .slice ka kn kc] (fun x : Fin row.length => P row[x])) (NX k w (fun x : Fin row.length => P row[x]) (fun x => ofT k row[x].2)) (NI_own w _ _ hC) (fun c => NX_own k w _ _ c hC)
      h70
      (fun (x : Fin row.length) (a' : Act) (W : World) => ∃ X : Nat, W.heap[X]? = some (Obj.cells (enT k row[x]).cs.toArray 81 (0, 0)) ∧ a' = { tmps := #[.agg #[.slice sa sn sc], .int .i64 m, .agg #[.int .i64 kk, .int .i64 ki, .string kx, .int .i64 kr, .slice ka kn kc], .pointer (some ⟨w.heap.size, 0, none⟩), undef, .pointer (some ⟨w.heap.size + 1, 0, none⟩), .pointer (some ⟨w.heap.size + 1 + 1, 0, none⟩), .pointer (some ⟨w.heap.size + 1 + 1 + 1, 0, none⟩), undef, .pointer (some ⟨X, 0, none⟩), .agg #[.slice sa sn sc], .int .i64 m, .func (.func 63) #[] #[.pointer (some ⟨w.heap.size + 1 + 1 + 1 + 1, 0, none⟩), .pointer (some ⟨w.heap.size + 1 + 1 + 1 + 1 + 1, 0, none⟩)], .int .i64 (x.val : Int), (enT k row[x]).v, undef, undef, undef, undef, undef, undef, undef, undef], defers := [] })
      (fun x a' u A B rw' hs hg hr => by
        obtain ⟨X, h2, h4⟩ := hs
        exact ⟨X, keep_cells h2 hg hr, h4⟩)
      ?assign ?body ?done ?stop
  case assign =>
    rintro ll pre x W K hi hK
    simp only [encE, enT, En.v, En.cs] at hK ⊢
    generalize hdT k row[x].1 = hd1 at *
    generalize hdT k row[x].2 = hd2 at *
    gi_wp2
    exact hK _ _ ((KeepsOthers.alloc _ _).from _) (KB_of ((Below.refl _ W).alloc (Nat.le_refl _) _) (by have := hi.2.2.2; omega) (by have := hi.2.2.2; omega) (by have := hi.2.2.2; omega)) ((NI_own w _ _ hC).alloc _ hi) ⟨W.heap.size, heap_alloc_new W _, rfl⟩
  case body =>
    rintro ll pre x a' W hll ⟨rr, hrr⟩ hi ⟨X, hx, rfl⟩ hlt
    have HI := hid hi
    have HX := hid hx
    have d0 := cellOf hx 0
    have d1 := cellOf hx 1
    have d2 := cellOf hx 2
    have d3 := cellOf hx 3
    have d4 := cellOf hx 4
    have d5 := cellOf hx 5
    have d6 := cellOf hx 6
    have d7 := cellOf hx 7
    have d8 := cellOf hx 8
    have d9 := cellOf hx 9
    simp only [En.cs, enT, List.getElem?_toArray, List.getElem?_cons_zero, List.getElem?_cons_succ] at d0 d1 d2 d3 d4 d5 d6 d7 d8 d9
    have e0 := cellOf hi.1.1 0
    have e1 := cellOf hi.1.1 1
    have e2 := cellOf hi.1.1 2
    have e3 := cellOf hi.1.1 3
    have e4 := cellOf hi.1.1 4
    simp only [List.getElem?_toArray, List.getElem?_cons_zero, List.getElem?_cons_succ] at e0 e1 e2 e3 e4
    have K1 := hid (KC.out x W hi.2.2.1)
    have K2 := hid (fun (w1 : World) (hb : Below W.heap.size W w1) => KD.out x w1 (hi.2.2.1.trans (hb.mono hi.2.2.1.size)))
    have hPx : P row[x] = (cmpT k row[x].1 kt == 0) := by rw [HP.out]
    have FX : Hid (∀ w8 : World, Below W.heap.size W w8 → ∀ i, w8.cell? ⟨X, i, none⟩ = W.cell? ⟨X, i, none⟩) := hid (fun w8 hb i => hb.cell (p := ⟨X, i, none⟩) (Array.getElem?_eq_some_iff.1 hx).1)
    simp only [En.v, En.cs, enT] at *
    obtain ⟨h1, eh1⟩ : ∃ h1, h1 = hdT k row[x].1 := ⟨_, rfl⟩
    obtain ⟨h2, eh2⟩ : ∃ h2, h2 = hdT k row[x].2 := ⟨_, rfl⟩
    rw [← eh1] at d0 d1 d2 d3 d4
    rw [← eh2] at d5 d6 d7 d8 d9
    simp only [← eh1, ← eh2] at K1 K2 ⊢
    obtain ⟨cv, hcv⟩ : ∃ cv, cv = (cmpT k row[x].1 kt == 0) := ⟨_, rfl⟩
    rw [← hcv] at hPx K1
    obtain ⟨yk, yi, yt, yr, ya, yn, yc⟩ := h1
    obtain ⟨zk, zi, zt, zr, za, zn, zc⟩ := h2
    simp only at K1 K2 d0 d1 d2 d3 d4 d5 d6 d7 d8 d9 ⊢
    clear hx hrr hseq hi h70 eh1 eh2 hcv D DK HX
    cases hq : cv with
    | false =>
      rw [hq] at K1
      gi_wp2_with (refine ⟨trivial, ?_⟩; gi_at_call 45; refine (CallsIn.inRound ll (callsIn_wide.2 (Hid.out K1))).mono ?_; rintro e w8 ⟨rfl, hb8⟩)
      exact ⟨keepsFrom_below hb8, KB_of hb8 (by have := HI.out.2.2.2; omega) (by have := HI.out.2.2.2; omega) (by have := HI.out.2.2.2; omega), (HI.out.below hb8).snoc (hPx.trans hq)⟩
    | true =>
      rw [hq] at K1
      gi_wp2_with (first
        | (refine ⟨trivial, ?_⟩; gi_at_call 45; refine (CallsIn.inRound ll (callsIn_wide.2 (Hid.out K1))).mono ?_; rintro e w8 ⟨rfl, hb8⟩; have FX8 := FX.out w8 hb8; rw [← FX8] at d0 d1 d2 d3 d4 d5 d6 d7 d8 d9; have HB8 := hid hb8; clear FX8 hb8)
        | (refine ⟨trivial, ?_⟩; gi_at_call 46; refine (CallsIn.inRound ll (callsIn_wide.2 (Hid.out K2 w8 HB8.out))).mono ?_; rintro e w9 ⟨t, rfl, hb9, hrt, het⟩; simp only [Hd.v]; have HB9 := hid (HB8.out.trans (hb9.mono HB8.out.size)); have HI9 := hid (HI.out.below HB9.out); have Hrt := hid hrt; have Het := hid het; have HB9' := hid hb9; have g2 := HI9.out.1.2.1; have g3 := HI9.out.1.2.2; have u0 := cellOf g2 0; have u1 := cellOf g2 1; have u2 := cellOf g2 2; have u3 := cellOf g2 3; have u4 := cellOf g2 4; have v0 := freeOf g2 0; have v1 := freeOf g2 1; have v2 := freeOf g2 2; have v3 := freeOf g2 3; have v4 := freeOf g2 4; have u5 := cellOf g3 0; have v5 := freeOf g3 0; simp only [List.getElem?_toArray, List.getElem?_cons_zero, List.getElem?_cons_succ] at u0 u1 u2 u3 u4 u5; have G2 := hid g2; have G3 := hid g3; clear hb9 hrt het g2 g3))
      have sA := HI.out.2.2.2
      have s8 := HB8.out.size
      have s9 := HB9.out.size
      have Z5 := five_new G2.out (hdT k t)
      have st : ∀ b, b ≠ w.heap.size + 1 + 1 → b ≠ w.heap.size + 1 + 1 + 1 → ((five w9 (w.heap.size + 1 + 1) 0 (hdT k t)).setCell ⟨w.heap.size + 1 + 1 + 1, 0, none⟩ (.bool true)).heap[b]? = w9.heap[b]? := fun b h2 h3 => (Below.heap_setCell _ _ _ _ h3).trans (five_heap _ _ _ _ h2)
      have ss : ((five w9 (w.heap.size + 1 + 1) 0 (hdT k t)).setCell ⟨w.heap.size + 1 + 1 + 1, 0, none⟩ (.bool true)).heap.size = w9.heap.size := by simp [five, World.setCell]
      refine ⟨((((((keepsFrom_below HB9.out).trans ((KeepsOthers.setCell _ _ _).from _)).trans ((KeepsOthers.setCell _ _ _).from _)).trans ((KeepsOthers.setCell _ _ _).from _)).trans ((KeepsOthers.setCell _ _ _).from _)).trans ((KeepsOthers.setCell _ _ _).from _)).trans ((KeepsOthers.setCell _ _ _).from _), ?_⟩
      change NX k w _ _ _ _ ((five w9 (w.heap.size + 1 + 1) 0 (hdT k t)).setCell ⟨w.heap.size + 1 + 1 + 1, 0, none⟩ (.bool true))
      refine ⟨rfl, ⟨pre, x, rfl, HI.out.2.1, hPx.trans hq, t, ?_, Het.out, ?_⟩, ?_, ?_⟩
      · refine (Hrt.out.keep k (fun b hb => st b (by omega) (by omega))).imp k (fun b hb => ⟨by omega, by rw [ss]; exact hb.2⟩)
      · exact (Below.heap_setCell _ _ _ _ (by show w.heap.size + 1 + 1 ≠ w.heap.size + 1 + 1 + 1; omega)).trans Z5
      · have := heap_set_at ((five_heap w9 (w.heap.size + 1 + 1) 0 (hdT k t) (k := w.heap.size + 1 + 1 + 1) (by omega)).trans G3.out) 0 (.bool true)
        simpa using this
      · exact (five_below (HI9.out.2.2.1) (by omega) _).setCell (p := ⟨w.heap.size + 1 + 1 + 1, 0, none⟩) (by show w.heap.size ≤ w.heap.size + 1 + 1 + 1; omega) _
  case done =>
    rintro D' ys W hD rfl hI hK
    have hval : res = none := by
      rw [Hres.out, find_none row P hI.2.1]; rfl
    have Hval := hid hval
    have HK := hid hK
    have HI := hid hI
    have g2 := hI.1.2.1
    have g3 := hI.1.2.2
    have u0 := cellOf g2 0
    have u1 := cellOf g2 1
    have u2 := cellOf g2 2
    have u3 := cellOf g2 3
    have u4 := cellOf g2 4
    have v0 := freeOf g2 0
    have v1 := freeOf g2 1
    have v2 := freeOf g2 2
    have v3 := freeOf g2 3
    have v4 := freeOf g2 4
    have u5 := cellOf g3 0
    have v5 := freeOf g3 0
    simp only [List.getElem?_toArray, List.getElem?_cons_zero, List.getElem?_cons_succ] at u0 u1 u2 u3 u4 u5
    have G2 := hid g2
    have G3 := hid g3
    clear hseq hI hK hval h70 g2 g3 D DK KC KD KQ KK
    gi_wp2
    obtain ⟨Wf, hWf⟩ : ∃ Wf, Wf = (five W (w.heap.size + 1 + 1) 0 ⟨0, 0, ⟨#[]⟩, 0, none, 0, 0⟩).setCell ⟨w.heap.size + 1 + 1 + 1, 0, none⟩ (.bool false) := ⟨_, rfl⟩
    have k2 : Wf.heap[w.heap.size + 1 + 1]? = some (.cells #[.int .i64 0, .int .i64 0, .string ⟨#[]⟩, .int .i64 0, .slice none 0 0] 31 (0, 0)) := by
      rw [hWf]; exact (Below.heap_setCell _ _ _ _ (by show w.heap.size + 1 + 1 ≠ w.heap.size + 1 + 1 + 1; omega)).trans (five_new G2.out ⟨0, 0, ⟨#[]⟩, 0, none, 0, 0⟩)
    have k3 : Wf.heap[w.heap.size + 1 + 1 + 1]? = some (.cells #[.bool false] 4 (0, 0)) := by
      have := heap_set_at ((five_heap W (w.heap.size + 1 + 1) 0 ⟨0, 0, ⟨#[]⟩, 0, none, 0, 0⟩ (k := w.heap.size + 1 + 1 + 1) (by omega)).trans G3.out) 0 (.bool false)
      rw [hWf]; simpa using this
    have kD : Wf.heap[D']? = some (.deferred (some [])) := by
      rw [hWf]; exact ((Below.heap_setCell _ _ _ _ (by show D' ≠ w.heap.size + 1 + 1 + 1; omega)).trans (five_heap _ _ _ _ (by omega))).trans HK.out
    have kB : Below w.heap.size w Wf := by
      rw [hWf]; exact (five_below (HI.out.2.2.1) (by omega) _).setCell (p := ⟨w.heap.size + 1 + 1 + 1, 0, none⟩) (by show w.heap.size ≤ w.heap.size + 1 + 1 + 1; omega) _
    have h9 := keep_cells (B := 0) k2 (grownBy_putObj' _ D' (.deferred none)) (fun r e => by cases e; exact ⟨Nat.zero_le _, _, kD, rfl⟩)
    have h9' := keep_cells (B := 0) k3 (grownBy_putObj' _ D' (.deferred none)) (fun r e => by cases e; exact ⟨Nat.zero_le _, _, kD, rfl⟩)
    have h10 : Below w.heap.size w (Wf.putObj D' (.deferred none)) := ownFrom_below (β := Unit) (Nat.le_refl _) (Nat.le_refl _) () _ _ _ kB (grownBy_putObj' _ D' (.deferred none)) (fun r e => by cases e; exact ⟨by omega, _, kD, rfl⟩)
    have r0 := cellOf h9 0
    have r1 := cellOf h9 1
    have r2 := cellOf h9 2
    have r3 := cellOf h9 3
    have r4 := cellOf h9 4
    have r5 := cellOf h9' 0
    simp only [List.getElem?_toArray, List.getElem?_cons_zero, List.getElem?_cons_succ] at r0 r1 r2 r3 r4 r5
    rw [show (((((W.setCell ⟨w.heap.size + 1 + 1, 0, none⟩ (.int .i64 0)).setCell ⟨w.heap.size + 1 + 1, 1, none⟩ (.int .i64 0)).setCell ⟨w.heap.size + 1 + 1, 2, none⟩ (.string ⟨#[]⟩)).setCell ⟨w.heap.size + 1 + 1, 3, none⟩ (.int .i64 0)).setCell ⟨w.heap.size + 1 + 1, 4, none⟩ (.slice none 0 0)).setCell ⟨w.heap.size + 1 + 1 + 1, 0, none⟩ (.bool false) = Wf from hWf.symm]
    refine ⟨by simp, .inl ⟨_, _, rfl, run_takeDeferred kD, ?_⟩⟩
    refine ⟨.tuple #[.agg #[.int .i64 0, .int .i64 0, .string ⟨#[]⟩, .int .i64 0, .slice none 0 0], .bool false], by simp [results, Try.results17, go_sem, r0, r1, r2, r3, r4, r5], ?_⟩
    rw [Hval.out]
    exact ⟨h10, rfl⟩
  case stop =>
    rintro D' c pre W hD ⟨ii, hii, epre⟩ ⟨rfl, ⟨pre', x, e0, hp, hx, t, ht, het, k2⟩, k3, kB⟩ hK
    have hval : res = some (ofT k t) := by
      rw [Hres.out, find_some row P ii hii pre' x (epre.symm.trans e0) hp hx, het]; rfl
    have Hval := hid hval
    have HK := hid hK
    have Ht := hid ht
    have kD := hK
    have h9 := keep_cells (B := 0) k2 (grownBy_putObj' _ D' (.deferred none)) (fun r e => by cases e; exact ⟨Nat.zero_le _, _, kD, rfl⟩)
    have h9' := keep_cells (B := 0) k3 (grownBy_putObj' _ D' (.deferred none)) (fun r e => by cases e; exact ⟨Nat.zero_le _, _, kD, rfl⟩)
    have h10 : Below w.heap.size w (W.putObj D' (.deferred none)) := ownFrom_below (β := Unit) (Nat.le_refl _) (Nat.le_refl _) () _ _ _ kB (grownBy_putObj' _ D' (.deferred none)) (fun r e => by cases e; exact ⟨by omega, _, kD, rfl⟩)
    have h11 := (ht.cells k (grown_cells (B := 0) (grownBy_putObj' _ D' (.deferred none)) (fun r e => by cases e; exact ⟨Nat.zero_le _, _, kD, rfl⟩))).imp k (B := fun b => w.heap.size ≤ b ∧ b < (W.putObj D' (.deferred none)).heap.size) (fun b hb => ⟨hb.1, Nat.lt_of_lt_of_le hb.2 (grownBy_putObj' W D' (.deferred none)).size⟩)
    have H10 := hid h10
    have H11 := hid h11
    have r0 := cellOf h9 0
    have r1 := cellOf h9 1
    have r2 := cellOf h9 2
    have r3 := cellOf h9 3
    have r4 := cellOf h9 4
    have r5 := cellOf h9' 0
    simp only [List.getElem?_toArray, List.getElem?_cons_zero, List.getElem?_cons_succ] at r0 r1 r2 r3 r4 r5
    clear hseq hval h70 D DK KC KD KQ KK hK ht h10 h11 h9 h9' k2 k3 kB epre e0 hp hx het kD
    gi_wp2
    refine ⟨by simp, .inl ⟨_, _, rfl, run_takeDeferred HK.out, ?_⟩⟩
    refine ⟨.tuple #[(hdT k t).v, .bool true], by simp [results, Try.results17, go_sem, r0, r1, r2, r3, r4, r5, Hd.v], ?_⟩
    rw [Hval.out]
    exact ⟨H10.out, t, rfl, H11.out, rfl⟩
end Go.Proofs.Ytenfgahedbeekaa

