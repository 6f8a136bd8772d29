/- makeBare: what is changed, and what is left as it was; of an expression. -/
import Derived.Test.YtdfambocenohgaaGreatDoorJAB
import Derived.Deep.CutBlock
import Derived.Deep.DeepCutAuto
import Derived.WalkMore
namespace Go.Proofs.YtdfambocenohgaaGreatDoor
open Go.RowKit Go.Deep Go.Shelf
set_option linter.unusedVariables false
set_option linter.unusedSimpArgs false
attribute [local go_sem] as58_58 as105_58 as101_58 as67_58 as58_105 as105_105 as101_105 as67_105 as58_101 as105_101 as101_101 as67_101 as58_67 as105_67 as101_67 as67_67
attribute [local go_sem] Oper.semAt_some
/- Blocks below n are as they were, but k cells of block b from o on. -/
structure Fr (n b o k : Nat) (W W' : World) : Prop where
  bel : Below b W W'
  up : ∀ j, b < j → j < n → W'.heap[j]? = W.heap[j]?
  at' : ∀ c T, W.heap[b]? = some (.cells c T (0, 0)) → ∃ c', W'.heap[b]? = some (.cells c' T (0, 0)) ∧ c'.size = c.size ∧ ∀ i, (i < o ∨ o + k ≤ i) → c'[i]? = c[i]?
theorem Fr.trans {n b o k : Nat} {A B C : World} (h : Fr n b o k A B) (g : Fr n b o k B C) : Fr n b o k A C :=
  ⟨h.bel.trans g.bel, fun j h1 h2 => (g.up j h1 h2).trans (h.up j h1 h2), fun c T hc => by
    obtain ⟨c1, h1, h2, h3⟩ := h.at' c T hc
    obtain ⟨c2, g1, g2, g3⟩ := g.at' c1 T h1
    exact ⟨c2, g1, g2.trans h2, fun i hi => (g3 i hi).trans (h3 i hi)⟩⟩
theorem Fr.of {n b o k m : Nat} {A B : World} (h : Below m A B) (hb : b < m) (hn : n ≤ m) : Fr n b o k A B :=
  ⟨h.mono (by omega), fun j _ h2 => h.block j (by omega), fun c T hc => ⟨c, (h.block b hb).trans hc, rfl, fun _ _ => rfl⟩⟩
theorem Fr.set {n b o k : Nat} {A : World} (i : Nat) (v : Value) (h1 : o ≤ i) (h2 : i < o + k) : Fr n b o k A (A.setCell ⟨b, i, none⟩ v) :=
  ⟨(Below.refl _ _).setCell (p := ⟨b, i, none⟩) (Nat.le_refl _) v, fun j h3 _ => Below.heap_setCell _ _ _ _ (by show j ≠ b; omega), fun c T hc => ⟨_, set_at hc i v, by simp, fun j hj => by rw [Array.getElem?_setIfInBounds_ne (by omega)]⟩⟩
theorem Fr.size {n b o k : Nat} {A B : World} (h : Fr n b o k A B) : A.heap.size ≤ B.heap.size := h.bel.size
theorem Fr.mono {n n' b o o' k k' : Nat} {A B : World} (h : Fr n b o k A B) (hn : n' ≤ n) (ho : o' ≤ o) (hk : o + k ≤ o' + k') : Fr n' b o' k' A B :=
  ⟨h.bel, fun j h1 h2 => h.up j h1 (by omega), fun c T hc => by
    obtain ⟨c1, h1, h2, h3⟩ := h.at' c T hc
    exact ⟨c1, h1, h2, fun i hi => h3 i (by omega)⟩⟩
theorem Fr.ne {n b o k : Nat} {A B : World} (h : Fr n b o k A B) {j : Nat} (hj : j < n) (hne : j ≠ b) : B.heap[j]? = A.heap[j]? := by
  rcases Nat.lt_or_ge j b with h1 | h1
  · exact h.bel.block j h1
  · exact h.up j (by omega) hj
/- Pointers to texts, in a new block. -/
def TextAt (w : World) (p : Nat × Nat) : Prop := ∃ (s : ByteArray) (c : Array Value) (T : TypeId), w.heap[p.1]? = some (.cells c T (0, 0)) ∧ c[p.2]? = some (.string s) ∧ s.size ≤ 140737488351232
def ptrsOf (l : List (Nat × Nat)) : List Value := l.map fun p => .pointer (some ⟨p.1, p.2, none⟩)
theorem texts_k (w : World) (l : List (Nat × Nat)) (T : TypeId) (hl : l.length ≤ 4) (h : ∀ p ∈ l, TextAt w p) :
    Calls Tryz.prog 66 #[.slice (some ⟨w.heap.size, 0, none⟩) l.length l.length] (w.alloc (.cells (ptrsOf l).toArray T)) fun e w' => (∃ v, e = .returned v) ∧ Below w.heap.size w w' := by
  refine (copyTexts_any _ w.heap.size l.length l.length hl (fun j hj => ?_)).mono fun e w' ⟨h1, h2⟩ => ⟨h1, ((Below.refl w.heap.size w).alloc (Nat.le_refl _) _).trans (h2.mono (by simp))⟩
  obtain ⟨s, c, T', h1, h2, h3⟩ := h l[j] (List.getElem_mem hj)
  refine ⟨l[j].1, l[j].2, s, c, T', ?_, (Below.heap_alloc _ _ _ (heap_lt h1)).trans h1, h2, h3⟩
  rw [cellT (heap_alloc_new w _) j]
  simp [ptrsOf, hj]
/- A row in a new block. -/
def RowN (W W' : World) (n : Nat) (E : TypeId) (news : List Value) (a : Option Addr) : Prop := (∀ x, a = some x → W.heap.size ≤ x.block ∧ x.block < W'.heap.size) ∧ (0 < n → ∃ A cs, a = some ⟨A, 0, none⟩ ∧ W.heap.size ≤ A ∧ W'.heap[A]? = some (.cells cs E (0, 0)) ∧ ∀ (j : Nat) (u : Value), news[j]? = some u → cs[j]? = some u)
def Apart (a a' : Option Addr) : Prop := ∀ x y, a = some x → a' = some y → x.block ≠ y.block
theorem RowN.below {V W W' : World} {n : Nat} {E : TypeId} {news : List Value} {a : Option Addr} (h : RowN V W n E news a) (k : Below W.heap.size W W') : RowN V W' n E news a :=
  ⟨fun x e => ⟨(h.1 x e).1, Nat.lt_of_lt_of_le (h.1 x e).2 k.size⟩, fun h0 => by
    obtain ⟨A, cs, h1, h2, h3, h4⟩ := h.2 h0
    exact ⟨A, cs, h1, h2, (k.block A (heap_lt h3)).trans h3, h4⟩⟩
theorem RowN.fr {V W W' : World} {n m b o k : Nat} {E : TypeId} {news : List Value} {a : Option Addr} (h : RowN V W n E news a) (f : Fr m b o k W W') (hm : W.heap.size ≤ m) (hb : b < V.heap.size) : RowN V W' n E news a :=
  ⟨fun x e => ⟨(h.1 x e).1, Nat.lt_of_lt_of_le (h.1 x e).2 f.size⟩, fun h0 => by
    obtain ⟨A, cs, h1, h2, h3, h4⟩ := h.2 h0
    exact ⟨A, cs, h1, h2, (f.ne (by have := heap_lt h3; omega) (by omega)).trans h3, h4⟩⟩
theorem Cpd.row {V w w' : World} {n : Nat} {E : TypeId} {news : List Value} {v : Value} (h : Cpd w n E news v w') (hV : V.heap.size ≤ w.heap.size) : ∃ a c, v = .slice a n c ∧ RowN V w' n E news a ∧ Below w.heap.size w w' ∧ ∀ y, a = some y → w.heap.size ≤ y.block := by
  rcases h with ⟨rfl, rfl, rfl⟩ | ⟨h0, cap, cs, rfl, rfl, hc⟩
  · exact ⟨none, 0, rfl, ⟨fun x e => (by cases e), fun h => (by omega)⟩, Below.refl _ _, fun y e => (by cases e)⟩
  · exact ⟨_, cap, rfl, ⟨fun x e => (by cases e; exact ⟨hV, by simp⟩), fun _ => ⟨_, cs, rfl, hV, heap_alloc_new w.drew _, hc⟩⟩, (Below.refl w.heap.size w).drew.alloc (Nat.le_refl _) _, fun y e => (by cases e; exact Nat.le_refl _)⟩
/- Texts copied. -/
def stL (l : List ByteArray) : List Value := l.map Value.string
theorem RowN.sls {V W : World} {n : Nat} {l : List ByteArray} {a : Option Addr} (h : RowN V W n 9 (stL l) a) (hn : n = l.length) : SLs W a l := fun j s e => by
  obtain ⟨A, cs, rfl, h2, h3, h4⟩ := h.2 (by have := (List.getElem?_eq_some_iff.1 e).1; omega)
  refine ⟨A, 0, rfl, ?_⟩
  rw [Nat.zero_add, cellT h3, h4 j (.string s) (by simp [stL, e])]
theorem SLs.nrd {w : World} {a : Option Addr} {l : List ByteArray} (h : SLs w a l) : NRd w a (stL l) := fun j v e => by
  simp only [stL, List.getElem?_map, Option.map_eq_some_iff] at e
  obtain ⟨s, hs, rfl⟩ := e
  exact h j s hs
theorem NRd.below {w w' : World} {a : Option Addr} {l : List Value} (h : NRd w a l) (k : Below w.heap.size w w') : NRd w' a l := fun j v e => by
  obtain ⟨b, off, ea, hc⟩ := h j v e
  exact ⟨b, off, ea, belowCell hc (Nat.le_refl _) k⟩
/- An expression's cells. -/
def EH.cl (h : EH) : List Value := [.int .i64 h.kind, .int .i64 h.op, .int .i64 h.int, .string h.text, .string h.name, .slice h.na h.nn h.nc, .slice h.aa h.an h.ac, .int .i64 h.pos]
def Cl (c : Array Value) (o : Nat) (l : List Value) : Prop := ∀ i v, l[i]? = some v → c[o + i]? = some v
def smT (s : ByteArray) : Prop := s.size ≤ 140737488351232
structure EH.Sm (h : EH) : Prop where
  t : smT h.text
  n : smT h.name
  ns : ∀ s ∈ h.names, smT s
theorem Cl.set {c : Array Value} {o : Nat} {l : List Value} (h : Cl c o l) (i : Nat) (hi : i < l.length) (v : Value) : Cl (c.setIfInBounds (o + i) v) o (l.set i v) := fun j u e => by
  rw [List.getElem?_set] at e
  by_cases hij : i = j
  · subst hij
    simp only [if_true, hi] at e
    cases e
    have h0 := h i _ (List.getElem?_eq_getElem hi)
    rw [Array.getElem?_setIfInBounds_self_of_lt (Array.getElem?_eq_some_iff.1 h0).1]
  · rw [if_neg hij] at e
    rw [Array.getElem?_setIfInBounds_ne (by omega)]
    exact h j u e
/- What makeBare of an expression leaves. -/
structure BE (W : World) (b o : Nat) (h : EH) (acs : List Value) (W' : World) : Prop where
  fr : Fr W.heap.size b o 8 W W'
  r : ∃ (na aa : Option Addr) (nc ac : Nat) (c : Array Value) (T : TypeId), W'.heap[b]? = some (.cells c T (0, 0)) ∧ Cl c o ({ h with na := na, nc := nc, aa := aa, ac := ac, pos := 0 } : EH).cl ∧ RowN W W' h.nn 9 (stL h.names) na ∧ RowN W W' h.an 28 acs aa ∧ Apart na aa
set_option maxRecDepth 100000 in
set_option maxHeartbeats 2000000 in
theorem bareE_any (w0 W : World) (h : EH) (b o : Nat) (c : Array Value) (T : TypeId) (hw : Below w0.heap.size w0 W) (hbn : w0.heap.size ≤ b) (hb : W.heap[b]? = some (.cells c T (0, 0))) (hc : Cl c o h.cl) (sm : h.Sm) (nl : h.nn = h.names.length) (nb : h.nn ≤ 1000000) (nr : SLs w0 h.na h.names) (ab : h.an ≤ 1000000) (acs : List Value) (al : acs.length = h.an * 8) (ar : NRd w0 h.aa acs) :
    Calls Tryz.prog 42 #[.iface 67 (.pointer (some ⟨b, o, none⟩))] W fun e W' => (∃ v, e = .returned v) ∧ BE W b o h acs W' := by
  obtain ⟨W1, hW1⟩ : ∃ W1, W1 = W.setCell ⟨b, o + 7, none⟩ (.int .i64 0) := ⟨_, rfl⟩
  have hb1 := set_at hb (o + 7) (.int .i64 0)
  rw [← hW1] at hb1
  have hc1 : Cl (c.setIfInBounds (o + 7) (.int .i64 0)) o (h.cl.set 7 (.int .i64 0)) := hc.set 7 (by simp [EH.cl]) (.int .i64 0)
  have fr1 : Fr W.heap.size b o 8 W W1 := by rw [hW1]; exact Fr.set (o + 7) _ (by omega) (by omega)
  have c7 := cellT hb (o + 7)
  have f7 := freeT hb (o + 7)
  rw [hc 7 _ rfl] at c7
  generalize c.setIfInBounds (o + 7) (.int .i64 0) = c1 at hb1 hc1
  have KT := hid (texts_k W1.drew [(b, o + 3), (b, o + 4)] 107 (by simp) (fun p hp => by
    rcases List.mem_cons.1 hp with rfl | hp
    · exact ⟨h.text, _, _, hb1, hc1 3 _ rfl, sm.t⟩
    · rcases List.mem_cons.1 hp with rfl | hp
      · exact ⟨h.name, _, _, hb1, hc1 4 _ rfl, sm.n⟩
      · cases hp))
  simp only [ptrsOf, List.map_cons, List.map_nil, List.length_cons, List.length_nil, Nat.reduceAdd, Nat.zero_add] at KT
  have hbl : b < W.heap.size := heap_lt hb
  have hw1 : Below w0.heap.size w0 W1 := hw.trans (fr1.bel.mono hbn)
  have HS1 := hid fr1.size
  have HW1 := hid hw1
  have K70 := hid (fun (V : World) (hV : Below W1.heap.size W1 V) => copied70_any V h.na h.nn h.nc (stL h.names) (by simp [stL, nl]) (fun j v e => by
    obtain ⟨b', off', ea, hcc⟩ := nr.nrd j v e
    exact ⟨b', off', ea, belowCell hcc (Nat.le_refl _) (hw1.trans (hV.mono hw1.size))⟩) nb)
  have K69 := hid (fun (V : World) (hV : Below W1.heap.size W1 V) => copied69_any V h.aa h.an h.ac acs al (fun j v e => by
    obtain ⟨b', off', ea, hcc⟩ := ar j v e
    exact ⟨b', off', ea, belowCell hcc (Nat.le_refl _) (hw1.trans (hV.mono hw1.size))⟩) ab)
  have HB1 := hid hb1
  have HC1 := hid hc1
  have HF1 := hid fr1
  have HBL := hid hbl
  have NL := hid nl
  have SM := hid sm.ns
  have nnI : (h.nn : Int) ≤ 1000000 := by omega
  have nbN := hid nb
  clear hb hc hb1 hc1 fr1 sm nl nr ar al ab hw hw1 hbn hbl nb
  obtain ⟨hb0, ho0, kind, op, int, text, name, na, nn, nc, aa, an, ac, pos, names⟩ := h
  simp only at KT K70 K69 HC1 NL SM nnI c7 nbN
  go_enter Tryz.func42, Tryz.ntmps42
  go_upto_region 22 with fail
  rw [← hW1]
  clear hW1 c7 f7
  go_region_held3 (fun w2 => True) (trivial) ((go_at_call 66; (refine (Hid.out KT).mono ?_; rintro e W2 ⟨⟨v2, rfl⟩, hb2⟩; have HB2 := hid (show Below W1.heap.size W1 W2 from (Below.refl _ W1).drew.trans hb2); clear hb2)))
  have HC2 := hid ((HB2.out.block b (heap_lt HB1.out)).trans HB1.out)
  have HZ : Hid (W.heap.size ≤ W2.heap.size) := hid (Nat.le_trans HS1.out HB2.out.size)
  have HZ1 := hid (fun (V : World) (hV : Below W2.heap.size W2 V) => (show Below W1.heap.size W1 V from HB2.out.trans (hV.mono HB2.out.size)))
  have ST := hid (fun (V : World) (hV : Below W2.heap.size W2 V) => (show V.cell? ⟨b, o + 5, none⟩ = some (.slice na nn nc) ∧ V.cell? ⟨b, o + 6, none⟩ = some (.slice aa an ac) from by
    have h0 := (hV.block b (heap_lt HC2.out)).trans HC2.out
    exact ⟨by rw [cellT h0, HC1.out 5 _ rfl], by rw [cellT h0, HC1.out 6 _ rfl]⟩))
  have z2 := ST.out W2 (Below.refl _ _)
  go_upto_region 23 with fail
  refine wp_region_J 14 (fun w : World => (w.cell? ⟨b, o + 5, none⟩ = some (.slice na nn nc) ∧ w.cell? ⟨b, o + 6, none⟩ = some (.slice aa an ac)) ∧ Below W2.heap.size W2 w) (by kernel_rfl) ⟨z2, (Below.refl _ W2).drew⟩ (fun hHeld => ?_)
  refine wpAnyJ_takeW (i := 0) (oi := { dst := some 172, op := Go.Op.move (Go.Operand.tmp 6), type := 67, pos := "parts.go:94", after := #[], guard := none }) (v := ?_) rfl (by kernel_rfl) (by kernel_rfl) (by kernel_rfl) (by kernel_rfl) (fun _ _ _ h => h) (Or.inl ⟨by rfl, ?_⟩) (Or.inr (by assumption)) ?_
  rotate_left
  · (intro w hSw; (try dsimp only at hSw); go_simp; (try with_reducible rfl))
  (try simp only [Act.put, List.setIfInBounds_toArray, List.set_cons_zero, List.set_cons_succ])
  refine wpAnyJ_takeW (i := 1) (oi := { dst := some 173, op := Go.Op.move (Go.Operand.tmp 6), type := 67, pos := "parts.go:94", after := #[{ on := 14, ground := Go.Ground.gcOnly Go.Departure.lateStores }], guard := none }) (v := ?_) rfl (by kernel_rfl) (by kernel_rfl) (by kernel_rfl) (by kernel_rfl) (fun _ _ _ h => h) (Or.inl ⟨by rfl, ?_⟩) (Or.inr (by assumption)) ?_
  rotate_left
  · (intro w hSw; (try dsimp only at hSw); go_simp; (try with_reducible rfl))
  (try simp only [Act.put, List.setIfInBounds_toArray, List.set_cons_zero, List.set_cons_succ])
  refine wpAnyJ_takeW (i := 2) (oi := { dst := some 174, op := Go.Op.move (Go.Operand.tmp 6), type := 67, pos := "parts.go:94", after := #[], guard := none }) (v := ?_) rfl (by kernel_rfl) (by kernel_rfl) (by kernel_rfl) (by kernel_rfl) (fun _ _ _ h => h) (Or.inl ⟨by rfl, ?_⟩) (Or.inr (by assumption)) ?_
  rotate_left
  · (intro w hSw; (try dsimp only at hSw); go_simp; (try with_reducible rfl))
  (try simp only [Act.put, List.setIfInBounds_toArray, List.set_cons_zero, List.set_cons_succ])
  refine wpAnyJ_takeW (i := 3) (oi := { dst := some 175, op := Go.Op.nilCheck (Go.Operand.tmp 174), type := 0, pos := "parts.go:94", after := #[{ on := 2, ground := Go.Ground.data }], guard := none }) (v := ?_) rfl (by kernel_rfl) (by kernel_rfl) (by kernel_rfl) (by kernel_rfl) (fun _ _ _ h => h) (Or.inl ⟨by rfl, ?_⟩) (Or.inr (by assumption)) ?_
  rotate_left
  · (intro w hSw; (try dsimp only at hSw); go_simp; (try with_reducible rfl))
  (try simp only [Act.put, List.setIfInBounds_toArray, List.set_cons_zero, List.set_cons_succ])
  refine wpAnyJ_takeW (i := 4) (oi := { dst := some 176, op := Go.Op.fieldAddr 28 (Go.Operand.tmp 175) 5, type := 0, pos := "parts.go:94", after := #[{ on := 3, ground := Go.Ground.data }], guard := none }) (v := ?_) rfl (by kernel_rfl) (by kernel_rfl) (by kernel_rfl) (by kernel_rfl) (fun _ _ _ h => h) (Or.inl ⟨by rfl, ?_⟩) (Or.inr (by assumption)) ?_
  rotate_left
  · (intro w hSw; (try dsimp only at hSw); go_simp; (try with_reducible rfl))
  (try simp only [Act.put, List.setIfInBounds_toArray, List.set_cons_zero, List.set_cons_succ])
  refine wpAnyJ_take (i := 5) (oi := { dst := some 177, op := Go.Op.load 25 (Go.Operand.tmp 176), type := 25, pos := "parts.go:94", after := #[{ on := 4, ground := Go.Ground.data }], guard := none }) (v := ?_) [14] rfl (by kernel_rfl) (by kernel_rfl) (by kernel_rfl) (by kernel_rfl) (fun _ _ _ h => h) (Or.inl ⟨by rfl, ?_⟩) (by assumption) ?_
  rotate_left
  · (intro w hSw; (try dsimp only at hSw); go_simp; (try with_reducible rfl))
  (try simp only [Act.put, List.setIfInBounds_toArray, List.set_cons_zero, List.set_cons_succ])
  refine wpAnyJ_takeW (i := 7) (oi := { dst := some 179, op := Go.Op.move (Go.Operand.tmp 6), type := 67, pos := "parts.go:94", after := #[], guard := none }) (v := ?_) rfl (by kernel_rfl) (by kernel_rfl) (by kernel_rfl) (by kernel_rfl) (fun _ _ _ h => h) (Or.inl ⟨by rfl, ?_⟩) (Or.inr (by assumption)) ?_
  rotate_left
  · (intro w hSw; (try dsimp only at hSw); go_simp; (try with_reducible rfl))
  (try simp only [Act.put, List.setIfInBounds_toArray, List.set_cons_zero, List.set_cons_succ])
  refine wpAnyJ_takeW (i := 8) (oi := { dst := some 180, op := Go.Op.nilCheck (Go.Operand.tmp 179), type := 0, pos := "parts.go:94", after := #[{ on := 7, ground := Go.Ground.data }], guard := none }) (v := ?_) rfl (by kernel_rfl) (by kernel_rfl) (by kernel_rfl) (by kernel_rfl) (fun _ _ _ h => h) (Or.inl ⟨by rfl, ?_⟩) (Or.inr (by assumption)) ?_
  rotate_left
  · (intro w hSw; (try dsimp only at hSw); go_simp; (try with_reducible rfl))
  (try simp only [Act.put, List.setIfInBounds_toArray, List.set_cons_zero, List.set_cons_succ])
  refine wpAnyJ_takeW (i := 9) (oi := { dst := some 181, op := Go.Op.fieldAddr 28 (Go.Operand.tmp 180) 6, type := 0, pos := "parts.go:94", after := #[{ on := 8, ground := Go.Ground.data }], guard := none }) (v := ?_) rfl (by kernel_rfl) (by kernel_rfl) (by kernel_rfl) (by kernel_rfl) (fun _ _ _ h => h) (Or.inl ⟨by rfl, ?_⟩) (Or.inr (by assumption)) ?_
  rotate_left
  · (intro w hSw; (try dsimp only at hSw); go_simp; (try with_reducible rfl))
  (try simp only [Act.put, List.setIfInBounds_toArray, List.set_cons_zero, List.set_cons_succ])
  refine wpAnyJ_take (i := 10) (oi := { dst := some 182, op := Go.Op.load 26 (Go.Operand.tmp 181), type := 26, pos := "parts.go:94", after := #[{ on := 9, ground := Go.Ground.data }], guard := none }) (v := ?_) [14] rfl (by kernel_rfl) (by kernel_rfl) (by kernel_rfl) (by kernel_rfl) (fun _ _ _ h => h) (Or.inl ⟨by rfl, ?_⟩) (by assumption) ?_
  rotate_left
  · (intro w hSw; (try dsimp only at hSw); go_simp; (try with_reducible rfl))
  (try simp only [Act.put, List.setIfInBounds_toArray, List.set_cons_zero, List.set_cons_succ])
  refine wpAnyJ_one (i := 6) (o := { dst := some 178, op := Go.Op.call { callee := Go.Callee.value (Go.Operand.func 70), args := #[Go.Operand.tmp 177], argTypes := #[25] }, type := 25, pos := "parts.go:94", after := #[{ on := 5, ground := Go.Ground.data }], guard := none }) (by kernel_rfl) rfl (fun K hK => ?_)
  go_simp
  (refine (Hid.out K70 _ (HZ1.out _ hHeld.2)).mono ?_; rintro e w9 ⟨v9, rfl, hc9⟩; obtain ⟨na2, nc2, rfl, hr9, hb9, _⟩ := hc9.row (V := W) (Nat.le_trans HZ.out hHeld.2.size); have h9 : Below W2.heap.size W2 w9 := hHeld.2.trans (hb9.mono hHeld.2.size); have HR9 := hid hr9; have z9 := ST.out w9 h9; clear hc9 hr9 hb9)
  try go_wp2_with fail
  refine hK.out _ _ ⟨z9, h9⟩ (fun hHeldN => ?_)
  clear hK K hHeld
  have hHeld := hHeldN
  clear hHeldN
  (try simp only [Act.put, List.setIfInBounds_toArray, List.set_cons_zero, List.set_cons_succ])
  refine wpAnyJ_one (i := 11) (o := { dst := some 183, op := Go.Op.call { callee := Go.Callee.value (Go.Operand.func 69), args := #[Go.Operand.tmp 182], argTypes := #[26] }, type := 26, pos := "parts.go:94", after := #[{ on := 10, ground := Go.Ground.data }, { on := 6, ground := Go.Ground.chain }], guard := none }) (by kernel_rfl) rfl (fun K hK => ?_)
  go_simp
  (refine (Hid.out K69 _ (HZ1.out _ hHeld.2)).mono ?_; rintro e w8 ⟨v8, rfl, hc8⟩; obtain ⟨aa2, ac2, rfl, hr8, hb8, hy8⟩ := hc8.row (V := W) (Nat.le_trans HZ.out hHeld.2.size); have h8 : Below W2.heap.size W2 w8 := hHeld.2.trans (hb8.mono hHeld.2.size); have HR8 := hid hr8; have HNA : Hid (Apart na2 aa2) := hid (fun x y e1 e2 => by have := (HR9.out.1 x e1).2; have := hy8 y e2; omega); clear hy8; have HR7 := hid (HR9.out.below hb8); have z8 := ST.out w8 h8; have H8 := hid h8; have HC := hid ((h8.block b (heap_lt HC2.out)).trans HC2.out); have f5 := freeT HC.out (o + 5); clear hc8 hr8 hb8 HR9)
  try go_wp2_with fail
  refine hK.out _ _ ⟨z8, h8⟩ (fun hHeldN => ?_)
  clear hK K hHeld
  have hHeld := hHeldN
  clear hHeldN
  (try simp only [Act.put, List.setIfInBounds_toArray, List.set_cons_zero, List.set_cons_succ])
  refine wpAnyJ_takeW (i := 12) (oi := { dst := some 184, op := Go.Op.nilCheck (Go.Operand.tmp 172), type := 0, pos := "parts.go:94", after := #[{ on := 0, ground := Go.Ground.data }, { on := 0, ground := Go.Ground.phase }, { on := 1, ground := Go.Ground.textOnly Go.Departure.lateStores }, { on := 2, ground := Go.Ground.phase }, { on := 3, ground := Go.Ground.phase }, { on := 4, ground := Go.Ground.phase }, { on := 5, ground := Go.Ground.phase }, { on := 6, ground := Go.Ground.phase }, { on := 7, ground := Go.Ground.textOnly Go.Departure.lateStores }, { on := 8, ground := Go.Ground.textOnly Go.Departure.lateStoresUnsure }, { on := 9, ground := Go.Ground.textOnly Go.Departure.lateStoresUnsure }, { on := 10, ground := Go.Ground.phase }, { on := 11, ground := Go.Ground.phase }], guard := none }) (v := ?_) rfl (by kernel_rfl) (by kernel_rfl) (by kernel_rfl) (by kernel_rfl) (fun _ _ _ h => h) (Or.inl ⟨by rfl, ?_⟩) (Or.inr (by assumption)) ?_
  rotate_left
  · (intro w hSw; (try dsimp only at hSw); go_simp; (try with_reducible rfl))
  (try simp only [Act.put, List.setIfInBounds_toArray, List.set_cons_zero, List.set_cons_succ])
  refine wpAnyJ_takeW (i := 13) (oi := { dst := some 185, op := Go.Op.fieldAddr 28 (Go.Operand.tmp 184) 5, type := 0, pos := "parts.go:94", after := #[{ on := 12, ground := Go.Ground.data }, { on := 0, ground := Go.Ground.phase }, { on := 1, ground := Go.Ground.textOnly Go.Departure.lateStores }, { on := 2, ground := Go.Ground.phase }, { on := 3, ground := Go.Ground.phase }, { on := 4, ground := Go.Ground.phase }, { on := 5, ground := Go.Ground.phase }, { on := 6, ground := Go.Ground.phase }, { on := 7, ground := Go.Ground.textOnly Go.Departure.lateStores }, { on := 8, ground := Go.Ground.textOnly Go.Departure.lateStoresUnsure }, { on := 9, ground := Go.Ground.textOnly Go.Departure.lateStoresUnsure }, { on := 10, ground := Go.Ground.phase }, { on := 11, ground := Go.Ground.phase }], guard := none }) (v := ?_) rfl (by kernel_rfl) (by kernel_rfl) (by kernel_rfl) (by kernel_rfl) (fun _ _ _ h => h) (Or.inl ⟨by rfl, ?_⟩) (Or.inr (by assumption)) ?_
  rotate_left
  · (intro w hSw; (try dsimp only at hSw); go_simp; (try with_reducible rfl))
  (try simp only [Act.put, List.setIfInBounds_toArray, List.set_cons_zero, List.set_cons_succ])
  refine wpAnyJ_oneL (i := 14) (o := { dst := none, op := Go.Op.store 25 (Go.Operand.tmp 185) (Go.Operand.tmp 178), type := 0, pos := "parts.go:94", after := #[{ on := 13, ground := Go.Ground.data }, { on := 6, ground := Go.Ground.data }, { on := 11, ground := Go.Ground.chain }, { on := 0, ground := Go.Ground.phase }, { on := 1, ground := Go.Ground.textOnly Go.Departure.lateStores }, { on := 2, ground := Go.Ground.phase }, { on := 3, ground := Go.Ground.phase }, { on := 4, ground := Go.Ground.phase }, { on := 5, ground := Go.Ground.phase }, { on := 6, ground := Go.Ground.phase }, { on := 7, ground := Go.Ground.textOnly Go.Departure.lateStores }, { on := 8, ground := Go.Ground.textOnly Go.Departure.lateStoresUnsure }, { on := 9, ground := Go.Ground.textOnly Go.Departure.lateStoresUnsure }, { on := 10, ground := Go.Ground.phase }, { on := 11, ground := Go.Ground.phase }], guard := none }) (by kernel_rfl) (by kernel_rfl) rfl (fun K hK => ?_)
  have q5 := z8.1
  go_simp
  have HD := hid (set_at HC.out (o + 5) (.slice na2 nn nc2))
  have f6 := freeT HD.out (o + 6)
  have q6 : (w8.setCell ⟨b, o + 5, none⟩ (.slice na2 nn nc2)).cell? ⟨b, o + 6, none⟩ = some (.slice aa an ac) := by rw [World.cell?_setCell_other _ _ _ _ (by intro e; injection e with e1 e2; omega)]; exact z8.2
  refine hK.out _ _ ?_
  clear hK K
  clear hHeld
  (try simp only [Act.put, List.setIfInBounds_toArray, List.set_cons_zero, List.set_cons_succ])
  refine wpAnyJ_takeW (i := 15) (oi := { dst := some 186, op := Go.Op.nilCheck (Go.Operand.tmp 173), type := 0, pos := "parts.go:94", after := #[{ on := 1, ground := Go.Ground.data }, { on := 0, ground := Go.Ground.phase }, { on := 1, ground := Go.Ground.phase }, { on := 2, ground := Go.Ground.phase }, { on := 3, ground := Go.Ground.phase }, { on := 4, ground := Go.Ground.phase }, { on := 5, ground := Go.Ground.phase }, { on := 6, ground := Go.Ground.phase }, { on := 7, ground := Go.Ground.phase }, { on := 8, ground := Go.Ground.phase }, { on := 9, ground := Go.Ground.phase }, { on := 10, ground := Go.Ground.phase }, { on := 11, ground := Go.Ground.phase }, { on := 12, ground := Go.Ground.phase }, { on := 13, ground := Go.Ground.phase }, { on := 14, ground := Go.Ground.phase }], guard := none }) (v := ?_) rfl (by kernel_rfl) (by kernel_rfl) (by kernel_rfl) (by kernel_rfl) (fun _ _ _ h => h) (Or.inl ⟨by rfl, ?_⟩) (Or.inl (by kernel_rfl)) ?_
  rotate_left
  · (intro w hSw; (try dsimp only at hSw); go_simp; (try with_reducible rfl))
  (try simp only [Act.put, List.setIfInBounds_toArray, List.set_cons_zero, List.set_cons_succ])
  refine wpAnyJ_takeW (i := 16) (oi := { dst := some 187, op := Go.Op.fieldAddr 28 (Go.Operand.tmp 186) 6, type := 0, pos := "parts.go:94", after := #[{ on := 15, ground := Go.Ground.data }, { on := 0, ground := Go.Ground.phase }, { on := 1, ground := Go.Ground.phase }, { on := 2, ground := Go.Ground.phase }, { on := 3, ground := Go.Ground.phase }, { on := 4, ground := Go.Ground.phase }, { on := 5, ground := Go.Ground.phase }, { on := 6, ground := Go.Ground.phase }, { on := 7, ground := Go.Ground.phase }, { on := 8, ground := Go.Ground.phase }, { on := 9, ground := Go.Ground.phase }, { on := 10, ground := Go.Ground.phase }, { on := 11, ground := Go.Ground.phase }, { on := 12, ground := Go.Ground.phase }, { on := 13, ground := Go.Ground.phase }, { on := 14, ground := Go.Ground.phase }], guard := none }) (v := ?_) rfl (by kernel_rfl) (by kernel_rfl) (by kernel_rfl) (by kernel_rfl) (fun _ _ _ h => h) (Or.inl ⟨by rfl, ?_⟩) (Or.inl (by kernel_rfl)) ?_
  rotate_left
  · (intro w hSw; (try dsimp only at hSw); go_simp; (try with_reducible rfl))
  (try simp only [Act.put, List.setIfInBounds_toArray, List.set_cons_zero, List.set_cons_succ])
  refine wpAnyJ_oneL (i := 17) (o := { dst := none, op := Go.Op.store 26 (Go.Operand.tmp 187) (Go.Operand.tmp 183), type := 0, pos := "parts.go:94", after := #[{ on := 16, ground := Go.Ground.data }, { on := 11, ground := Go.Ground.data }, { on := 14, ground := Go.Ground.chain }, { on := 0, ground := Go.Ground.phase }, { on := 1, ground := Go.Ground.phase }, { on := 2, ground := Go.Ground.phase }, { on := 3, ground := Go.Ground.phase }, { on := 4, ground := Go.Ground.phase }, { on := 5, ground := Go.Ground.phase }, { on := 6, ground := Go.Ground.phase }, { on := 7, ground := Go.Ground.phase }, { on := 8, ground := Go.Ground.phase }, { on := 9, ground := Go.Ground.phase }, { on := 10, ground := Go.Ground.phase }, { on := 11, ground := Go.Ground.phase }, { on := 12, ground := Go.Ground.phase }, { on := 13, ground := Go.Ground.phase }, { on := 14, ground := Go.Ground.phase }], guard := none }) (by kernel_rfl) (by kernel_rfl) rfl (fun K hK => ?_)
  go_simp
  refine hK.out _ _ ?_
  clear hK K
  (try simp only [Act.put, List.setIfInBounds_toArray, List.set_cons_zero, List.set_cons_succ])
  refine wpAnyJ_done (by kernel_rfl) ?_
  clear z2 z9 z8 q5 q6 f5 f6 KT K70 K69 ST
  have HE := hid (set_at HD.out (o + 6) (.slice aa2 an ac2))
  have HCE : Hid (Cl (((c1.setIfInBounds (o + 5) (.slice na2 nn nc2))).setIfInBounds (o + 6) (.slice aa2 an ac2)) o ({ b := hb0, o := ho0, kind := kind, op := op, int := int, text := text, name := name, na := na2, nn := nn, nc := nc2, aa := aa2, an := an, ac := ac2, pos := 0, names := names } : EH).cl) := hid ((HC1.out.set 5 (by simp [EH.cl]) (.slice na2 nn nc2)).set 6 (by simp [EH.cl]) (.slice aa2 an ac2))
  have HFX : Hid (Fr w8.heap.size b o 8 w8 ((w8.setCell ⟨b, o + 5, none⟩ (.slice na2 nn nc2)).setCell ⟨b, o + 6, none⟩ (.slice aa2 an ac2))) := hid ((Fr.set (o + 5) _ (by omega) (by omega)).trans (Fr.set (o + 6) _ (by omega) (by omega)))
  generalize (w8.setCell ⟨b, o + 5, none⟩ (.slice na2 nn nc2)).setCell ⟨b, o + 6, none⟩ (.slice aa2 an ac2) = W5 at *
  generalize (c1.setIfInBounds (o + 5) (.slice na2 nn nc2)).setIfInBounds (o + 6) (.slice aa2 an ac2) = c5 at *
  have HR5 := hid (HR7.out.fr HFX.out (Nat.le_refl _) HBL.out)
  have HA5 := hid (HR8.out.fr HFX.out (Nat.le_refl _) HBL.out)
  have HF5 : Hid (Fr W.heap.size b o 8 W W5) := hid ((HF1.out.trans (Fr.of HB2.out (heap_lt HB1.out) HS1.out)).trans ((Fr.of H8.out (heap_lt HC2.out) HZ.out).trans (HFX.out.mono (Nat.le_trans HZ.out H8.out.size) (Nat.le_refl _) (Nat.le_refl _))))
  have p5 := cellT HE.out (o + 5)
  rw [HCE.out 5 _ rfl] at p5
  clear HD HC HR7 HR8 HFX HF1 HB1 HC1 HC2 HB2 H8 HZ1
  go_wp2
  go_loopg [193] nn (fun g x wr => ∃ i : Nat, i + g = nn ∧ x = .int .i64 (i : Int) ∧ Below W5.heap.size W5 wr)
  case atStart => exact ⟨0, by omega, rfl, Below.refl _ _⟩
  case round =>
    obtain ⟨i, hi, rfl, hbr⟩ := hrel
    have HBR := hid hbr
    have HI := hid hi
    clear hbr p5
    cases gk with
    | zero =>
      have hin : i = nn := by omega
      subst hin
      clear hi
      go_wp2
      go_end0
      exact ⟨⟨_, rfl⟩, HF5.out.trans (Fr.of HBR.out (heap_lt HE.out) HF5.out.size), na2, aa2, nc2, ac2, c5, T, (HBR.out.block b (heap_lt HE.out)).trans HE.out, HCE.out, HR5.out.below HBR.out, HA5.out.below HBR.out, HNA.out⟩
    | succ g =>
      have hil : (i : Int) < (nn : Int) := by omega
      have hi0 : (0 : Int) ≤ (i : Int) := by omega
      have hbb := (HBR.out.block b (heap_lt HE.out)).trans HE.out
      have p5 := cellT hbb (o + 5)
      rw [HCE.out 5 _ rfl] at p5
      obtain ⟨A, cs, rfl, hA1, hA2, hA3⟩ := HR5.out.2 (by omega)
      have hA4 := (HBR.out.block A (heap_lt hA2)).trans hA2
      have hnl := NL.out
      obtain ⟨s, hs⟩ : ∃ s, names[i]? = some s := ⟨names[i]'(by omega), List.getElem?_eq_getElem _⟩
      have K := hid (texts_k wr [(A, i)] 107 (by simp) (fun p hp => by
        rcases List.mem_cons.1 hp with rfl | hp
        · exact ⟨s, cs, 9, hA4, hA3 i _ (by simp [stL, hs]), SM.out s (List.mem_of_getElem? hs)⟩
        · cases hp))
      simp only [ptrsOf, List.map_cons, List.map_nil, List.length_cons, List.length_nil, Nat.reduceAdd, Nat.zero_add] at K
      clear hi hbb hA1 hA2 hA3 hA4 hnl hs
      go_wp2_with (go_at_call 66; (refine (Hid.out K).mono ?_; rintro e w9 ⟨⟨v9, rfl⟩, hb9⟩; have HB9 := hid hb9; clear hb9))
      go_roundg g
      case measure => omega
      case rel => exact ⟨i + 1, by have := HI.out; omega, by go_num, HBR.out.trans (HB9.out.mono HBR.out.size)⟩
end Go.Proofs.YtdfambocenohgaaGreatDoor

namespace Go.Proofs.YtdfambocenohgaaGreatDoor
set_option linter.unusedSimpArgs false
open Go
set_option linter.unusedVariables false
section
variable {P : Program} {ops : Array Oper} {Q : Exit → Act → World → Prop} {md : Region.Mode} {S0 S : World → Prop} {L : Nat}
/- Whatever order is picked; S holds behind every operation up to number L. -/
def wpAnyG (P : Program) (md : Region.Mode) (ops : Array Oper) (Q : Exit → Act → World → Prop) (L : Nat) (S0 S : World → Prop) : Nat → Array Bool → Act → World → Prop
  | 0, listed, a, w => Region.ready md ops listed = [] ∧ Q .normal a w
  | fuel + 1, listed, a, w =>
    (Region.ready md ops listed = [] → Q .normal a w) ∧
    ∀ i ∈ Region.ready md ops listed, wpOp P ops Q i (fun a' w' => (S0 w' ∧ (i = L ∨ listed.getD L true = true ∨ S w')) ∧ wpAnyG P md ops Q L S0 S fuel (listed.setIfInBounds i true) a' w') a w
theorem wpAny_of_G : ∀ (fuel : Nat) (listed : Array Bool) (a : Act) (w : World), wpAnyG P md ops Q L S0 S fuel listed a w → wpAny P md ops Q fuel listed a w
  | 0, _, _, _, h => h
  | fuel + 1, _, _, _, h => ⟨h.1, fun i hi => wpOp_mono (fun a' w' h' => wpAny_of_G fuel _ a' w' h'.2) (h.2 i hi)⟩
theorem wpAnyG_first {i : Nat} {oi : Oper} {v : Value} {r : List Nat} (hi : ops[i]? = some oi) (hsel : ∀ (j : Nat) (o : Oper) cs b, ops[j]? = some o → o.op ≠ .select cs b)
    (hQ : ∀ c a w, Q (.panic c) (a.put oi.dst v) w → Q (.panic c) a w) (hLr : L ∈ r) :
    ∀ (fuel : Nat) (listed : Array Bool) (a : Act) (w : World),
      (∀ j oj, ops[j]? = some oj → j ≠ i → listed.getD j true = false → (∀ e ∈ oj.after, Region.binds md e = true → e.on ≠ i) → oi.apart ops oj = true) →
      i ∈ Region.ready md ops listed → chainOk md ops listed (i :: r) = true → YieldsIf P ops S oi v a → S0 w → S w →
      wpAnyG P md ops Q L S0 S fuel (listed.setIfInBounds i true) (a.put oi.dst v) w → wpAnyG P md ops Q L S0 S (fuel + 1) listed a w := by
  intro fuel
  induction fuel with
  | zero =>
    intro listed a w _ hr _ hy hS0 hS H
    refine ⟨fun h => (by rw [h] at hr; cases hr), fun j hj => ?_⟩
    by_cases hji : j = i
    · subst hji; exact hy.wpOp hi hS ⟨⟨hS0, .inr (.inr hS)⟩, H⟩
    · have := ready_mono hj hji
      rw [H.1] at this
      cases this
  | succ fuel ih =>
    intro listed a w hfree hr hch hy hS0 hS H
    refine ⟨fun h => (by rw [h] at hr; cases hr), fun j hj => ?_⟩
    by_cases hji : j = i
    · subst hji; exact hy.wpOp hi hS ⟨⟨hS0, .inr (.inr hS)⟩, H⟩
    · have h1 := H.2 j (ready_mono hj hji)
      obtain ⟨hjun, oj, hoj, hall⟩ := mem_ready.1 hj
      have hnot : ∀ e ∈ oj.after, Region.binds md e = true → e.on ≠ i := fun e he hb heq => by
        have h1 := hall e he hb
        have h0 := (mem_ready.1 hr).1
        rw [heq] at h1
        rcases Nat.lt_or_ge i listed.size with h' | h'
        · simp [h'] at h0 h1; rw [h0] at h1; cases h1
        · simp [Array.getElem?_eq_none h'] at h1
      have hjr : j ∉ r := chainOk_ne hch hj
      have hjL : j ≠ L := fun e => hjr (by rw [e]; exact hLr)
      have hun := chainOk_un hch (List.mem_cons_of_mem _ hLr)
      have hiL : i ≠ L := fun e => by
        subst e
        cases r with
        | nil => cases hLr
        | cons d r => exact (chainOk_ne hch hr) hLr
      have h2 := wpOp_putIf hoj (hfree j oj hoj hji hjun hnot) (fun cs b => hsel i oi cs b hi) (fun cs b => hsel j oj cs b hoj) hQ hy h1
      have hfree' : ∀ k ok, ops[k]? = some ok → k ≠ i → (listed.setIfInBounds j true).getD k true = false →
          (∀ e ∈ ok.after, Region.binds md e = true → e.on ≠ i) → oi.apart ops ok = true := fun k ok hk hki hun hno => by
        refine hfree k ok hk hki ?_ hno
        by_cases hjk : j = k
        · subst hjk; exact hjun
        · rw [getD_set_ne true hjk] at hun; exact hun
      refine wpOp_mono (fun a' w' h3 => ?_) h2
      have hs' : S w' := by
        rcases h3.2.1.2 with h4 | h4 | h4
        · exact absurd h4 hjL
        · rw [getD_set_ne true hiL, hun] at h4; cases h4
        · exact h4
      refine ⟨⟨h3.2.1.1, .inr (.inr hs')⟩, ih (listed.setIfInBounds j true) a' w' hfree' (ready_mono hr (Ne.symm hji)) (chainOk_set hch (fun hm => (List.mem_cons.1 hm).elim hji hjr)) h3.1 h3.2.1.1 hs' ?_⟩
      rw [Array.setIfInBounds_comm _ _ hji]
      exact h3.2.2
theorem wpAnyG_take {i : Nat} {oi : Oper} {v : Value} {fuel : Nat} {listed : Array Bool} {a : Act} {w : World} (r : List Nat) (hi : ops[i]? = some oi)
    (hs : Region.noSelect ops = true) (hf : Region.free md ops listed i = true) (hr : (Region.ready md ops listed).contains i = true) (hc : (chainOk md ops listed (i :: r) && r.contains L) = true)
    (hQ : ∀ c a w, Q (.panic c) (a.put oi.dst v) w → Q (.panic c) a w) (hy : YieldsIf P ops S oi v a) (hS0 : S0 w) (hS : S w)
    (h : wpAnyG P md ops Q L S0 S fuel (listed.setIfInBounds i true) (a.put oi.dst v) w) : wpAnyG P md ops Q L S0 S (fuel + 1) listed a w := by
  simp only [Bool.and_eq_true] at hc
  exact wpAnyG_first hi (Region.noSelect_spec hs) hQ (by simpa using hc.2) fuel listed a w (Region.free_spec hi hf) (by simpa using hr) hc.1 hy hS0 hS h
/- What yields in whatever world is taken at any time. -/
theorem wpAnyG_firstW {i : Nat} {oi : Oper} {v : Value} (hi : ops[i]? = some oi) (hsel : ∀ (j : Nat) (o : Oper) cs b, ops[j]? = some o → o.op ≠ .select cs b)
    (hQ : ∀ c a w, Q (.panic c) (a.put oi.dst v) w → Q (.panic c) a w) (hiL : i ≠ L) :
    ∀ (fuel : Nat) (listed : Array Bool) (a : Act) (w : World),
      (∀ j oj, ops[j]? = some oj → j ≠ i → listed.getD j true = false → (∀ e ∈ oj.after, Region.binds md e = true → e.on ≠ i) → oi.apart ops oj = true) →
      i ∈ Region.ready md ops listed → YieldsIf P ops S0 oi v a → S0 w → (listed.getD L true = true ∨ S w) →
      wpAnyG P md ops Q L S0 S fuel (listed.setIfInBounds i true) (a.put oi.dst v) w → wpAnyG P md ops Q L S0 S (fuel + 1) listed a w := by
  intro fuel
  induction fuel with
  | zero =>
    intro listed a w _ hr hy hS0 hS H
    refine ⟨fun h => (by rw [h] at hr; cases hr), fun j hj => ?_⟩
    by_cases hji : j = i
    · subst hji; exact hy.wpOp hi hS0 ⟨⟨hS0, .inr hS⟩, H⟩
    · have := ready_mono hj hji
      rw [H.1] at this
      cases this
  | succ fuel ih =>
    intro listed a w hfree hr hy hS0 hS H
    refine ⟨fun h => (by rw [h] at hr; cases hr), fun j hj => ?_⟩
    by_cases hji : j = i
    · subst hji; exact hy.wpOp hi hS0 ⟨⟨hS0, .inr hS⟩, H⟩
    · have h1 := H.2 j (ready_mono hj hji)
      obtain ⟨hjun, oj, hoj, hall⟩ := mem_ready.1 hj
      have hnot : ∀ e ∈ oj.after, Region.binds md e = true → e.on ≠ i := fun e he hb heq => by
        have h1 := hall e he hb
        have h0 := (mem_ready.1 hr).1
        rw [heq] at h1
        rcases Nat.lt_or_ge i listed.size with h' | h'
        · simp [h'] at h0 h1; rw [h0] at h1; cases h1
        · simp [Array.getElem?_eq_none h'] at h1
      have h2 := wpOp_putIf hoj (hfree j oj hoj hji hjun hnot) (fun cs b => hsel i oi cs b hi) (fun cs b => hsel j oj cs b hoj) hQ hy h1
      have hfree' : ∀ k ok, ops[k]? = some ok → k ≠ i → (listed.setIfInBounds j true).getD k true = false →
          (∀ e ∈ ok.after, Region.binds md e = true → e.on ≠ i) → oi.apart ops ok = true := fun k ok hk hki hun hno => by
        refine hfree k ok hk hki ?_ hno
        by_cases hjk : j = k
        · subst hjk; exact hjun
        · rw [getD_set_ne true hjk] at hun; exact hun
      refine wpOp_mono (fun a' w' h3 => ?_) h2
      have hk : j = L ∨ listed.getD L true = true ∨ S w' := by
        rcases h3.2.1.2 with h4 | h4 | h4
        · exact .inl h4
        · rw [getD_set_ne true hiL] at h4; exact .inr (.inl h4)
        · exact .inr (.inr h4)
      have hk' : (listed.setIfInBounds j true).getD L true = true ∨ S w' := by
        rcases hk with rfl | h4 | h4
        · left
          rcases Nat.lt_or_ge j listed.size with h' | h'
          · simp [h']
          · simp [Array.getElem?_eq_none h']
        · left
          by_cases hjL : j = L
          · subst hjL
            rcases Nat.lt_or_ge j listed.size with h' | h'
            · simp [h']
            · simp [Array.getElem?_eq_none h']
          · rw [getD_set_ne true hjL]; exact h4
        · exact .inr h4
      refine ⟨⟨h3.2.1.1, hk⟩, ih (listed.setIfInBounds j true) a' w' hfree' (ready_mono hr (Ne.symm hji)) h3.1 h3.2.1.1 hk' ?_⟩
      rw [Array.setIfInBounds_comm _ _ hji]
      exact h3.2.2
theorem wpAnyG_takeW {i : Nat} {oi : Oper} {v : Value} {fuel : Nat} {listed : Array Bool} {a : Act} {w : World} (hi : ops[i]? = some oi)
    (hs : Region.noSelect ops = true) (hf : Region.free md ops listed i = true) (hr : (Region.ready md ops listed).contains i = true) (hc : (i == L) = false)
    (hQ : ∀ c a w, Q (.panic c) (a.put oi.dst v) w → Q (.panic c) a w) (hy : YieldsIf P ops S0 oi v a) (hS0 : S0 w) (hS : listed.getD L true = true ∨ S w)
    (h : wpAnyG P md ops Q L S0 S fuel (listed.setIfInBounds i true) (a.put oi.dst v) w) : wpAnyG P md ops Q L S0 S (fuel + 1) listed a w :=
  wpAnyG_firstW hi (Region.noSelect_spec hs) hQ (by simpa using hc) fuel listed a w (Region.free_spec hi hf) (by simpa using hr) hy hS0 hS h
/- One operation alone may come up, ahead of L. -/
theorem wpAnyG_one {i : Nat} {o : Oper} {fuel : Nat} {listed : Array Bool} {a : Act} {w : World} (hr : Region.ready md ops listed = [i]) (ho : ops[i]? = some o)
    (h : ∀ K' : Act → World → Prop, Shut (∀ a w, S0 w → S w → (S0 w → S w → wpAnyG P md ops Q L S0 S fuel (listed.setIfInBounds i true) a w) → K' a w) → if Region.wanted o (yielded ops a.tmps) = true then Oper.wp P o a w K' Q else K' (a.put o.dst undef) w) :
    wpAnyG P md ops Q L S0 S (fuel + 1) listed a w :=
  ⟨fun h0 => (by rw [hr] at h0; cases h0), fun j hj => by
    rw [hr] at hj
    have hji : j = i := by simpa using hj
    subst hji
    exact wpOp_step ho (fun K' hK => h K' (fun a w hS0 hS hW => hK a w ⟨⟨hS0, .inr (.inr hS)⟩, hW hS0 hS⟩))⟩
/- L itself, or one behind it. -/
theorem wpAnyG_oneL {i : Nat} {o : Oper} {fuel : Nat} {listed : Array Bool} {a : Act} {w : World} (hr : Region.ready md ops listed = [i]) (hc : (i == L || listed.getD L true) = true) (ho : ops[i]? = some o)
    (h : ∀ K' : Act → World → Prop, Shut (∀ a w, S0 w → (S0 w → wpAnyG P md ops Q L S0 S fuel (listed.setIfInBounds i true) a w) → K' a w) → if Region.wanted o (yielded ops a.tmps) = true then Oper.wp P o a w K' Q else K' (a.put o.dst undef) w) :
    wpAnyG P md ops Q L S0 S (fuel + 1) listed a w :=
  ⟨fun h0 => (by rw [hr] at h0; cases h0), fun j hj => by
    rw [hr] at hj
    have hji : j = i := by simpa using hj
    subst hji
    refine wpOp_step ho (fun K' hK => h K' (fun a w hS0 hW => hK a w ⟨⟨hS0, ?_⟩, hW hS0⟩))
    simp only [Bool.or_eq_true, beq_iff_eq] at hc
    rcases hc with h4 | h4
    · exact .inl h4
    · exact .inr (.inl h4)⟩
theorem wpAnyG_done {fuel : Nat} {listed : Array Bool} {a : Act} {w : World} (hr : Region.ready md ops listed = []) (h : Q .normal a w) : wpAnyG P md ops Q L S0 S fuel listed a w := by
  cases fuel with
  | zero => exact ⟨hr, h⟩
  | succ f => exact ⟨fun _ => h, by rw [hr]; simp⟩
theorem wp_region_G {id : Nat} {a : Act} {w : World} (L : Nat) (S0 S : World → Prop) (hm : P.follows .mixedOrders = true) (hS0 : S0 w.drew) (hS : S w.drew)
    (h : S0 w.drew → S w.drew → wpAnyG P .any ops Q L S0 S ops.size (Array.replicate ops.size false) a w.drew) : (Code.region id ops true).wp P Q a w :=
  wp_region_any hm (wpAny_of_G _ _ _ _ (h hS0 hS))
end
end Go.Proofs.YtdfambocenohgaaGreatDoor

