/- makeBare of a declaration. -/
import Derived.Test.YtdfambocenohgaaGreatDoorJAD
namespace Go.Proofs.YtdfambocenohgaaGreatDoor
open Go.RowKit Go.Deep Go.Shelf
set_option linter.unusedVariables false
set_option linter.unusedSimpArgs false
attribute [local go_sem] as58_58 as105_58 as101_58 as67_58 as58_105 as105_105 as101_105 as67_105 as58_101 as105_101 as101_101 as67_101 as58_67 as105_67 as101_67 as67_67
attribute [local go_sem] Oper.semAt_some
def DH.cl (h : DH) : List Value := [.string h.name, .slice h.pa h.pn h.pc, .string h.key, .string h.value, .string h.result, .slice h.ba h.bn h.bc, .int .i64 h.pos]
structure DH.Sm (h : DH) : Prop where
  n : smT h.name
  k : smT h.key
  v : smT h.value
  r : smT h.result
  ps : ∀ s ∈ h.params, smT s.1 ∧ smT s.2
def prL (l : List (ByteArray × ByteArray)) : List Value := l.flatMap fun s => [.string s.1, .string s.2]
theorem prL_len : ∀ l, (prL l).length = l.length * 2
  | [] => rfl
  | s :: l => by
    have := prL_len l
    unfold prL at this ⊢
    rw [List.flatMap_cons, List.length_append, this, List.length_cons]; simp; omega
theorem prL_at : ∀ (l : List (ByteArray × ByteArray)) (j : Nat) (s : ByteArray × ByteArray), l[j]? = some s → (prL l)[j * 2]? = some (.string s.1) ∧ (prL l)[j * 2 + 1]? = some (.string s.2)
  | [], j, s, e => by simp at e
  | p :: l, 0, s, e => by
    simp at e; subst e
    exact ⟨rfl, rfl⟩
  | p :: l, j + 1, s, e => by
    have e' : l[j]? = some s := by simpa using e
    have := prL_at l j s e'
    unfold prL at this ⊢
    rw [List.flatMap_cons, show (j + 1) * 2 = j * 2 + 2 by omega]
    exact this
theorem prL_of : ∀ (l : List (ByteArray × ByteArray)) (q : Nat) (v : Value), (prL l)[q]? = some v → ∃ s, l[q / 2]? = some s ∧ ((q % 2 = 0 ∧ v = .string s.1) ∨ (q % 2 = 1 ∧ v = .string s.2)) := fun l q v e => by
  have hq := (List.getElem?_eq_some_iff.1 e).1
  rw [prL_len] at hq
  have hj : q / 2 < l.length := by omega
  obtain ⟨h1, h2⟩ := prL_at l (q / 2) _ (List.getElem?_eq_getElem hj)
  refine ⟨_, List.getElem?_eq_getElem hj, ?_⟩
  rcases (show q % 2 = 0 ∨ q % 2 = 1 by omega) with h | h
  · left
    rw [show q / 2 * 2 = q by omega, e] at h1
    exact ⟨h, by injection h1⟩
  · right
    rw [show q / 2 * 2 + 1 = q by omega, e] at h2
    exact ⟨h, by injection h2⟩
theorem PLs.nrd {w : World} {a : Option Addr} {l : List (ByteArray × ByteArray)} (h : PLs w a l) : NRd w a (prL l) := fun q v e => by
  obtain ⟨s, hs, hv⟩ := prL_of l q v e
  obtain ⟨b, off, ea, h1, h2⟩ := h (q / 2) s hs
  refine ⟨b, off, ea, ?_⟩
  rcases hv with ⟨h0, rfl⟩ | ⟨h0, rfl⟩
  · rw [← h1]; congr 2; omega
  · rw [← h2]; congr 2; omega
theorem RowN.pls {V W : World} {n : Nat} {l : List (ByteArray × ByteArray)} {a : Option Addr} (h : RowN V W n 88 (prL l) a) (hn : n = l.length) : PLs W a l := fun j s e => by
  obtain ⟨A, cs, rfl, h2, h3, h4⟩ := h.2 (by have := (List.getElem?_eq_some_iff.1 e).1; omega)
  obtain ⟨e1, e2⟩ := prL_at l j s e
  refine ⟨A, 0, rfl, ?_, ?_⟩
  · rw [Nat.zero_add, cellT h3, h4 _ _ e1]
  · rw [Nat.zero_add, cellT h3, h4 _ _ e2]
/- What makeBare of a declaration leaves. -/
structure BD (W : World) (b o : Nat) (h : DH) (bcs : List Value) (W' : World) : Prop where
  fr : Fr W.heap.size b o 7 W W'
  r : ∃ (pa ba : Option Addr) (pc bc : Nat) (c : Array Value) (T : TypeId), W'.heap[b]? = some (.cells c T (0, 0)) ∧ Cl c o ({ h with pa := pa, pc := pc, ba := ba, bc := bc, pos := 0 } : DH).cl ∧ RowN W W' h.pn 88 (prL h.params) pa ∧ RowN W W' h.bn 49 bcs ba ∧ Apart pa ba
set_option maxRecDepth 100000 in
set_option maxHeartbeats 2000000 in
theorem bareD_any (w0 W : World) (h : DH) (b o : Nat) (c : Array Value) (T : TypeId) (hw : Below w0.heap.size w0 W) (hbn : w0.heap.size ≤ b) (hb : W.heap[b]? = some (.cells c T (0, 0))) (hc : Cl c o h.cl) (sm : h.Sm) (pl : h.pn = h.params.length) (pb : h.pn ≤ 1000000) (pr : PLs w0 h.pa h.params) (bb : h.bn ≤ 1000000) (bcs : List Value) (bl : bcs.length = h.bn * 8) (br : NRd w0 h.ba bcs) :
    Calls Tryz.prog 42 #[.iface 105 (.agg #[.string h.sort, .pointer (some ⟨b, o, none⟩)])] W fun e W' => (∃ v, e = .returned v) ∧ BD W b o h bcs W' := by
  obtain ⟨A0, hA0⟩ : ∃ A0, A0 = W.alloc (.cells #[.string h.sort, .pointer (some ⟨b, o, none⟩)] 105) := ⟨_, rfl⟩
  obtain ⟨X, hX⟩ : ∃ X, X = W.heap.size := ⟨_, rfl⟩
  obtain ⟨W1, hW1⟩ : ∃ W1, W1 = A0.setCell ⟨b, o + 6, none⟩ (.int .i64 0) := ⟨_, rfl⟩
  have hbl : b < W.heap.size := heap_lt hb
  have bA : Below W.heap.size W A0 := by rw [hA0]; exact (Below.refl _ W).alloc (Nat.le_refl _) _
  have xA : A0.heap[X]? = some (.cells #[.string h.sort, .pointer (some ⟨b, o, none⟩)] 105 (0, 0)) := by rw [hA0, hX]; exact heap_alloc_new W _
  have hbA := (bA.block b hbl).trans hb
  have hb1 := set_at hbA (o + 6) (.int .i64 0)
  have x1 : W1.heap[X]? = some (.cells #[.string h.sort, .pointer (some ⟨b, o, none⟩)] 105 (0, 0)) := by rw [hW1]; exact (Below.heap_setCell _ _ _ _ (by show X ≠ b; omega)).trans xA
  rw [← hW1] at hb1
  have hc1 : Cl (c.setIfInBounds (o + 6) (.int .i64 0)) o (h.cl.set 6 (.int .i64 0)) := hc.set 6 (by simp [DH.cl]) (.int .i64 0)
  have fr1 : Fr W.heap.size b o 7 W W1 := (Fr.of bA hbl (Nat.le_refl _)).trans (by rw [hW1]; exact Fr.set (o + 6) _ (by omega) (by omega))
  have c6 := cellT hbA (o + 6)
  have f6 := freeT hbA (o + 6)
  have xc := cellT xA 1
  simp only [List.getElem?_toArray, List.getElem?_cons_zero, List.getElem?_cons_succ] at xc
  rw [hc 6 _ rfl] at c6
  generalize c.setIfInBounds (o + 6) (.int .i64 0) = c1 at hb1 hc1
  have KT := hid (texts_k W1.drew [(b, o), (b, o + 2), (b, o + 3), (b, o + 4)] 107 (by simp) (fun p hp => by
    rcases List.mem_cons.1 hp with rfl | hp
    · exact ⟨h.name, _, _, hb1, hc1 0 _ rfl, sm.n⟩
    · rcases List.mem_cons.1 hp with rfl | hp
      · exact ⟨h.key, _, _, hb1, hc1 2 _ rfl, sm.k⟩
      · rcases List.mem_cons.1 hp with rfl | hp
        · exact ⟨h.value, _, _, hb1, hc1 3 _ rfl, sm.v⟩
        · rcases List.mem_cons.1 hp with rfl | hp
          · exact ⟨h.result, _, _, hb1, hc1 4 _ rfl, sm.r⟩
          · cases hp))
  simp only [ptrsOf, List.map_cons, List.map_nil, List.length_cons, List.length_nil, Nat.reduceAdd, Nat.zero_add] at KT
  have hw1 : Below w0.heap.size w0 W1 := hw.trans (fr1.bel.mono hbn)
  have HS1 := hid fr1.size
  have K67 := hid (fun (V : World) (hV : Below W1.heap.size W1 V) => copied67_any V h.pa h.pn h.pc (prL h.params) (by rw [prL_len, pl]) (nrd_in pr.nrd (hw1.trans (hV.mono hw1.size))) pb)
  have K68 := hid (fun (V : World) (hV : Below W1.heap.size W1 V) => copied68_any V h.ba h.bn h.bc bcs bl (nrd_in br (hw1.trans (hV.mono hw1.size))) bb)
  have HB1 := hid hb1
  have HX1 := hid x1
  have HC1 := hid hc1
  have HF1 := hid fr1
  have HBL := hid hbl
  have PL := hid pl
  have SM := hid sm.ps
  have pnI : (h.pn : Int) ≤ 1000000 := by omega
  have HXb : Hid (X ≠ b) := hid (by omega)
  have x1c := cellT x1 1
  simp only [List.getElem?_toArray, List.getElem?_cons_zero, List.getElem?_cons_succ] at x1c
  clear hb hc hb1 hc1 fr1 sm pl pr pb bb bl br hw hw1 hbn hbl bA xA hbA x1
  obtain ⟨sort, hb0, ho0, name, pa, pn, pc, key, value, result, ba, bn, bc, pos, params⟩ := h
  simp only at KT K67 K68 HC1 PL SM pnI c6 hA0 HX1
  go_enter Tryz.func42, Tryz.ntmps42
  rw [hA0] at c6 f6 xc
  rw [hX] at xc
  go_upto_region 7 with fail
  rw [← hA0, ← hX, ← hW1]
  clear hW1 hA0 hX c6 f6 xc
  go_region_held3 (fun w2 => w2.cell? ⟨X, 1, none⟩ = some (.pointer (some ⟨b, o, none⟩))) (first | go_keep | assumption) ((go_at_call 66; (refine (Hid.out KT).mono ?_; rintro e W2 ⟨⟨v2, rfl⟩, hb2⟩; have HB2 := hid (show Below W1.heap.size W1 W2 from (Below.refl _ W1).drew.trans hb2); have x2c := belowCell x1c (Nat.le_refl _) HB2.out; clear hb2)))
  have HC2 := hid ((HB2.out.block b (heap_lt HB1.out)).trans HB1.out)
  have HX2 := hid ((HB2.out.block X (heap_lt HX1.out)).trans HX1.out)
  have HZ : Hid (W.heap.size ≤ W2.heap.size) := hid (Nat.le_trans HS1.out HB2.out.size)
  have HZ1 := hid (fun (V : World) (hV : Below W2.heap.size W2 V) => (show Below W1.heap.size W1 V from HB2.out.trans (hV.mono HB2.out.size)))
  have ST := hid (fun (V : World) (hV : Below W2.heap.size W2 V) => (show V.cell? ⟨X, 1, none⟩ = some (.pointer (some ⟨b, o, none⟩)) ∧ V.cell? ⟨b, o + 1, none⟩ = some (.slice pa pn pc) ∧ V.cell? ⟨b, o + 5, none⟩ = some (.slice ba bn bc) from by
    have h0 := (hV.block b (heap_lt HC2.out)).trans HC2.out
    have h1 := (hV.block X (heap_lt HX2.out)).trans HX2.out
    exact ⟨by rw [cellT h1 1]; simp, by rw [cellT h0, HC1.out 1 _ rfl], by rw [cellT h0, HC1.out 5 _ rfl]⟩))
  have z2 := ST.out W2 (Below.refl _ _)
  clear x1c x2c
  go_upto_region 8 with fail
  refine wp_region_G 18 (fun w : World => w.cell? ⟨X, 1, none⟩ = some (.pointer (some ⟨b, o, none⟩))) (fun w : World => (w.cell? ⟨X, 1, none⟩ = some (.pointer (some ⟨b, o, none⟩)) ∧ w.cell? ⟨b, o + 1, none⟩ = some (.slice pa pn pc) ∧ w.cell? ⟨b, o + 5, none⟩ = some (.slice ba bn bc)) ∧ Below W2.heap.size W2 w) (by kernel_rfl) z2.1 ⟨z2, (Below.refl _ W2).drew⟩ (fun hHeld0 hHeld => ?_)
  refine wpAnyG_takeW (i := 0) (oi := { dst := some 69, op := Go.Op.fieldAddr 105 (Go.Operand.tmp 3) 1, type := 0, pos := "parts.go:83", after := #[], guard := none }) (v := ?_) rfl (by kernel_rfl) (by kernel_rfl) (by kernel_rfl) (by kernel_rfl) (fun _ _ _ h => h) (Or.inl ⟨by rfl, ?_⟩) (by assumption) (Or.inr (by assumption)) ?_
  rotate_left
  · (intro w hSw; (try dsimp only at hSw); go_simp; (try with_reducible rfl))
  (try simp only [Act.put, List.setIfInBounds_toArray, List.set_cons_zero, List.set_cons_succ])
  refine wpAnyG_take (i := 1) (oi := { dst := some 70, op := Go.Op.load 103 (Go.Operand.tmp 69), type := 103, pos := "parts.go:83", after := #[{ on := 0, ground := Go.Ground.data }], guard := none }) (v := ?_) [18] rfl (by kernel_rfl) (by kernel_rfl) (by kernel_rfl) (by kernel_rfl) (fun _ _ _ h => h) (Or.inl ⟨by rfl, ?_⟩) (by assumption) (by assumption) ?_
  rotate_left
  · (intro w hSw; (try dsimp only at hSw); go_simp; (try with_reducible rfl))
  (try simp only [Act.put, List.setIfInBounds_toArray, List.set_cons_zero, List.set_cons_succ])
  refine wpAnyG_takeW (i := 2) (oi := { dst := some 71, op := Go.Op.fieldAddr 105 (Go.Operand.tmp 3) 1, type := 0, pos := "parts.go:83", after := #[{ on := 18, ground := Go.Ground.gcOnly Go.Departure.lateStores }], guard := none }) (v := ?_) rfl (by kernel_rfl) (by kernel_rfl) (by kernel_rfl) (by kernel_rfl) (fun _ _ _ h => h) (Or.inl ⟨by rfl, ?_⟩) (by assumption) (Or.inr (by assumption)) ?_
  rotate_left
  · (intro w hSw; (try dsimp only at hSw); go_simp; (try with_reducible rfl))
  (try simp only [Act.put, List.setIfInBounds_toArray, List.set_cons_zero, List.set_cons_succ])
  refine wpAnyG_takeW (i := 3) (oi := { dst := some 72, op := Go.Op.load 103 (Go.Operand.tmp 71), type := 103, pos := "parts.go:83", after := #[{ on := 2, ground := Go.Ground.data }, { on := 18, ground := Go.Ground.gcOnly Go.Departure.lateStores }], guard := none }) (v := ?_) rfl (by kernel_rfl) (by kernel_rfl) (by kernel_rfl) (by kernel_rfl) (fun _ _ _ h => h) (Or.inl ⟨by rfl, ?_⟩) (by assumption) (Or.inr (by assumption)) ?_
  rotate_left
  · (intro w hSw; (try dsimp only at hSw); go_simp; (try with_reducible rfl))
  (try simp only [Act.put, List.setIfInBounds_toArray, List.set_cons_zero, List.set_cons_succ])
  refine wpAnyG_takeW (i := 4) (oi := { dst := some 73, op := Go.Op.fieldAddr 105 (Go.Operand.tmp 3) 1, type := 0, pos := "parts.go:83", after := #[], guard := none }) (v := ?_) rfl (by kernel_rfl) (by kernel_rfl) (by kernel_rfl) (by kernel_rfl) (fun _ _ _ h => h) (Or.inl ⟨by rfl, ?_⟩) (by assumption) (Or.inr (by assumption)) ?_
  rotate_left
  · (intro w hSw; (try dsimp only at hSw); go_simp; (try with_reducible rfl))
  (try simp only [Act.put, List.setIfInBounds_toArray, List.set_cons_zero, List.set_cons_succ])
  refine wpAnyG_take (i := 5) (oi := { dst := some 74, op := Go.Op.load 103 (Go.Operand.tmp 73), type := 103, pos := "parts.go:83", after := #[{ on := 4, ground := Go.Ground.data }], guard := none }) (v := ?_) [18] rfl (by kernel_rfl) (by kernel_rfl) (by kernel_rfl) (by kernel_rfl) (fun _ _ _ h => h) (Or.inl ⟨by rfl, ?_⟩) (by assumption) (by assumption) ?_
  rotate_left
  · (intro w hSw; (try dsimp only at hSw); go_simp; (try with_reducible rfl))
  (try simp only [Act.put, List.setIfInBounds_toArray, List.set_cons_zero, List.set_cons_succ])
  refine wpAnyG_takeW (i := 6) (oi := { dst := some 75, op := Go.Op.nilCheck (Go.Operand.tmp 74), type := 0, pos := "parts.go:83", after := #[{ on := 5, ground := Go.Ground.data }], guard := none }) (v := ?_) rfl (by kernel_rfl) (by kernel_rfl) (by kernel_rfl) (by kernel_rfl) (fun _ _ _ h => h) (Or.inl ⟨by rfl, ?_⟩) (by assumption) (Or.inr (by assumption)) ?_
  rotate_left
  · (intro w hSw; (try dsimp only at hSw); go_simp; (try with_reducible rfl))
  (try simp only [Act.put, List.setIfInBounds_toArray, List.set_cons_zero, List.set_cons_succ])
  refine wpAnyG_takeW (i := 7) (oi := { dst := some 76, op := Go.Op.fieldAddr 52 (Go.Operand.tmp 75) 1, type := 0, pos := "parts.go:83", after := #[{ on := 6, ground := Go.Ground.data }], guard := none }) (v := ?_) rfl (by kernel_rfl) (by kernel_rfl) (by kernel_rfl) (by kernel_rfl) (fun _ _ _ h => h) (Or.inl ⟨by rfl, ?_⟩) (by assumption) (Or.inr (by assumption)) ?_
  rotate_left
  · (intro w hSw; (try dsimp only at hSw); go_simp; (try with_reducible rfl))
  (try simp only [Act.put, List.setIfInBounds_toArray, List.set_cons_zero, List.set_cons_succ])
  refine wpAnyG_take (i := 8) (oi := { dst := some 77, op := Go.Op.load 50 (Go.Operand.tmp 76), type := 50, pos := "parts.go:83", after := #[{ on := 7, ground := Go.Ground.data }], guard := none }) (v := ?_) [18] rfl (by kernel_rfl) (by kernel_rfl) (by kernel_rfl) (by kernel_rfl) (fun _ _ _ h => h) (Or.inl ⟨by rfl, ?_⟩) (by assumption) (by assumption) ?_
  rotate_left
  · (intro w hSw; (try dsimp only at hSw); go_simp; (try with_reducible rfl))
  (try simp only [Act.put, List.setIfInBounds_toArray, List.set_cons_zero, List.set_cons_succ])
  refine wpAnyG_takeW (i := 10) (oi := { dst := some 79, op := Go.Op.fieldAddr 105 (Go.Operand.tmp 3) 1, type := 0, pos := "parts.go:83", after := #[], guard := none }) (v := ?_) rfl (by kernel_rfl) (by kernel_rfl) (by kernel_rfl) (by kernel_rfl) (fun _ _ _ h => h) (Or.inl ⟨by rfl, ?_⟩) (by assumption) (Or.inr (by assumption)) ?_
  rotate_left
  · (intro w hSw; (try dsimp only at hSw); go_simp; (try with_reducible rfl))
  (try simp only [Act.put, List.setIfInBounds_toArray, List.set_cons_zero, List.set_cons_succ])
  refine wpAnyG_take (i := 11) (oi := { dst := some 80, op := Go.Op.load 103 (Go.Operand.tmp 79), type := 103, pos := "parts.go:83", after := #[{ on := 10, ground := Go.Ground.data }], guard := none }) (v := ?_) [12, 13, 14, 18] rfl (by kernel_rfl) (by kernel_rfl) (by kernel_rfl) (by kernel_rfl) (fun _ _ _ h => h) (Or.inl ⟨by rfl, ?_⟩) (by assumption) (by assumption) ?_
  rotate_left
  · (intro w hSw; (try dsimp only at hSw); go_simp; (try with_reducible rfl))
  (try simp only [Act.put, List.setIfInBounds_toArray, List.set_cons_zero, List.set_cons_succ])
  refine wpAnyG_takeW (i := 12) (oi := { dst := some 81, op := Go.Op.nilCheck (Go.Operand.tmp 80), type := 0, pos := "parts.go:83", after := #[{ on := 11, ground := Go.Ground.data }], guard := none }) (v := ?_) rfl (by kernel_rfl) (by kernel_rfl) (by kernel_rfl) (by kernel_rfl) (fun _ _ _ h => h) (Or.inl ⟨by rfl, ?_⟩) (by assumption) (Or.inr (by assumption)) ?_
  rotate_left
  · (intro w hSw; (try dsimp only at hSw); go_simp; (try with_reducible rfl))
  (try simp only [Act.put, List.setIfInBounds_toArray, List.set_cons_zero, List.set_cons_succ])
  refine wpAnyG_takeW (i := 13) (oi := { dst := some 82, op := Go.Op.fieldAddr 52 (Go.Operand.tmp 81) 5, type := 0, pos := "parts.go:83", after := #[{ on := 12, ground := Go.Ground.data }], guard := none }) (v := ?_) rfl (by kernel_rfl) (by kernel_rfl) (by kernel_rfl) (by kernel_rfl) (fun _ _ _ h => h) (Or.inl ⟨by rfl, ?_⟩) (by assumption) (Or.inr (by assumption)) ?_
  rotate_left
  · (intro w hSw; (try dsimp only at hSw); go_simp; (try with_reducible rfl))
  (try simp only [Act.put, List.setIfInBounds_toArray, List.set_cons_zero, List.set_cons_succ])
  refine wpAnyG_take (i := 14) (oi := { dst := some 83, op := Go.Op.load 47 (Go.Operand.tmp 82), type := 47, pos := "parts.go:83", after := #[{ on := 13, ground := Go.Ground.data }], guard := none }) (v := ?_) [18] rfl (by kernel_rfl) (by kernel_rfl) (by kernel_rfl) (by kernel_rfl) (fun _ _ _ h => h) (Or.inl ⟨by rfl, ?_⟩) (by assumption) (by assumption) ?_
  rotate_left
  · (intro w hSw; (try dsimp only at hSw); go_simp; (try with_reducible rfl))
  (try simp only [Act.put, List.setIfInBounds_toArray, List.set_cons_zero, List.set_cons_succ])
  refine wpAnyG_one (i := 9) (o := { dst := some 78, op := Go.Op.call { callee := Go.Callee.value (Go.Operand.func 67), args := #[Go.Operand.tmp 77], argTypes := #[50] }, type := 50, pos := "parts.go:83", after := #[{ on := 8, ground := Go.Ground.data }], guard := none }) (by kernel_rfl) rfl (fun K hK => ?_)
  go_simp
  (refine (Hid.out K67 _ (HZ1.out _ hHeld.2)).mono ?_; rintro e w9 ⟨vv, rfl, hcx⟩; obtain ⟨pa2, pc2, rfl, hrx, hbx, hyx⟩ := hcx.row (V := W) (Nat.le_trans HZ.out hHeld.2.size); have h9 : Below W2.heap.size W2 w9 := hHeld.2.trans (hbx.mono hHeld.2.size); have HR9 := hid hrx; have z9 := ST.out w9 h9; clear hcx hrx hbx hyx)
  try go_wp2_with fail
  refine hK.out _ _ z9.1 ⟨z9, h9⟩ (fun hHeld0N hHeldN => ?_)
  clear hK K hHeld hHeld0
  have hHeld := hHeldN
  have hHeld0 := hHeld0N
  clear hHeldN hHeld0N
  (try simp only [Act.put, List.setIfInBounds_toArray, List.set_cons_zero, List.set_cons_succ])
  refine wpAnyG_one (i := 15) (o := { dst := some 84, op := Go.Op.call { callee := Go.Callee.value (Go.Operand.func 68), args := #[Go.Operand.tmp 83], argTypes := #[47] }, type := 47, pos := "parts.go:83", after := #[{ on := 14, ground := Go.Ground.data }, { on := 9, ground := Go.Ground.chain }], guard := none }) (by kernel_rfl) rfl (fun K hK => ?_)
  go_simp
  (refine (Hid.out K68 _ (HZ1.out _ hHeld.2)).mono ?_; rintro e w8 ⟨vv, rfl, hcx⟩; obtain ⟨ba2, bc2, rfl, hrx, hbx, hyx⟩ := hcx.row (V := W) (Nat.le_trans HZ.out hHeld.2.size); have h8 : Below W2.heap.size W2 w8 := hHeld.2.trans (hbx.mono hHeld.2.size); have HR8 := hid hrx; have HNA : Hid (Apart pa2 ba2) := hid (fun x y e1 e2 => by have := (HR9.out.1 x e1).2; have := hyx y e2; omega); have HR7 := hid (HR9.out.below hbx); clear HR9; have H8 := hid h8; have HC := hid ((h8.block b (heap_lt HC2.out)).trans HC2.out); have x8 := h8.block X (heap_lt HX2.out); have f5 := freeT HC.out (o + 1); have z8 := ST.out w8 h8; clear hcx hrx hbx hyx)
  try go_wp2_with fail
  refine hK.out _ _ z8.1 ⟨z8, h8⟩ (fun hHeld0N hHeldN => ?_)
  clear hK K hHeld hHeld0
  have hHeld := hHeldN
  have hHeld0 := hHeld0N
  clear hHeldN hHeld0N
  (try simp only [Act.put, List.setIfInBounds_toArray, List.set_cons_zero, List.set_cons_succ])
  refine wpAnyG_takeW (i := 16) (oi := { dst := some 85, op := Go.Op.nilCheck (Go.Operand.tmp 70), type := 0, pos := "parts.go:83", after := #[{ on := 1, ground := Go.Ground.data }, { on := 0, ground := Go.Ground.phase }, { on := 1, ground := Go.Ground.phase }, { on := 2, ground := Go.Ground.textOnly Go.Departure.lateStores }, { on := 3, ground := Go.Ground.textOnly Go.Departure.lateStores }, { on := 4, ground := Go.Ground.phase }, { on := 5, ground := Go.Ground.phase }, { on := 6, ground := Go.Ground.phase }, { on := 7, ground := Go.Ground.phase }, { on := 8, ground := Go.Ground.phase }, { on := 9, ground := Go.Ground.phase }, { on := 10, ground := Go.Ground.textOnly Go.Departure.lateStores }, { on := 11, ground := Go.Ground.textOnly Go.Departure.lateStores }, { on := 12, ground := Go.Ground.textOnly Go.Departure.lateStoresUnsure }, { on := 13, ground := Go.Ground.textOnly Go.Departure.lateStoresUnsure }, { on := 14, ground := Go.Ground.phase }, { on := 15, ground := Go.Ground.phase }], guard := none }) (v := ?_) rfl (by kernel_rfl) (by kernel_rfl) (by kernel_rfl) (by kernel_rfl) (fun _ _ _ h => h) (Or.inl ⟨by rfl, ?_⟩) (by assumption) (Or.inr (by assumption)) ?_
  rotate_left
  · (intro w hSw; (try dsimp only at hSw); go_simp; (try with_reducible rfl))
  (try simp only [Act.put, List.setIfInBounds_toArray, List.set_cons_zero, List.set_cons_succ])
  refine wpAnyG_takeW (i := 17) (oi := { dst := some 86, op := Go.Op.fieldAddr 52 (Go.Operand.tmp 85) 1, type := 0, pos := "parts.go:83", after := #[{ on := 16, ground := Go.Ground.data }, { on := 0, ground := Go.Ground.phase }, { on := 1, ground := Go.Ground.phase }, { on := 2, ground := Go.Ground.textOnly Go.Departure.lateStores }, { on := 3, ground := Go.Ground.textOnly Go.Departure.lateStores }, { on := 4, ground := Go.Ground.phase }, { on := 5, ground := Go.Ground.phase }, { on := 6, ground := Go.Ground.phase }, { on := 7, ground := Go.Ground.phase }, { on := 8, ground := Go.Ground.phase }, { on := 9, ground := Go.Ground.phase }, { on := 10, ground := Go.Ground.textOnly Go.Departure.lateStores }, { on := 11, ground := Go.Ground.textOnly Go.Departure.lateStores }, { on := 12, ground := Go.Ground.textOnly Go.Departure.lateStoresUnsure }, { on := 13, ground := Go.Ground.textOnly Go.Departure.lateStoresUnsure }, { on := 14, ground := Go.Ground.phase }, { on := 15, ground := Go.Ground.phase }], guard := none }) (v := ?_) rfl (by kernel_rfl) (by kernel_rfl) (by kernel_rfl) (by kernel_rfl) (fun _ _ _ h => h) (Or.inl ⟨by rfl, ?_⟩) (by assumption) (Or.inr (by assumption)) ?_
  rotate_left
  · (intro w hSw; (try dsimp only at hSw); go_simp; (try with_reducible rfl))
  (try simp only [Act.put, List.setIfInBounds_toArray, List.set_cons_zero, List.set_cons_succ])
  refine wpAnyG_oneL (i := 18) (o := { dst := none, op := Go.Op.store 50 (Go.Operand.tmp 86) (Go.Operand.tmp 78), type := 0, pos := "parts.go:83", after := #[{ on := 17, ground := Go.Ground.data }, { on := 9, ground := Go.Ground.data }, { on := 15, ground := Go.Ground.chain }, { on := 0, ground := Go.Ground.phase }, { on := 1, ground := Go.Ground.phase }, { on := 2, ground := Go.Ground.textOnly Go.Departure.lateStores }, { on := 3, ground := Go.Ground.textOnly Go.Departure.lateStores }, { on := 4, ground := Go.Ground.phase }, { on := 5, ground := Go.Ground.phase }, { on := 6, ground := Go.Ground.phase }, { on := 7, ground := Go.Ground.phase }, { on := 8, ground := Go.Ground.phase }, { on := 9, ground := Go.Ground.phase }, { on := 10, ground := Go.Ground.textOnly Go.Departure.lateStores }, { on := 11, ground := Go.Ground.textOnly Go.Departure.lateStores }, { on := 12, ground := Go.Ground.textOnly Go.Departure.lateStoresUnsure }, { on := 13, ground := Go.Ground.textOnly Go.Departure.lateStoresUnsure }, { on := 14, ground := Go.Ground.phase }, { on := 15, ground := Go.Ground.phase }], guard := none }) (by kernel_rfl) (by kernel_rfl) rfl (fun K hK => ?_)
  have q5 := z8.2.1
  go_simp
  have HD := hid (set_at HC.out (o + 1) (.slice pa2 pn pc2))
  have f6 := freeT HD.out (o + 5)
  have q6 : (w8.setCell ⟨b, o + 1, none⟩ (.slice pa2 pn pc2)).cell? ⟨b, o + 5, none⟩ = some (.slice ba bn bc) := by rw [World.cell?_setCell_other _ _ _ _ (by intro e; injection e with e1 e2; omega)]; exact z8.2.2
  have x8c : (w8.setCell ⟨b, o + 1, none⟩ (.slice pa2 pn pc2)).cell? ⟨X, 1, none⟩ = some (.pointer (some ⟨b, o, none⟩)) := by rw [World.cell?_setCell_other _ _ _ _ (by intro e; injection e with e1 e2; exact HXb.out e1.symm)]; exact z8.1
  refine hK.out _ _ x8c (fun hHeld0N => ?_)
  clear hK K hHeld0
  clear hHeld
  have hHeld0 := hHeld0N
  clear hHeld0N
  (try simp only [Act.put, List.setIfInBounds_toArray, List.set_cons_zero, List.set_cons_succ])
  refine wpAnyG_takeW (i := 19) (oi := { dst := some 87, op := Go.Op.nilCheck (Go.Operand.tmp 72), type := 0, pos := "parts.go:83", after := #[{ on := 3, ground := Go.Ground.data }, { on := 0, ground := Go.Ground.phase }, { on := 1, ground := Go.Ground.phase }, { on := 2, ground := Go.Ground.phase }, { on := 3, ground := Go.Ground.phase }, { on := 4, ground := Go.Ground.phase }, { on := 5, ground := Go.Ground.phase }, { on := 6, ground := Go.Ground.phase }, { on := 7, ground := Go.Ground.phase }, { on := 8, ground := Go.Ground.phase }, { on := 9, ground := Go.Ground.phase }, { on := 10, ground := Go.Ground.phase }, { on := 11, ground := Go.Ground.phase }, { on := 12, ground := Go.Ground.phase }, { on := 13, ground := Go.Ground.phase }, { on := 14, ground := Go.Ground.phase }, { on := 15, ground := Go.Ground.phase }, { on := 16, ground := Go.Ground.phase }, { on := 17, ground := Go.Ground.phase }, { on := 18, ground := Go.Ground.phase }], guard := none }) (v := ?_) rfl (by kernel_rfl) (by kernel_rfl) (by kernel_rfl) (by kernel_rfl) (fun _ _ _ h => h) (Or.inl ⟨by rfl, ?_⟩) (by assumption) (Or.inl (by kernel_rfl)) ?_
  rotate_left
  · (intro w hSw; (try dsimp only at hSw); go_simp; (try with_reducible rfl))
  (try simp only [Act.put, List.setIfInBounds_toArray, List.set_cons_zero, List.set_cons_succ])
  refine wpAnyG_takeW (i := 20) (oi := { dst := some 88, op := Go.Op.fieldAddr 52 (Go.Operand.tmp 87) 5, type := 0, pos := "parts.go:83", after := #[{ on := 19, ground := Go.Ground.data }, { on := 0, ground := Go.Ground.phase }, { on := 1, ground := Go.Ground.phase }, { on := 2, ground := Go.Ground.phase }, { on := 3, ground := Go.Ground.phase }, { on := 4, ground := Go.Ground.phase }, { on := 5, ground := Go.Ground.phase }, { on := 6, ground := Go.Ground.phase }, { on := 7, ground := Go.Ground.phase }, { on := 8, ground := Go.Ground.phase }, { on := 9, ground := Go.Ground.phase }, { on := 10, ground := Go.Ground.phase }, { on := 11, ground := Go.Ground.phase }, { on := 12, ground := Go.Ground.phase }, { on := 13, ground := Go.Ground.phase }, { on := 14, ground := Go.Ground.phase }, { on := 15, ground := Go.Ground.phase }, { on := 16, ground := Go.Ground.phase }, { on := 17, ground := Go.Ground.phase }, { on := 18, ground := Go.Ground.phase }], guard := none }) (v := ?_) rfl (by kernel_rfl) (by kernel_rfl) (by kernel_rfl) (by kernel_rfl) (fun _ _ _ h => h) (Or.inl ⟨by rfl, ?_⟩) (by assumption) (Or.inl (by kernel_rfl)) ?_
  rotate_left
  · (intro w hSw; (try dsimp only at hSw); go_simp; (try with_reducible rfl))
  (try simp only [Act.put, List.setIfInBounds_toArray, List.set_cons_zero, List.set_cons_succ])
  refine wpAnyG_oneL (i := 21) (o := { dst := none, op := Go.Op.store 47 (Go.Operand.tmp 88) (Go.Operand.tmp 84), type := 0, pos := "parts.go:83", after := #[{ on := 20, ground := Go.Ground.data }, { on := 15, ground := Go.Ground.data }, { on := 18, ground := Go.Ground.chain }, { on := 0, ground := Go.Ground.phase }, { on := 1, ground := Go.Ground.phase }, { on := 2, ground := Go.Ground.phase }, { on := 3, ground := Go.Ground.phase }, { on := 4, ground := Go.Ground.phase }, { on := 5, ground := Go.Ground.phase }, { on := 6, ground := Go.Ground.phase }, { on := 7, ground := Go.Ground.phase }, { on := 8, ground := Go.Ground.phase }, { on := 9, ground := Go.Ground.phase }, { on := 10, ground := Go.Ground.phase }, { on := 11, ground := Go.Ground.phase }, { on := 12, ground := Go.Ground.phase }, { on := 13, ground := Go.Ground.phase }, { on := 14, ground := Go.Ground.phase }, { on := 15, ground := Go.Ground.phase }, { on := 16, ground := Go.Ground.phase }, { on := 17, ground := Go.Ground.phase }, { on := 18, ground := Go.Ground.phase }], guard := none }) (by kernel_rfl) (by kernel_rfl) rfl (fun K hK => ?_)
  go_simp
  have xDc : ((w8.setCell ⟨b, o + 1, none⟩ (.slice pa2 pn pc2)).setCell ⟨b, o + 5, none⟩ (.slice ba2 bn bc2)).cell? ⟨X, 1, none⟩ = some (.pointer (some ⟨b, o, none⟩)) := by rw [World.cell?_setCell_other _ _ _ _ (by intro e; injection e with e1 e2; exact HXb.out e1.symm)]; exact x8c
  refine hK.out _ _ xDc (fun hHeld0N => ?_)
  clear hK K hHeld0
  have hHeld0 := hHeld0N
  clear hHeld0N
  (try simp only [Act.put, List.setIfInBounds_toArray, List.set_cons_zero, List.set_cons_succ])
  refine wpAnyG_done (by kernel_rfl) ?_
  have HE := hid (set_at HD.out (o + 5) (.slice ba2 bn bc2))
  have HCE : Hid (Cl (((c1.setIfInBounds (o + 1) (.slice pa2 pn pc2))).setIfInBounds (o + 5) (.slice ba2 bn bc2)) o ({ sort := sort, b := hb0, o := ho0, name := name, pa := pa2, pn := pn, pc := pc2, key := key, value := value, result := result, ba := ba2, bn := bn, bc := bc2, pos := 0, params := params } : DH).cl) := hid ((HC1.out.set 1 (by simp [DH.cl]) (.slice pa2 pn pc2)).set 5 (by simp [DH.cl]) (.slice ba2 bn bc2))
  have HFX : Hid (Fr w8.heap.size b o 7 w8 ((w8.setCell ⟨b, o + 1, none⟩ (.slice pa2 pn pc2)).setCell ⟨b, o + 5, none⟩ (.slice ba2 bn bc2))) := hid ((Fr.set (o + 1) _ (by omega) (by omega)).trans (Fr.set (o + 5) _ (by omega) (by omega)))
  have XX := hid (x8.trans HX2.out)
  have HX5 : Hid (((w8.setCell ⟨b, o + 1, none⟩ (.slice pa2 pn pc2)).setCell ⟨b, o + 5, none⟩ (.slice ba2 bn bc2)).heap[X]? = some (.cells #[.string sort, .pointer (some ⟨b, o, none⟩)] 105 (0, 0))) := hid ((HFX.out.ne (heap_lt XX.out) HXb.out).trans XX.out)
  clear z2 z9 z8 q5 q6 f5 f6 x8 x8c xDc KT K67 K68 ST hHeld0
  generalize (w8.setCell ⟨b, o + 1, none⟩ (.slice pa2 pn pc2)).setCell ⟨b, o + 5, none⟩ (.slice ba2 bn bc2) = W5 at *
  generalize (c1.setIfInBounds (o + 1) (.slice pa2 pn pc2)).setIfInBounds (o + 5) (.slice ba2 bn bc2) = c5 at *
  have HR5 := hid (HR7.out.fr HFX.out (Nat.le_refl _) HBL.out)
  have HA5 := hid (HR8.out.fr HFX.out (Nat.le_refl _) HBL.out)
  have HF5 : Hid (Fr W.heap.size b o 7 W W5) := hid ((HF1.out.trans (Fr.of HB2.out (heap_lt HB1.out) HS1.out)).trans ((Fr.of H8.out (heap_lt HC2.out) HZ.out).trans (HFX.out.mono (Nat.le_trans HZ.out H8.out.size) (Nat.le_refl _) (Nat.le_refl _))))
  have p5 := cellT HE.out (o + 1)
  rw [HCE.out 1 _ rfl] at p5
  have p6 := cellT HX5.out 1
  simp only [List.getElem?_toArray, List.getElem?_cons_zero, List.getElem?_cons_succ] at p6
  clear HD HC HR7 HR8 HFX HF1 HB1 HC1 HC2 HB2 H8 HZ1 HX1 HX2 XX
  go_wp2
  go_loopg [95] pn (fun g x wr => ∃ i : Nat, i + g = pn ∧ x = .int .i64 (i : Int) ∧ Below W5.heap.size W5 wr)
  case atStart => exact ⟨0, by omega, rfl, Below.refl _ _⟩
  case round =>
    obtain ⟨i, hi, rfl, hbr⟩ := hrel
    have HBR := hid hbr
    have HI := hid hi
    clear hbr p5 p6
    cases gk with
    | zero =>
      have hin : i = pn := by omega
      subst hin
      clear hi
      go_wp2
      go_end0
      exact ⟨⟨_, rfl⟩, HF5.out.trans (Fr.of HBR.out (heap_lt HE.out) HF5.out.size), pa2, ba2, pc2, bc2, c5, T, (HBR.out.block b (heap_lt HE.out)).trans HE.out, HCE.out, HR5.out.below HBR.out, HA5.out.below HBR.out, HNA.out⟩
    | succ g =>
      have hil : (i : Int) < (pn : Int) := by omega
      have hi0 : (0 : Int) ≤ (i : Int) := by omega
      have hbb := (HBR.out.block b (heap_lt HE.out)).trans HE.out
      have p5 := cellT hbb (o + 1)
      rw [HCE.out 1 _ rfl] at p5
      have p6 := cellT ((HBR.out.block X (heap_lt HX5.out)).trans HX5.out) 1
      simp only [List.getElem?_toArray, List.getElem?_cons_zero, List.getElem?_cons_succ] at p6
      obtain ⟨A, cs, rfl, hA1, hA2, hA3⟩ := HR5.out.2 (by omega)
      have hA4 := (HBR.out.block A (heap_lt hA2)).trans hA2
      have hnl := PL.out
      obtain ⟨s, hs⟩ : ∃ s, params[i]? = some s := ⟨params[i]'(by omega), List.getElem?_eq_getElem _⟩
      obtain ⟨e1, e2⟩ := prL_at params i s hs
      have hsm := SM.out s (List.mem_of_getElem? hs)
      have K := hid (texts_k wr.drew [(A, i * 2), (A, i * 2 + 1)] 107 (by simp) (fun p hp => by
        rcases List.mem_cons.1 hp with rfl | hp
        · exact ⟨s.1, cs, 88, hA4, hA3 _ _ e1, hsm.1⟩
        · rcases List.mem_cons.1 hp with rfl | hp
          · exact ⟨s.2, cs, 88, hA4, hA3 _ _ e2, hsm.2⟩
          · cases hp))
      simp only [ptrsOf, List.map_cons, List.map_nil, List.length_cons, List.length_nil, Nat.reduceAdd, Nat.zero_add] at K
      have HP5 := hid p5
      have HP6 := hid p6
      clear hi hbb hA1 hA2 hA3 hA4 hnl hs e1 e2 hsm
      go_upto_region 12 with fail
      go_region_held3 (fun w2 => w2.cell? ⟨X, 1, none⟩ = some (.pointer (some ⟨b, o, none⟩)) ∧ w2.cell? ⟨b, o + 1, none⟩ = some (.slice (some ⟨A, 0, none⟩) pn pc2)) (first | go_keep | exact ⟨r6, r5⟩) ((go_at_call 66; (refine (Hid.out K).mono ?_; rintro e w9 ⟨⟨v9, rfl⟩, hb9⟩; have HB9 := hid (show Below wr.heap.size wr w9 from (Below.refl _ wr).drew.trans hb9); have r5 := belowCell HP5.out (Nat.le_refl _) HB9.out; have r6 := belowCell HP6.out (Nat.le_refl _) HB9.out; clear hb9)))
      go_wp2
      go_roundg g
      case measure => omega
      case rel => exact ⟨i + 1, by have := HI.out; omega, by go_num, HBR.out.trans (HB9.out.mono HBR.out.size)⟩
end Go.Proofs.YtdfambocenohgaaGreatDoor

