/- makeBare of a statement. -/
import Derived.Test.YtdfambocenohgaaGreatDoorJAC
namespace Go.Proofs.YtdfambocenohgaaGreatDoor
open Go.RowKit Go.Deep Go.Shelf
set_option linter.unusedVariables false
set_option linter.unusedSimpArgs false
attribute [local go_sem] as58_58 as105_58 as101_58 as67_58 as58_105 as105_105 as101_105 as67_105 as58_101 as105_101 as101_101 as67_101 as58_67 as105_67 as101_67 as67_67
attribute [local go_sem] Oper.semAt_some
def SH.cl (h : SH) : List Value := [.int .i64 h.kind, .string h.name, .string h.label, .string h.var, .slice h.aa h.an h.ac, .slice h.ba h.bn h.bc, .slice h.ea h.en h.ec, .int .i64 h.pos]
structure SH.Sm (h : SH) : Prop where
  n : smT h.name
  l : smT h.label
  v : smT h.var
/- What makeBare of a statement leaves. -/
structure BS (W : World) (b o : Nat) (h : SH) (acs bcs ecs : List Value) (W' : World) : Prop where
  fr : Fr W.heap.size b o 8 W W'
  r : ∃ (aa ba ea : Option Addr) (ac bc ec : Nat) (c : Array Value) (T : TypeId), W'.heap[b]? = some (.cells c T (0, 0)) ∧ Cl c o ({ h with aa := aa, ac := ac, ba := ba, bc := bc, ea := ea, ec := ec, pos := 0 } : SH).cl ∧ RowN W W' h.an 28 acs aa ∧ RowN W W' h.bn 49 bcs ba ∧ RowN W W' h.en 49 ecs ea ∧ Apart aa ba ∧ Apart aa ea ∧ Apart ba ea
theorem nrd_in {w0 V : World} {a : Option Addr} {l : List Value} (h : NRd w0 a l) (k : Below w0.heap.size w0 V) : NRd V a l := fun j v e => by
  obtain ⟨b', off', ea, hcc⟩ := h j v e
  exact ⟨b', off', ea, belowCell hcc (Nat.le_refl _) k⟩
set_option maxRecDepth 100000 in
set_option maxHeartbeats 2000000 in
theorem bareS_any (w0 W : World) (h : SH) (b o : Nat) (c : Array Value) (T : TypeId) (hw : Below w0.heap.size w0 W) (hbn : w0.heap.size ≤ b) (hb : W.heap[b]? = some (.cells c T (0, 0))) (hc : Cl c o h.cl) (sm : h.Sm) (ab : h.an ≤ 1000000) (bb : h.bn ≤ 1000000) (eb : h.en ≤ 1000000) (acs bcs ecs : List Value) (al : acs.length = h.an * 8) (ar : NRd w0 h.aa acs) (bl : bcs.length = h.bn * 8) (br : NRd w0 h.ba bcs) (el : ecs.length = h.en * 8) (er : NRd w0 h.ea ecs) :
    Calls Tryz.prog 42 #[.iface 101 (.pointer (some ⟨b, o, none⟩))] W fun e W' => (∃ v, e = .returned v) ∧ BS W b o h acs bcs ecs W' := by
  obtain ⟨W1, hW1⟩ : ∃ W1, W1 = W.setCell ⟨b, o + 7, none⟩ (.int .i64 0) := ⟨_, rfl⟩
  have hb1 := set_at hb (o + 7) (.int .i64 0)
  rw [← hW1] at hb1
  have hc1 : Cl (c.setIfInBounds (o + 7) (.int .i64 0)) o (h.cl.set 7 (.int .i64 0)) := hc.set 7 (by simp [SH.cl]) (.int .i64 0)
  have fr1 : Fr W.heap.size b o 8 W W1 := by rw [hW1]; exact Fr.set (o + 7) _ (by omega) (by omega)
  have c7 := cellT hb (o + 7)
  have f7 := freeT hb (o + 7)
  rw [hc 7 _ rfl] at c7
  generalize c.setIfInBounds (o + 7) (.int .i64 0) = c1 at hb1 hc1
  have KT := hid (texts_k W1.drew [(b, o + 1), (b, o + 2), (b, o + 3)] 107 (by simp) (fun p hp => by
    rcases List.mem_cons.1 hp with rfl | hp
    · exact ⟨h.name, _, _, hb1, hc1 1 _ rfl, sm.n⟩
    · rcases List.mem_cons.1 hp with rfl | hp
      · exact ⟨h.label, _, _, hb1, hc1 2 _ rfl, sm.l⟩
      · rcases List.mem_cons.1 hp with rfl | hp
        · exact ⟨h.var, _, _, hb1, hc1 3 _ rfl, sm.v⟩
        · cases hp))
  simp only [ptrsOf, List.map_cons, List.map_nil, List.length_cons, List.length_nil, Nat.reduceAdd, Nat.zero_add] at KT
  have hbl : b < W.heap.size := heap_lt hb
  have hw1 : Below w0.heap.size w0 W1 := hw.trans (fr1.bel.mono hbn)
  have HS1 := hid fr1.size
  have K69 := hid (fun (V : World) (hV : Below W1.heap.size W1 V) => copied69_any V h.aa h.an h.ac acs al (nrd_in ar (hw1.trans (hV.mono hw1.size))) ab)
  have K68 := hid (fun (V : World) (hV : Below W1.heap.size W1 V) => copied68_any V h.ba h.bn h.bc bcs bl (nrd_in br (hw1.trans (hV.mono hw1.size))) bb)
  have K67 := hid (fun (V : World) (hV : Below W1.heap.size W1 V) => copied68_any V h.ea h.en h.ec ecs el (nrd_in er (hw1.trans (hV.mono hw1.size))) eb)
  have HB1 := hid hb1
  have HC1 := hid hc1
  have HF1 := hid fr1
  have HBL := hid hbl
  clear hb hc hb1 hc1 fr1 sm ar al ab br bl bb er el eb hw hw1 hbn hbl
  obtain ⟨hb0, ho0, kind, name, label, var, aa, an, ac, ba, bn, bc, ea, en, ec, pos⟩ := h
  simp only at KT K69 K68 K67 HC1 c7
  go_enter Tryz.func42, Tryz.ntmps42
  go_upto_region 17 with fail
  rw [← hW1]
  clear hW1 c7 f7
  go_region_held3 (fun w2 => True) (trivial) ((go_at_call 66; (refine (Hid.out KT).mono ?_; rintro e W2 ⟨⟨v2, rfl⟩, hb2⟩; have HB2 := hid (show Below W1.heap.size W1 W2 from (Below.refl _ W1).drew.trans hb2); clear hb2)))
  have HC2 := hid ((HB2.out.block b (heap_lt HB1.out)).trans HB1.out)
  have HZ : Hid (W.heap.size ≤ W2.heap.size) := hid (Nat.le_trans HS1.out HB2.out.size)
  have HZ1 := hid (fun (V : World) (hV : Below W2.heap.size W2 V) => (show Below W1.heap.size W1 V from HB2.out.trans (hV.mono HB2.out.size)))
  have ST := hid (fun (V : World) (hV : Below W2.heap.size W2 V) => (show V.cell? ⟨b, o + 4, none⟩ = some (.slice aa an ac) ∧ V.cell? ⟨b, o + 5, none⟩ = some (.slice ba bn bc) ∧ V.cell? ⟨b, o + 6, none⟩ = some (.slice ea en ec) from by
    have h0 := (hV.block b (heap_lt HC2.out)).trans HC2.out
    exact ⟨by rw [cellT h0, HC1.out 4 _ rfl], by rw [cellT h0, HC1.out 5 _ rfl], by rw [cellT h0, HC1.out 6 _ rfl]⟩))
  have z2 := ST.out W2 (Below.refl _ _)
  go_upto_region 18 with fail
  refine wp_region_J 20 (fun w : World => (w.cell? ⟨b, o + 4, none⟩ = some (.slice aa an ac) ∧ w.cell? ⟨b, o + 5, none⟩ = some (.slice ba bn bc) ∧ w.cell? ⟨b, o + 6, none⟩ = some (.slice ea en ec)) ∧ Below W2.heap.size W2 w) (by kernel_rfl) ⟨z2, (Below.refl _ W2).drew⟩ (fun hHeld => ?_)
  refine wpAnyJ_takeW (i := 0) (oi := { dst := some 134, op := Go.Op.move (Go.Operand.tmp 5), type := 101, pos := "parts.go:90", after := #[], guard := none }) (v := ?_) rfl (by kernel_rfl) (by kernel_rfl) (by kernel_rfl) (by kernel_rfl) (fun _ _ _ h => h) (Or.inl ⟨by rfl, ?_⟩) (Or.inr (by assumption)) ?_
  rotate_left
  · (intro w hSw; (try dsimp only at hSw); go_simp; (try with_reducible rfl))
  (try simp only [Act.put, List.setIfInBounds_toArray, List.set_cons_zero, List.set_cons_succ])
  refine wpAnyJ_takeW (i := 1) (oi := { dst := some 135, op := Go.Op.move (Go.Operand.tmp 5), type := 101, pos := "parts.go:90", after := #[{ on := 20, ground := Go.Ground.gcOnly Go.Departure.lateStores }], guard := none }) (v := ?_) rfl (by kernel_rfl) (by kernel_rfl) (by kernel_rfl) (by kernel_rfl) (fun _ _ _ h => h) (Or.inl ⟨by rfl, ?_⟩) (Or.inr (by assumption)) ?_
  rotate_left
  · (intro w hSw; (try dsimp only at hSw); go_simp; (try with_reducible rfl))
  (try simp only [Act.put, List.setIfInBounds_toArray, List.set_cons_zero, List.set_cons_succ])
  refine wpAnyJ_takeW (i := 2) (oi := { dst := some 136, op := Go.Op.move (Go.Operand.tmp 5), type := 101, pos := "parts.go:90", after := #[{ on := 23, ground := Go.Ground.gcOnly Go.Departure.lateStores }], guard := none }) (v := ?_) rfl (by kernel_rfl) (by kernel_rfl) (by kernel_rfl) (by kernel_rfl) (fun _ _ _ h => h) (Or.inl ⟨by rfl, ?_⟩) (Or.inr (by assumption)) ?_
  rotate_left
  · (intro w hSw; (try dsimp only at hSw); go_simp; (try with_reducible rfl))
  (try simp only [Act.put, List.setIfInBounds_toArray, List.set_cons_zero, List.set_cons_succ])
  refine wpAnyJ_takeW (i := 3) (oi := { dst := some 137, op := Go.Op.move (Go.Operand.tmp 5), type := 101, pos := "parts.go:90", after := #[], guard := none }) (v := ?_) rfl (by kernel_rfl) (by kernel_rfl) (by kernel_rfl) (by kernel_rfl) (fun _ _ _ h => h) (Or.inl ⟨by rfl, ?_⟩) (Or.inr (by assumption)) ?_
  rotate_left
  · (intro w hSw; (try dsimp only at hSw); go_simp; (try with_reducible rfl))
  (try simp only [Act.put, List.setIfInBounds_toArray, List.set_cons_zero, List.set_cons_succ])
  refine wpAnyJ_takeW (i := 4) (oi := { dst := some 138, op := Go.Op.nilCheck (Go.Operand.tmp 137), type := 0, pos := "parts.go:90", after := #[{ on := 3, ground := Go.Ground.data }], guard := none }) (v := ?_) rfl (by kernel_rfl) (by kernel_rfl) (by kernel_rfl) (by kernel_rfl) (fun _ _ _ h => h) (Or.inl ⟨by rfl, ?_⟩) (Or.inr (by assumption)) ?_
  rotate_left
  · (intro w hSw; (try dsimp only at hSw); go_simp; (try with_reducible rfl))
  (try simp only [Act.put, List.setIfInBounds_toArray, List.set_cons_zero, List.set_cons_succ])
  refine wpAnyJ_takeW (i := 5) (oi := { dst := some 139, op := Go.Op.fieldAddr 49 (Go.Operand.tmp 138) 4, type := 0, pos := "parts.go:90", after := #[{ on := 4, ground := Go.Ground.data }], guard := none }) (v := ?_) rfl (by kernel_rfl) (by kernel_rfl) (by kernel_rfl) (by kernel_rfl) (fun _ _ _ h => h) (Or.inl ⟨by rfl, ?_⟩) (Or.inr (by assumption)) ?_
  rotate_left
  · (intro w hSw; (try dsimp only at hSw); go_simp; (try with_reducible rfl))
  (try simp only [Act.put, List.setIfInBounds_toArray, List.set_cons_zero, List.set_cons_succ])
  refine wpAnyJ_take (i := 6) (oi := { dst := some 140, op := Go.Op.load 26 (Go.Operand.tmp 139), type := 26, pos := "parts.go:90", after := #[{ on := 5, ground := Go.Ground.data }], guard := none }) (v := ?_) [20] rfl (by kernel_rfl) (by kernel_rfl) (by kernel_rfl) (by kernel_rfl) (fun _ _ _ h => h) (Or.inl ⟨by rfl, ?_⟩) (by assumption) ?_
  rotate_left
  · (intro w hSw; (try dsimp only at hSw); go_simp; (try with_reducible rfl))
  (try simp only [Act.put, List.setIfInBounds_toArray, List.set_cons_zero, List.set_cons_succ])
  refine wpAnyJ_takeW (i := 8) (oi := { dst := some 142, op := Go.Op.move (Go.Operand.tmp 5), type := 101, pos := "parts.go:90", after := #[], guard := none }) (v := ?_) rfl (by kernel_rfl) (by kernel_rfl) (by kernel_rfl) (by kernel_rfl) (fun _ _ _ h => h) (Or.inl ⟨by rfl, ?_⟩) (Or.inr (by assumption)) ?_
  rotate_left
  · (intro w hSw; (try dsimp only at hSw); go_simp; (try with_reducible rfl))
  (try simp only [Act.put, List.setIfInBounds_toArray, List.set_cons_zero, List.set_cons_succ])
  refine wpAnyJ_takeW (i := 9) (oi := { dst := some 143, op := Go.Op.nilCheck (Go.Operand.tmp 142), type := 0, pos := "parts.go:90", after := #[{ on := 8, ground := Go.Ground.data }], guard := none }) (v := ?_) rfl (by kernel_rfl) (by kernel_rfl) (by kernel_rfl) (by kernel_rfl) (fun _ _ _ h => h) (Or.inl ⟨by rfl, ?_⟩) (Or.inr (by assumption)) ?_
  rotate_left
  · (intro w hSw; (try dsimp only at hSw); go_simp; (try with_reducible rfl))
  (try simp only [Act.put, List.setIfInBounds_toArray, List.set_cons_zero, List.set_cons_succ])
  refine wpAnyJ_takeW (i := 10) (oi := { dst := some 144, op := Go.Op.fieldAddr 49 (Go.Operand.tmp 143) 5, type := 0, pos := "parts.go:90", after := #[{ on := 9, ground := Go.Ground.data }], guard := none }) (v := ?_) rfl (by kernel_rfl) (by kernel_rfl) (by kernel_rfl) (by kernel_rfl) (fun _ _ _ h => h) (Or.inl ⟨by rfl, ?_⟩) (Or.inr (by assumption)) ?_
  rotate_left
  · (intro w hSw; (try dsimp only at hSw); go_simp; (try with_reducible rfl))
  (try simp only [Act.put, List.setIfInBounds_toArray, List.set_cons_zero, List.set_cons_succ])
  refine wpAnyJ_take (i := 11) (oi := { dst := some 145, op := Go.Op.load 47 (Go.Operand.tmp 144), type := 47, pos := "parts.go:90", after := #[{ on := 10, ground := Go.Ground.data }], guard := none }) (v := ?_) [20] rfl (by kernel_rfl) (by kernel_rfl) (by kernel_rfl) (by kernel_rfl) (fun _ _ _ h => h) (Or.inl ⟨by rfl, ?_⟩) (by assumption) ?_
  rotate_left
  · (intro w hSw; (try dsimp only at hSw); go_simp; (try with_reducible rfl))
  (try simp only [Act.put, List.setIfInBounds_toArray, List.set_cons_zero, List.set_cons_succ])
  refine wpAnyJ_takeW (i := 13) (oi := { dst := some 147, op := Go.Op.move (Go.Operand.tmp 5), type := 101, pos := "parts.go:90", after := #[], guard := none }) (v := ?_) rfl (by kernel_rfl) (by kernel_rfl) (by kernel_rfl) (by kernel_rfl) (fun _ _ _ h => h) (Or.inl ⟨by rfl, ?_⟩) (Or.inr (by assumption)) ?_
  rotate_left
  · (intro w hSw; (try dsimp only at hSw); go_simp; (try with_reducible rfl))
  (try simp only [Act.put, List.setIfInBounds_toArray, List.set_cons_zero, List.set_cons_succ])
  refine wpAnyJ_takeW (i := 14) (oi := { dst := some 148, op := Go.Op.nilCheck (Go.Operand.tmp 147), type := 0, pos := "parts.go:90", after := #[{ on := 13, ground := Go.Ground.data }], guard := none }) (v := ?_) rfl (by kernel_rfl) (by kernel_rfl) (by kernel_rfl) (by kernel_rfl) (fun _ _ _ h => h) (Or.inl ⟨by rfl, ?_⟩) (Or.inr (by assumption)) ?_
  rotate_left
  · (intro w hSw; (try dsimp only at hSw); go_simp; (try with_reducible rfl))
  (try simp only [Act.put, List.setIfInBounds_toArray, List.set_cons_zero, List.set_cons_succ])
  refine wpAnyJ_takeW (i := 15) (oi := { dst := some 149, op := Go.Op.fieldAddr 49 (Go.Operand.tmp 148) 6, type := 0, pos := "parts.go:90", after := #[{ on := 14, ground := Go.Ground.data }], guard := none }) (v := ?_) rfl (by kernel_rfl) (by kernel_rfl) (by kernel_rfl) (by kernel_rfl) (fun _ _ _ h => h) (Or.inl ⟨by rfl, ?_⟩) (Or.inr (by assumption)) ?_
  rotate_left
  · (intro w hSw; (try dsimp only at hSw); go_simp; (try with_reducible rfl))
  (try simp only [Act.put, List.setIfInBounds_toArray, List.set_cons_zero, List.set_cons_succ])
  refine wpAnyJ_take (i := 16) (oi := { dst := some 150, op := Go.Op.load 47 (Go.Operand.tmp 149), type := 47, pos := "parts.go:90", after := #[{ on := 15, ground := Go.Ground.data }], guard := none }) (v := ?_) [20] rfl (by kernel_rfl) (by kernel_rfl) (by kernel_rfl) (by kernel_rfl) (fun _ _ _ h => h) (Or.inl ⟨by rfl, ?_⟩) (by assumption) ?_
  rotate_left
  · (intro w hSw; (try dsimp only at hSw); go_simp; (try with_reducible rfl))
  (try simp only [Act.put, List.setIfInBounds_toArray, List.set_cons_zero, List.set_cons_succ])
  refine wpAnyJ_one (i := 7) (o := { dst := some 141, op := Go.Op.call { callee := Go.Callee.value (Go.Operand.func 69), args := #[Go.Operand.tmp 140], argTypes := #[26] }, type := 26, pos := "parts.go:90", after := #[{ on := 6, ground := Go.Ground.data }], guard := none }) (by kernel_rfl) rfl (fun K hK => ?_)
  go_simp
  (refine (Hid.out K69 _ (HZ1.out _ hHeld.2)).mono ?_; rintro e w9 ⟨vv, rfl, hcx⟩; obtain ⟨aa2, ac2, rfl, hrx, hbx, hyx⟩ := hcx.row (V := W) (Nat.le_trans HZ.out hHeld.2.size); have h9 : Below W2.heap.size W2 w9 := hHeld.2.trans (hbx.mono hHeld.2.size); have HR1 := hid hrx; have z9 := ST.out w9 h9; clear hcx hrx hbx hyx)
  try go_wp2_with fail
  refine hK.out _ _ ⟨z9, h9⟩ (fun hHeldN => ?_)
  clear hK K hHeld
  have hHeld := hHeldN
  clear hHeldN
  (try simp only [Act.put, List.setIfInBounds_toArray, List.set_cons_zero, List.set_cons_succ])
  refine wpAnyJ_one (i := 12) (o := { dst := some 146, op := Go.Op.call { callee := Go.Callee.value (Go.Operand.func 68), args := #[Go.Operand.tmp 145], argTypes := #[47] }, type := 47, pos := "parts.go:90", after := #[{ on := 11, ground := Go.Ground.data }, { on := 7, ground := Go.Ground.chain }], guard := none }) (by kernel_rfl) rfl (fun K hK => ?_)
  go_simp
  (refine (Hid.out K68 _ (HZ1.out _ hHeld.2)).mono ?_; rintro e w8 ⟨vv, rfl, hcx⟩; obtain ⟨ba2, bc2, rfl, hrx, hbx, hyx⟩ := hcx.row (V := W) (Nat.le_trans HZ.out hHeld.2.size); have h8 : Below W2.heap.size W2 w8 := hHeld.2.trans (hbx.mono hHeld.2.size); have HR2 := hid hrx; have HN1 : Hid (Apart aa2 ba2) := hid (fun x y e1 e2 => by have := (HR1.out.1 x e1).2; have := hyx y e2; omega); have HR3 := hid (HR1.out.below hbx); clear HR1; have z8 := ST.out w8 h8; clear hcx hrx hbx hyx)
  try go_wp2_with fail
  refine hK.out _ _ ⟨z8, h8⟩ (fun hHeldN => ?_)
  clear hK K hHeld
  have hHeld := hHeldN
  clear hHeldN
  (try simp only [Act.put, List.setIfInBounds_toArray, List.set_cons_zero, List.set_cons_succ])
  refine wpAnyJ_one (i := 17) (o := { dst := some 151, op := Go.Op.call { callee := Go.Callee.value (Go.Operand.func 68), args := #[Go.Operand.tmp 150], argTypes := #[47] }, type := 47, pos := "parts.go:90", after := #[{ on := 16, ground := Go.Ground.data }, { on := 12, ground := Go.Ground.chain }], guard := none }) (by kernel_rfl) rfl (fun K hK => ?_)
  go_simp
  (refine (Hid.out K67 _ (HZ1.out _ hHeld.2)).mono ?_; rintro e w7 ⟨vv, rfl, hcx⟩; obtain ⟨ea2, ec2, rfl, hrx, hbx, hyx⟩ := hcx.row (V := W) (Nat.le_trans HZ.out hHeld.2.size); have h7 : Below W2.heap.size W2 w7 := hHeld.2.trans (hbx.mono hHeld.2.size); have HRC := hid hrx; have HN2 : Hid (Apart aa2 ea2) := hid (fun x y e1 e2 => by have := (HR3.out.1 x e1).2; have := hyx y e2; omega); have HN3 : Hid (Apart ba2 ea2) := hid (fun x y e1 e2 => by have := (HR2.out.1 x e1).2; have := hyx y e2; omega); have HRB := hid (HR2.out.below hbx); have HRA := hid (HR3.out.below hbx); clear HR2 HR3; have H7 := hid h7; have HC := hid ((h7.block b (heap_lt HC2.out)).trans HC2.out); have f4 := freeT HC.out (o + 4); have z7 := ST.out w7 h7; clear hcx hrx hbx hyx)
  try go_wp2_with fail
  refine hK.out _ _ ⟨z7, h7⟩ (fun hHeldN => ?_)
  clear hK K hHeld
  have hHeld := hHeldN
  clear hHeldN
  (try simp only [Act.put, List.setIfInBounds_toArray, List.set_cons_zero, List.set_cons_succ])
  refine wpAnyJ_takeW (i := 18) (oi := { dst := some 152, op := Go.Op.nilCheck (Go.Operand.tmp 134), type := 0, pos := "parts.go:90", after := #[{ on := 0, ground := Go.Ground.data }, { on := 0, ground := Go.Ground.phase }, { on := 1, ground := Go.Ground.textOnly Go.Departure.lateStores }, { on := 2, ground := Go.Ground.textOnly Go.Departure.lateStores }, { on := 3, ground := Go.Ground.phase }, { on := 4, ground := Go.Ground.phase }, { on := 5, ground := Go.Ground.phase }, { on := 6, ground := Go.Ground.phase }, { on := 7, ground := Go.Ground.phase }, { on := 8, ground := Go.Ground.textOnly Go.Departure.lateStores }, { on := 9, ground := Go.Ground.textOnly Go.Departure.lateStoresUnsure }, { on := 10, ground := Go.Ground.textOnly Go.Departure.lateStoresUnsure }, { on := 11, ground := Go.Ground.phase }, { on := 12, ground := Go.Ground.phase }, { on := 13, ground := Go.Ground.textOnly Go.Departure.lateStores }, { on := 14, ground := Go.Ground.textOnly Go.Departure.lateStoresUnsure }, { on := 15, ground := Go.Ground.textOnly Go.Departure.lateStoresUnsure }, { on := 16, ground := Go.Ground.phase }, { on := 17, ground := Go.Ground.phase }], guard := none }) (v := ?_) rfl (by kernel_rfl) (by kernel_rfl) (by kernel_rfl) (by kernel_rfl) (fun _ _ _ h => h) (Or.inl ⟨by rfl, ?_⟩) (Or.inr (by assumption)) ?_
  rotate_left
  · (intro w hSw; (try dsimp only at hSw); go_simp; (try with_reducible rfl))
  (try simp only [Act.put, List.setIfInBounds_toArray, List.set_cons_zero, List.set_cons_succ])
  refine wpAnyJ_takeW (i := 19) (oi := { dst := some 153, op := Go.Op.fieldAddr 49 (Go.Operand.tmp 152) 4, type := 0, pos := "parts.go:90", after := #[{ on := 18, ground := Go.Ground.data }, { on := 0, ground := Go.Ground.phase }, { on := 1, ground := Go.Ground.textOnly Go.Departure.lateStores }, { on := 2, ground := Go.Ground.textOnly Go.Departure.lateStores }, { on := 3, ground := Go.Ground.phase }, { on := 4, ground := Go.Ground.phase }, { on := 5, ground := Go.Ground.phase }, { on := 6, ground := Go.Ground.phase }, { on := 7, ground := Go.Ground.phase }, { on := 8, ground := Go.Ground.textOnly Go.Departure.lateStores }, { on := 9, ground := Go.Ground.textOnly Go.Departure.lateStoresUnsure }, { on := 10, ground := Go.Ground.textOnly Go.Departure.lateStoresUnsure }, { on := 11, ground := Go.Ground.phase }, { on := 12, ground := Go.Ground.phase }, { on := 13, ground := Go.Ground.textOnly Go.Departure.lateStores }, { on := 14, ground := Go.Ground.textOnly Go.Departure.lateStoresUnsure }, { on := 15, ground := Go.Ground.textOnly Go.Departure.lateStoresUnsure }, { on := 16, ground := Go.Ground.phase }, { on := 17, ground := Go.Ground.phase }], guard := none }) (v := ?_) rfl (by kernel_rfl) (by kernel_rfl) (by kernel_rfl) (by kernel_rfl) (fun _ _ _ h => h) (Or.inl ⟨by rfl, ?_⟩) (Or.inr (by assumption)) ?_
  rotate_left
  · (intro w hSw; (try dsimp only at hSw); go_simp; (try with_reducible rfl))
  (try simp only [Act.put, List.setIfInBounds_toArray, List.set_cons_zero, List.set_cons_succ])
  refine wpAnyJ_oneL (i := 20) (o := { dst := none, op := Go.Op.store 26 (Go.Operand.tmp 153) (Go.Operand.tmp 141), type := 0, pos := "parts.go:90", after := #[{ on := 19, ground := Go.Ground.data }, { on := 7, ground := Go.Ground.data }, { on := 17, ground := Go.Ground.chain }, { on := 0, ground := Go.Ground.phase }, { on := 1, ground := Go.Ground.textOnly Go.Departure.lateStores }, { on := 2, ground := Go.Ground.textOnly Go.Departure.lateStores }, { on := 3, ground := Go.Ground.phase }, { on := 4, ground := Go.Ground.phase }, { on := 5, ground := Go.Ground.phase }, { on := 6, ground := Go.Ground.phase }, { on := 7, ground := Go.Ground.phase }, { on := 8, ground := Go.Ground.textOnly Go.Departure.lateStores }, { on := 9, ground := Go.Ground.textOnly Go.Departure.lateStoresUnsure }, { on := 10, ground := Go.Ground.textOnly Go.Departure.lateStoresUnsure }, { on := 11, ground := Go.Ground.phase }, { on := 12, ground := Go.Ground.phase }, { on := 13, ground := Go.Ground.textOnly Go.Departure.lateStores }, { on := 14, ground := Go.Ground.textOnly Go.Departure.lateStoresUnsure }, { on := 15, ground := Go.Ground.textOnly Go.Departure.lateStoresUnsure }, { on := 16, ground := Go.Ground.phase }, { on := 17, ground := Go.Ground.phase }], guard := none }) (by kernel_rfl) (by kernel_rfl) rfl (fun K hK => ?_)
  have q4 := z7.1
  go_simp
  have HD := hid (set_at HC.out (o + 4) (.slice aa2 an ac2))
  have f5 := freeT HD.out (o + 5)
  have q5 : (w7.setCell ⟨b, o + 4, none⟩ (.slice aa2 an ac2)).cell? ⟨b, o + 5, none⟩ = some (.slice ba bn bc) := by rw [World.cell?_setCell_other _ _ _ _ (by intro e; injection e with e1 e2; omega)]; exact z7.2.1
  have g6 : (w7.setCell ⟨b, o + 4, none⟩ (.slice aa2 an ac2)).cell? ⟨b, o + 6, none⟩ = some (.slice ea en ec) := by rw [World.cell?_setCell_other _ _ _ _ (by intro e; injection e with e1 e2; omega)]; exact z7.2.2
  refine hK.out _ _ ?_
  clear hK K
  clear hHeld
  (try simp only [Act.put, List.setIfInBounds_toArray, List.set_cons_zero, List.set_cons_succ])
  refine wpAnyJ_takeW (i := 21) (oi := { dst := some 154, op := Go.Op.nilCheck (Go.Operand.tmp 135), type := 0, pos := "parts.go:90", after := #[{ on := 1, ground := Go.Ground.data }, { on := 0, ground := Go.Ground.phase }, { on := 1, ground := Go.Ground.phase }, { on := 2, ground := Go.Ground.textOnly Go.Departure.lateStores }, { on := 3, ground := Go.Ground.phase }, { on := 4, ground := Go.Ground.phase }, { on := 5, ground := Go.Ground.phase }, { on := 6, ground := Go.Ground.phase }, { on := 7, ground := Go.Ground.phase }, { on := 8, ground := Go.Ground.phase }, { on := 9, ground := Go.Ground.phase }, { on := 10, ground := Go.Ground.phase }, { on := 11, ground := Go.Ground.phase }, { on := 12, ground := Go.Ground.phase }, { on := 13, ground := Go.Ground.textOnly Go.Departure.lateStores }, { on := 14, ground := Go.Ground.textOnly Go.Departure.lateStoresUnsure }, { on := 15, ground := Go.Ground.textOnly Go.Departure.lateStoresUnsure }, { on := 16, ground := Go.Ground.phase }, { on := 17, ground := Go.Ground.phase }, { on := 18, ground := Go.Ground.phase }, { on := 19, ground := Go.Ground.phase }, { on := 20, ground := Go.Ground.phase }], guard := none }) (v := ?_) rfl (by kernel_rfl) (by kernel_rfl) (by kernel_rfl) (by kernel_rfl) (fun _ _ _ h => h) (Or.inl ⟨by rfl, ?_⟩) (Or.inl (by kernel_rfl)) ?_
  rotate_left
  · (intro w hSw; (try dsimp only at hSw); go_simp; (try with_reducible rfl))
  (try simp only [Act.put, List.setIfInBounds_toArray, List.set_cons_zero, List.set_cons_succ])
  refine wpAnyJ_takeW (i := 22) (oi := { dst := some 155, op := Go.Op.fieldAddr 49 (Go.Operand.tmp 154) 5, type := 0, pos := "parts.go:90", after := #[{ on := 21, ground := Go.Ground.data }, { on := 0, ground := Go.Ground.phase }, { on := 1, ground := Go.Ground.phase }, { on := 2, ground := Go.Ground.textOnly Go.Departure.lateStores }, { on := 3, ground := Go.Ground.phase }, { on := 4, ground := Go.Ground.phase }, { on := 5, ground := Go.Ground.phase }, { on := 6, ground := Go.Ground.phase }, { on := 7, ground := Go.Ground.phase }, { on := 8, ground := Go.Ground.phase }, { on := 9, ground := Go.Ground.phase }, { on := 10, ground := Go.Ground.phase }, { on := 11, ground := Go.Ground.phase }, { on := 12, ground := Go.Ground.phase }, { on := 13, ground := Go.Ground.textOnly Go.Departure.lateStores }, { on := 14, ground := Go.Ground.textOnly Go.Departure.lateStoresUnsure }, { on := 15, ground := Go.Ground.textOnly Go.Departure.lateStoresUnsure }, { on := 16, ground := Go.Ground.phase }, { on := 17, ground := Go.Ground.phase }, { on := 18, ground := Go.Ground.phase }, { on := 19, ground := Go.Ground.phase }, { on := 20, ground := Go.Ground.phase }], guard := none }) (v := ?_) rfl (by kernel_rfl) (by kernel_rfl) (by kernel_rfl) (by kernel_rfl) (fun _ _ _ h => h) (Or.inl ⟨by rfl, ?_⟩) (Or.inl (by kernel_rfl)) ?_
  rotate_left
  · (intro w hSw; (try dsimp only at hSw); go_simp; (try with_reducible rfl))
  (try simp only [Act.put, List.setIfInBounds_toArray, List.set_cons_zero, List.set_cons_succ])
  refine wpAnyJ_oneL (i := 23) (o := { dst := none, op := Go.Op.store 47 (Go.Operand.tmp 155) (Go.Operand.tmp 146), type := 0, pos := "parts.go:90", after := #[{ on := 22, ground := Go.Ground.data }, { on := 12, ground := Go.Ground.data }, { on := 20, ground := Go.Ground.chain }, { on := 0, ground := Go.Ground.phase }, { on := 1, ground := Go.Ground.phase }, { on := 2, ground := Go.Ground.textOnly Go.Departure.lateStores }, { on := 3, ground := Go.Ground.phase }, { on := 4, ground := Go.Ground.phase }, { on := 5, ground := Go.Ground.phase }, { on := 6, ground := Go.Ground.phase }, { on := 7, ground := Go.Ground.phase }, { on := 8, ground := Go.Ground.phase }, { on := 9, ground := Go.Ground.phase }, { on := 10, ground := Go.Ground.phase }, { on := 11, ground := Go.Ground.phase }, { on := 12, ground := Go.Ground.phase }, { on := 13, ground := Go.Ground.textOnly Go.Departure.lateStores }, { on := 14, ground := Go.Ground.textOnly Go.Departure.lateStoresUnsure }, { on := 15, ground := Go.Ground.textOnly Go.Departure.lateStoresUnsure }, { on := 16, ground := Go.Ground.phase }, { on := 17, ground := Go.Ground.phase }, { on := 18, ground := Go.Ground.phase }, { on := 19, ground := Go.Ground.phase }, { on := 20, ground := Go.Ground.phase }], guard := none }) (by kernel_rfl) (by kernel_rfl) rfl (fun K hK => ?_)
  go_simp
  have HD6 := hid (set_at HD.out (o + 5) (.slice ba2 bn bc2))
  have f6 := freeT HD6.out (o + 6)
  have g5 := trivial
  have q6 : ((w7.setCell ⟨b, o + 4, none⟩ (.slice aa2 an ac2)).setCell ⟨b, o + 5, none⟩ (.slice ba2 bn bc2)).cell? ⟨b, o + 6, none⟩ = some (.slice ea en ec) := by rw [World.cell?_setCell_other _ _ _ _ (by intro e; injection e with e1 e2; omega)]; exact g6
  refine hK.out _ _ ?_
  clear hK K
  (try simp only [Act.put, List.setIfInBounds_toArray, List.set_cons_zero, List.set_cons_succ])
  refine wpAnyJ_takeW (i := 24) (oi := { dst := some 156, op := Go.Op.nilCheck (Go.Operand.tmp 136), type := 0, pos := "parts.go:90", after := #[{ on := 2, ground := Go.Ground.data }, { on := 0, ground := Go.Ground.phase }, { on := 1, ground := Go.Ground.phase }, { on := 2, ground := Go.Ground.phase }, { on := 3, ground := Go.Ground.phase }, { on := 4, ground := Go.Ground.phase }, { on := 5, ground := Go.Ground.phase }, { on := 6, ground := Go.Ground.phase }, { on := 7, ground := Go.Ground.phase }, { on := 8, ground := Go.Ground.phase }, { on := 9, ground := Go.Ground.phase }, { on := 10, ground := Go.Ground.phase }, { on := 11, ground := Go.Ground.phase }, { on := 12, ground := Go.Ground.phase }, { on := 13, ground := Go.Ground.phase }, { on := 14, ground := Go.Ground.phase }, { on := 15, ground := Go.Ground.phase }, { on := 16, ground := Go.Ground.phase }, { on := 17, ground := Go.Ground.phase }, { on := 18, ground := Go.Ground.phase }, { on := 19, ground := Go.Ground.phase }, { on := 20, ground := Go.Ground.phase }, { on := 21, ground := Go.Ground.phase }, { on := 22, ground := Go.Ground.phase }, { on := 23, ground := Go.Ground.phase }], guard := none }) (v := ?_) rfl (by kernel_rfl) (by kernel_rfl) (by kernel_rfl) (by kernel_rfl) (fun _ _ _ h => h) (Or.inl ⟨by rfl, ?_⟩) (Or.inl (by kernel_rfl)) ?_
  rotate_left
  · (intro w hSw; (try dsimp only at hSw); go_simp; (try with_reducible rfl))
  (try simp only [Act.put, List.setIfInBounds_toArray, List.set_cons_zero, List.set_cons_succ])
  refine wpAnyJ_takeW (i := 25) (oi := { dst := some 157, op := Go.Op.fieldAddr 49 (Go.Operand.tmp 156) 6, type := 0, pos := "parts.go:90", after := #[{ on := 24, ground := Go.Ground.data }, { on := 0, ground := Go.Ground.phase }, { on := 1, ground := Go.Ground.phase }, { on := 2, ground := Go.Ground.phase }, { on := 3, ground := Go.Ground.phase }, { on := 4, ground := Go.Ground.phase }, { on := 5, ground := Go.Ground.phase }, { on := 6, ground := Go.Ground.phase }, { on := 7, ground := Go.Ground.phase }, { on := 8, ground := Go.Ground.phase }, { on := 9, ground := Go.Ground.phase }, { on := 10, ground := Go.Ground.phase }, { on := 11, ground := Go.Ground.phase }, { on := 12, ground := Go.Ground.phase }, { on := 13, ground := Go.Ground.phase }, { on := 14, ground := Go.Ground.phase }, { on := 15, ground := Go.Ground.phase }, { on := 16, ground := Go.Ground.phase }, { on := 17, ground := Go.Ground.phase }, { on := 18, ground := Go.Ground.phase }, { on := 19, ground := Go.Ground.phase }, { on := 20, ground := Go.Ground.phase }, { on := 21, ground := Go.Ground.phase }, { on := 22, ground := Go.Ground.phase }, { on := 23, ground := Go.Ground.phase }], guard := none }) (v := ?_) rfl (by kernel_rfl) (by kernel_rfl) (by kernel_rfl) (by kernel_rfl) (fun _ _ _ h => h) (Or.inl ⟨by rfl, ?_⟩) (Or.inl (by kernel_rfl)) ?_
  rotate_left
  · (intro w hSw; (try dsimp only at hSw); go_simp; (try with_reducible rfl))
  (try simp only [Act.put, List.setIfInBounds_toArray, List.set_cons_zero, List.set_cons_succ])
  refine wpAnyJ_oneL (i := 26) (o := { dst := none, op := Go.Op.store 47 (Go.Operand.tmp 157) (Go.Operand.tmp 151), type := 0, pos := "parts.go:90", after := #[{ on := 25, ground := Go.Ground.data }, { on := 17, ground := Go.Ground.data }, { on := 23, ground := Go.Ground.chain }, { on := 0, ground := Go.Ground.phase }, { on := 1, ground := Go.Ground.phase }, { on := 2, ground := Go.Ground.phase }, { on := 3, ground := Go.Ground.phase }, { on := 4, ground := Go.Ground.phase }, { on := 5, ground := Go.Ground.phase }, { on := 6, ground := Go.Ground.phase }, { on := 7, ground := Go.Ground.phase }, { on := 8, ground := Go.Ground.phase }, { on := 9, ground := Go.Ground.phase }, { on := 10, ground := Go.Ground.phase }, { on := 11, ground := Go.Ground.phase }, { on := 12, ground := Go.Ground.phase }, { on := 13, ground := Go.Ground.phase }, { on := 14, ground := Go.Ground.phase }, { on := 15, ground := Go.Ground.phase }, { on := 16, ground := Go.Ground.phase }, { on := 17, ground := Go.Ground.phase }, { on := 18, ground := Go.Ground.phase }, { on := 19, ground := Go.Ground.phase }, { on := 20, ground := Go.Ground.phase }, { on := 21, ground := Go.Ground.phase }, { on := 22, ground := Go.Ground.phase }, { on := 23, ground := Go.Ground.phase }], guard := none }) (by kernel_rfl) (by kernel_rfl) rfl (fun K hK => ?_)
  go_simp
  refine hK.out _ _ ?_
  clear hK K
  (try simp only [Act.put, List.setIfInBounds_toArray, List.set_cons_zero, List.set_cons_succ])
  refine wpAnyJ_done (by kernel_rfl) ?_
  clear z2 z9 z8 z7 q4 q5 q6 f4 f5 f6 g5 g6 KT K69 K68 K67 ST
  have HE := hid (set_at HD6.out (o + 6) (.slice ea2 en ec2))
  have HCE : Hid (Cl (((c1.setIfInBounds (o + 4) (.slice aa2 an ac2)).setIfInBounds (o + 5) (.slice ba2 bn bc2)).setIfInBounds (o + 6) (.slice ea2 en ec2)) o ({ b := hb0, o := ho0, kind := kind, name := name, label := label, var := var, aa := aa2, an := an, ac := ac2, ba := ba2, bn := bn, bc := bc2, ea := ea2, en := en, ec := ec2, pos := 0 } : SH).cl) := hid (((HC1.out.set 4 (by simp [SH.cl]) (.slice aa2 an ac2)).set 5 (by simp [SH.cl]) (.slice ba2 bn bc2)).set 6 (by simp [SH.cl]) (.slice ea2 en ec2))
  have HFX : Hid (Fr w7.heap.size b o 8 w7 (((w7.setCell ⟨b, o + 4, none⟩ (.slice aa2 an ac2)).setCell ⟨b, o + 5, none⟩ (.slice ba2 bn bc2)).setCell ⟨b, o + 6, none⟩ (.slice ea2 en ec2))) := hid (((Fr.set (o + 4) _ (by omega) (by omega)).trans (Fr.set (o + 5) _ (by omega) (by omega))).trans (Fr.set (o + 6) _ (by omega) (by omega)))
  have HF5 := hid ((HF1.out.trans (Fr.of HB2.out (heap_lt HB1.out) HS1.out)).trans ((Fr.of H7.out (heap_lt HC2.out) HZ.out).trans (HFX.out.mono (Nat.le_trans HZ.out H7.out.size) (Nat.le_refl _) (Nat.le_refl _))))
  go_wp2
  go_end0
  exact ⟨⟨_, rfl⟩, HF5.out, aa2, ba2, ea2, ac2, bc2, ec2, _, T, HE.out, HCE.out, HRA.out.fr HFX.out (Nat.le_refl _) HBL.out, HRB.out.fr HFX.out (Nat.le_refl _) HBL.out, HRC.out.fr HFX.out (Nat.le_refl _) HBL.out, HN1.out, HN2.out, HN3.out⟩
end Go.Proofs.YtdfambocenohgaaGreatDoor

