/- makeBare of a tree. -/
import Derived.Test.YtdfambocenohgaaGreatDoorJAE
import Derived.Lib.OthersKept
import Derived.Lib.TrimU
import Derived.Shelf.Abstract
namespace Go.Proofs.YtdfambocenohgaaGreatDoor
open Go.RowKit Go.Deep Go.Shelf
set_option linter.unusedVariables false
set_option linter.unusedSimpArgs false
attribute [local go_sem] as58_58 as105_58 as101_58 as67_58 as58_105 as105_105 as101_105 as67_105 as58_101 as105_101 as101_101 as67_101 as58_67 as105_67 as101_67 as67_67
attribute [local go_sem] Oper.semAt_some
def TH.cl (h : TH) : List Value := [.slice h.ra h.rn h.rc, .slice h.ma h.mn h.mc, .slice h.fa h.fn h.fc, .slice h.ea h.en h.ec]
/- What makeBare of a tree leaves. -/
structure BT (W : World) (b o : Nat) (h : TH) (rcs mcs fcs ecs : List Value) (W' : World) : Prop where
  fr : Fr W.heap.size b o 4 W W'
  r : ∃ (ra ma fa ea : Option Addr) (rc mc fc ec : Nat) (c : Array Value) (T : TypeId), W'.heap[b]? = some (.cells c T (0, 0)) ∧ Cl c o ({ h with ra := ra, rc := rc, ma := ma, mc := mc, fa := fa, fc := fc, ea := ea, ec := ec } : TH).cl ∧ RowN W W' h.rn 52 rcs ra ∧ RowN W W' h.mn 52 mcs ma ∧ RowN W W' h.fn 52 fcs fa ∧ RowN W W' h.en 52 ecs ea ∧ (Apart ra ma ∧ Apart ra fa ∧ Apart ra ea) ∧ (Apart ma fa ∧ Apart ma ea) ∧ Apart fa ea
set_option maxRecDepth 100000 in
set_option maxHeartbeats 2000000 in
theorem bareT_any (w0 W : World) (h : TH) (b o : Nat) (c : Array Value) (T : TypeId) (hw : Below w0.heap.size w0 W) (hbn : w0.heap.size ≤ b) (hb : W.heap[b]? = some (.cells c T (0, 0))) (hc : Cl c o h.cl) (b1 : h.rn ≤ 1000000) (b2 : h.mn ≤ 1000000) (b3 : h.fn ≤ 1000000) (b4 : h.en ≤ 1000000) (rcs mcs fcs ecs : List Value) (l1 : rcs.length = h.rn * 7) (r1 : NRd w0 h.ra rcs) (l2 : mcs.length = h.mn * 7) (r2 : NRd w0 h.ma mcs) (l3 : fcs.length = h.fn * 7) (r3 : NRd w0 h.fa fcs) (l4 : ecs.length = h.en * 7) (r4 : NRd w0 h.ea ecs) :
    Calls Tryz.prog 42 #[.iface 58 (.pointer (some ⟨b, o, none⟩))] W fun e W' => (∃ v, e = .returned v) ∧ BT W b o h rcs mcs fcs ecs W' := by
  have hbl : b < W.heap.size := heap_lt hb
  have K1 := hid (fun (V : World) (hV : Below W.heap.size W V) => copied65_any V h.ra h.rn h.rc rcs l1 (nrd_in r1 (hw.trans (hV.mono hw.size))) b1)
  have K2 := hid (fun (V : World) (hV : Below W.heap.size W V) => copied65_any V h.ma h.mn h.mc mcs l2 (nrd_in r2 (hw.trans (hV.mono hw.size))) b2)
  have K3 := hid (fun (V : World) (hV : Below W.heap.size W V) => copied65_any V h.fa h.fn h.fc fcs l3 (nrd_in r3 (hw.trans (hV.mono hw.size))) b3)
  have K4 := hid (fun (V : World) (hV : Below W.heap.size W V) => copied65_any V h.ea h.en h.ec ecs l4 (nrd_in r4 (hw.trans (hV.mono hw.size))) b4)
  have HC2 := hid hb
  have HC1 := hid hc
  have HBL := hid hbl
  clear hb hc l1 l2 l3 l4 r1 r2 r3 r4 b1 b2 b3 b4 hw hbn hbl
  obtain ⟨hb0, ho0, ra, rn, rc, ma, mn, mc, fa, fn, fc, ea, en, ec⟩ := h
  simp only at K1 K2 K3 K4 HC1
  have ST := hid (fun (V : World) (hV : Below W.heap.size W V) => (show V.cell? ⟨b, o, none⟩ = some (.slice ra rn rc) ∧ V.cell? ⟨b, o + 1, none⟩ = some (.slice ma mn mc) ∧ V.cell? ⟨b, o + 2, none⟩ = some (.slice fa fn fc) ∧ V.cell? ⟨b, o + 3, none⟩ = some (.slice ea en ec) from by
    have h0 := (hV.block b (heap_lt HC2.out)).trans HC2.out
    exact ⟨by rw [cellT h0]; exact HC1.out 0 _ rfl, by rw [cellT h0, HC1.out 1 _ rfl], by rw [cellT h0, HC1.out 2 _ rfl], by rw [cellT h0, HC1.out 3 _ rfl]⟩))
  have z2 := ST.out W (Below.refl _ _)
  go_enter Tryz.func42, Tryz.ntmps42
  go_upto_region 3 with fail
  refine wp_region_J 26 (fun w : World => (w.cell? ⟨b, o, none⟩ = some (.slice ra rn rc) ∧ w.cell? ⟨b, o + 1, none⟩ = some (.slice ma mn mc) ∧ w.cell? ⟨b, o + 2, none⟩ = some (.slice fa fn fc) ∧ w.cell? ⟨b, o + 3, none⟩ = some (.slice ea en ec)) ∧ Below W.heap.size W w) (by kernel_rfl) ⟨z2, (Below.refl _ W).drew⟩ (fun hHeld => ?_)
  refine wpAnyJ_takeW (i := 0) (oi := { dst := some 12, op := Go.Op.move (Go.Operand.tmp 2), type := 58, pos := "parts.go:79", after := #[], guard := none }) (v := ?_) rfl (by kernel_rfl) (by kernel_rfl) (by kernel_rfl) (by kernel_rfl) (fun _ _ _ h => h) (Or.inl ⟨by rfl, ?_⟩) (Or.inr (by assumption)) ?_
  rotate_left
  · (intro w hSw; (try dsimp only at hSw); go_simp; (try with_reducible rfl))
  (try simp only [Act.put, List.setIfInBounds_toArray, List.set_cons_zero, List.set_cons_succ])
  refine wpAnyJ_takeW (i := 1) (oi := { dst := some 13, op := Go.Op.move (Go.Operand.tmp 2), type := 58, pos := "parts.go:79", after := #[{ on := 26, ground := Go.Ground.gcOnly Go.Departure.lateStores }], guard := none }) (v := ?_) rfl (by kernel_rfl) (by kernel_rfl) (by kernel_rfl) (by kernel_rfl) (fun _ _ _ h => h) (Or.inl ⟨by rfl, ?_⟩) (Or.inr (by assumption)) ?_
  rotate_left
  · (intro w hSw; (try dsimp only at hSw); go_simp; (try with_reducible rfl))
  (try simp only [Act.put, List.setIfInBounds_toArray, List.set_cons_zero, List.set_cons_succ])
  refine wpAnyJ_takeW (i := 2) (oi := { dst := some 14, op := Go.Op.move (Go.Operand.tmp 2), type := 58, pos := "parts.go:79", after := #[{ on := 29, ground := Go.Ground.gcOnly Go.Departure.lateStores }], guard := none }) (v := ?_) rfl (by kernel_rfl) (by kernel_rfl) (by kernel_rfl) (by kernel_rfl) (fun _ _ _ h => h) (Or.inl ⟨by rfl, ?_⟩) (Or.inr (by assumption)) ?_
  rotate_left
  · (intro w hSw; (try dsimp only at hSw); go_simp; (try with_reducible rfl))
  (try simp only [Act.put, List.setIfInBounds_toArray, List.set_cons_zero, List.set_cons_succ])
  refine wpAnyJ_takeW (i := 3) (oi := { dst := some 15, op := Go.Op.move (Go.Operand.tmp 2), type := 58, pos := "parts.go:79", after := #[{ on := 32, ground := Go.Ground.gcOnly Go.Departure.lateStores }], guard := none }) (v := ?_) rfl (by kernel_rfl) (by kernel_rfl) (by kernel_rfl) (by kernel_rfl) (fun _ _ _ h => h) (Or.inl ⟨by rfl, ?_⟩) (Or.inr (by assumption)) ?_
  rotate_left
  · (intro w hSw; (try dsimp only at hSw); go_simp; (try with_reducible rfl))
  (try simp only [Act.put, List.setIfInBounds_toArray, List.set_cons_zero, List.set_cons_succ])
  refine wpAnyJ_takeW (i := 4) (oi := { dst := some 16, op := Go.Op.move (Go.Operand.tmp 2), type := 58, pos := "parts.go:79", after := #[], guard := none }) (v := ?_) rfl (by kernel_rfl) (by kernel_rfl) (by kernel_rfl) (by kernel_rfl) (fun _ _ _ h => h) (Or.inl ⟨by rfl, ?_⟩) (Or.inr (by assumption)) ?_
  rotate_left
  · (intro w hSw; (try dsimp only at hSw); go_simp; (try with_reducible rfl))
  (try simp only [Act.put, List.setIfInBounds_toArray, List.set_cons_zero, List.set_cons_succ])
  refine wpAnyJ_takeW (i := 5) (oi := { dst := some 17, op := Go.Op.nilCheck (Go.Operand.tmp 16), type := 0, pos := "parts.go:79", after := #[{ on := 4, ground := Go.Ground.data }], guard := none }) (v := ?_) rfl (by kernel_rfl) (by kernel_rfl) (by kernel_rfl) (by kernel_rfl) (fun _ _ _ h => h) (Or.inl ⟨by rfl, ?_⟩) (Or.inr (by assumption)) ?_
  rotate_left
  · (intro w hSw; (try dsimp only at hSw); go_simp; (try with_reducible rfl))
  (try simp only [Act.put, List.setIfInBounds_toArray, List.set_cons_zero, List.set_cons_succ])
  refine wpAnyJ_takeW (i := 6) (oi := { dst := some 18, op := Go.Op.fieldAddr 24 (Go.Operand.tmp 17) 0, type := 0, pos := "parts.go:79", after := #[{ on := 5, ground := Go.Ground.data }], guard := none }) (v := ?_) rfl (by kernel_rfl) (by kernel_rfl) (by kernel_rfl) (by kernel_rfl) (fun _ _ _ h => h) (Or.inl ⟨by rfl, ?_⟩) (Or.inr (by assumption)) ?_
  rotate_left
  · (intro w hSw; (try dsimp only at hSw); go_simp; (try with_reducible rfl))
  (try simp only [Act.put, List.setIfInBounds_toArray, List.set_cons_zero, List.set_cons_succ])
  refine wpAnyJ_take (i := 7) (oi := { dst := some 19, op := Go.Op.load 22 (Go.Operand.tmp 18), type := 22, pos := "parts.go:79", after := #[{ on := 6, ground := Go.Ground.data }], guard := none }) (v := ?_) [26] rfl (by kernel_rfl) (by kernel_rfl) (by kernel_rfl) (by kernel_rfl) (fun _ _ _ h => h) (Or.inl ⟨by rfl, ?_⟩) (by assumption) ?_
  rotate_left
  · (intro w hSw; (try dsimp only at hSw); go_simp; (try with_reducible rfl))
  (try simp only [Act.put, List.setIfInBounds_toArray, List.set_cons_zero, List.set_cons_succ])
  refine wpAnyJ_takeW (i := 9) (oi := { dst := some 21, op := Go.Op.move (Go.Operand.tmp 2), type := 58, pos := "parts.go:79", after := #[], guard := none }) (v := ?_) rfl (by kernel_rfl) (by kernel_rfl) (by kernel_rfl) (by kernel_rfl) (fun _ _ _ h => h) (Or.inl ⟨by rfl, ?_⟩) (Or.inr (by assumption)) ?_
  rotate_left
  · (intro w hSw; (try dsimp only at hSw); go_simp; (try with_reducible rfl))
  (try simp only [Act.put, List.setIfInBounds_toArray, List.set_cons_zero, List.set_cons_succ])
  refine wpAnyJ_takeW (i := 10) (oi := { dst := some 22, op := Go.Op.nilCheck (Go.Operand.tmp 21), type := 0, pos := "parts.go:79", after := #[{ on := 9, ground := Go.Ground.data }], guard := none }) (v := ?_) rfl (by kernel_rfl) (by kernel_rfl) (by kernel_rfl) (by kernel_rfl) (fun _ _ _ h => h) (Or.inl ⟨by rfl, ?_⟩) (Or.inr (by assumption)) ?_
  rotate_left
  · (intro w hSw; (try dsimp only at hSw); go_simp; (try with_reducible rfl))
  (try simp only [Act.put, List.setIfInBounds_toArray, List.set_cons_zero, List.set_cons_succ])
  refine wpAnyJ_takeW (i := 11) (oi := { dst := some 23, op := Go.Op.fieldAddr 24 (Go.Operand.tmp 22) 1, type := 0, pos := "parts.go:79", after := #[{ on := 10, ground := Go.Ground.data }], guard := none }) (v := ?_) rfl (by kernel_rfl) (by kernel_rfl) (by kernel_rfl) (by kernel_rfl) (fun _ _ _ h => h) (Or.inl ⟨by rfl, ?_⟩) (Or.inr (by assumption)) ?_
  rotate_left
  · (intro w hSw; (try dsimp only at hSw); go_simp; (try with_reducible rfl))
  (try simp only [Act.put, List.setIfInBounds_toArray, List.set_cons_zero, List.set_cons_succ])
  refine wpAnyJ_take (i := 12) (oi := { dst := some 24, op := Go.Op.load 22 (Go.Operand.tmp 23), type := 22, pos := "parts.go:79", after := #[{ on := 11, ground := Go.Ground.data }], guard := none }) (v := ?_) [26] rfl (by kernel_rfl) (by kernel_rfl) (by kernel_rfl) (by kernel_rfl) (fun _ _ _ h => h) (Or.inl ⟨by rfl, ?_⟩) (by assumption) ?_
  rotate_left
  · (intro w hSw; (try dsimp only at hSw); go_simp; (try with_reducible rfl))
  (try simp only [Act.put, List.setIfInBounds_toArray, List.set_cons_zero, List.set_cons_succ])
  refine wpAnyJ_takeW (i := 14) (oi := { dst := some 26, op := Go.Op.move (Go.Operand.tmp 2), type := 58, pos := "parts.go:79", after := #[], guard := none }) (v := ?_) rfl (by kernel_rfl) (by kernel_rfl) (by kernel_rfl) (by kernel_rfl) (fun _ _ _ h => h) (Or.inl ⟨by rfl, ?_⟩) (Or.inr (by assumption)) ?_
  rotate_left
  · (intro w hSw; (try dsimp only at hSw); go_simp; (try with_reducible rfl))
  (try simp only [Act.put, List.setIfInBounds_toArray, List.set_cons_zero, List.set_cons_succ])
  refine wpAnyJ_takeW (i := 15) (oi := { dst := some 27, op := Go.Op.nilCheck (Go.Operand.tmp 26), type := 0, pos := "parts.go:79", after := #[{ on := 14, ground := Go.Ground.data }], guard := none }) (v := ?_) rfl (by kernel_rfl) (by kernel_rfl) (by kernel_rfl) (by kernel_rfl) (fun _ _ _ h => h) (Or.inl ⟨by rfl, ?_⟩) (Or.inr (by assumption)) ?_
  rotate_left
  · (intro w hSw; (try dsimp only at hSw); go_simp; (try with_reducible rfl))
  (try simp only [Act.put, List.setIfInBounds_toArray, List.set_cons_zero, List.set_cons_succ])
  refine wpAnyJ_takeW (i := 16) (oi := { dst := some 28, op := Go.Op.fieldAddr 24 (Go.Operand.tmp 27) 2, type := 0, pos := "parts.go:79", after := #[{ on := 15, ground := Go.Ground.data }], guard := none }) (v := ?_) rfl (by kernel_rfl) (by kernel_rfl) (by kernel_rfl) (by kernel_rfl) (fun _ _ _ h => h) (Or.inl ⟨by rfl, ?_⟩) (Or.inr (by assumption)) ?_
  rotate_left
  · (intro w hSw; (try dsimp only at hSw); go_simp; (try with_reducible rfl))
  (try simp only [Act.put, List.setIfInBounds_toArray, List.set_cons_zero, List.set_cons_succ])
  refine wpAnyJ_take (i := 17) (oi := { dst := some 29, op := Go.Op.load 22 (Go.Operand.tmp 28), type := 22, pos := "parts.go:79", after := #[{ on := 16, ground := Go.Ground.data }], guard := none }) (v := ?_) [26] rfl (by kernel_rfl) (by kernel_rfl) (by kernel_rfl) (by kernel_rfl) (fun _ _ _ h => h) (Or.inl ⟨by rfl, ?_⟩) (by assumption) ?_
  rotate_left
  · (intro w hSw; (try dsimp only at hSw); go_simp; (try with_reducible rfl))
  (try simp only [Act.put, List.setIfInBounds_toArray, List.set_cons_zero, List.set_cons_succ])
  refine wpAnyJ_takeW (i := 19) (oi := { dst := some 31, op := Go.Op.move (Go.Operand.tmp 2), type := 58, pos := "parts.go:79", after := #[], guard := none }) (v := ?_) rfl (by kernel_rfl) (by kernel_rfl) (by kernel_rfl) (by kernel_rfl) (fun _ _ _ h => h) (Or.inl ⟨by rfl, ?_⟩) (Or.inr (by assumption)) ?_
  rotate_left
  · (intro w hSw; (try dsimp only at hSw); go_simp; (try with_reducible rfl))
  (try simp only [Act.put, List.setIfInBounds_toArray, List.set_cons_zero, List.set_cons_succ])
  refine wpAnyJ_takeW (i := 20) (oi := { dst := some 32, op := Go.Op.nilCheck (Go.Operand.tmp 31), type := 0, pos := "parts.go:79", after := #[{ on := 19, ground := Go.Ground.data }], guard := none }) (v := ?_) rfl (by kernel_rfl) (by kernel_rfl) (by kernel_rfl) (by kernel_rfl) (fun _ _ _ h => h) (Or.inl ⟨by rfl, ?_⟩) (Or.inr (by assumption)) ?_
  rotate_left
  · (intro w hSw; (try dsimp only at hSw); go_simp; (try with_reducible rfl))
  (try simp only [Act.put, List.setIfInBounds_toArray, List.set_cons_zero, List.set_cons_succ])
  refine wpAnyJ_takeW (i := 21) (oi := { dst := some 33, op := Go.Op.fieldAddr 24 (Go.Operand.tmp 32) 3, type := 0, pos := "parts.go:79", after := #[{ on := 20, ground := Go.Ground.data }], guard := none }) (v := ?_) rfl (by kernel_rfl) (by kernel_rfl) (by kernel_rfl) (by kernel_rfl) (fun _ _ _ h => h) (Or.inl ⟨by rfl, ?_⟩) (Or.inr (by assumption)) ?_
  rotate_left
  · (intro w hSw; (try dsimp only at hSw); go_simp; (try with_reducible rfl))
  (try simp only [Act.put, List.setIfInBounds_toArray, List.set_cons_zero, List.set_cons_succ])
  refine wpAnyJ_take (i := 22) (oi := { dst := some 34, op := Go.Op.load 22 (Go.Operand.tmp 33), type := 22, pos := "parts.go:79", after := #[{ on := 21, ground := Go.Ground.data }], guard := none }) (v := ?_) [26] rfl (by kernel_rfl) (by kernel_rfl) (by kernel_rfl) (by kernel_rfl) (fun _ _ _ h => h) (Or.inl ⟨by rfl, ?_⟩) (by assumption) ?_
  rotate_left
  · (intro w hSw; (try dsimp only at hSw); go_simp; (try with_reducible rfl))
  (try simp only [Act.put, List.setIfInBounds_toArray, List.set_cons_zero, List.set_cons_succ])
  refine wpAnyJ_one (i := 8) (o := { dst := some 20, op := Go.Op.call { callee := Go.Callee.value (Go.Operand.func 65), args := #[Go.Operand.tmp 19], argTypes := #[22] }, type := 22, pos := "parts.go:79", after := #[{ on := 7, ground := Go.Ground.data }], guard := none }) (by kernel_rfl) rfl (fun K hK => ?_)
  go_simp
  (refine (Hid.out K1 _ hHeld.2).mono ?_; rintro e w9 ⟨vv, rfl, hcx⟩; obtain ⟨ra2, rc2, rfl, hrx, hbx, hyx⟩ := hcx.row (V := W) hHeld.2.size; have h9 : Below W.heap.size W w9 := hHeld.2.trans (hbx.mono hHeld.2.size); have HR1 := hid hrx; have z9 := ST.out w9 h9; clear hcx hrx hbx hyx)
  try go_wp2_with fail
  refine hK.out _ _ ⟨z9, h9⟩ (fun hHeldN => ?_)
  clear hK K hHeld
  have hHeld := hHeldN
  clear hHeldN
  (try simp only [Act.put, List.setIfInBounds_toArray, List.set_cons_zero, List.set_cons_succ])
  refine wpAnyJ_one (i := 13) (o := { dst := some 25, op := Go.Op.call { callee := Go.Callee.value (Go.Operand.func 65), args := #[Go.Operand.tmp 24], argTypes := #[22] }, type := 22, pos := "parts.go:79", after := #[{ on := 12, ground := Go.Ground.data }, { on := 8, ground := Go.Ground.chain }], guard := none }) (by kernel_rfl) rfl (fun K hK => ?_)
  go_simp
  (refine (Hid.out K2 _ hHeld.2).mono ?_; rintro e w8 ⟨vv, rfl, hcx⟩; obtain ⟨ma2, mc2, rfl, hrx, hbx, hyx⟩ := hcx.row (V := W) hHeld.2.size; have h8 : Below W.heap.size W w8 := hHeld.2.trans (hbx.mono hHeld.2.size); have HR2 := hid hrx; have HN1 : Hid (Apart ra2 ma2) := hid (fun x y e1 e2 => by have := (HR1.out.1 x e1).2; have := hyx y e2; omega); have HR3 := hid (HR1.out.below hbx); clear HR1; have z8 := ST.out w8 h8; clear hcx hrx hbx hyx)
  try go_wp2_with fail
  refine hK.out _ _ ⟨z8, h8⟩ (fun hHeldN => ?_)
  clear hK K hHeld
  have hHeld := hHeldN
  clear hHeldN
  (try simp only [Act.put, List.setIfInBounds_toArray, List.set_cons_zero, List.set_cons_succ])
  refine wpAnyJ_one (i := 18) (o := { dst := some 30, op := Go.Op.call { callee := Go.Callee.value (Go.Operand.func 65), args := #[Go.Operand.tmp 29], argTypes := #[22] }, type := 22, pos := "parts.go:79", after := #[{ on := 17, ground := Go.Ground.data }, { on := 13, ground := Go.Ground.chain }], guard := none }) (by kernel_rfl) rfl (fun K hK => ?_)
  go_simp
  (refine (Hid.out K3 _ hHeld.2).mono ?_; rintro e w7 ⟨vv, rfl, hcx⟩; obtain ⟨fa2, fc2, rfl, hrx, hbx, hyx⟩ := hcx.row (V := W) hHeld.2.size; have h7 : Below W.heap.size W w7 := hHeld.2.trans (hbx.mono hHeld.2.size); have HR4 := hid hrx; have HN2 : Hid (Apart ra2 fa2) := hid (fun x y e1 e2 => by have := (HR3.out.1 x e1).2; have := hyx y e2; omega); have HN3 : Hid (Apart ma2 fa2) := hid (fun x y e1 e2 => by have := (HR2.out.1 x e1).2; have := hyx y e2; omega); have HR5 := hid (HR2.out.below hbx); have HR6 := hid (HR3.out.below hbx); clear HR2 HR3; have z7 := ST.out w7 h7; clear hcx hrx hbx hyx)
  try go_wp2_with fail
  refine hK.out _ _ ⟨z7, h7⟩ (fun hHeldN => ?_)
  clear hK K hHeld
  have hHeld := hHeldN
  clear hHeldN
  (try simp only [Act.put, List.setIfInBounds_toArray, List.set_cons_zero, List.set_cons_succ])
  refine wpAnyJ_one (i := 23) (o := { dst := some 35, op := Go.Op.call { callee := Go.Callee.value (Go.Operand.func 65), args := #[Go.Operand.tmp 34], argTypes := #[22] }, type := 22, pos := "parts.go:79", after := #[{ on := 22, ground := Go.Ground.data }, { on := 18, ground := Go.Ground.chain }], guard := none }) (by kernel_rfl) rfl (fun K hK => ?_)
  go_simp
  (refine (Hid.out K4 _ hHeld.2).mono ?_; rintro e w6 ⟨vv, rfl, hcx⟩; obtain ⟨ea2, ec2, rfl, hrx, hbx, hyx⟩ := hcx.row (V := W) hHeld.2.size; have h6 : Below W.heap.size W w6 := hHeld.2.trans (hbx.mono hHeld.2.size); have HRD := hid hrx; have HN4 : Hid (Apart ra2 ea2) := hid (fun x y e1 e2 => by have := (HR6.out.1 x e1).2; have := hyx y e2; omega); have HN5 : Hid (Apart ma2 ea2) := hid (fun x y e1 e2 => by have := (HR5.out.1 x e1).2; have := hyx y e2; omega); have HN6 : Hid (Apart fa2 ea2) := hid (fun x y e1 e2 => by have := (HR4.out.1 x e1).2; have := hyx y e2; omega); have HRC := hid (HR4.out.below hbx); have HRB := hid (HR5.out.below hbx); have HRA := hid (HR6.out.below hbx); clear HR4 HR5 HR6; have H6 := hid h6; have HC := hid ((h6.block b (heap_lt HC2.out)).trans HC2.out); have f4 := freeT HC.out o; have z6 := ST.out w6 h6; clear hcx hrx hbx hyx)
  try go_wp2_with fail
  refine hK.out _ _ ⟨z6, h6⟩ (fun hHeldN => ?_)
  clear hK K hHeld
  have hHeld := hHeldN
  clear hHeldN
  (try simp only [Act.put, List.setIfInBounds_toArray, List.set_cons_zero, List.set_cons_succ])
  refine wpAnyJ_takeW (i := 24) (oi := { dst := some 36, op := Go.Op.nilCheck (Go.Operand.tmp 12), type := 0, pos := "parts.go:79", after := #[{ on := 0, ground := Go.Ground.data }, { on := 0, ground := Go.Ground.phase }, { on := 1, ground := Go.Ground.textOnly Go.Departure.lateStores }, { on := 2, ground := Go.Ground.textOnly Go.Departure.lateStores }, { on := 3, ground := Go.Ground.textOnly Go.Departure.lateStores }, { on := 4, ground := Go.Ground.phase }, { on := 5, ground := Go.Ground.phase }, { on := 6, ground := Go.Ground.phase }, { on := 7, ground := Go.Ground.phase }, { on := 8, ground := Go.Ground.phase }, { on := 9, ground := Go.Ground.textOnly Go.Departure.lateStores }, { on := 10, ground := Go.Ground.textOnly Go.Departure.lateStoresUnsure }, { on := 11, ground := Go.Ground.textOnly Go.Departure.lateStoresUnsure }, { on := 12, ground := Go.Ground.phase }, { on := 13, ground := Go.Ground.phase }, { on := 14, ground := Go.Ground.textOnly Go.Departure.lateStores }, { on := 15, ground := Go.Ground.textOnly Go.Departure.lateStoresUnsure }, { on := 16, ground := Go.Ground.textOnly Go.Departure.lateStoresUnsure }, { on := 17, ground := Go.Ground.phase }, { on := 18, ground := Go.Ground.phase }, { on := 19, ground := Go.Ground.textOnly Go.Departure.lateStores }, { on := 20, ground := Go.Ground.textOnly Go.Departure.lateStoresUnsure }, { on := 21, ground := Go.Ground.textOnly Go.Departure.lateStoresUnsure }, { on := 22, ground := Go.Ground.phase }, { on := 23, ground := Go.Ground.phase }], guard := none }) (v := ?_) rfl (by kernel_rfl) (by kernel_rfl) (by kernel_rfl) (by kernel_rfl) (fun _ _ _ h => h) (Or.inl ⟨by rfl, ?_⟩) (Or.inr (by assumption)) ?_
  rotate_left
  · (intro w hSw; (try dsimp only at hSw); go_simp; (try with_reducible rfl))
  (try simp only [Act.put, List.setIfInBounds_toArray, List.set_cons_zero, List.set_cons_succ])
  refine wpAnyJ_takeW (i := 25) (oi := { dst := some 37, op := Go.Op.fieldAddr 24 (Go.Operand.tmp 36) 0, type := 0, pos := "parts.go:79", after := #[{ on := 24, ground := Go.Ground.data }, { on := 0, ground := Go.Ground.phase }, { on := 1, ground := Go.Ground.textOnly Go.Departure.lateStores }, { on := 2, ground := Go.Ground.textOnly Go.Departure.lateStores }, { on := 3, ground := Go.Ground.textOnly Go.Departure.lateStores }, { on := 4, ground := Go.Ground.phase }, { on := 5, ground := Go.Ground.phase }, { on := 6, ground := Go.Ground.phase }, { on := 7, ground := Go.Ground.phase }, { on := 8, ground := Go.Ground.phase }, { on := 9, ground := Go.Ground.textOnly Go.Departure.lateStores }, { on := 10, ground := Go.Ground.textOnly Go.Departure.lateStoresUnsure }, { on := 11, ground := Go.Ground.textOnly Go.Departure.lateStoresUnsure }, { on := 12, ground := Go.Ground.phase }, { on := 13, ground := Go.Ground.phase }, { on := 14, ground := Go.Ground.textOnly Go.Departure.lateStores }, { on := 15, ground := Go.Ground.textOnly Go.Departure.lateStoresUnsure }, { on := 16, ground := Go.Ground.textOnly Go.Departure.lateStoresUnsure }, { on := 17, ground := Go.Ground.phase }, { on := 18, ground := Go.Ground.phase }, { on := 19, ground := Go.Ground.textOnly Go.Departure.lateStores }, { on := 20, ground := Go.Ground.textOnly Go.Departure.lateStoresUnsure }, { on := 21, ground := Go.Ground.textOnly Go.Departure.lateStoresUnsure }, { on := 22, ground := Go.Ground.phase }, { on := 23, ground := Go.Ground.phase }], guard := none }) (v := ?_) rfl (by kernel_rfl) (by kernel_rfl) (by kernel_rfl) (by kernel_rfl) (fun _ _ _ h => h) (Or.inl ⟨by rfl, ?_⟩) (Or.inr (by assumption)) ?_
  rotate_left
  · (intro w hSw; (try dsimp only at hSw); go_simp; (try with_reducible rfl))
  (try simp only [Act.put, List.setIfInBounds_toArray, List.set_cons_zero, List.set_cons_succ])
  refine wpAnyJ_oneL (i := 26) (o := { dst := none, op := Go.Op.store 22 (Go.Operand.tmp 37) (Go.Operand.tmp 20), type := 0, pos := "parts.go:79", after := #[{ on := 25, ground := Go.Ground.data }, { on := 8, ground := Go.Ground.data }, { on := 23, ground := Go.Ground.chain }, { on := 0, ground := Go.Ground.phase }, { on := 1, ground := Go.Ground.textOnly Go.Departure.lateStores }, { on := 2, ground := Go.Ground.textOnly Go.Departure.lateStores }, { on := 3, ground := Go.Ground.textOnly Go.Departure.lateStores }, { on := 4, ground := Go.Ground.phase }, { on := 5, ground := Go.Ground.phase }, { on := 6, ground := Go.Ground.phase }, { on := 7, ground := Go.Ground.phase }, { on := 8, ground := Go.Ground.phase }, { on := 9, ground := Go.Ground.textOnly Go.Departure.lateStores }, { on := 10, ground := Go.Ground.textOnly Go.Departure.lateStoresUnsure }, { on := 11, ground := Go.Ground.textOnly Go.Departure.lateStoresUnsure }, { on := 12, ground := Go.Ground.phase }, { on := 13, ground := Go.Ground.phase }, { on := 14, ground := Go.Ground.textOnly Go.Departure.lateStores }, { on := 15, ground := Go.Ground.textOnly Go.Departure.lateStoresUnsure }, { on := 16, ground := Go.Ground.textOnly Go.Departure.lateStoresUnsure }, { on := 17, ground := Go.Ground.phase }, { on := 18, ground := Go.Ground.phase }, { on := 19, ground := Go.Ground.textOnly Go.Departure.lateStores }, { on := 20, ground := Go.Ground.textOnly Go.Departure.lateStoresUnsure }, { on := 21, ground := Go.Ground.textOnly Go.Departure.lateStoresUnsure }, { on := 22, ground := Go.Ground.phase }, { on := 23, ground := Go.Ground.phase }], guard := none }) (by kernel_rfl) (by kernel_rfl) rfl (fun K hK => ?_)
  have q4 := z6.1
  go_simp
  have HD := hid (set_at HC.out o (.slice ra2 rn rc2))
  have f5 := freeT HD.out (o + 1)
  have q5 : (w6.setCell ⟨b, o, none⟩ (.slice ra2 rn rc2)).cell? ⟨b, o + 1, none⟩ = some (.slice ma mn mc) := by rw [World.cell?_setCell_other _ _ _ _ (by intro e; injection e with e1 e2; omega)]; exact z6.2.1
  have g6 : (w6.setCell ⟨b, o, none⟩ (.slice ra2 rn rc2)).cell? ⟨b, o + 2, none⟩ = some (.slice fa fn fc) := by rw [World.cell?_setCell_other _ _ _ _ (by intro e; injection e with e1 e2; omega)]; exact z6.2.2.1
  have k7 : (w6.setCell ⟨b, o, none⟩ (.slice ra2 rn rc2)).cell? ⟨b, o + 3, none⟩ = some (.slice ea en ec) := by rw [World.cell?_setCell_other _ _ _ _ (by intro e; injection e with e1 e2; omega)]; exact z6.2.2.2
  refine hK.out _ _ ?_
  clear hK K
  clear hHeld
  (try simp only [Act.put, List.setIfInBounds_toArray, List.set_cons_zero, List.set_cons_succ])
  refine wpAnyJ_takeW (i := 27) (oi := { dst := some 38, op := Go.Op.nilCheck (Go.Operand.tmp 13), type := 0, pos := "parts.go:79", after := #[{ on := 1, ground := Go.Ground.data }, { on := 0, ground := Go.Ground.phase }, { on := 1, ground := Go.Ground.phase }, { on := 2, ground := Go.Ground.textOnly Go.Departure.lateStores }, { on := 3, ground := Go.Ground.textOnly Go.Departure.lateStores }, { on := 4, ground := Go.Ground.phase }, { on := 5, ground := Go.Ground.phase }, { on := 6, ground := Go.Ground.phase }, { on := 7, ground := Go.Ground.phase }, { on := 8, ground := Go.Ground.phase }, { on := 9, ground := Go.Ground.phase }, { on := 10, ground := Go.Ground.phase }, { on := 11, ground := Go.Ground.phase }, { on := 12, ground := Go.Ground.phase }, { on := 13, ground := Go.Ground.phase }, { on := 14, ground := Go.Ground.textOnly Go.Departure.lateStores }, { on := 15, ground := Go.Ground.textOnly Go.Departure.lateStoresUnsure }, { on := 16, ground := Go.Ground.textOnly Go.Departure.lateStoresUnsure }, { on := 17, ground := Go.Ground.phase }, { on := 18, ground := Go.Ground.phase }, { on := 19, ground := Go.Ground.textOnly Go.Departure.lateStores }, { on := 20, ground := Go.Ground.textOnly Go.Departure.lateStoresUnsure }, { on := 21, ground := Go.Ground.textOnly Go.Departure.lateStoresUnsure }, { on := 22, ground := Go.Ground.phase }, { on := 23, ground := Go.Ground.phase }, { on := 24, ground := Go.Ground.phase }, { on := 25, ground := Go.Ground.phase }, { on := 26, ground := Go.Ground.phase }], guard := none }) (v := ?_) rfl (by kernel_rfl) (by kernel_rfl) (by kernel_rfl) (by kernel_rfl) (fun _ _ _ h => h) (Or.inl ⟨by rfl, ?_⟩) (Or.inl (by kernel_rfl)) ?_
  rotate_left
  · (intro w hSw; (try dsimp only at hSw); go_simp; (try with_reducible rfl))
  (try simp only [Act.put, List.setIfInBounds_toArray, List.set_cons_zero, List.set_cons_succ])
  refine wpAnyJ_takeW (i := 28) (oi := { dst := some 39, op := Go.Op.fieldAddr 24 (Go.Operand.tmp 38) 1, type := 0, pos := "parts.go:79", after := #[{ on := 27, ground := Go.Ground.data }, { on := 0, ground := Go.Ground.phase }, { on := 1, ground := Go.Ground.phase }, { on := 2, ground := Go.Ground.textOnly Go.Departure.lateStores }, { on := 3, ground := Go.Ground.textOnly Go.Departure.lateStores }, { on := 4, ground := Go.Ground.phase }, { on := 5, ground := Go.Ground.phase }, { on := 6, ground := Go.Ground.phase }, { on := 7, ground := Go.Ground.phase }, { on := 8, ground := Go.Ground.phase }, { on := 9, ground := Go.Ground.phase }, { on := 10, ground := Go.Ground.phase }, { on := 11, ground := Go.Ground.phase }, { on := 12, ground := Go.Ground.phase }, { on := 13, ground := Go.Ground.phase }, { on := 14, ground := Go.Ground.textOnly Go.Departure.lateStores }, { on := 15, ground := Go.Ground.textOnly Go.Departure.lateStoresUnsure }, { on := 16, ground := Go.Ground.textOnly Go.Departure.lateStoresUnsure }, { on := 17, ground := Go.Ground.phase }, { on := 18, ground := Go.Ground.phase }, { on := 19, ground := Go.Ground.textOnly Go.Departure.lateStores }, { on := 20, ground := Go.Ground.textOnly Go.Departure.lateStoresUnsure }, { on := 21, ground := Go.Ground.textOnly Go.Departure.lateStoresUnsure }, { on := 22, ground := Go.Ground.phase }, { on := 23, ground := Go.Ground.phase }, { on := 24, ground := Go.Ground.phase }, { on := 25, ground := Go.Ground.phase }, { on := 26, ground := Go.Ground.phase }], guard := none }) (v := ?_) rfl (by kernel_rfl) (by kernel_rfl) (by kernel_rfl) (by kernel_rfl) (fun _ _ _ h => h) (Or.inl ⟨by rfl, ?_⟩) (Or.inl (by kernel_rfl)) ?_
  rotate_left
  · (intro w hSw; (try dsimp only at hSw); go_simp; (try with_reducible rfl))
  (try simp only [Act.put, List.setIfInBounds_toArray, List.set_cons_zero, List.set_cons_succ])
  refine wpAnyJ_oneL (i := 29) (o := { dst := none, op := Go.Op.store 22 (Go.Operand.tmp 39) (Go.Operand.tmp 25), type := 0, pos := "parts.go:79", after := #[{ on := 28, ground := Go.Ground.data }, { on := 13, ground := Go.Ground.data }, { on := 26, ground := Go.Ground.chain }, { on := 0, ground := Go.Ground.phase }, { on := 1, ground := Go.Ground.phase }, { on := 2, ground := Go.Ground.textOnly Go.Departure.lateStores }, { on := 3, ground := Go.Ground.textOnly Go.Departure.lateStores }, { on := 4, ground := Go.Ground.phase }, { on := 5, ground := Go.Ground.phase }, { on := 6, ground := Go.Ground.phase }, { on := 7, ground := Go.Ground.phase }, { on := 8, ground := Go.Ground.phase }, { on := 9, ground := Go.Ground.phase }, { on := 10, ground := Go.Ground.phase }, { on := 11, ground := Go.Ground.phase }, { on := 12, ground := Go.Ground.phase }, { on := 13, ground := Go.Ground.phase }, { on := 14, ground := Go.Ground.textOnly Go.Departure.lateStores }, { on := 15, ground := Go.Ground.textOnly Go.Departure.lateStoresUnsure }, { on := 16, ground := Go.Ground.textOnly Go.Departure.lateStoresUnsure }, { on := 17, ground := Go.Ground.phase }, { on := 18, ground := Go.Ground.phase }, { on := 19, ground := Go.Ground.textOnly Go.Departure.lateStores }, { on := 20, ground := Go.Ground.textOnly Go.Departure.lateStoresUnsure }, { on := 21, ground := Go.Ground.textOnly Go.Departure.lateStoresUnsure }, { on := 22, ground := Go.Ground.phase }, { on := 23, ground := Go.Ground.phase }, { on := 24, ground := Go.Ground.phase }, { on := 25, ground := Go.Ground.phase }, { on := 26, ground := Go.Ground.phase }], guard := none }) (by kernel_rfl) (by kernel_rfl) rfl (fun K hK => ?_)
  go_simp
  have HD6 := hid (set_at HD.out (o + 1) (.slice ma2 mn mc2))
  have f6 := freeT HD6.out (o + 2)
  have q6 : ((w6.setCell ⟨b, o, none⟩ (.slice ra2 rn rc2)).setCell ⟨b, o + 1, none⟩ (.slice ma2 mn mc2)).cell? ⟨b, o + 2, none⟩ = some (.slice fa fn fc) := by rw [World.cell?_setCell_other _ _ _ _ (by intro e; injection e with e1 e2; omega)]; exact g6
  have g7 : ((w6.setCell ⟨b, o, none⟩ (.slice ra2 rn rc2)).setCell ⟨b, o + 1, none⟩ (.slice ma2 mn mc2)).cell? ⟨b, o + 3, none⟩ = some (.slice ea en ec) := by rw [World.cell?_setCell_other _ _ _ _ (by intro e; injection e with e1 e2; omega)]; exact k7
  refine hK.out _ _ ?_
  clear hK K
  (try simp only [Act.put, List.setIfInBounds_toArray, List.set_cons_zero, List.set_cons_succ])
  refine wpAnyJ_takeW (i := 30) (oi := { dst := some 40, op := Go.Op.nilCheck (Go.Operand.tmp 14), type := 0, pos := "parts.go:79", after := #[{ on := 2, ground := Go.Ground.data }, { on := 0, ground := Go.Ground.phase }, { on := 1, ground := Go.Ground.phase }, { on := 2, ground := Go.Ground.phase }, { on := 3, ground := Go.Ground.textOnly Go.Departure.lateStores }, { on := 4, ground := Go.Ground.phase }, { on := 5, ground := Go.Ground.phase }, { on := 6, ground := Go.Ground.phase }, { on := 7, ground := Go.Ground.phase }, { on := 8, ground := Go.Ground.phase }, { on := 9, ground := Go.Ground.phase }, { on := 10, ground := Go.Ground.phase }, { on := 11, ground := Go.Ground.phase }, { on := 12, ground := Go.Ground.phase }, { on := 13, ground := Go.Ground.phase }, { on := 14, ground := Go.Ground.phase }, { on := 15, ground := Go.Ground.phase }, { on := 16, ground := Go.Ground.phase }, { on := 17, ground := Go.Ground.phase }, { on := 18, ground := Go.Ground.phase }, { on := 19, ground := Go.Ground.textOnly Go.Departure.lateStores }, { on := 20, ground := Go.Ground.textOnly Go.Departure.lateStoresUnsure }, { on := 21, ground := Go.Ground.textOnly Go.Departure.lateStoresUnsure }, { on := 22, ground := Go.Ground.phase }, { on := 23, ground := Go.Ground.phase }, { on := 24, ground := Go.Ground.phase }, { on := 25, ground := Go.Ground.phase }, { on := 26, ground := Go.Ground.phase }, { on := 27, ground := Go.Ground.phase }, { on := 28, ground := Go.Ground.phase }, { on := 29, ground := Go.Ground.phase }], guard := none }) (v := ?_) rfl (by kernel_rfl) (by kernel_rfl) (by kernel_rfl) (by kernel_rfl) (fun _ _ _ h => h) (Or.inl ⟨by rfl, ?_⟩) (Or.inl (by kernel_rfl)) ?_
  rotate_left
  · (intro w hSw; (try dsimp only at hSw); go_simp; (try with_reducible rfl))
  (try simp only [Act.put, List.setIfInBounds_toArray, List.set_cons_zero, List.set_cons_succ])
  refine wpAnyJ_takeW (i := 31) (oi := { dst := some 41, op := Go.Op.fieldAddr 24 (Go.Operand.tmp 40) 2, type := 0, pos := "parts.go:79", after := #[{ on := 30, ground := Go.Ground.data }, { on := 0, ground := Go.Ground.phase }, { on := 1, ground := Go.Ground.phase }, { on := 2, ground := Go.Ground.phase }, { on := 3, ground := Go.Ground.textOnly Go.Departure.lateStores }, { on := 4, ground := Go.Ground.phase }, { on := 5, ground := Go.Ground.phase }, { on := 6, ground := Go.Ground.phase }, { on := 7, ground := Go.Ground.phase }, { on := 8, ground := Go.Ground.phase }, { on := 9, ground := Go.Ground.phase }, { on := 10, ground := Go.Ground.phase }, { on := 11, ground := Go.Ground.phase }, { on := 12, ground := Go.Ground.phase }, { on := 13, ground := Go.Ground.phase }, { on := 14, ground := Go.Ground.phase }, { on := 15, ground := Go.Ground.phase }, { on := 16, ground := Go.Ground.phase }, { on := 17, ground := Go.Ground.phase }, { on := 18, ground := Go.Ground.phase }, { on := 19, ground := Go.Ground.textOnly Go.Departure.lateStores }, { on := 20, ground := Go.Ground.textOnly Go.Departure.lateStoresUnsure }, { on := 21, ground := Go.Ground.textOnly Go.Departure.lateStoresUnsure }, { on := 22, ground := Go.Ground.phase }, { on := 23, ground := Go.Ground.phase }, { on := 24, ground := Go.Ground.phase }, { on := 25, ground := Go.Ground.phase }, { on := 26, ground := Go.Ground.phase }, { on := 27, ground := Go.Ground.phase }, { on := 28, ground := Go.Ground.phase }, { on := 29, ground := Go.Ground.phase }], guard := none }) (v := ?_) rfl (by kernel_rfl) (by kernel_rfl) (by kernel_rfl) (by kernel_rfl) (fun _ _ _ h => h) (Or.inl ⟨by rfl, ?_⟩) (Or.inl (by kernel_rfl)) ?_
  rotate_left
  · (intro w hSw; (try dsimp only at hSw); go_simp; (try with_reducible rfl))
  (try simp only [Act.put, List.setIfInBounds_toArray, List.set_cons_zero, List.set_cons_succ])
  refine wpAnyJ_oneL (i := 32) (o := { dst := none, op := Go.Op.store 22 (Go.Operand.tmp 41) (Go.Operand.tmp 30), type := 0, pos := "parts.go:79", after := #[{ on := 31, ground := Go.Ground.data }, { on := 18, ground := Go.Ground.data }, { on := 29, ground := Go.Ground.chain }, { on := 0, ground := Go.Ground.phase }, { on := 1, ground := Go.Ground.phase }, { on := 2, ground := Go.Ground.phase }, { on := 3, ground := Go.Ground.textOnly Go.Departure.lateStores }, { on := 4, ground := Go.Ground.phase }, { on := 5, ground := Go.Ground.phase }, { on := 6, ground := Go.Ground.phase }, { on := 7, ground := Go.Ground.phase }, { on := 8, ground := Go.Ground.phase }, { on := 9, ground := Go.Ground.phase }, { on := 10, ground := Go.Ground.phase }, { on := 11, ground := Go.Ground.phase }, { on := 12, ground := Go.Ground.phase }, { on := 13, ground := Go.Ground.phase }, { on := 14, ground := Go.Ground.phase }, { on := 15, ground := Go.Ground.phase }, { on := 16, ground := Go.Ground.phase }, { on := 17, ground := Go.Ground.phase }, { on := 18, ground := Go.Ground.phase }, { on := 19, ground := Go.Ground.textOnly Go.Departure.lateStores }, { on := 20, ground := Go.Ground.textOnly Go.Departure.lateStoresUnsure }, { on := 21, ground := Go.Ground.textOnly Go.Departure.lateStoresUnsure }, { on := 22, ground := Go.Ground.phase }, { on := 23, ground := Go.Ground.phase }, { on := 24, ground := Go.Ground.phase }, { on := 25, ground := Go.Ground.phase }, { on := 26, ground := Go.Ground.phase }, { on := 27, ground := Go.Ground.phase }, { on := 28, ground := Go.Ground.phase }, { on := 29, ground := Go.Ground.phase }], guard := none }) (by kernel_rfl) (by kernel_rfl) rfl (fun K hK => ?_)
  go_simp
  have HD7 := hid (set_at HD6.out (o + 2) (.slice fa2 fn fc2))
  have f7 := freeT HD7.out (o + 3)
  have q7 : (((w6.setCell ⟨b, o, none⟩ (.slice ra2 rn rc2)).setCell ⟨b, o + 1, none⟩ (.slice ma2 mn mc2)).setCell ⟨b, o + 2, none⟩ (.slice fa2 fn fc2)).cell? ⟨b, o + 3, none⟩ = some (.slice ea en ec) := by rw [World.cell?_setCell_other _ _ _ _ (by intro e; injection e with e1 e2; omega)]; exact g7
  refine hK.out _ _ ?_
  clear hK K
  (try simp only [Act.put, List.setIfInBounds_toArray, List.set_cons_zero, List.set_cons_succ])
  refine wpAnyJ_takeW (i := 33) (oi := { dst := some 42, op := Go.Op.nilCheck (Go.Operand.tmp 15), type := 0, pos := "parts.go:79", after := #[{ on := 3, ground := Go.Ground.data }, { on := 0, ground := Go.Ground.phase }, { on := 1, ground := Go.Ground.phase }, { on := 2, ground := Go.Ground.phase }, { on := 3, ground := Go.Ground.phase }, { on := 4, ground := Go.Ground.phase }, { on := 5, ground := Go.Ground.phase }, { on := 6, ground := Go.Ground.phase }, { on := 7, ground := Go.Ground.phase }, { on := 8, ground := Go.Ground.phase }, { on := 9, ground := Go.Ground.phase }, { on := 10, ground := Go.Ground.phase }, { on := 11, ground := Go.Ground.phase }, { on := 12, ground := Go.Ground.phase }, { on := 13, ground := Go.Ground.phase }, { on := 14, ground := Go.Ground.phase }, { on := 15, ground := Go.Ground.phase }, { on := 16, ground := Go.Ground.phase }, { on := 17, ground := Go.Ground.phase }, { on := 18, ground := Go.Ground.phase }, { on := 19, ground := Go.Ground.phase }, { on := 20, ground := Go.Ground.phase }, { on := 21, ground := Go.Ground.phase }, { on := 22, ground := Go.Ground.phase }, { on := 23, ground := Go.Ground.phase }, { on := 24, ground := Go.Ground.phase }, { on := 25, ground := Go.Ground.phase }, { on := 26, ground := Go.Ground.phase }, { on := 27, ground := Go.Ground.phase }, { on := 28, ground := Go.Ground.phase }, { on := 29, ground := Go.Ground.phase }, { on := 30, ground := Go.Ground.phase }, { on := 31, ground := Go.Ground.phase }, { on := 32, ground := Go.Ground.phase }], guard := none }) (v := ?_) rfl (by kernel_rfl) (by kernel_rfl) (by kernel_rfl) (by kernel_rfl) (fun _ _ _ h => h) (Or.inl ⟨by rfl, ?_⟩) (Or.inl (by kernel_rfl)) ?_
  rotate_left
  · (intro w hSw; (try dsimp only at hSw); go_simp; (try with_reducible rfl))
  (try simp only [Act.put, List.setIfInBounds_toArray, List.set_cons_zero, List.set_cons_succ])
  refine wpAnyJ_takeW (i := 34) (oi := { dst := some 43, op := Go.Op.fieldAddr 24 (Go.Operand.tmp 42) 3, type := 0, pos := "parts.go:79", after := #[{ on := 33, ground := Go.Ground.data }, { on := 0, ground := Go.Ground.phase }, { on := 1, ground := Go.Ground.phase }, { on := 2, ground := Go.Ground.phase }, { on := 3, ground := Go.Ground.phase }, { on := 4, ground := Go.Ground.phase }, { on := 5, ground := Go.Ground.phase }, { on := 6, ground := Go.Ground.phase }, { on := 7, ground := Go.Ground.phase }, { on := 8, ground := Go.Ground.phase }, { on := 9, ground := Go.Ground.phase }, { on := 10, ground := Go.Ground.phase }, { on := 11, ground := Go.Ground.phase }, { on := 12, ground := Go.Ground.phase }, { on := 13, ground := Go.Ground.phase }, { on := 14, ground := Go.Ground.phase }, { on := 15, ground := Go.Ground.phase }, { on := 16, ground := Go.Ground.phase }, { on := 17, ground := Go.Ground.phase }, { on := 18, ground := Go.Ground.phase }, { on := 19, ground := Go.Ground.phase }, { on := 20, ground := Go.Ground.phase }, { on := 21, ground := Go.Ground.phase }, { on := 22, ground := Go.Ground.phase }, { on := 23, ground := Go.Ground.phase }, { on := 24, ground := Go.Ground.phase }, { on := 25, ground := Go.Ground.phase }, { on := 26, ground := Go.Ground.phase }, { on := 27, ground := Go.Ground.phase }, { on := 28, ground := Go.Ground.phase }, { on := 29, ground := Go.Ground.phase }, { on := 30, ground := Go.Ground.phase }, { on := 31, ground := Go.Ground.phase }, { on := 32, ground := Go.Ground.phase }], guard := none }) (v := ?_) rfl (by kernel_rfl) (by kernel_rfl) (by kernel_rfl) (by kernel_rfl) (fun _ _ _ h => h) (Or.inl ⟨by rfl, ?_⟩) (Or.inl (by kernel_rfl)) ?_
  rotate_left
  · (intro w hSw; (try dsimp only at hSw); go_simp; (try with_reducible rfl))
  (try simp only [Act.put, List.setIfInBounds_toArray, List.set_cons_zero, List.set_cons_succ])
  refine wpAnyJ_oneL (i := 35) (o := { dst := none, op := Go.Op.store 22 (Go.Operand.tmp 43) (Go.Operand.tmp 35), type := 0, pos := "parts.go:79", after := #[{ on := 34, ground := Go.Ground.data }, { on := 23, ground := Go.Ground.data }, { on := 32, ground := Go.Ground.chain }, { on := 0, ground := Go.Ground.phase }, { on := 1, ground := Go.Ground.phase }, { on := 2, ground := Go.Ground.phase }, { on := 3, ground := Go.Ground.phase }, { on := 4, ground := Go.Ground.phase }, { on := 5, ground := Go.Ground.phase }, { on := 6, ground := Go.Ground.phase }, { on := 7, ground := Go.Ground.phase }, { on := 8, ground := Go.Ground.phase }, { on := 9, ground := Go.Ground.phase }, { on := 10, ground := Go.Ground.phase }, { on := 11, ground := Go.Ground.phase }, { on := 12, ground := Go.Ground.phase }, { on := 13, ground := Go.Ground.phase }, { on := 14, ground := Go.Ground.phase }, { on := 15, ground := Go.Ground.phase }, { on := 16, ground := Go.Ground.phase }, { on := 17, ground := Go.Ground.phase }, { on := 18, ground := Go.Ground.phase }, { on := 19, ground := Go.Ground.phase }, { on := 20, ground := Go.Ground.phase }, { on := 21, ground := Go.Ground.phase }, { on := 22, ground := Go.Ground.phase }, { on := 23, ground := Go.Ground.phase }, { on := 24, ground := Go.Ground.phase }, { on := 25, ground := Go.Ground.phase }, { on := 26, ground := Go.Ground.phase }, { on := 27, ground := Go.Ground.phase }, { on := 28, ground := Go.Ground.phase }, { on := 29, ground := Go.Ground.phase }, { on := 30, ground := Go.Ground.phase }, { on := 31, ground := Go.Ground.phase }, { on := 32, ground := Go.Ground.phase }], guard := none }) (by kernel_rfl) (by kernel_rfl) rfl (fun K hK => ?_)
  go_simp
  refine hK.out _ _ ?_
  clear hK K
  (try simp only [Act.put, List.setIfInBounds_toArray, List.set_cons_zero, List.set_cons_succ])
  refine wpAnyJ_done (by kernel_rfl) ?_
  clear z2 z9 z8 z7 z6 q4 q5 q6 q7 f4 f5 f6 f7 g6 g7 k7 K1 K2 K3 K4 ST
  have HE := hid (set_at HD7.out (o + 3) (.slice ea2 en ec2))
  have HCE : Hid (Cl ((((c.setIfInBounds o (.slice ra2 rn rc2)).setIfInBounds (o + 1) (.slice ma2 mn mc2)).setIfInBounds (o + 2) (.slice fa2 fn fc2)).setIfInBounds (o + 3) (.slice ea2 en ec2)) o ({ b := hb0, o := ho0, ra := ra2, rn := rn, rc := rc2, ma := ma2, mn := mn, mc := mc2, fa := fa2, fn := fn, fc := fc2, ea := ea2, en := en, ec := ec2 } : TH).cl) := hid ((((HC1.out.set 0 (by simp [TH.cl]) (.slice ra2 rn rc2)).set 1 (by simp [TH.cl]) (.slice ma2 mn mc2)).set 2 (by simp [TH.cl]) (.slice fa2 fn fc2)).set 3 (by simp [TH.cl]) (.slice ea2 en ec2))
  have HFX : Hid (Fr w6.heap.size b o 4 w6 ((((w6.setCell ⟨b, o, none⟩ (.slice ra2 rn rc2)).setCell ⟨b, o + 1, none⟩ (.slice ma2 mn mc2)).setCell ⟨b, o + 2, none⟩ (.slice fa2 fn fc2)).setCell ⟨b, o + 3, none⟩ (.slice ea2 en ec2))) := hid ((((Fr.set o _ (by omega) (by omega)).trans (Fr.set (o + 1) _ (by omega) (by omega))).trans (Fr.set (o + 2) _ (by omega) (by omega))).trans (Fr.set (o + 3) _ (by omega) (by omega)))
  have HF5 := hid ((Fr.of H6.out (heap_lt HC2.out) (Nat.le_refl _)).trans (HFX.out.mono H6.out.size (Nat.le_refl _) (Nat.le_refl _)))
  go_wp2
  go_end0
  exact ⟨⟨_, rfl⟩, HF5.out, ra2, ma2, fa2, ea2, rc2, mc2, fc2, ec2, _, T, HE.out, HCE.out, HRA.out.fr HFX.out (Nat.le_refl _) HBL.out, HRB.out.fr HFX.out (Nat.le_refl _) HBL.out, HRC.out.fr HFX.out (Nat.le_refl _) HBL.out, HRD.out.fr HFX.out (Nat.le_refl _) HBL.out, ⟨HN1.out, HN2.out, HN4.out⟩, ⟨HN3.out, HN5.out⟩, HN6.out⟩
end Go.Proofs.YtdfambocenohgaaGreatDoor

namespace Go.Proofs.YtdfambocenohgaaGreatDoor
set_option maxRecDepth 100000
open Go.RowKit Go.Deep
set_option linter.unusedVariables false
set_option linter.unusedSimpArgs false

theorem runF_all (p : UInt8 → Bool) : ∀ (n : Nat) (l : Bs), n ≤ l.length → (∀ k c, k < n → l[k]? = some c → p c = true) → runF p l = n + runF p (l.drop n)
  | 0, l, _, _ => by simp
  | n + 1, [], h, _ => by simp at h
  | n + 1, c :: t, h, hc => by
    have h0 := hc 0 c (by omega) rfl
    have := runF_all p n t (by simpa using h) (fun k d hk e => hc (k + 1) d (by omega) e)
    simp only [runF, h0, if_true, this, List.drop_succ_cons]
    omega
theorem runF_le (p : UInt8 → Bool) : ∀ l, runF p l ≤ l.length
  | [] => Nat.le_refl _
  | c :: t => by
    have := runF_le p t
    simp only [runF]
    split <;> simp <;> omega
theorem Rune.lt {l : Bs} {pos r wd : Nat} (R : Rune l pos r wd) : pos < l.length := by have := R.one; have := R.fit; omega
theorem Rune.at {l : Bs} {pos r wd : Nat} (R : Rune l pos r wd) : ∃ c, l[pos]? = some c ∧ l.drop pos = c :: l.drop (pos + 1) :=
  ⟨l[pos]'R.lt, List.getElem?_eq_getElem R.lt, List.drop_eq_getElem_cons R.lt⟩
theorem runF_step {l : Bs} {pos r wd : Nat} (R : Rune l pos r wd) (q : Int → Bool) (hh : ∀ a b : Int, 128 ≤ a → 128 ≤ b → q a = q b) :
    (q r = true → runF (fun c => q c.toNat) (l.drop pos) = wd + runF (fun c => q c.toNat) (l.drop (pos + wd))) ∧ (q r = false → runF (fun c => q c.toNat) (l.drop pos) = 0) := by
  obtain ⟨c, e, hd⟩ := R.at
  have hqc : q r = q c.toNat := by
    by_cases hc : c.toNat < 128
    · rw [(R.low c e hc).1]
    · exact hh _ _ (by have := R.high c e (by omega); omega) (by omega)
  constructor
  · intro h
    have hall := runF_all (fun c => q c.toNat) wd (l.drop pos) (by rw [List.length_drop]; have := R.fit; omega) (fun k d hk ek => by
      rw [List.getElem?_drop] at ek
      show q d.toNat = true
      by_cases hc : c.toNat < 128
      · have := (R.low c e hc).2
        have hk0 : k = 0 := by omega
        subst hk0
        rw [Nat.add_zero, e] at ek; cases ek
        rw [← hqc]; exact h
      · have := R.all c e (by omega) k d hk ek
        rw [hh _ (c.toNat : Int) (by omega) (by omega), ← hqc]; exact h)
    rw [hall, List.drop_drop]
  · intro h
    rw [hd]
    have : q c.toNat = false := by rw [← hqc]; exact h
    simp [runF, this]

set_option maxRecDepth 100000 in
theorem run_any (s : ByteArray) (g : Nat) (lb : Array Value) (q : Int → Bool) (hs : s.size ≤ 9223372036854775807) (hh : ∀ a b : Int, 128 ≤ a → 128 ≤ b → q a = q b) (eg : ∀ args w, (callFunc g args).run Tryz.prog w = .ok (.enter g args) w)
    (hg : ∀ (r : Int) (w : World), Calls Tryz.prog g (#[.int .i32 r] ++ lb) w fun e w' => e = .returned (.bool (q r)) ∧ w' = w) (w : World) :
    Calls Tryz.prog 160 #[.string s, .func (.func g) #[] lb] w fun e w' => e = .returned (.int .i64 (runF (fun c => q c.toNat) s.data.toList : Nat)) ∧ Below w.heap.size w w' := by
  go_enter Tryz.func160, Tryz.ntmps160
  go_wp2
  go_loopg [] s.size (fun gf wx => ∃ pos : Nat, wx.heap[w.heap.size]? = some (.stringIter s pos) ∧ Below w.heap.size w wx ∧ pos + runF (fun c => q c.toNat) (s.data.toList.drop pos) = runF (fun c => q c.toNat) s.data.toList ∧ s.size ≤ pos + gf ∧ pos ≤ s.size)
  case atStart => exact ⟨0, World.iter_heap w s 0, (Below.refl _ w).alloc (Nat.le_refl _) _, by simp, by omega, by omega⟩
  case round =>
    obtain ⟨pos, hit, hbw, hleft, hfu, hle⟩ := hrel
    by_cases hps : pos < s.size
    · obtain ⟨g', rfl⟩ : ∃ g', gk = g' + 1 := ⟨gk - 1, by omega⟩
      have hnx : ∀ ty, (Instr.next (.pointer (some ⟨w.heap.size, 0, none⟩)) true ty).run Tryz.prog wr = _ := fun ty => Lib.run_next_any_at wr w.heap.size s pos ty hit hps
      have hR := rune_at s pos hps
      obtain ⟨R, hRe⟩ : ∃ R, (Utf8.decode s pos).1 = R := ⟨_, rfl⟩
      obtain ⟨K, hK⟩ : ∃ K, (Utf8.decode s pos).2 = K := ⟨_, rfl⟩
      rw [hRe, hK] at hnx hR
      have hit2 := Lib.iterAt_heap wr w.heap.size s pos (pos + K) hit
      have hbw2 := Lib.below_iterAt hbw (k := w.heap.size) (Nat.le_refl _) s (pos + K)
      obtain ⟨W, hWd⟩ : ∃ W, wr.iterAt w.heap.size s (pos + K) = W := ⟨_, rfl⟩
      rw [hWd] at hnx hit2 hbw2
      have hst := runF_step hR q hh
      have h1 := hR.one
      have h2 := hR.fit
      rw [← Lib.size_eq] at h2
      have cS := hg R W
      cases hsp : q R <;> rw [hsp] at cS
      · have h3 := hst.2 hsp
        have HX := hid hleft
        clear hg hR hst hleft
        go_wp2_with (go_at_fn g; refine cS.mono ?_; rintro e W' ⟨rfl, rfl⟩)
        go_ret
        refine ⟨?_, hbw2⟩
        rw [← HX.out, h3]; rfl
      · have h3 := hst.1 hsp
        have HX := hid hleft
        have H3 := hid h3
        clear hg hR hst hleft h3
        go_wp2_with (go_at_fn g; refine cS.mono ?_; rintro e W' ⟨rfl, rfl⟩)
        go_roundg g'
        case measure => omega
        case rel => exact ⟨pos + K, hit2, hbw2, by have := HX.out; have := H3.out; omega, by omega, by omega⟩
    · have hnx : ∀ ty, (Instr.next (.pointer (some ⟨w.heap.size, 0, none⟩)) true ty).run Tryz.prog wr = _ := fun ty => Lib.run_next_end_at wr w.heap.size s pos ty hit hps
      have HX := hid hleft
      have : pos = s.size := by omega
      have hn : s.data.toList.drop pos = [] := List.drop_eq_nil_of_le (by rw [← Lib.size_eq]; omega)
      have HN := hid hn
      have HP := hid this
      clear hg hleft hn this
      go_wp2
      go_ret
      refine ⟨?_, hbw⟩
      rw [← HX.out, HN.out, HP.out]; simp [runF]
end Go.Proofs.YtdfambocenohgaaGreatDoor

namespace Go.Proofs.YtdfambocenohgaaGreatDoor
set_option maxRecDepth 100000
open Go.RowKit Go.Deep
set_option linter.unusedVariables false
set_option linter.unusedSimpArgs false

theorem eq10 (c : UInt8) : (!decide ((c.toNat : Int) = 10)) = !(c == 10) := by
  congr 1
  rw [Bool.eq_iff_iff]
  simp only [decide_eq_true_eq, beq_iff_eq]
  constructor
  · intro h
    exact UInt8.toNat_inj.1 (show c.toNat = 10 from by omega)
  · rintro rfl; rfl
theorem c34 (c : UInt8) : (c = 34) ↔ c.toNat = 34 := by
  constructor
  · rintro rfl; rfl
  · intro h
    exact UInt8.toNat_inj.1 (by simpa using h)
theorem enters33 : ∀ args w, (callFunc 161 args).run Tryz.prog w = .ok (.enter 161 args) w := enters_of Tryz.func161 (by kernel_rfl) rfl
theorem noteSize_any (s : ByteArray) (hs : s.size ≤ 9223372036854775807) (w : World) : Calls Tryz.prog 149 #[.string s] w fun e w' => e = .returned (.int .i64 (noteF s.data.toList : Nat)) ∧ Below w.heap.size w w' := by
  have h := run_any s 161 #[] (fun r => !decide (r = 10)) hs (fun a b ha hb => by simp; omega) enters33 (fun r w => notNl_any r w)
  have e : (fun c : UInt8 => !decide ((c.toNat : Int) = 10)) = fun c => !(c == 10) := funext eq10
  rw [e] at h
  go_enter Tryz.func149, Tryz.ntmps149
  go_wp2_with (go_at_call 160; refine (h _).mono ?_; rintro e w2 ⟨rfl, hb⟩)
  go_ret
  exact ⟨rfl, hb⟩

theorem textF_skip : ∀ (n : Nat) (l : Bs), n ≤ l.length → (∀ k c, k < n → l[k]? = some c → ¬ c = 34) → textF false l = (textF false (l.drop n)).map (· + n)
  | 0, l, _, _ => by simp
  | n + 1, [], h, _ => by simp at h
  | n + 1, c :: t, h, hc => by
    have h0 := hc 0 c (by omega) rfl
    have := textF_skip n t (by simpa using h) (fun k d hk e => hc (k + 1) d (by omega) e)
    simp only [textF, h0, if_false, this, List.drop_succ_cons, Bool.false_eq_true]
    cases textF false (t.drop n) <;> simp
    omega
theorem textF_step {l : Bs} {pos r wd : Nat} (R : Rune l pos r wd) (e : Bool) :
    (r = 34 → wd = 1 ∧ textF e (l.drop pos) = (textF (!e) (l.drop (pos + wd))).map (· + 1)) ∧ (¬ r = 34 → e = true → textF e (l.drop pos) = some 0) ∧
      (¬ r = 34 → e = false → textF e (l.drop pos) = (textF false (l.drop (pos + wd))).map (· + wd)) := by
  obtain ⟨c, ec, hd⟩ := R.at
  have hc : r = 34 ↔ c = 34 := by
    rw [c34]
    by_cases h : c.toNat < 128
    · rw [(R.low c ec h).1]
    · have := R.high c ec (by omega); constructor <;> intro <;> omega
  refine ⟨fun h => ?_, fun h1 h2 => ?_, fun h1 h2 => ?_⟩
  · have hw := (R.low c ec (by rw [hc.1 h]; decide)).2
    refine ⟨hw, ?_⟩
    rw [hd, hw]
    simp [textF, hc.1 h]
  · rw [hd]
    have h3 : ¬ c = 34 := fun h => h1 (hc.2 h)
    simp [textF, h3, h2]
  · subst h2
    rw [textF_skip wd (l.drop pos) (by rw [List.length_drop]; have := R.fit; omega) ?_, List.drop_drop]
    intro k d hk ek
    rw [List.getElem?_drop] at ek
    by_cases h : c.toNat < 128
    · have := (R.low c ec h).2
      have hk0 : k = 0 := by omega
      subst hk0
      rw [Nat.add_zero, ec] at ek; cases ek
      exact fun h => h1 (hc.2 h)
    · have := R.all c ec (by omega) k d hk ek
      rw [c34]; omega

def tsz (t : Bs) : Value := match textF false t with | some n => .tuple #[.int .i64 ((n : Int) + 1), .bool true] | none => .tuple #[.int .i64 ((t.length : Int) + 1), .bool false]
theorem extract_toList (s : ByteArray) (a b : Nat) : (s.extract a b).data.toList = (s.data.toList.take b).drop a := by
  rw [Lib.extract_data]; simp [List.drop_take]
theorem textSize_any (s : ByteArray) (hs : s.size ≤ 9223372036854775807) (h1 : 1 ≤ s.size) (w : World) : Calls Tryz.prog 167 #[.string s] w fun e w' => e = .returned (tsz (s.data.toList.drop 1)) ∧ Below w.heap.size w w' := by
  have hx : (s.extract 1 s.size).data.toList = s.data.toList.drop 1 := by rw [extract_toList, List.take_of_length_le (by rw [← Lib.size_eq]; omega)]
  have hxs : (s.extract 1 s.size).size = s.size - 1 := by rw [Lib.size_eq, hx, List.length_drop, ← Lib.size_eq]
  have hlen : (s.data.toList.drop 1).length = s.size - 1 := by rw [List.length_drop, ← Lib.size_eq]
  obtain ⟨T, hT⟩ : ∃ T, s.data.toList.drop 1 = T := ⟨_, rfl⟩
  rw [hT] at hx hlen ⊢
  have HT := hid hx
  have HL := hid hlen
  clear hx hT hlen
  have hz : (1 : Int) ≤ (s.size : Int) := by omega
  go_enter Tryz.func167, Tryz.ntmps167
  go_wp2
  obtain ⟨t, ht⟩ : ∃ t, s.extract 1 s.size = t := ⟨_, rfl⟩
  simp only [ht] at *
  go_loopg [4] t.size (fun gf e wx => ∃ (pos : Nat) (b : Bool), e = .bool b ∧ wx.heap[w.heap.size]? = some (.stringIter t pos) ∧ Below w.heap.size w wx ∧ (textF b (t.data.toList.drop pos)).map (· + pos) = textF false t.data.toList ∧ t.size ≤ pos + gf ∧ pos ≤ t.size)
  case atStart => exact ⟨0, false, rfl, World.iter_heap w t 0, (Below.refl _ w).alloc (Nat.le_refl _) _, by simp, by omega, by omega⟩
  case round =>
    obtain ⟨pos, b, rfl, hit, hbw, hleft, hfu, hle⟩ := hrel
    by_cases hps : pos < t.size
    · obtain ⟨g', rfl⟩ : ∃ g', gk = g' + 1 := ⟨gk - 1, by omega⟩
      have hnx : ∀ ty, (Instr.next (.pointer (some ⟨w.heap.size, 0, none⟩)) true ty).run Tryz.prog wr = _ := fun ty => Lib.run_next_any_at wr w.heap.size t pos ty hit hps
      have hR := rune_at t pos hps
      obtain ⟨R, hRe⟩ : ∃ R, (Utf8.decode t pos).1 = R := ⟨_, rfl⟩
      obtain ⟨K, hK⟩ : ∃ K, (Utf8.decode t pos).2 = K := ⟨_, rfl⟩
      rw [hRe, hK] at hnx hR
      have hit2 := Lib.iterAt_heap wr w.heap.size t pos (pos + K) hit
      have hbw2 := Lib.below_iterAt hbw (k := w.heap.size) (Nat.le_refl _) t (pos + K)
      obtain ⟨W, hWd⟩ : ∃ W, wr.iterAt w.heap.size t (pos + K) = W := ⟨_, rfl⟩
      rw [hWd] at hnx hit2 hbw2
      have hst := textF_step hR b
      have h1' := hR.one
      have h2 := hR.fit
      rw [← Lib.size_eq] at h2
      have HX := hid hleft
      have HS := hid hst
      clear hR hst hleft
      by_cases hr : R = 34
      · have hr' : (R : Int) = 34 := by omega
        have HR := hid hr
        clear hr
        go_wp2
        go_roundg g'
        case measure => omega
        case rel =>
          have h3 := HS.out.1 HR.out
          have h4 := HX.out
          rw [h3.2] at h4
          refine ⟨pos + K, !b, by simp, hit2, hbw2, ?_, by omega, by omega⟩
          rw [← h4, Option.map_map]
          congr 1
          funext x
          simp
          omega
      · have hr' : ¬ (R : Int) = 34 := by omega
        have HR := hid hr
        clear hr
        cases b
        · go_wp2
          go_roundg g'
          case measure => omega
          case rel =>
            have h3 := HS.out.2.2 HR.out (by trivial)
            have h4 := HX.out
            rw [h3] at h4
            refine ⟨pos + K, false, by simp, hit2, hbw2, ?_, by omega, by omega⟩
            rw [← h4, Option.map_map]
            congr 1
            funext x
            simp
            omega
        · go_wp2
          refine bodyPost_ret (v := .tuple #[.int .i64 ((pos : Int) + 1), .bool true]) (by simp [results, Tryz.results167, go_sem]; try omega) rfl ?_
          have h3 := HS.out.2.1 HR.out (by trivial)
          have h4 := HX.out
          rw [h3, HT.out] at h4
          refine ⟨?_, hbw2⟩
          unfold tsz
          rw [← h4]
          simp
    · have hnx : ∀ ty, (Instr.next (.pointer (some ⟨w.heap.size, 0, none⟩)) true ty).run Tryz.prog wr = _ := fun ty => Lib.run_next_end_at wr w.heap.size t pos ty hit hps
      have HX := hid hleft
      have : pos = t.size := by omega
      have hn : t.data.toList.drop pos = [] := List.drop_eq_nil_of_le (by rw [← Lib.size_eq]; omega)
      have HN := hid hn
      have HP := hid this
      clear hleft hn this
      go_wp2
      refine bodyPost_ret (v := .tuple #[.int .i64 (s.size : Int), .bool b]) (by simp [results, Tryz.results167, go_sem]; try omega) rfl ?_
      refine ⟨?_, hbw⟩
      have h4 := HX.out
      rw [HN.out, HT.out] at h4
      unfold tsz
      rw [← h4, HL.out]
      have := HP.out
      cases b <;> simp [textF] <;> omega
end Go.Proofs.YtdfambocenohgaaGreatDoor

namespace Go.Proofs.YtdfambocenohgaaGreatDoor
set_option maxRecDepth 100000
open Go.RowKit Go.Deep
set_option linter.unusedVariables false
set_option linter.unusedSimpArgs false

def wordsS : List ByteArray := wordsL.map fun l => ⟨l.toArray⟩
def wordsV : Array Value := (wordsS.map Value.string).toArray
theorem words_any (w : World) : Calls Tryz.prog 165 #[] w fun e w' => e = .returned (.slice (some ⟨w.heap.size, 0, none⟩) 29 29) ∧ w' = w.alloc (.cells wordsV 9) := by
  go_enter Tryz.func165, Tryz.ntmps165
  go_wp2
  go_ret
  exact ⟨rfl, rfl⟩
end Go.Proofs.YtdfambocenohgaaGreatDoor

