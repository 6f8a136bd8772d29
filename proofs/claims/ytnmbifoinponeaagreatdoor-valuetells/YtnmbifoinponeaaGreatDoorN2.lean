/- Zero: one statement of its loop. -/
import Derived.Test.YtnmbifoinponeaaGreatDoorM2
namespace Go.Proofs.YtnmbifoinponeaaGreatDoor
open Go.RowKit Go.Deep Go.Shelf
set_option linter.unusedVariables false
set_option linter.unusedSimpArgs false
attribute [local go_sem] Oper.semAt_some

abbrev zops : Array Oper := #[{ dst := some 31, op := Op.fieldAddr 31 (Operand.tmp 5) 4, type := 0, pos := "value.go:51", after := #[], guard := none },
  { dst := some 32, op := Op.load 29 (Operand.tmp 31), type := 29, pos := "value.go:51", after := #[{ on := 0, ground := Ground.data }], guard := none },
  { dst := some 33, op := Op.load 28 (Operand.tmp 7), type := 28, pos := "value.go:51", after := #[], guard := none },
  { dst := some 34, op := Op.call { callee := Callee.value (Operand.func 44), args := #[Operand.tmp 33], argTypes := #[28] }, type := 31, pos := "value.go:51", after := #[{ on := 2, ground := Ground.data }], guard := none },
  { dst := some 35, op := Op.call { callee := Callee.builtin Builtin.len, args := #[Operand.tmp 32], argTypes := #[29] }, type := 3, pos := "value.go:51", after := #[{ on := 1, ground := Ground.data }], guard := none },
  { dst := some 36, op := Op.buildSlice 29 1 #[(0, Operand.const (Value.agg #[Value.int IntKind.i64 0, Value.int IntKind.i64 0, Value.string ⟨#[]⟩, Value.int IntKind.i64 0, Value.slice none 0 0]))], type := 29, pos := "value.go:51", after := #[], guard := none },
  { dst := some 37, op := Op.call { callee := Callee.builtin Builtin.append, args := #[Operand.tmp 32, Operand.tmp 36], argTypes := #[29, 29] }, type := 29, pos := "value.go:51", after := #[{ on := 1, ground := Ground.data }, { on := 5, ground := Ground.data }, { on := 3, ground := Ground.chain }, { on := 0, ground := Ground.phase }, { on := 1, ground := Ground.phase }, { on := 2, ground := Ground.phase }, { on := 3, ground := Ground.phase }, { on := 4, ground := Ground.phase }, { on := 5, ground := Ground.phase }], guard := none },
  { dst := some 38, op := Op.indexAddr 29 (Operand.tmp 37) (Operand.tmp 35), type := 0, pos := "value.go:51", after := #[{ on := 6, ground := Ground.data }, { on := 4, ground := Ground.data }, { on := 0, ground := Ground.phase }, { on := 1, ground := Ground.phase }, { on := 2, ground := Ground.phase }, { on := 3, ground := Ground.phase }, { on := 4, ground := Ground.phase }, { on := 5, ground := Ground.phase }, { on := 6, ground := Ground.phase }, { on := 10, ground := Ground.gcOnly Departure.appendInPlace }], guard := none },
  { dst := none, op := Op.store 31 (Operand.tmp 38) (Operand.tmp 34), type := 0, pos := "value.go:51", after := #[{ on := 7, ground := Ground.data }, { on := 3, ground := Ground.data }, { on := 6, ground := Ground.chain }, { on := 0, ground := Ground.phase }, { on := 1, ground := Ground.phase }, { on := 2, ground := Ground.phase }, { on := 3, ground := Ground.phase }, { on := 4, ground := Ground.phase }, { on := 5, ground := Ground.phase }, { on := 6, ground := Ground.phase }, { on := 10, ground := Ground.gcOnly Departure.appendInPlace }], guard := none },
  { dst := some 39, op := Op.fieldAddr 31 (Operand.tmp 5) 4, type := 0, pos := "value.go:51", after := #[{ on := 0, ground := Ground.phase }, { on := 1, ground := Ground.phase }, { on := 2, ground := Ground.phase }, { on := 3, ground := Ground.phase }, { on := 4, ground := Ground.phase }, { on := 5, ground := Ground.phase }, { on := 6, ground := Ground.phase }, { on := 7, ground := Ground.textOnly Departure.appendInPlace }, { on := 8, ground := Ground.textOnly Departure.appendInPlace }], guard := none },
  { dst := none, op := Op.store 29 (Operand.tmp 39) (Operand.tmp 37), type := 0, pos := "value.go:51", after := #[{ on := 9, ground := Ground.data }, { on := 6, ground := Ground.data }, { on := 6, ground := Ground.chain }, { on := 8, ground := Ground.textOnly Departure.appendInPlace }, { on := 0, ground := Ground.phase }, { on := 1, ground := Ground.phase }, { on := 2, ground := Ground.phase }, { on := 3, ground := Ground.phase }, { on := 4, ground := Ground.phase }, { on := 5, ground := Ground.phase }, { on := 6, ground := Ground.phase }, { on := 7, ground := Ground.textOnly Departure.appendInPlace }, { on := 8, ground := Ground.textOnly Departure.appendInPlace }], guard := none }]
def Zs (X : Nat) (tk tr : Int) (w2 : World) : Prop := w2.cell? ⟨X, 0, none⟩ = some (.int .i64 tk) ∧ w2.cell? ⟨X, 1, none⟩ = some (.int .i64 tr)
theorem Zs.blk {X : Nat} {tk tr : Int} {w w2 : World} (h : Zs X tk tr w) (e : w2.heap[X]? = w.heap[X]?) : Zs X tk tr w2 :=
  ⟨(World.cell?_of_block (a := ⟨X, 0, none⟩) e).trans h.1, (World.cell?_of_block (a := ⟨X, 1, none⟩) e).trans h.2⟩
def zph : Hd := ⟨0, 0, ⟨#[]⟩, 0, none, 0, 0⟩

set_option maxRecDepth 100000 in
set_option maxHeartbeats 1000000 in
theorem zrest (Q : Exit → Act → World → Prop) (hQ : ∀ c a a' w, Q (.panic c) a w → Q (.panic c) a' w) (W w : World) (Z X B g : Nat) (t0 t1 t2 t3 t4 t6 t8 t9 t10 t11 t12 t13 t14 t15 t16 t17 t18 t19 t20 t21 t22 t23 t24 t25 t26 t27 t28 t29 t30 t37 t38 t39 t40 : Value) (c0 c1 c2 c3 : Value) (fa : Option Addr) (fn fc : Nat) (zs : List Hd) (tk tr : Int) (fuel : Nat)
    (hz : w.heap[Z]? = some (.cells #[c0, c1, c2, c3, .slice fa fn fc] 31 (0, 0))) (hX : Zs X tk tr w) (hxb : X < w.heap.size) (hXZ : X ≠ Z) (hXr : (Value.slice fa fn fc).ownBlock ≠ some X) (hr : VRow w B (.slice fa fn fc) zs) (hg : w.heap[g]? = some (.cells zph.cs.toArray 31 (0, 0)))
    (hB : B ≤ W.heap.size) (hZB : Z < B) (hl : zs.length ≤ 1000) (hfn : fn = zs.length) (hO : Okp Z (.slice fa fn fc) W w)
    (k : ∀ a' w' fa' fn' fc', VRow w' B (.slice fa' fn' fc') (zs ++ [zH (tk, tr)]) → w'.heap[Z]? = some (.cells #[c0, c1, c2, c3, .slice fa' fn' fc'] 31 (0, 0)) → Okp Z (.slice fa fn fc) W w' → Q .normal a' w') :
    wpAnyH Tryz.prog .any zops Q (Zs X tk tr) 5 #[true, true, true, true, true, true, false, false, false, false, false] { tmps := #[t0, t1, t2, t3, t4, .pointer (some ⟨Z, 0, none⟩), t6, .pointer (some ⟨X, 0, none⟩), t8, t9, t10, t11, t12, t13, t14, t15, t16, t17, t18, t19, t20, t21, t22, t23, t24, t25, t26, t27, t28, t29, t30, .pointer (some ⟨Z, 4, none⟩), .slice fa fn fc, ty tk tr, (zH (tk, tr)).v, .int .i64 (fn : Int), .slice (some ⟨g, 0, none⟩) 1 1, t37, t38, t39, t40], defers := [] } w := by
  have hBw : B ≤ w.heap.size := Nat.le_trans hB hO.size
  refine wpAnyH_ready (rs := [6]) (by kernel_rfl) (by simp) ?_
  refine AllReadyH.cons (o := { dst := some 37, op := Op.call { callee := Callee.builtin Builtin.append, args := #[Operand.tmp 32, Operand.tmp 36], argTypes := #[29, 29] }, type := 29, pos := "value.go:51", after := #[{ on := 1, ground := Ground.data }, { on := 5, ground := Ground.data }, { on := 3, ground := Ground.chain }, { on := 0, ground := Ground.phase }, { on := 1, ground := Ground.phase }, { on := 2, ground := Ground.phase }, { on := 3, ground := Ground.phase }, { on := 4, ground := Ground.phase }, { on := 5, ground := Ground.phase }], guard := none }) rfl (fun K hK => ?_) AllReadyH.nil
  refine step_appV rfl (.tmp 32) (.tmp 36) rfl (.slice fa fn fc) g zph rfl rfl B zs hr hg hBw (by omega) ?_
  intro v' w' hrow hgr
  have hne : zs ++ [zph] ≠ [] := by simp
  obtain ⟨rb, cap, rfl, hcap, hBr, hS⟩ := hrow.srow hne
  have hXk : w'.heap[X]? = w.heap[X]? := hgr.1.block X hxb (fun e => hXr e.symm)
  have hX' := hX.blk hXk
  have hZk : w'.heap[Z]? = some (.cells #[c0, c1, c2, c3, .slice fa fn fc] 31 (0, 0)) := (hgr.1.block Z (by omega) (fun e => by have := (hr.own Z e.symm).1; omega)).trans hz
  have hO' := hO.grw hgr
  refine hK.out _ _ hX' (fun hHeld => ?_)
  clear hK K
  have hlen : (zs ++ [zph]).length = fn + 1 := by simp [hfn]
  rw [hlen] at hcap ⊢
  have hrow2 : VRow w' B (.slice (some ⟨rb, 0, none⟩) (fn + 1) cap) (zs ++ [zph]) := by rw [← hlen]; exact hrow
  have hor : (Value.slice fa fn fc).ownBlock = some rb ∨ W.heap.size ≤ rb := by
    rcases hgr.2 with e | ⟨g2, e, hg2⟩
    · exact .inl (by rw [← e]; rfl)
    · cases e; exact .inr (Nat.le_trans hO.size hg2)
  have hXrb : X ≠ rb := fun e => by
    subst e
    rcases hgr.2 with e | ⟨g2, e, hg2⟩
    · exact hXr (by rw [← e]; rfl)
    · have e' : some X = some g2 := e
      cases e'; omega
  have hZrb : Z ≠ rb := by omega
  have hset : (zs ++ [zph]).set fn (zH (tk, tr)) = zs ++ [zH (tk, tr)] := by rw [hfn, List.set_append_right _ _ (Nat.le_refl _)]; simp
  have hat : (zs ++ [zph])[fn]? = some zph := by rw [hfn]; simp
  have hi0 : (0 : Int) ≤ (fn : Int) := by omega
  have hi1 : (fn : Int) < ((fn + 1 : Nat) : Int) := by omega
  have V5 := fun (w9 : World) (h9 : VRow w9 B (.slice (some ⟨rb, 0, none⟩) (fn + 1) cap) (zs ++ [zph])) => hset ▸ h9.five (g := rb) rfl (k := fn) (by rw [hlen]; omega) (zH (tk, tr))
  have hi2 : ¬ ((fn : Int) + 1 ≤ (fn : Int)) := by omega
  have HV5 := hid V5
  have HO := hid hO'
  have HK := hid k
  have Hor := hid hor
  have Hrow2 := hid hrow2
  have HS := hid hS
  clear V5 hO' k hor hrow2 hS hrow hgr hO hr hcap hlen hset hne hBr hX hXk hfn hl
  simp only [Act.put, List.setIfInBounds_toArray, List.set_cons_zero, List.set_cons_succ]

  refine wpAnyH_take (i := 7) (oi := { dst := some 38, op := Op.indexAddr 29 (Operand.tmp 37) (Operand.tmp 35), type := 0, pos := "value.go:51", after := #[{ on := 6, ground := Ground.data }, { on := 4, ground := Ground.data }, { on := 0, ground := Ground.phase }, { on := 1, ground := Ground.phase }, { on := 2, ground := Ground.phase }, { on := 3, ground := Ground.phase }, { on := 4, ground := Ground.phase }, { on := 5, ground := Ground.phase }, { on := 6, ground := Ground.phase }, { on := 10, ground := Ground.gcOnly Departure.appendInPlace }], guard := none }) (v := .pointer (some ⟨rb, fn * 5, none⟩)) rfl (by kernel_rfl) (by kernel_rfl) (by kernel_rfl) (fun _ _ _ h => hQ _ _ _ _ h) (Or.inl ⟨by rfl, ?_⟩) (by assumption) ?_
  · intro w hSw; (try dsimp only at hSw); go_simp
  try simp only [Act.put, List.setIfInBounds_toArray, List.set_cons_zero, List.set_cons_succ]
  refine wpAnyH_take (i := 9) (oi := { dst := some 39, op := Op.fieldAddr 31 (Operand.tmp 5) 4, type := 0, pos := "value.go:51", after := #[{ on := 0, ground := Ground.phase }, { on := 1, ground := Ground.phase }, { on := 2, ground := Ground.phase }, { on := 3, ground := Ground.phase }, { on := 4, ground := Ground.phase }, { on := 5, ground := Ground.phase }, { on := 6, ground := Ground.phase }, { on := 7, ground := Ground.textOnly Departure.appendInPlace }, { on := 8, ground := Ground.textOnly Departure.appendInPlace }], guard := none }) (v := .pointer (some ⟨Z, 4, none⟩)) rfl (by kernel_rfl) (by kernel_rfl) (by kernel_rfl) (fun _ _ _ h => hQ _ _ _ _ h) (Or.inl ⟨by rfl, ?_⟩) (by assumption) ?_
  · intro w hSw; (try dsimp only at hSw); go_simp
  try simp only [Act.put, List.setIfInBounds_toArray, List.set_cons_zero, List.set_cons_succ]
  generalize hx0 : zH (tk, tr) = x0 at *
  obtain ⟨xk, xi, xt, xr, xa, xn, xc⟩ := x0
  simp only [Hd.v] at *
  have SW : ∀ w9 : World, SRow w9 rb (zs ++ [zph]) → (w9.cell? ⟨rb, fn * 5, none⟩ = some (.int .i64 0) ∧ w9.cell? ⟨rb, fn * 5 + 1, none⟩ = some (.int .i64 0) ∧ w9.cell? ⟨rb, fn * 5 + 2, none⟩ = some (.string ⟨#[]⟩) ∧ w9.cell? ⟨rb, fn * 5 + 3, none⟩ = some (.int .i64 0) ∧ w9.cell? ⟨rb, fn * 5 + 4, none⟩ = some (.slice none 0 0)) ∧ w9.frozen? ⟨rb, fn * 5, none⟩ = false ∧ w9.frozen? ⟨rb, fn * 5 + 1, none⟩ = false ∧ w9.frozen? ⟨rb, fn * 5 + 2, none⟩ = false ∧ w9.frozen? ⟨rb, fn * 5 + 3, none⟩ = false ∧ w9.frozen? ⟨rb, fn * 5 + 4, none⟩ = false := fun w9 h9 => ⟨⟨h9.cell hat 0 (by omega), h9.cell hat 1 (by omega), h9.cell hat 2 (by omega), h9.cell hat 3 (by omega), h9.cell hat 4 (by omega)⟩, by obtain ⟨cur, hcur, _⟩ := h9; exact ⟨freeOf hcur _, freeOf hcur _, freeOf hcur _, freeOf hcur _, freeOf hcur _⟩⟩
  have HSW := hid SW
  have ZW : ∀ (w9 : World) (v9 : Value), w9.heap[Z]? = some (.cells #[c0, c1, c2, c3, v9] 31 (0, 0)) → w9.cell? ⟨Z, 4, none⟩ = some v9 ∧ w9.frozen? ⟨Z, 4, none⟩ = false := fun w9 v9 h9 => ⟨cellOf h9 4, freeOf h9 4⟩
  have HZW := hid ZW
  have ZP : ∀ (w9 : World) (v9 u : Value), w9.heap[Z]? = some (.cells #[c0, c1, c2, c3, v9] 31 (0, 0)) → (w9.setCell ⟨Z, 4, none⟩ u).heap[Z]? = some (.cells #[c0, c1, c2, c3, u] 31 (0, 0)) := fun w9 v9 u h9 => by have := heap_set_at h9 4 u; simpa using this
  have HZP := hid ZP
  clear SW ZW ZP hat
  have HZk := hid hZk
  clear hZk
  refine wpAnyH_ready (rs := [8, 10]) (by kernel_rfl) (by simp) ?_
  refine AllReadyH.cons (o := { dst := none, op := Op.store 31 (Operand.tmp 38) (Operand.tmp 34), type := 0, pos := "value.go:51", after := #[{ on := 7, ground := Ground.data }, { on := 3, ground := Ground.data }, { on := 6, ground := Ground.chain }, { on := 0, ground := Ground.phase }, { on := 1, ground := Ground.phase }, { on := 2, ground := Ground.phase }, { on := 3, ground := Ground.phase }, { on := 4, ground := Ground.phase }, { on := 5, ground := Ground.phase }, { on := 6, ground := Ground.phase }, { on := 10, ground := Ground.gcOnly Departure.appendInPlace }], guard := none }) rfl (fun K hK => ?_) ?_
  · obtain ⟨⟨s0, s1, s2, s3, s4⟩, f0, f1, f2, f3, f4⟩ := HSW.out w' HS.out
    go_simp
    refine hK.out _ _ (show Zs X tk tr (five w' rb (fn * 5) ⟨xk, xi, xt, xr, xa, xn, xc⟩) from hX'.blk (five_heap _ _ _ _ hXrb)) (fun hHeld2 => ?_)
    clear hK K
    change wpAnyH _ _ _ _ _ _ _ _ (five w' rb (fn * 5) ⟨xk, xi, xt, xr, xa, xn, xc⟩)
    have hx5 : Zs X tk tr (five w' rb (fn * 5) ⟨xk, xi, xt, xr, xa, xn, xc⟩) := hX'.blk (five_heap _ _ _ _ hXrb)
    clear hHeld2
    have hz5 := (five_heap w' rb (fn * 5) ⟨xk, xi, xt, xr, xa, xn, xc⟩ hZrb).trans HZk.out
    have hv5 := HV5.out w' Hrow2.out
    have ho5 := HO.out.five rb (fn * 5) Hor.out ⟨xk, xi, xt, xr, xa, xn, xc⟩
    have HO5 := hid ho5
    have HV6 := hid hv5
    have HZ5 := hid hz5
    have HX5 := hid hx5
    clear ho5 hv5 hz5 hx5
    generalize five w' rb (fn * 5) ⟨xk, xi, xt, xr, xa, xn, xc⟩ = w5 at *
    clear s0 s1 s2 s3 s4 f0 f1 f2 f3 f4
    try simp only [Act.put, List.setIfInBounds_toArray, List.set_cons_zero, List.set_cons_succ]
    refine wpAnyH_ready (rs := [10]) (by kernel_rfl) (by simp) ?_
    refine AllReadyH.cons (o := { dst := none, op := Op.store 29 (Operand.tmp 39) (Operand.tmp 37), type := 0, pos := "value.go:51", after := #[{ on := 9, ground := Ground.data }, { on := 6, ground := Ground.data }, { on := 6, ground := Ground.chain }, { on := 8, ground := Ground.textOnly Departure.appendInPlace }, { on := 0, ground := Ground.phase }, { on := 1, ground := Ground.phase }, { on := 2, ground := Ground.phase }, { on := 3, ground := Ground.phase }, { on := 4, ground := Ground.phase }, { on := 5, ground := Ground.phase }, { on := 6, ground := Ground.phase }, { on := 7, ground := Ground.textOnly Departure.appendInPlace }, { on := 8, ground := Ground.textOnly Departure.appendInPlace }], guard := none }) rfl (fun K hK => ?_) AllReadyH.nil
    obtain ⟨z4, y4⟩ := HZW.out w5 _ HZ5.out
    go_simp
    refine hK.out _ _ (HX5.out.blk (Below.heap_setCell _ _ _ _ hXZ)) (fun hHeld3 => ?_)
    clear hK K
    refine wpAnyH_done (by kernel_rfl) ?_ _
    exact HK.out _ _ _ _ _ (HV6.out.same (fun q e => by cases e; exact Below.heap_setCell _ _ _ _ (fun e => hZrb e.symm))) (HZP.out _ _ _ HZ5.out) (HO5.out.set 4 _)
  refine AllReadyH.cons (o := { dst := none, op := Op.store 29 (Operand.tmp 39) (Operand.tmp 37), type := 0, pos := "value.go:51", after := #[{ on := 9, ground := Ground.data }, { on := 6, ground := Ground.data }, { on := 6, ground := Ground.chain }, { on := 8, ground := Ground.textOnly Departure.appendInPlace }, { on := 0, ground := Ground.phase }, { on := 1, ground := Ground.phase }, { on := 2, ground := Ground.phase }, { on := 3, ground := Ground.phase }, { on := 4, ground := Ground.phase }, { on := 5, ground := Ground.phase }, { on := 6, ground := Ground.phase }, { on := 7, ground := Ground.textOnly Departure.appendInPlace }, { on := 8, ground := Ground.textOnly Departure.appendInPlace }], guard := none }) rfl (fun K hK => ?_) AllReadyH.nil
  obtain ⟨z4, y4⟩ := HZW.out w' _ HZk.out
  go_simp
  refine hK.out _ _ (hX'.blk (Below.heap_setCell _ _ _ _ hXZ)) (fun hHeld2 => ?_)
  clear hK K
  have hz5 := HZP.out w' _ (.slice (some ⟨rb, 0, none⟩) (fn + 1) cap) HZk.out
  have hrk : (w'.setCell ⟨Z, 4, none⟩ (.slice (some ⟨rb, 0, none⟩) (fn + 1) cap)).heap[rb]? = w'.heap[rb]? := Below.heap_setCell _ _ _ _ (fun e => hZrb e.symm)
  have hv5 := Hrow2.out.same (w' := w'.setCell ⟨Z, 4, none⟩ (.slice (some ⟨rb, 0, none⟩) (fn + 1) cap)) (fun q e => by cases e; exact hrk)
  have hs5 : SRow (w'.setCell ⟨Z, 4, none⟩ (.slice (some ⟨rb, 0, none⟩) (fn + 1) cap)) rb (zs ++ [zph]) := by obtain ⟨cur, h1, h2⟩ := HS.out; exact ⟨cur, hrk.trans h1, h2⟩
  have ho5 := HO.out.set 4 (.slice (some ⟨rb, 0, none⟩) (fn + 1) cap)
  have HO5 := hid ho5
  have HV6 := hid hv5
  have HZ5 := hid hz5
  have HS5 := hid hs5
  clear ho5 hv5 hz5 hs5 hrk
  generalize w'.setCell ⟨Z, 4, none⟩ (.slice (some ⟨rb, 0, none⟩) (fn + 1) cap) = w5 at *
  clear z4 y4
  try simp only [Act.put, List.setIfInBounds_toArray, List.set_cons_zero, List.set_cons_succ]
  refine wpAnyH_ready (rs := [8]) (by kernel_rfl) (by simp) ?_
  refine AllReadyH.cons (o := { dst := none, op := Op.store 31 (Operand.tmp 38) (Operand.tmp 34), type := 0, pos := "value.go:51", after := #[{ on := 7, ground := Ground.data }, { on := 3, ground := Ground.data }, { on := 6, ground := Ground.chain }, { on := 0, ground := Ground.phase }, { on := 1, ground := Ground.phase }, { on := 2, ground := Ground.phase }, { on := 3, ground := Ground.phase }, { on := 4, ground := Ground.phase }, { on := 5, ground := Ground.phase }, { on := 6, ground := Ground.phase }, { on := 10, ground := Ground.gcOnly Departure.appendInPlace }], guard := none }) rfl (fun K hK => ?_) AllReadyH.nil
  obtain ⟨⟨s0, s1, s2, s3, s4⟩, f0, f1, f2, f3, f4⟩ := HSW.out w5 HS5.out
  go_simp
  refine hK.out _ _ (show Zs X tk tr (five w5 rb (fn * 5) ⟨xk, xi, xt, xr, xa, xn, xc⟩) from hHeld2.blk (five_heap _ _ _ _ hXrb)) (fun hHeld3 => ?_)
  clear hK K
  refine wpAnyH_done (by kernel_rfl) ?_ _
  exact HK.out _ _ _ _ _ (HV5.out w5 HV6.out) ((five_heap w5 rb (fn * 5) ⟨xk, xi, xt, xr, xa, xn, xc⟩ hZrb).trans HZ5.out) (HO5.out.five rb (fn * 5) Hor.out ⟨xk, xi, xt, xr, xa, xn, xc⟩)
end Go.Proofs.YtnmbifoinponeaaGreatDoor
