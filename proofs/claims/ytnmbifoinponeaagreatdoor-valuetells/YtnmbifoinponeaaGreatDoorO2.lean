/- Zero: one statement of its loop, in whatever order. -/
import Derived.Test.YtnmbifoinponeaaGreatDoorN2
namespace Go.Proofs.YtnmbifoinponeaaGreatDoor
open Go.RowKit Go.Deep Go.Shelf
set_option linter.unusedVariables false
set_option linter.unusedSimpArgs false
attribute [local go_sem] Oper.semAt_some

theorem wpAnyH_listed {P : Program} {md : Region.Mode} {ops : Array Oper} {Q : Exit → Act → World → Prop} {S : World → Prop} {fuel : Nat} {l l' : Array Bool} {a : Act} {w : World} (h : l = l') (k : wpAnyH P md ops Q S fuel l' a w) : wpAnyH P md ops Q S fuel l a w := h ▸ k

set_option maxRecDepth 100000 in
set_option maxHeartbeats 2000000 in
theorem zbody (ll n : Nat) (Q : Exit → Act → World → Prop) (hQ : ∀ c a a' w, Q (.panic c) a w → Q (.panic c) a' w) (hL : ¬ LetsOut Q) (W : World) (Z X B : Nat) (t0 t1 t2 t3 t4 t6 t8 t9 t10 t11 t12 t13 t14 t15 t16 t17 t18 t19 t20 t21 t22 t23 t24 t25 t26 t27 t28 t29 t30 t31 t32 t33 t34 t35 t36 t37 t38 t39 t40 : Value) (c0 c1 c2 c3 : Value) (fa : Option Addr) (fn fc : Nat) (zs : List Hd) (tk tr : Int)
    (hz : W.heap[Z]? = some (.cells #[c0, c1, c2, c3, .slice fa fn fc] 31 (0, 0))) (hx : W.heap[X]? = some (.cells #[.int .i64 tk, .int .i64 tr] 28 (0, 0))) (hXZ : X ≠ Z) (hXr : (Value.slice fa fn fc).ownBlock ≠ some X) (hr : VRow W B (.slice fa fn fc) zs)
    (hB : B ≤ W.heap.size) (hZB : Z < B) (hl : zs.length ≤ 1000) (hfn : fn = zs.length)
    (k : ∀ a' w' fa' fn' fc', VRow w' B (.slice fa' fn' fc') (zs ++ [zH (tk, tr)]) → w'.heap[Z]? = some (.cells #[c0, c1, c2, c3, .slice fa' fn' fc'] 31 (0, 0)) → Okp Z (.slice fa fn fc) W w' → Q .normal a' w') :
    (Code.region 6 zops true).wpIn (Fence.wide.inRound ll) n Tryz.prog Q { tmps := #[t0, t1, t2, t3, t4, .pointer (some ⟨Z, 0, none⟩), t6, .pointer (some ⟨X, 0, none⟩), t8, t9, t10, t11, t12, t13, t14, t15, t16, t17, t18, t19, t20, t21, t22, t23, t24, t25, t26, t27, t28, t29, t30, t31, t32, t33, t34, t35, t36, t37, t38, t39, t40], defers := [] } W := by
  have hxb : X < W.heap.size := (Array.getElem?_eq_some_iff.1 hx).1
  have hX0 : Zs X tk tr W := ⟨cellOf hx 0, cellOf hx 1⟩
  have BX : ∀ u : World, Below W.heap.size W u → Zs X tk tr u := fun u hb => hX0.blk (hb.block X hxb)
  have BZ : ∀ u : World, Below W.heap.size W u → u.cell? ⟨Z, 4, none⟩ = some (.slice fa fn fc) := fun u hb => cellOf ((hb.block Z (Array.getElem?_eq_some_iff.1 hz).1).trans hz) 4
  have END : ∀ (u : World) (g : Nat), Below W.heap.size W u → u.heap[g]? = some (.cells zph.cs.toArray 31 (0, 0)) → wpAnyH Tryz.prog .any zops Q (Zs X tk tr) 5 #[true, true, true, true, true, true, false, false, false, false, false] { tmps := #[t0, t1, t2, t3, t4, .pointer (some ⟨Z, 0, none⟩), t6, .pointer (some ⟨X, 0, none⟩), t8, t9, t10, t11, t12, t13, t14, t15, t16, t17, t18, t19, t20, t21, t22, t23, t24, t25, t26, t27, t28, t29, t30, .pointer (some ⟨Z, 4, none⟩), .slice fa fn fc, ty tk tr, (zH (tk, tr)).v, .int .i64 (fn : Int), .slice (some ⟨g, 0, none⟩) 1 1, t37, t38, t39, t40], defers := [] } u := fun u g hb hg =>
    zrest Q hQ W u Z X B g t0 t1 t2 t3 t4 t6 t8 t9 t10 t11 t12 t13 t14 t15 t16 t17 t18 t19 t20 t21 t22 t23 t24 t25 t26 t27 t28 t29 t30 t37 t38 t39 t40 c0 c1 c2 c3 fa fn fc zs tk tr 0 ((hb.block Z (Array.getElem?_eq_some_iff.1 hz).1).trans hz) (BX u hb) (Nat.lt_of_lt_of_le hxb hb.size) hXZ hXr (hr.below (Nat.le_refl _) hb) hg hB hZB hl hfn (Okp.of_below hb) k
  have HBX := hid BX
  have HBZ := hid BZ
  have HEND := hid END
  have hb0 : Below W.heap.size W W.drew := (Below.refl _ W).drew
  have HB0 := hid hb0
  have hn2 : fn ≤ 1000 := by omega
  clear k hr hXr hl hfn hz hx BX BZ END hX0 hb0
  refine wpIn_region_round (S := Zs X tk tr) (by kernel_rfl) (nodefer (by kernel_rfl)) hL (HBX.out _ HB0.out) (fun hHeld => ?_)
  obtain ⟨V, hV⟩ : ∃ V, V = W.drew := ⟨_, rfl⟩
  rw [← hV] at hHeld ⊢
  rw [← hV] at HB0
  clear hV

  refine wpAnyH_take (i := 0) (oi := { dst := some 31, op := Op.fieldAddr 31 (Operand.tmp 5) 4, type := 0, pos := "value.go:51", after := #[], guard := none }) (v := .pointer (some ⟨Z, 4, none⟩)) rfl (by kernel_rfl) (by kernel_rfl) (by kernel_rfl) (fun _ _ _ h => hQ _ _ _ _ h) (Or.inl ⟨by rfl, ?_⟩) (by assumption) ?_
  · intro w hSw; (try unfold Zs at hSw); go_simp
  try simp only [Act.put, List.setIfInBounds_toArray, List.set_cons_zero, List.set_cons_succ]
  refine wpAnyH_take (i := 2) (oi := { dst := some 33, op := Op.load 28 (Operand.tmp 7), type := 28, pos := "value.go:51", after := #[], guard := none }) (v := .agg #[.int .i64 tk, .int .i64 tr]) rfl (by kernel_rfl) (by kernel_rfl) (by kernel_rfl) (fun _ _ _ h => hQ _ _ _ _ h) (Or.inl ⟨by rfl, ?_⟩) (by assumption) ?_
  · intro w hSw; (try unfold Zs at hSw); go_simp
  try simp only [Act.put, List.setIfInBounds_toArray, List.set_cons_zero, List.set_cons_succ]
  refine wpAnyH_ready (rs := [1, 3, 5]) (by kernel_rfl) (by simp) ?_
  refine AllReadyH.cons (o := { dst := some 32, op := Op.load 29 (Operand.tmp 31), type := 29, pos := "value.go:51", after := #[{ on := 0, ground := Ground.data }], guard := none }) rfl (fun K hK => ?_) ?_
  · have z1 := HBZ.out V HB0.out
    go_simp
    refine hK.out _ _ (HBX.out _ HB0.out) (fun hHeld1 => ?_)
    clear hK K z1
    try simp only [Act.put, List.setIfInBounds_toArray, List.set_cons_zero, List.set_cons_succ]
    refine wpAnyH_take (i := 4) (oi := { dst := some 35, op := Op.call { callee := Callee.builtin Builtin.len, args := #[Operand.tmp 32], argTypes := #[29] }, type := 3, pos := "value.go:51", after := #[{ on := 1, ground := Ground.data }], guard := none }) (v := .int .i64 (fn : Int)) rfl (by kernel_rfl) (by kernel_rfl) (by kernel_rfl) (fun _ _ _ h => hQ _ _ _ _ h) (Or.inl ⟨by rfl, ?_⟩) (by assumption) ?_
    · intro w hSw; (try unfold Zs at hSw); go_simp
    try simp only [Act.put, List.setIfInBounds_toArray, List.set_cons_zero, List.set_cons_succ]
    refine wpAnyH_ready (rs := [3, 5]) (by kernel_rfl) (by simp) ?_
    refine AllReadyH.cons (o := { dst := some 34, op := Op.call { callee := Callee.value (Operand.func 44), args := #[Operand.tmp 33], argTypes := #[28] }, type := 31, pos := "value.go:51", after := #[{ on := 2, ground := Ground.data }], guard := none }) rfl (fun K hK => ?_) ?_
    · go_wp2_with (go_at_call 44; (refine (simpleZero_any _ tk tr).mono ?_; rintro e w2 ⟨rfl, hb2⟩))
      have H2 := hid (HB0.out.trans (hb2.mono HB0.out.size))
      refine hK.out _ _ (HBX.out _ H2.out) (fun hHeld2 => ?_)
      clear hK K hb2
      try simp only [Act.put, List.setIfInBounds_toArray, List.set_cons_zero, List.set_cons_succ]
      refine wpAnyH_ready (rs := [5]) (by kernel_rfl) (by simp) ?_
      refine AllReadyH.cons (o := { dst := some 36, op := Op.buildSlice 29 1 #[(0, Operand.const (Value.agg #[Value.int IntKind.i64 0, Value.int IntKind.i64 0, Value.string ⟨#[]⟩, Value.int IntKind.i64 0, Value.slice none 0 0]))], type := 29, pos := "value.go:51", after := #[], guard := none }) rfl (fun K hK => ?_) AllReadyH.nil
      go_simp
      have H3 := hid (H2.out.alloc H2.out.size (.cells #[.int .i64 0, .int .i64 0, .string ⟨#[]⟩, .int .i64 0, .slice none 0 0] 31))
      have G3 : Hid ((w2.alloc (.cells #[.int .i64 0, .int .i64 0, .string ⟨#[]⟩, .int .i64 0, .slice none 0 0] 31)).heap[w2.heap.size]? = some (.cells zph.cs.toArray 31 (0, 0))) := hid (heap_alloc_new w2 (.cells #[.int .i64 0, .int .i64 0, .string ⟨#[]⟩, .int .i64 0, .slice none 0 0] 31))
      refine hK.out _ _ (HBX.out _ H3.out) (fun hHeld3 => ?_)
      clear hK K
      try simp only [Act.put, List.setIfInBounds_toArray, List.set_cons_zero, List.set_cons_succ]
      obtain ⟨w3, hw3⟩ : ∃ w9, w9 = w2.alloc (.cells #[.int .i64 0, .int .i64 0, .string ⟨#[]⟩, .int .i64 0, .slice none 0 0] 31) := ⟨_, rfl⟩
      rw [← hw3] at H3 G3 hHeld3 ⊢
      clear hw3
      exact wpAnyH_listed (by kernel_rfl) (HEND.out w3 w2.heap.size H3.out G3.out)
    refine AllReadyH.cons (o := { dst := some 36, op := Op.buildSlice 29 1 #[(0, Operand.const (Value.agg #[Value.int IntKind.i64 0, Value.int IntKind.i64 0, Value.string ⟨#[]⟩, Value.int IntKind.i64 0, Value.slice none 0 0]))], type := 29, pos := "value.go:51", after := #[], guard := none }) rfl (fun K hK => ?_) AllReadyH.nil
    go_simp
    have H4 := hid (HB0.out.alloc HB0.out.size (.cells #[.int .i64 0, .int .i64 0, .string ⟨#[]⟩, .int .i64 0, .slice none 0 0] 31))
    have G4 : Hid ((V.alloc (.cells #[.int .i64 0, .int .i64 0, .string ⟨#[]⟩, .int .i64 0, .slice none 0 0] 31)).heap[V.heap.size]? = some (.cells zph.cs.toArray 31 (0, 0))) := hid (heap_alloc_new V (.cells #[.int .i64 0, .int .i64 0, .string ⟨#[]⟩, .int .i64 0, .slice none 0 0] 31))
    refine hK.out _ _ (HBX.out _ H4.out) (fun hHeld4 => ?_)
    clear hK K
    try simp only [Act.put, List.setIfInBounds_toArray, List.set_cons_zero, List.set_cons_succ]
    obtain ⟨w4, hw4⟩ : ∃ w9, w9 = V.alloc (.cells #[.int .i64 0, .int .i64 0, .string ⟨#[]⟩, .int .i64 0, .slice none 0 0] 31) := ⟨_, rfl⟩
    rw [← hw4] at H4 G4 hHeld4 ⊢
    clear hw4
    refine wpAnyH_ready (rs := [3]) (by kernel_rfl) (by simp) ?_
    refine AllReadyH.cons (o := { dst := some 34, op := Op.call { callee := Callee.value (Operand.func 44), args := #[Operand.tmp 33], argTypes := #[28] }, type := 31, pos := "value.go:51", after := #[{ on := 2, ground := Ground.data }], guard := none }) rfl (fun K hK => ?_) AllReadyH.nil
    go_wp2_with (go_at_call 44; (refine (simpleZero_any _ tk tr).mono ?_; rintro e w5 ⟨rfl, hb5⟩))
    have H5 := hid (H4.out.trans (hb5.mono H4.out.size))
    have G5 := hid ((hb5.block _ (Array.getElem?_eq_some_iff.1 G4.out).1).trans G4.out)
    refine hK.out _ _ (HBX.out _ H5.out) (fun hHeld5 => ?_)
    clear hK K hb5
    try simp only [Act.put, List.setIfInBounds_toArray, List.set_cons_zero, List.set_cons_succ]
    exact wpAnyH_listed (by kernel_rfl) (HEND.out w5 V.heap.size H5.out G5.out)
  refine AllReadyH.cons (o := { dst := some 34, op := Op.call { callee := Callee.value (Operand.func 44), args := #[Operand.tmp 33], argTypes := #[28] }, type := 31, pos := "value.go:51", after := #[{ on := 2, ground := Ground.data }], guard := none }) rfl (fun K hK => ?_) ?_
  · go_wp2_with (go_at_call 44; (refine (simpleZero_any _ tk tr).mono ?_; rintro e w6 ⟨rfl, hb6⟩))
    have H6 := hid (HB0.out.trans (hb6.mono HB0.out.size))
    refine hK.out _ _ (HBX.out _ H6.out) (fun hHeld6 => ?_)
    clear hK K hb6
    try simp only [Act.put, List.setIfInBounds_toArray, List.set_cons_zero, List.set_cons_succ]
    refine wpAnyH_ready (rs := [1, 5]) (by kernel_rfl) (by simp) ?_
    refine AllReadyH.cons (o := { dst := some 32, op := Op.load 29 (Operand.tmp 31), type := 29, pos := "value.go:51", after := #[{ on := 0, ground := Ground.data }], guard := none }) rfl (fun K hK => ?_) ?_
    · have z7 := HBZ.out w6 H6.out
      go_simp
      refine hK.out _ _ (HBX.out _ H6.out) (fun hHeld7 => ?_)
      clear hK K z7
      try simp only [Act.put, List.setIfInBounds_toArray, List.set_cons_zero, List.set_cons_succ]
      refine wpAnyH_take (i := 4) (oi := { dst := some 35, op := Op.call { callee := Callee.builtin Builtin.len, args := #[Operand.tmp 32], argTypes := #[29] }, type := 3, pos := "value.go:51", after := #[{ on := 1, ground := Ground.data }], guard := none }) (v := .int .i64 (fn : Int)) rfl (by kernel_rfl) (by kernel_rfl) (by kernel_rfl) (fun _ _ _ h => hQ _ _ _ _ h) (Or.inl ⟨by rfl, ?_⟩) (by assumption) ?_
      · intro w hSw; (try unfold Zs at hSw); go_simp
      try simp only [Act.put, List.setIfInBounds_toArray, List.set_cons_zero, List.set_cons_succ]
      refine wpAnyH_ready (rs := [5]) (by kernel_rfl) (by simp) ?_
      refine AllReadyH.cons (o := { dst := some 36, op := Op.buildSlice 29 1 #[(0, Operand.const (Value.agg #[Value.int IntKind.i64 0, Value.int IntKind.i64 0, Value.string ⟨#[]⟩, Value.int IntKind.i64 0, Value.slice none 0 0]))], type := 29, pos := "value.go:51", after := #[], guard := none }) rfl (fun K hK => ?_) AllReadyH.nil
      go_simp
      have H8 := hid (H6.out.alloc H6.out.size (.cells #[.int .i64 0, .int .i64 0, .string ⟨#[]⟩, .int .i64 0, .slice none 0 0] 31))
      have G8 : Hid ((w6.alloc (.cells #[.int .i64 0, .int .i64 0, .string ⟨#[]⟩, .int .i64 0, .slice none 0 0] 31)).heap[w6.heap.size]? = some (.cells zph.cs.toArray 31 (0, 0))) := hid (heap_alloc_new w6 (.cells #[.int .i64 0, .int .i64 0, .string ⟨#[]⟩, .int .i64 0, .slice none 0 0] 31))
      refine hK.out _ _ (HBX.out _ H8.out) (fun hHeld8 => ?_)
      clear hK K
      try simp only [Act.put, List.setIfInBounds_toArray, List.set_cons_zero, List.set_cons_succ]
      obtain ⟨w8, hw8⟩ : ∃ w9, w9 = w6.alloc (.cells #[.int .i64 0, .int .i64 0, .string ⟨#[]⟩, .int .i64 0, .slice none 0 0] 31) := ⟨_, rfl⟩
      rw [← hw8] at H8 G8 hHeld8 ⊢
      clear hw8
      exact wpAnyH_listed (by kernel_rfl) (HEND.out w8 w6.heap.size H8.out G8.out)
    refine AllReadyH.cons (o := { dst := some 36, op := Op.buildSlice 29 1 #[(0, Operand.const (Value.agg #[Value.int IntKind.i64 0, Value.int IntKind.i64 0, Value.string ⟨#[]⟩, Value.int IntKind.i64 0, Value.slice none 0 0]))], type := 29, pos := "value.go:51", after := #[], guard := none }) rfl (fun K hK => ?_) AllReadyH.nil
    go_simp
    have H9 := hid (H6.out.alloc H6.out.size (.cells #[.int .i64 0, .int .i64 0, .string ⟨#[]⟩, .int .i64 0, .slice none 0 0] 31))
    have G9 : Hid ((w6.alloc (.cells #[.int .i64 0, .int .i64 0, .string ⟨#[]⟩, .int .i64 0, .slice none 0 0] 31)).heap[w6.heap.size]? = some (.cells zph.cs.toArray 31 (0, 0))) := hid (heap_alloc_new w6 (.cells #[.int .i64 0, .int .i64 0, .string ⟨#[]⟩, .int .i64 0, .slice none 0 0] 31))
    refine hK.out _ _ (HBX.out _ H9.out) (fun hHeld9 => ?_)
    clear hK K
    try simp only [Act.put, List.setIfInBounds_toArray, List.set_cons_zero, List.set_cons_succ]
    obtain ⟨w9, hw9⟩ : ∃ w9, w9 = w6.alloc (.cells #[.int .i64 0, .int .i64 0, .string ⟨#[]⟩, .int .i64 0, .slice none 0 0] 31) := ⟨_, rfl⟩
    rw [← hw9] at H9 G9 hHeld9 ⊢
    clear hw9
    refine wpAnyH_ready (rs := [1]) (by kernel_rfl) (by simp) ?_
    refine AllReadyH.cons (o := { dst := some 32, op := Op.load 29 (Operand.tmp 31), type := 29, pos := "value.go:51", after := #[{ on := 0, ground := Ground.data }], guard := none }) rfl (fun K hK => ?_) AllReadyH.nil
    have z10 := HBZ.out w9 H9.out
    go_simp
    refine hK.out _ _ (HBX.out _ H9.out) (fun hHeld10 => ?_)
    clear hK K z10
    try simp only [Act.put, List.setIfInBounds_toArray, List.set_cons_zero, List.set_cons_succ]
    refine wpAnyH_take (i := 4) (oi := { dst := some 35, op := Op.call { callee := Callee.builtin Builtin.len, args := #[Operand.tmp 32], argTypes := #[29] }, type := 3, pos := "value.go:51", after := #[{ on := 1, ground := Ground.data }], guard := none }) (v := .int .i64 (fn : Int)) rfl (by kernel_rfl) (by kernel_rfl) (by kernel_rfl) (fun _ _ _ h => hQ _ _ _ _ h) (Or.inl ⟨by rfl, ?_⟩) (by assumption) ?_
    · intro w hSw; (try unfold Zs at hSw); go_simp
    try simp only [Act.put, List.setIfInBounds_toArray, List.set_cons_zero, List.set_cons_succ]
    exact wpAnyH_listed (by kernel_rfl) (HEND.out w9 w6.heap.size H9.out G9.out)
  refine AllReadyH.cons (o := { dst := some 36, op := Op.buildSlice 29 1 #[(0, Operand.const (Value.agg #[Value.int IntKind.i64 0, Value.int IntKind.i64 0, Value.string ⟨#[]⟩, Value.int IntKind.i64 0, Value.slice none 0 0]))], type := 29, pos := "value.go:51", after := #[], guard := none }) rfl (fun K hK => ?_) AllReadyH.nil
  go_simp
  have H11 := hid (HB0.out.alloc HB0.out.size (.cells #[.int .i64 0, .int .i64 0, .string ⟨#[]⟩, .int .i64 0, .slice none 0 0] 31))
  have G11 : Hid ((V.alloc (.cells #[.int .i64 0, .int .i64 0, .string ⟨#[]⟩, .int .i64 0, .slice none 0 0] 31)).heap[V.heap.size]? = some (.cells zph.cs.toArray 31 (0, 0))) := hid (heap_alloc_new V (.cells #[.int .i64 0, .int .i64 0, .string ⟨#[]⟩, .int .i64 0, .slice none 0 0] 31))
  refine hK.out _ _ (HBX.out _ H11.out) (fun hHeld11 => ?_)
  clear hK K
  try simp only [Act.put, List.setIfInBounds_toArray, List.set_cons_zero, List.set_cons_succ]
  obtain ⟨w11, hw11⟩ : ∃ w9, w9 = V.alloc (.cells #[.int .i64 0, .int .i64 0, .string ⟨#[]⟩, .int .i64 0, .slice none 0 0] 31) := ⟨_, rfl⟩
  rw [← hw11] at H11 G11 hHeld11 ⊢
  clear hw11
  refine wpAnyH_ready (rs := [1, 3]) (by kernel_rfl) (by simp) ?_
  refine AllReadyH.cons (o := { dst := some 32, op := Op.load 29 (Operand.tmp 31), type := 29, pos := "value.go:51", after := #[{ on := 0, ground := Ground.data }], guard := none }) rfl (fun K hK => ?_) ?_
  · have z12 := HBZ.out w11 H11.out
    go_simp
    refine hK.out _ _ (HBX.out _ H11.out) (fun hHeld12 => ?_)
    clear hK K z12
    try simp only [Act.put, List.setIfInBounds_toArray, List.set_cons_zero, List.set_cons_succ]
    refine wpAnyH_take (i := 4) (oi := { dst := some 35, op := Op.call { callee := Callee.builtin Builtin.len, args := #[Operand.tmp 32], argTypes := #[29] }, type := 3, pos := "value.go:51", after := #[{ on := 1, ground := Ground.data }], guard := none }) (v := .int .i64 (fn : Int)) rfl (by kernel_rfl) (by kernel_rfl) (by kernel_rfl) (fun _ _ _ h => hQ _ _ _ _ h) (Or.inl ⟨by rfl, ?_⟩) (by assumption) ?_
    · intro w hSw; (try unfold Zs at hSw); go_simp
    try simp only [Act.put, List.setIfInBounds_toArray, List.set_cons_zero, List.set_cons_succ]
    refine wpAnyH_ready (rs := [3]) (by kernel_rfl) (by simp) ?_
    refine AllReadyH.cons (o := { dst := some 34, op := Op.call { callee := Callee.value (Operand.func 44), args := #[Operand.tmp 33], argTypes := #[28] }, type := 31, pos := "value.go:51", after := #[{ on := 2, ground := Ground.data }], guard := none }) rfl (fun K hK => ?_) AllReadyH.nil
    go_wp2_with (go_at_call 44; (refine (simpleZero_any _ tk tr).mono ?_; rintro e w13 ⟨rfl, hb13⟩))
    have H13 := hid (H11.out.trans (hb13.mono H11.out.size))
    have G13 := hid ((hb13.block _ (Array.getElem?_eq_some_iff.1 G11.out).1).trans G11.out)
    refine hK.out _ _ (HBX.out _ H13.out) (fun hHeld13 => ?_)
    clear hK K hb13
    try simp only [Act.put, List.setIfInBounds_toArray, List.set_cons_zero, List.set_cons_succ]
    exact wpAnyH_listed (by kernel_rfl) (HEND.out w13 V.heap.size H13.out G13.out)
  refine AllReadyH.cons (o := { dst := some 34, op := Op.call { callee := Callee.value (Operand.func 44), args := #[Operand.tmp 33], argTypes := #[28] }, type := 31, pos := "value.go:51", after := #[{ on := 2, ground := Ground.data }], guard := none }) rfl (fun K hK => ?_) AllReadyH.nil
  go_wp2_with (go_at_call 44; (refine (simpleZero_any _ tk tr).mono ?_; rintro e w14 ⟨rfl, hb14⟩))
  have H14 := hid (H11.out.trans (hb14.mono H11.out.size))
  have G14 := hid ((hb14.block _ (Array.getElem?_eq_some_iff.1 G11.out).1).trans G11.out)
  refine hK.out _ _ (HBX.out _ H14.out) (fun hHeld14 => ?_)
  clear hK K hb14
  try simp only [Act.put, List.setIfInBounds_toArray, List.set_cons_zero, List.set_cons_succ]
  refine wpAnyH_ready (rs := [1]) (by kernel_rfl) (by simp) ?_
  refine AllReadyH.cons (o := { dst := some 32, op := Op.load 29 (Operand.tmp 31), type := 29, pos := "value.go:51", after := #[{ on := 0, ground := Ground.data }], guard := none }) rfl (fun K hK => ?_) AllReadyH.nil
  have z15 := HBZ.out w14 H14.out
  go_simp
  refine hK.out _ _ (HBX.out _ H14.out) (fun hHeld15 => ?_)
  clear hK K z15
  try simp only [Act.put, List.setIfInBounds_toArray, List.set_cons_zero, List.set_cons_succ]
  refine wpAnyH_take (i := 4) (oi := { dst := some 35, op := Op.call { callee := Callee.builtin Builtin.len, args := #[Operand.tmp 32], argTypes := #[29] }, type := 3, pos := "value.go:51", after := #[{ on := 1, ground := Ground.data }], guard := none }) (v := .int .i64 (fn : Int)) rfl (by kernel_rfl) (by kernel_rfl) (by kernel_rfl) (fun _ _ _ h => hQ _ _ _ _ h) (Or.inl ⟨by rfl, ?_⟩) (by assumption) ?_
  · intro w hSw; (try unfold Zs at hSw); go_simp
  try simp only [Act.put, List.setIfInBounds_toArray, List.set_cons_zero, List.set_cons_succ]
  exact wpAnyH_listed (by kernel_rfl) (HEND.out w14 V.heap.size H14.out G14.out)
end Go.Proofs.YtnmbifoinponeaaGreatDoor
