/- heap.with: the walk. -/
import Derived.Test.YtenfgahedbeekaaJAC
namespace Go.Proofs.Ytenfgahedbeekaa
open Go.RowKit Go.Deep Go.Shelf
set_option linter.unusedVariables false
set_option linter.unusedSimpArgs false

theorem wth_length {α : Type} (m : Int) (row : α) (l : List α) : (wth m row l).length = l.length := by simp [wth]
theorem wth_at {α : Type} (m : Int) (row : α) (l : List α) (i : Nat) (x : α) (h : l[i]? = some x) : (wth m row l)[i]? = some (if (i : Int) = m then row else x) := by
  unfold wth
  rw [List.getElem?_mapIdx, h]; rfl
def CwP (k : Nat) (w : World) (m : Int) (row : Rw k) (ms : List (Sl × Rw k)) (e : Ending) (w' : World) : Prop := ∃ fa fn fc ns, e = .returned (.agg #[.slice fa fn fc]) ∧ Below w.heap.size w w' ∧ fn ≤ fc ∧ StP k w' (fun b => w.heap.size ≤ b ∧ b < w'.heap.size) fa fn ns ∧ ns.map (fun q => rowC k q.2) = wth m (rowC k row) (ms.map fun q => rowC k q.2)
set_option maxRecDepth 100000 in
set_option maxHeartbeats 4000000 in
theorem with_any (k : Nat) (w : World) (sa : Option Addr) (sn sc : Nat) (ms : List (Sl × Rw k)) (hd : StR k w sa sn ms) (m : Int) (ra : Option Addr) (rn rc : Nat) (row : Rw k) (hr : RwR k w ra rn row) :
    Calls Try.prog 41 #[.agg #[.slice sa sn sc], .int .i64 m, .slice ra rn rc] w (CwP k w m row ms) := by
  have D := hid hd
  have DR := hid hr
  have Hn := hid hd.n1
  have hle := hd.n2
  have hle2 : (sn : Int) ≤ 1000 := by omega
  have hn0 : (0 : Int) ≤ (sn : Int) := by omega
  obtain ⟨cs, hcs⟩ : ∃ cs, cs = wth m (rowC k row) (ms.map fun q => rowC k q.2) := ⟨_, rfl⟩
  have Hcs := hid hcs
  have Hcl : Hid (cs.length = sn) := hid (by rw [hcs, wth_length, List.length_map, hd.n1])
  clear hd hr hcs
  obtain ⟨W0, hW0⟩ : ∃ W0, W0 = ((w.alloc (.cells #[.slice sa sn sc] 27)).alloc (.cells #[.slice none 0 0] 27)).alloc (.cells #[.slice none 0 0] 27) := ⟨_, rfl⟩
  have c0 : CwL k w W0 (.slice sa sn sc) cs 0 none 0 0 [] := by
    have m0 := heap_alloc_new w (.cells #[.slice sa sn sc] 27)
    have m1 := heap_alloc_new (w.alloc (.cells #[.slice sa sn sc] 27)) (.cells #[.slice none 0 0] 27)
    have m2 := heap_alloc_new ((w.alloc (.cells #[.slice sa sn sc] 27)).alloc (.cells #[.slice none 0 0] 27)) (.cells #[.slice none 0 0] 27)
    simp only [World.size_alloc] at m1 m2
    have pl' : ∀ {w : World} {o x : Obj} {k : Nat}, w.heap[k]? = some x → (w.alloc o).heap[k]? = some x := fun h => (Below.heap_alloc _ _ _ (Array.getElem?_eq_some_iff.1 h).1).trans h
    refine ⟨?_, ?_, ?_, ?_, by simpa using MRow.nil _ _, fun q hq => by simp at hq, rfl⟩
    · rw [hW0]; exact (((Below.refl _ w).alloc (Nat.le_refl _) _).alloc (by simp) _).alloc (by simp; omega) _
    · rw [hW0]; exact pl' (pl' m0)
    · rw [hW0]; exact pl' m1
    · rw [hW0]; exact m2
  have C0 := hid c0
  have g0 : W0.cell? ⟨w.heap.size, 0, none⟩ = some (.slice sa sn sc) := cellOf c0.b0 0
  clear c0
  go_enter Try.func41, Try.ntmps41
  go_wp2
  rw [← hW0]
  clear hW0
  go_loopg [13] sn (fun g ii wr => ∃ i : Nat, i + g = sn ∧ ii = .int .i64 (i : Int) ∧ ∃ fa fn fc ns, CwL k w wr (.slice sa sn sc) cs i fa fn fc ns)
  case atStart => exact ⟨0, by omega, rfl, none, 0, 0, [], C0.out⟩
  case round =>
    obtain ⟨i, hi', rfl, fa, fn, fc, ns, hc⟩ := hrel
    have HC := hid hc
    cases gk with
    | zero =>
      have hin2 : i = sn := by omega
      subst hin2
      have y0 := cellOf hc.b2 0
      have e0 := cellOf hc.b1 0
      have f0 := freeOf hc.b1 0
      simp only [List.getElem?_toArray, List.getElem?_cons_zero, List.getElem?_cons_succ] at y0 e0
      clear hi' hc g0
      go_wp2
      have h5 := heap_set_at HC.out.b1 0 (.slice fa fn fc)
      have hb5 : Below w.heap.size w (wr.setCell ⟨w.heap.size + 1, 0, none⟩ (.slice fa fn fc)) := HC.out.bel.setCell (by show w.heap.size ≤ w.heap.size + 1; omega) _
      have hkp : ∀ b, w.heap.size + 3 ≤ b → (wr.setCell ⟨w.heap.size + 1, 0, none⟩ (.slice fa fn fc)).heap[b]? = wr.heap[b]? := fun b hb => Below.heap_setCell _ _ _ _ (by show b ≠ w.heap.size + 1; omega)
      have hs5 : (wr.setCell ⟨w.heap.size + 1, 0, none⟩ (.slice fa fn fc)).heap.size = wr.heap.size := by simp [World.setCell]
      have q0 : (wr.setCell ⟨w.heap.size + 1, 0, none⟩ (.slice fa fn fc)).cell? ⟨w.heap.size + 1, 0, none⟩ = some (.slice fa fn fc) := by have := cellOf h5 0; simpa using this
      generalize wr.setCell ⟨w.heap.size + 1, 0, none⟩ (.slice fa fn fc) = W5 at *
      have hlen : ns.length = i := by
        have := congrArg List.length HC.out.same
        rw [List.length_map, List.length_take, Hcl.out] at this
        omega
      have row5 := HC.out.row.same (w' := W5) (fun q e => hkp q (HC.out.row.own q e).1)
      have hta : cs.take i = cs := List.take_of_length_le (by rw [Hcl.out]; exact Nat.le_refl _)
      have hfn : fn = ns.length ∧ fn ≤ fc := by
        obtain ⟨a9, c9, e9, h9⟩ := HC.out.row.form
        cases e9
        rw [List.length_map] at h9 ⊢
        exact ⟨rfl, h9⟩
      refine bodyPost_ret (v := .agg #[.slice fa fn fc]) (by simp [results, Try.results41, go_sem, q0]) rfl ⟨fa, fn, fc, ns, rfl, hb5, hfn.2, ⟨hfn.1, by omega, row5.rd, ?_, ?_⟩, by rw [HC.out.same, hta, Hcs.out]⟩
      · intro x ex ne
        have hrow0 := HC.out.row
        rcases hrow0.2 with ⟨e, hn⟩ | ⟨g, cap', cur, e, hb, rest⟩
        · exact absurd (List.map_eq_nil_iff.1 (List.eq_nil_of_length_eq_zero hn)) ne
        · rw [ex] at e
          cases e
          subst ex
          have := hrow0.own g rfl
          exact ⟨by show w.heap.size ≤ g; omega, by show g < _; omega⟩
      · intro q hq
        exact ⟨((HC.out.rd q hq).1.keep (fun b hb => hkp b hb.1)).imp (fun b hb => ⟨by omega, by omega⟩), (HC.out.rd q hq).2⟩
    | succ gi =>
      have hlt0 : i < sn := by omega
      have hlt : (i : Int) < (sn : Int) := by omega
      have hi00 : (0 : Int) ≤ (i : Int) := by omega
      obtain ⟨p, hp⟩ : ∃ p, ms[i]? = some p := ⟨ms[i]'(by rw [← Hn.out]; exact hlt0), List.getElem?_eq_getElem _⟩
      obtain ⟨b, off, ea, dc⟩ := (D.out.rd.below (Nat.le_refl _) hc.bel) i p.1 (by rw [List.getElem?_map, hp]; rfl)
      subst ea
      have he := wth_at m (rowC k row) (ms.map fun q => rowC k q.2) i (rowC k p.2) (by rw [List.getElem?_map, hp]; rfl)
      rw [← Hcs.out] at he
      have hel := ((D.out.el p (List.mem_of_getElem? hp)).1).below (Nat.le_refl _) hc.bel
      have hro := DR.out.below (Nat.le_refl _) hc.bel
      have v0 := cellOf hc.b2 0
      have v0d : wr.drew.cell? ⟨w.heap.size + 1 + 1, 0, none⟩ = some (.slice fa fn fc) := cellOf (show wr.drew.heap[w.heap.size + 1 + 1]? = _ from hc.b2) 0
      simp only [List.getElem?_toArray, List.getElem?_cons_zero, List.getElem?_cons_succ] at v0
      have hlv : (ns.map (·.1)).length ≤ 1000000 := by
        have := congrArg List.length hc.same
        rw [List.length_map, List.length_take] at this
        rw [List.length_map]; omega
      have Hlv := hid hlv
      have Hi := hid hi'
      obtain ⟨⟨ma, mn, mc⟩, mr⟩ := p
      simp only [Sl.v] at dc
      simp only at he hel
      by_cases hm : (i : Int) = m
      · rw [if_pos hm] at he
        have He := hid he
        have C62 := hid (copyRow_any k wr.drew ra rn rc row (hro.below (Nat.le_refl _) ((Below.refl _ wr).drew)))
        subst hm
        clear hc hi' hlv he hel hro hp g0
        go_wp2
        refine wp_region_held_drew (S := fun _ => True) (by kernel_rfl) trivial (fun hHeld => ?_)
        refine wpAnyH_take (i := 0) (oi := { dst := some 21, op := Op.fieldAddr 27 (Operand.tmp 7) 0, type := 0, pos := "heap.go:151", after := #[], guard := none }) (v := .pointer (some ⟨w.heap.size + 1 + 1, 0, none⟩)) rfl (by kernel_rfl) (by kernel_rfl) (by kernel_rfl) (fun _ _ _ h => h) (Or.inl ⟨by rfl, ?_⟩) (by trivial) ?_
        · intro w hSw; (try dsimp only at hSw); go_simp
        try simp only [Act.put, List.setIfInBounds_toArray, List.set_cons_zero, List.set_cons_succ]
        refine wpAnyH_take (i := 2) (oi := { dst := some 23, op := Op.move (Operand.tmp 2), type := 70, pos := "heap.go:151", after := #[], guard := none }) (v := .slice ra rn rc) rfl (by kernel_rfl) (by kernel_rfl) (by kernel_rfl) (fun _ _ _ h => h) (Or.inl ⟨by rfl, ?_⟩) (by trivial) ?_
        · intro w hSw; (try dsimp only at hSw); go_simp
        try simp only [Act.put, List.setIfInBounds_toArray, List.set_cons_zero, List.set_cons_succ]
        refine wpAnyH_ready (rs := [1, 3]) (by kernel_rfl) (by simp) ?_
        refine AllReadyH.cons (o := { dst := some 22, op := Op.load 25 (Operand.tmp 21), type := 25, pos := "heap.go:151", after := #[{ on := 0, ground := Ground.data }], guard := none }) rfl (fun K hK => ?_) ?_
        · go_simp
          refine hK.out _ _ trivial (fun hHeldN => ?_)
          clear hK K
          try simp only [Act.put, List.setIfInBounds_toArray, List.set_cons_zero, List.set_cons_succ]
          refine wpAnyH_ready (rs := [3]) (by kernel_rfl) (by simp) ?_
          refine AllReadyH.cons (o := { dst := some 24, op := Op.call { callee := Callee.value (Operand.func 62), args := #[Operand.tmp 23], argTypes := #[70] }, type := 70, pos := "heap.go:151", after := #[{ on := 2, ground := Ground.data }], guard := none }) rfl (fun K hK => ?_) AllReadyH.nil
          go_wp2_with (go_at_call 62; (refine (C62.out).mono ?_; rintro e w9 ⟨xa, xn, xc, qs, rfl, hB9, hxc, hx, hqs⟩))
          have hB9' : Below wr.heap.size wr w9 := ((Below.refl _ wr).drew).trans hB9
          have hB9a : ∀ o, Below wr.heap.size wr (w9.alloc o) := fun o => hB9'.alloc hB9'.size o
          have z9 := cellOf ((hB9'.block (w.heap.size + 1 + 1) (by have := HC.out.sz; omega)).trans HC.out.b2) 0
          have z9' := fun o => cellOf (((hB9a o).block (w.heap.size + 1 + 1) (by have := HC.out.sz; omega)).trans HC.out.b2) 0
          simp only [List.getElem?_toArray, List.getElem?_cons_zero, List.getElem?_cons_succ] at z9 z9'
          have HX := hid hx
          have HXC := hid hxc
          have HQ := hid (He.out.trans (congrArg some (show _ = rowC k qs from hqs.symm)))
          clear hx hxc hqs hB9
          refine hK.out _ _ trivial (fun hHeldN => ?_)
          clear hK K
          try simp only [Act.put, List.setIfInBounds_toArray, List.set_cons_zero, List.set_cons_succ]
          refine wpAnyH_ready (rs := [4]) (by kernel_rfl) (by simp) ?_
          refine AllReadyH.cons (o := { dst := some 25, op := Op.buildSlice 25 1 #[(0, Operand.tmp 24)], type := 25, pos := "heap.go:151", after := #[{ on := 3, ground := Ground.data }], guard := none }) rfl (fun K hK => ?_) AllReadyH.nil
          go_simp
          refine hK.out _ _ trivial (fun hHeldN => ?_)
          clear hK K
          try simp only [Act.put, List.setIfInBounds_toArray, List.set_cons_zero, List.set_cons_succ]
          refine wpAnyH_ready (rs := [5]) (by kernel_rfl) (by simp) ?_
          refine AllReadyH.cons (o := { dst := some 26, op := Op.call { callee := Callee.builtin Builtin.append, args := #[Operand.tmp 22, Operand.tmp 25], argTypes := #[25, 25] }, type := 25, pos := "heap.go:151", after := #[{ on := 1, ground := Ground.data }, { on := 4, ground := Ground.data }, { on := 3, ground := Ground.chain }], guard := none }) rfl (fun K hK => ?_) AllReadyH.nil
          refine step_appM rfl (.tmp 22) (.tmp 25) rfl (.slice fa fn fc) w9.heap.size ⟨xa, xn, xc⟩ rfl rfl (w.heap.size + 3) (ns.map (·.1)) (HC.out.row.below (Nat.le_refl _) (hB9a _)) (heap_alloc_new w9 (.cells #[.slice xa xn xc] 70)) (Nat.le_trans HC.out.sz (hB9a _).size) Hlv.out ?_
          intro v10 w10 hr10 hg10
          obtain ⟨f2, c2, e10, hc2⟩ := hr10.form
          obtain ⟨n2, hn2⟩ : ∃ n2, n2 = (ns.map (·.1) ++ [(⟨xa, xn, xc⟩ : Sl)]).length := ⟨_, rfl⟩
          rw [← hn2] at e10
          subst e10
          have hv10 := HC.out.grown hB9' hg10
          have HCM := hid (HC.out.more hB9' HX.out HXC.out HQ.out hr10 hg10)
          have z10 := cellOf hv10 0
          have f10 := freeOf hv10 0
          simp only [List.getElem?_toArray, List.getElem?_cons_zero, List.getElem?_cons_succ] at z10
          clear hc2 hn2 hg10 hr10 hv10 z9 z9' hB9a hB9'
          refine hK.out _ _ trivial (fun hHeldN => ?_)
          clear hK K
          try simp only [Act.put, List.setIfInBounds_toArray, List.set_cons_zero, List.set_cons_succ]
          refine wpAnyH_take (i := 6) (oi := { dst := some 27, op := Op.fieldAddr 27 (Operand.tmp 7) 0, type := 0, pos := "heap.go:151", after := #[{ on := 0, ground := Ground.phase }, { on := 1, ground := Ground.phase }, { on := 2, ground := Ground.phase }, { on := 3, ground := Ground.phase }, { on := 4, ground := Ground.phase }, { on := 5, ground := Ground.phase }], guard := none }) (v := .pointer (some ⟨w.heap.size + 1 + 1, 0, none⟩)) rfl (by kernel_rfl) (by kernel_rfl) (by kernel_rfl) (fun _ _ _ h => h) (Or.inl ⟨by rfl, ?_⟩) (by trivial) ?_
          · intro w hSw; (try dsimp only at hSw); go_simp
          try simp only [Act.put, List.setIfInBounds_toArray, List.set_cons_zero, List.set_cons_succ]
          refine wpAnyH_ready (rs := [7]) (by kernel_rfl) (by simp) ?_
          refine AllReadyH.cons (o := { dst := none, op := Op.store 25 (Operand.tmp 27) (Operand.tmp 26), type := 0, pos := "heap.go:151", after := #[{ on := 6, ground := Ground.data }, { on := 5, ground := Ground.data }, { on := 5, ground := Ground.chain }, { on := 0, ground := Ground.phase }, { on := 1, ground := Ground.phase }, { on := 2, ground := Ground.phase }, { on := 3, ground := Ground.phase }, { on := 4, ground := Ground.phase }, { on := 5, ground := Ground.phase }], guard := none }) rfl (fun K hK => ?_) AllReadyH.nil
          go_simp
          refine hK.out _ _ trivial (fun hHeldN => ?_)
          clear hK K
          try simp only [Act.put, List.setIfInBounds_toArray, List.set_cons_zero, List.set_cons_succ]
          refine wpAnyH_done (by kernel_rfl) ?_ _
          go_wp2
          go_roundg gi
          case measure => omega
          case rel => exact ⟨i + 1, by have := Hi.out; omega, by go_num, f2, n2, c2, _, HCM.out⟩
        refine AllReadyH.cons (o := { dst := some 24, op := Op.call { callee := Callee.value (Operand.func 62), args := #[Operand.tmp 23], argTypes := #[70] }, type := 70, pos := "heap.go:151", after := #[{ on := 2, ground := Ground.data }], guard := none }) rfl (fun K hK => ?_) AllReadyH.nil
        go_wp2_with (go_at_call 62; (refine (C62.out).mono ?_; rintro e w9 ⟨xa, xn, xc, qs, rfl, hB9, hxc, hx, hqs⟩))
        have hB9' : Below wr.heap.size wr w9 := ((Below.refl _ wr).drew).trans hB9
        have hB9a : ∀ o, Below wr.heap.size wr (w9.alloc o) := fun o => hB9'.alloc hB9'.size o
        have z9 := cellOf ((hB9'.block (w.heap.size + 1 + 1) (by have := HC.out.sz; omega)).trans HC.out.b2) 0
        have z9' := fun o => cellOf (((hB9a o).block (w.heap.size + 1 + 1) (by have := HC.out.sz; omega)).trans HC.out.b2) 0
        simp only [List.getElem?_toArray, List.getElem?_cons_zero, List.getElem?_cons_succ] at z9 z9'
        have HX := hid hx
        have HXC := hid hxc
        have HQ := hid (He.out.trans (congrArg some (show _ = rowC k qs from hqs.symm)))
        clear hx hxc hqs hB9
        refine hK.out _ _ trivial (fun hHeldN => ?_)
        clear hK K
        try simp only [Act.put, List.setIfInBounds_toArray, List.set_cons_zero, List.set_cons_succ]
        refine wpAnyH_ready (rs := [1, 4]) (by kernel_rfl) (by simp) ?_
        refine AllReadyH.cons (o := { dst := some 22, op := Op.load 25 (Operand.tmp 21), type := 25, pos := "heap.go:151", after := #[{ on := 0, ground := Ground.data }], guard := none }) rfl (fun K hK => ?_) ?_
        · go_simp
          refine hK.out _ _ trivial (fun hHeldN => ?_)
          clear hK K
          try simp only [Act.put, List.setIfInBounds_toArray, List.set_cons_zero, List.set_cons_succ]
          refine wpAnyH_ready (rs := [4]) (by kernel_rfl) (by simp) ?_
          refine AllReadyH.cons (o := { dst := some 25, op := Op.buildSlice 25 1 #[(0, Operand.tmp 24)], type := 25, pos := "heap.go:151", after := #[{ on := 3, ground := Ground.data }], guard := none }) rfl (fun K hK => ?_) AllReadyH.nil
          go_simp
          refine hK.out _ _ trivial (fun hHeldN => ?_)
          clear hK K
          try simp only [Act.put, List.setIfInBounds_toArray, List.set_cons_zero, List.set_cons_succ]
          refine wpAnyH_ready (rs := [5]) (by kernel_rfl) (by simp) ?_
          refine AllReadyH.cons (o := { dst := some 26, op := Op.call { callee := Callee.builtin Builtin.append, args := #[Operand.tmp 22, Operand.tmp 25], argTypes := #[25, 25] }, type := 25, pos := "heap.go:151", after := #[{ on := 1, ground := Ground.data }, { on := 4, ground := Ground.data }, { on := 3, ground := Ground.chain }], guard := none }) rfl (fun K hK => ?_) AllReadyH.nil
          refine step_appM rfl (.tmp 22) (.tmp 25) rfl (.slice fa fn fc) w9.heap.size ⟨xa, xn, xc⟩ rfl rfl (w.heap.size + 3) (ns.map (·.1)) (HC.out.row.below (Nat.le_refl _) (hB9a _)) (heap_alloc_new w9 (.cells #[.slice xa xn xc] 70)) (Nat.le_trans HC.out.sz (hB9a _).size) Hlv.out ?_
          intro v10 w10 hr10 hg10
          obtain ⟨f2, c2, e10, hc2⟩ := hr10.form
          obtain ⟨n2, hn2⟩ : ∃ n2, n2 = (ns.map (·.1) ++ [(⟨xa, xn, xc⟩ : Sl)]).length := ⟨_, rfl⟩
          rw [← hn2] at e10
          subst e10
          have hv10 := HC.out.grown hB9' hg10
          have HCM := hid (HC.out.more hB9' HX.out HXC.out HQ.out hr10 hg10)
          have z10 := cellOf hv10 0
          have f10 := freeOf hv10 0
          simp only [List.getElem?_toArray, List.getElem?_cons_zero, List.getElem?_cons_succ] at z10
          clear hc2 hn2 hg10 hr10 hv10 z9 z9' hB9a hB9'
          refine hK.out _ _ trivial (fun hHeldN => ?_)
          clear hK K
          try simp only [Act.put, List.setIfInBounds_toArray, List.set_cons_zero, List.set_cons_succ]
          refine wpAnyH_take (i := 6) (oi := { dst := some 27, op := Op.fieldAddr 27 (Operand.tmp 7) 0, type := 0, pos := "heap.go:151", after := #[{ on := 0, ground := Ground.phase }, { on := 1, ground := Ground.phase }, { on := 2, ground := Ground.phase }, { on := 3, ground := Ground.phase }, { on := 4, ground := Ground.phase }, { on := 5, ground := Ground.phase }], guard := none }) (v := .pointer (some ⟨w.heap.size + 1 + 1, 0, none⟩)) rfl (by kernel_rfl) (by kernel_rfl) (by kernel_rfl) (fun _ _ _ h => h) (Or.inl ⟨by rfl, ?_⟩) (by trivial) ?_
          · intro w hSw; (try dsimp only at hSw); go_simp
          try simp only [Act.put, List.setIfInBounds_toArray, List.set_cons_zero, List.set_cons_succ]
          refine wpAnyH_ready (rs := [7]) (by kernel_rfl) (by simp) ?_
          refine AllReadyH.cons (o := { dst := none, op := Op.store 25 (Operand.tmp 27) (Operand.tmp 26), type := 0, pos := "heap.go:151", after := #[{ on := 6, ground := Ground.data }, { on := 5, ground := Ground.data }, { on := 5, ground := Ground.chain }, { on := 0, ground := Ground.phase }, { on := 1, ground := Ground.phase }, { on := 2, ground := Ground.phase }, { on := 3, ground := Ground.phase }, { on := 4, ground := Ground.phase }, { on := 5, ground := Ground.phase }], guard := none }) rfl (fun K hK => ?_) AllReadyH.nil
          go_simp
          refine hK.out _ _ trivial (fun hHeldN => ?_)
          clear hK K
          try simp only [Act.put, List.setIfInBounds_toArray, List.set_cons_zero, List.set_cons_succ]
          refine wpAnyH_done (by kernel_rfl) ?_ _
          go_wp2
          go_roundg gi
          case measure => omega
          case rel => exact ⟨i + 1, by have := Hi.out; omega, by go_num, f2, n2, c2, _, HCM.out⟩
        refine AllReadyH.cons (o := { dst := some 25, op := Op.buildSlice 25 1 #[(0, Operand.tmp 24)], type := 25, pos := "heap.go:151", after := #[{ on := 3, ground := Ground.data }], guard := none }) rfl (fun K hK => ?_) AllReadyH.nil
        go_simp
        refine hK.out _ _ trivial (fun hHeldN => ?_)
        clear hK K
        try simp only [Act.put, List.setIfInBounds_toArray, List.set_cons_zero, List.set_cons_succ]
        refine wpAnyH_ready (rs := [1]) (by kernel_rfl) (by simp) ?_
        refine AllReadyH.cons (o := { dst := some 22, op := Op.load 25 (Operand.tmp 21), type := 25, pos := "heap.go:151", after := #[{ on := 0, ground := Ground.data }], guard := none }) rfl (fun K hK => ?_) AllReadyH.nil
        go_simp
        refine hK.out _ _ trivial (fun hHeldN => ?_)
        clear hK K
        try simp only [Act.put, List.setIfInBounds_toArray, List.set_cons_zero, List.set_cons_succ]
        refine wpAnyH_ready (rs := [5]) (by kernel_rfl) (by simp) ?_
        refine AllReadyH.cons (o := { dst := some 26, op := Op.call { callee := Callee.builtin Builtin.append, args := #[Operand.tmp 22, Operand.tmp 25], argTypes := #[25, 25] }, type := 25, pos := "heap.go:151", after := #[{ on := 1, ground := Ground.data }, { on := 4, ground := Ground.data }, { on := 3, ground := Ground.chain }], guard := none }) rfl (fun K hK => ?_) AllReadyH.nil
        refine step_appM rfl (.tmp 22) (.tmp 25) rfl (.slice fa fn fc) w9.heap.size ⟨xa, xn, xc⟩ rfl rfl (w.heap.size + 3) (ns.map (·.1)) (HC.out.row.below (Nat.le_refl _) (hB9a _)) (heap_alloc_new w9 (.cells #[.slice xa xn xc] 70)) (Nat.le_trans HC.out.sz (hB9a _).size) Hlv.out ?_
        intro v10 w10 hr10 hg10
        obtain ⟨f2, c2, e10, hc2⟩ := hr10.form
        obtain ⟨n2, hn2⟩ : ∃ n2, n2 = (ns.map (·.1) ++ [(⟨xa, xn, xc⟩ : Sl)]).length := ⟨_, rfl⟩
        rw [← hn2] at e10
        subst e10
        have hv10 := HC.out.grown hB9' hg10
        have HCM := hid (HC.out.more hB9' HX.out HXC.out HQ.out hr10 hg10)
        have z10 := cellOf hv10 0
        have f10 := freeOf hv10 0
        simp only [List.getElem?_toArray, List.getElem?_cons_zero, List.getElem?_cons_succ] at z10
        clear hc2 hn2 hg10 hr10 hv10 z9 z9' hB9a hB9'
        refine hK.out _ _ trivial (fun hHeldN => ?_)
        clear hK K
        try simp only [Act.put, List.setIfInBounds_toArray, List.set_cons_zero, List.set_cons_succ]
        refine wpAnyH_take (i := 6) (oi := { dst := some 27, op := Op.fieldAddr 27 (Operand.tmp 7) 0, type := 0, pos := "heap.go:151", after := #[{ on := 0, ground := Ground.phase }, { on := 1, ground := Ground.phase }, { on := 2, ground := Ground.phase }, { on := 3, ground := Ground.phase }, { on := 4, ground := Ground.phase }, { on := 5, ground := Ground.phase }], guard := none }) (v := .pointer (some ⟨w.heap.size + 1 + 1, 0, none⟩)) rfl (by kernel_rfl) (by kernel_rfl) (by kernel_rfl) (fun _ _ _ h => h) (Or.inl ⟨by rfl, ?_⟩) (by trivial) ?_
        · intro w hSw; (try dsimp only at hSw); go_simp
        try simp only [Act.put, List.setIfInBounds_toArray, List.set_cons_zero, List.set_cons_succ]
        refine wpAnyH_ready (rs := [7]) (by kernel_rfl) (by simp) ?_
        refine AllReadyH.cons (o := { dst := none, op := Op.store 25 (Operand.tmp 27) (Operand.tmp 26), type := 0, pos := "heap.go:151", after := #[{ on := 6, ground := Ground.data }, { on := 5, ground := Ground.data }, { on := 5, ground := Ground.chain }, { on := 0, ground := Ground.phase }, { on := 1, ground := Ground.phase }, { on := 2, ground := Ground.phase }, { on := 3, ground := Ground.phase }, { on := 4, ground := Ground.phase }, { on := 5, ground := Ground.phase }], guard := none }) rfl (fun K hK => ?_) AllReadyH.nil
        go_simp
        refine hK.out _ _ trivial (fun hHeldN => ?_)
        clear hK K
        try simp only [Act.put, List.setIfInBounds_toArray, List.set_cons_zero, List.set_cons_succ]
        refine wpAnyH_done (by kernel_rfl) ?_ _
        go_wp2
        go_roundg gi
        case measure => omega
        case rel => exact ⟨i + 1, by have := Hi.out; omega, by go_num, f2, n2, c2, _, HCM.out⟩
      · rw [if_neg hm] at he
        have He := hid he
        have C62 := hid (copyRow_any k wr.drew ma mn mc mr (hel.below (Nat.le_refl _) ((Below.refl _ wr).drew)))
        have hm' : ((i : Int) == m) = false := by simpa using hm
        clear hc hi' hlv he hel hro hp g0
        go_wp2
        refine wp_region_held_drew (S := fun _ => True) (by kernel_rfl) trivial (fun hHeld => ?_)
        refine wpAnyH_take (i := 0) (oi := { dst := some 28, op := Op.fieldAddr 27 (Operand.tmp 7) 0, type := 0, pos := "heap.go:153", after := #[], guard := none }) (v := .pointer (some ⟨w.heap.size + 1 + 1, 0, none⟩)) rfl (by kernel_rfl) (by kernel_rfl) (by kernel_rfl) (fun _ _ _ h => h) (Or.inl ⟨by rfl, ?_⟩) (by trivial) ?_
        · intro w hSw; (try dsimp only at hSw); go_simp
        try simp only [Act.put, List.setIfInBounds_toArray, List.set_cons_zero, List.set_cons_succ]
        refine wpAnyH_take (i := 2) (oi := { dst := some 30, op := Op.move (Operand.tmp 9), type := 70, pos := "heap.go:153", after := #[], guard := none }) (v := .slice ma mn mc) rfl (by kernel_rfl) (by kernel_rfl) (by kernel_rfl) (fun _ _ _ h => h) (Or.inl ⟨by rfl, ?_⟩) (by trivial) ?_
        · intro w hSw; (try dsimp only at hSw); go_simp
        try simp only [Act.put, List.setIfInBounds_toArray, List.set_cons_zero, List.set_cons_succ]
        refine wpAnyH_ready (rs := [1, 3]) (by kernel_rfl) (by simp) ?_
        refine AllReadyH.cons (o := { dst := some 29, op := Op.load 25 (Operand.tmp 28), type := 25, pos := "heap.go:153", after := #[{ on := 0, ground := Ground.data }], guard := none }) rfl (fun K hK => ?_) ?_
        · go_simp
          refine hK.out _ _ trivial (fun hHeldN => ?_)
          clear hK K
          try simp only [Act.put, List.setIfInBounds_toArray, List.set_cons_zero, List.set_cons_succ]
          refine wpAnyH_ready (rs := [3]) (by kernel_rfl) (by simp) ?_
          refine AllReadyH.cons (o := { dst := some 31, op := Op.call { callee := Callee.value (Operand.func 62), args := #[Operand.tmp 30], argTypes := #[70] }, type := 70, pos := "heap.go:153", after := #[{ on := 2, ground := Ground.data }], guard := none }) rfl (fun K hK => ?_) AllReadyH.nil
          go_wp2_with (go_at_call 62; (refine (C62.out).mono ?_; rintro e w9 ⟨xa, xn, xc, qs, rfl, hB9, hxc, hx, hqs⟩))
          have hB9' : Below wr.heap.size wr w9 := ((Below.refl _ wr).drew).trans hB9
          have hB9a : ∀ o, Below wr.heap.size wr (w9.alloc o) := fun o => hB9'.alloc hB9'.size o
          have z9 := cellOf ((hB9'.block (w.heap.size + 1 + 1) (by have := HC.out.sz; omega)).trans HC.out.b2) 0
          have z9' := fun o => cellOf (((hB9a o).block (w.heap.size + 1 + 1) (by have := HC.out.sz; omega)).trans HC.out.b2) 0
          simp only [List.getElem?_toArray, List.getElem?_cons_zero, List.getElem?_cons_succ] at z9 z9'
          have HX := hid hx
          have HXC := hid hxc
          have HQ := hid (He.out.trans (congrArg some (show _ = rowC k qs from hqs.symm)))
          clear hx hxc hqs hB9
          refine hK.out _ _ trivial (fun hHeldN => ?_)
          clear hK K
          try simp only [Act.put, List.setIfInBounds_toArray, List.set_cons_zero, List.set_cons_succ]
          refine wpAnyH_ready (rs := [4]) (by kernel_rfl) (by simp) ?_
          refine AllReadyH.cons (o := { dst := some 32, op := Op.buildSlice 25 1 #[(0, Operand.tmp 31)], type := 25, pos := "heap.go:153", after := #[{ on := 3, ground := Ground.data }], guard := none }) rfl (fun K hK => ?_) AllReadyH.nil
          go_simp
          refine hK.out _ _ trivial (fun hHeldN => ?_)
          clear hK K
          try simp only [Act.put, List.setIfInBounds_toArray, List.set_cons_zero, List.set_cons_succ]
          refine wpAnyH_ready (rs := [5]) (by kernel_rfl) (by simp) ?_
          refine AllReadyH.cons (o := { dst := some 33, op := Op.call { callee := Callee.builtin Builtin.append, args := #[Operand.tmp 29, Operand.tmp 32], argTypes := #[25, 25] }, type := 25, pos := "heap.go:153", after := #[{ on := 1, ground := Ground.data }, { on := 4, ground := Ground.data }, { on := 3, ground := Ground.chain }], guard := none }) rfl (fun K hK => ?_) AllReadyH.nil
          refine step_appM rfl (.tmp 29) (.tmp 32) rfl (.slice fa fn fc) w9.heap.size ⟨xa, xn, xc⟩ rfl rfl (w.heap.size + 3) (ns.map (·.1)) (HC.out.row.below (Nat.le_refl _) (hB9a _)) (heap_alloc_new w9 (.cells #[.slice xa xn xc] 70)) (Nat.le_trans HC.out.sz (hB9a _).size) Hlv.out ?_
          intro v10 w10 hr10 hg10
          obtain ⟨f2, c2, e10, hc2⟩ := hr10.form
          obtain ⟨n2, hn2⟩ : ∃ n2, n2 = (ns.map (·.1) ++ [(⟨xa, xn, xc⟩ : Sl)]).length := ⟨_, rfl⟩
          rw [← hn2] at e10
          subst e10
          have hv10 := HC.out.grown hB9' hg10
          have HCM := hid (HC.out.more hB9' HX.out HXC.out HQ.out hr10 hg10)
          have z10 := cellOf hv10 0
          have f10 := freeOf hv10 0
          simp only [List.getElem?_toArray, List.getElem?_cons_zero, List.getElem?_cons_succ] at z10
          clear hc2 hn2 hg10 hr10 hv10 z9 z9' hB9a hB9'
          refine hK.out _ _ trivial (fun hHeldN => ?_)
          clear hK K
          try simp only [Act.put, List.setIfInBounds_toArray, List.set_cons_zero, List.set_cons_succ]
          refine wpAnyH_take (i := 6) (oi := { dst := some 34, op := Op.fieldAddr 27 (Operand.tmp 7) 0, type := 0, pos := "heap.go:153", after := #[{ on := 0, ground := Ground.phase }, { on := 1, ground := Ground.phase }, { on := 2, ground := Ground.phase }, { on := 3, ground := Ground.phase }, { on := 4, ground := Ground.phase }, { on := 5, ground := Ground.phase }], guard := none }) (v := .pointer (some ⟨w.heap.size + 1 + 1, 0, none⟩)) rfl (by kernel_rfl) (by kernel_rfl) (by kernel_rfl) (fun _ _ _ h => h) (Or.inl ⟨by rfl, ?_⟩) (by trivial) ?_
          · intro w hSw; (try dsimp only at hSw); go_simp
          try simp only [Act.put, List.setIfInBounds_toArray, List.set_cons_zero, List.set_cons_succ]
          refine wpAnyH_ready (rs := [7]) (by kernel_rfl) (by simp) ?_
          refine AllReadyH.cons (o := { dst := none, op := Op.store 25 (Operand.tmp 34) (Operand.tmp 33), type := 0, pos := "heap.go:153", after := #[{ on := 6, ground := Ground.data }, { on := 5, ground := Ground.data }, { on := 5, ground := Ground.chain }, { on := 0, ground := Ground.phase }, { on := 1, ground := Ground.phase }, { on := 2, ground := Ground.phase }, { on := 3, ground := Ground.phase }, { on := 4, ground := Ground.phase }, { on := 5, ground := Ground.phase }], guard := none }) rfl (fun K hK => ?_) AllReadyH.nil
          go_simp
          refine hK.out _ _ trivial (fun hHeldN => ?_)
          clear hK K
          try simp only [Act.put, List.setIfInBounds_toArray, List.set_cons_zero, List.set_cons_succ]
          refine wpAnyH_done (by kernel_rfl) ?_ _
          go_wp2
          go_roundg gi
          case measure => omega
          case rel => exact ⟨i + 1, by have := Hi.out; omega, by go_num, f2, n2, c2, _, HCM.out⟩
        refine AllReadyH.cons (o := { dst := some 31, op := Op.call { callee := Callee.value (Operand.func 62), args := #[Operand.tmp 30], argTypes := #[70] }, type := 70, pos := "heap.go:153", after := #[{ on := 2, ground := Ground.data }], guard := none }) rfl (fun K hK => ?_) AllReadyH.nil
        go_wp2_with (go_at_call 62; (refine (C62.out).mono ?_; rintro e w9 ⟨xa, xn, xc, qs, rfl, hB9, hxc, hx, hqs⟩))
        have hB9' : Below wr.heap.size wr w9 := ((Below.refl _ wr).drew).trans hB9
        have hB9a : ∀ o, Below wr.heap.size wr (w9.alloc o) := fun o => hB9'.alloc hB9'.size o
        have z9 := cellOf ((hB9'.block (w.heap.size + 1 + 1) (by have := HC.out.sz; omega)).trans HC.out.b2) 0
        have z9' := fun o => cellOf (((hB9a o).block (w.heap.size + 1 + 1) (by have := HC.out.sz; omega)).trans HC.out.b2) 0
        simp only [List.getElem?_toArray, List.getElem?_cons_zero, List.getElem?_cons_succ] at z9 z9'
        have HX := hid hx
        have HXC := hid hxc
        have HQ := hid (He.out.trans (congrArg some (show _ = rowC k qs from hqs.symm)))
        clear hx hxc hqs hB9
        refine hK.out _ _ trivial (fun hHeldN => ?_)
        clear hK K
        try simp only [Act.put, List.setIfInBounds_toArray, List.set_cons_zero, List.set_cons_succ]
        refine wpAnyH_ready (rs := [1, 4]) (by kernel_rfl) (by simp) ?_
        refine AllReadyH.cons (o := { dst := some 29, op := Op.load 25 (Operand.tmp 28), type := 25, pos := "heap.go:153", after := #[{ on := 0, ground := Ground.data }], guard := none }) rfl (fun K hK => ?_) ?_
        · go_simp
          refine hK.out _ _ trivial (fun hHeldN => ?_)
          clear hK K
          try simp only [Act.put, List.setIfInBounds_toArray, List.set_cons_zero, List.set_cons_succ]
          refine wpAnyH_ready (rs := [4]) (by kernel_rfl) (by simp) ?_
          refine AllReadyH.cons (o := { dst := some 32, op := Op.buildSlice 25 1 #[(0, Operand.tmp 31)], type := 25, pos := "heap.go:153", after := #[{ on := 3, ground := Ground.data }], guard := none }) rfl (fun K hK => ?_) AllReadyH.nil
          go_simp
          refine hK.out _ _ trivial (fun hHeldN => ?_)
          clear hK K
          try simp only [Act.put, List.setIfInBounds_toArray, List.set_cons_zero, List.set_cons_succ]
          refine wpAnyH_ready (rs := [5]) (by kernel_rfl) (by simp) ?_
          refine AllReadyH.cons (o := { dst := some 33, op := Op.call { callee := Callee.builtin Builtin.append, args := #[Operand.tmp 29, Operand.tmp 32], argTypes := #[25, 25] }, type := 25, pos := "heap.go:153", after := #[{ on := 1, ground := Ground.data }, { on := 4, ground := Ground.data }, { on := 3, ground := Ground.chain }], guard := none }) rfl (fun K hK => ?_) AllReadyH.nil
          refine step_appM rfl (.tmp 29) (.tmp 32) rfl (.slice fa fn fc) w9.heap.size ⟨xa, xn, xc⟩ rfl rfl (w.heap.size + 3) (ns.map (·.1)) (HC.out.row.below (Nat.le_refl _) (hB9a _)) (heap_alloc_new w9 (.cells #[.slice xa xn xc] 70)) (Nat.le_trans HC.out.sz (hB9a _).size) Hlv.out ?_
          intro v10 w10 hr10 hg10
          obtain ⟨f2, c2, e10, hc2⟩ := hr10.form
          obtain ⟨n2, hn2⟩ : ∃ n2, n2 = (ns.map (·.1) ++ [(⟨xa, xn, xc⟩ : Sl)]).length := ⟨_, rfl⟩
          rw [← hn2] at e10
          subst e10
          have hv10 := HC.out.grown hB9' hg10
          have HCM := hid (HC.out.more hB9' HX.out HXC.out HQ.out hr10 hg10)
          have z10 := cellOf hv10 0
          have f10 := freeOf hv10 0
          simp only [List.getElem?_toArray, List.getElem?_cons_zero, List.getElem?_cons_succ] at z10
          clear hc2 hn2 hg10 hr10 hv10 z9 z9' hB9a hB9'
          refine hK.out _ _ trivial (fun hHeldN => ?_)
          clear hK K
          try simp only [Act.put, List.setIfInBounds_toArray, List.set_cons_zero, List.set_cons_succ]
          refine wpAnyH_take (i := 6) (oi := { dst := some 34, op := Op.fieldAddr 27 (Operand.tmp 7) 0, type := 0, pos := "heap.go:153", after := #[{ on := 0, ground := Ground.phase }, { on := 1, ground := Ground.phase }, { on := 2, ground := Ground.phase }, { on := 3, ground := Ground.phase }, { on := 4, ground := Ground.phase }, { on := 5, ground := Ground.phase }], guard := none }) (v := .pointer (some ⟨w.heap.size + 1 + 1, 0, none⟩)) rfl (by kernel_rfl) (by kernel_rfl) (by kernel_rfl) (fun _ _ _ h => h) (Or.inl ⟨by rfl, ?_⟩) (by trivial) ?_
          · intro w hSw; (try dsimp only at hSw); go_simp
          try simp only [Act.put, List.setIfInBounds_toArray, List.set_cons_zero, List.set_cons_succ]
          refine wpAnyH_ready (rs := [7]) (by kernel_rfl) (by simp) ?_
          refine AllReadyH.cons (o := { dst := none, op := Op.store 25 (Operand.tmp 34) (Operand.tmp 33), type := 0, pos := "heap.go:153", after := #[{ on := 6, ground := Ground.data }, { on := 5, ground := Ground.data }, { on := 5, ground := Ground.chain }, { on := 0, ground := Ground.phase }, { on := 1, ground := Ground.phase }, { on := 2, ground := Ground.phase }, { on := 3, ground := Ground.phase }, { on := 4, ground := Ground.phase }, { on := 5, ground := Ground.phase }], guard := none }) rfl (fun K hK => ?_) AllReadyH.nil
          go_simp
          refine hK.out _ _ trivial (fun hHeldN => ?_)
          clear hK K
          try simp only [Act.put, List.setIfInBounds_toArray, List.set_cons_zero, List.set_cons_succ]
          refine wpAnyH_done (by kernel_rfl) ?_ _
          go_wp2
          go_roundg gi
          case measure => omega
          case rel => exact ⟨i + 1, by have := Hi.out; omega, by go_num, f2, n2, c2, _, HCM.out⟩
        refine AllReadyH.cons (o := { dst := some 32, op := Op.buildSlice 25 1 #[(0, Operand.tmp 31)], type := 25, pos := "heap.go:153", after := #[{ on := 3, ground := Ground.data }], guard := none }) rfl (fun K hK => ?_) AllReadyH.nil
        go_simp
        refine hK.out _ _ trivial (fun hHeldN => ?_)
        clear hK K
        try simp only [Act.put, List.setIfInBounds_toArray, List.set_cons_zero, List.set_cons_succ]
        refine wpAnyH_ready (rs := [1]) (by kernel_rfl) (by simp) ?_
        refine AllReadyH.cons (o := { dst := some 29, op := Op.load 25 (Operand.tmp 28), type := 25, pos := "heap.go:153", after := #[{ on := 0, ground := Ground.data }], guard := none }) rfl (fun K hK => ?_) AllReadyH.nil
        go_simp
        refine hK.out _ _ trivial (fun hHeldN => ?_)
        clear hK K
        try simp only [Act.put, List.setIfInBounds_toArray, List.set_cons_zero, List.set_cons_succ]
        refine wpAnyH_ready (rs := [5]) (by kernel_rfl) (by simp) ?_
        refine AllReadyH.cons (o := { dst := some 33, op := Op.call { callee := Callee.builtin Builtin.append, args := #[Operand.tmp 29, Operand.tmp 32], argTypes := #[25, 25] }, type := 25, pos := "heap.go:153", after := #[{ on := 1, ground := Ground.data }, { on := 4, ground := Ground.data }, { on := 3, ground := Ground.chain }], guard := none }) rfl (fun K hK => ?_) AllReadyH.nil
        refine step_appM rfl (.tmp 29) (.tmp 32) rfl (.slice fa fn fc) w9.heap.size ⟨xa, xn, xc⟩ rfl rfl (w.heap.size + 3) (ns.map (·.1)) (HC.out.row.below (Nat.le_refl _) (hB9a _)) (heap_alloc_new w9 (.cells #[.slice xa xn xc] 70)) (Nat.le_trans HC.out.sz (hB9a _).size) Hlv.out ?_
        intro v10 w10 hr10 hg10
        obtain ⟨f2, c2, e10, hc2⟩ := hr10.form
        obtain ⟨n2, hn2⟩ : ∃ n2, n2 = (ns.map (·.1) ++ [(⟨xa, xn, xc⟩ : Sl)]).length := ⟨_, rfl⟩
        rw [← hn2] at e10
        subst e10
        have hv10 := HC.out.grown hB9' hg10
        have HCM := hid (HC.out.more hB9' HX.out HXC.out HQ.out hr10 hg10)
        have z10 := cellOf hv10 0
        have f10 := freeOf hv10 0
        simp only [List.getElem?_toArray, List.getElem?_cons_zero, List.getElem?_cons_succ] at z10
        clear hc2 hn2 hg10 hr10 hv10 z9 z9' hB9a hB9'
        refine hK.out _ _ trivial (fun hHeldN => ?_)
        clear hK K
        try simp only [Act.put, List.setIfInBounds_toArray, List.set_cons_zero, List.set_cons_succ]
        refine wpAnyH_take (i := 6) (oi := { dst := some 34, op := Op.fieldAddr 27 (Operand.tmp 7) 0, type := 0, pos := "heap.go:153", after := #[{ on := 0, ground := Ground.phase }, { on := 1, ground := Ground.phase }, { on := 2, ground := Ground.phase }, { on := 3, ground := Ground.phase }, { on := 4, ground := Ground.phase }, { on := 5, ground := Ground.phase }], guard := none }) (v := .pointer (some ⟨w.heap.size + 1 + 1, 0, none⟩)) rfl (by kernel_rfl) (by kernel_rfl) (by kernel_rfl) (fun _ _ _ h => h) (Or.inl ⟨by rfl, ?_⟩) (by trivial) ?_
        · intro w hSw; (try dsimp only at hSw); go_simp
        try simp only [Act.put, List.setIfInBounds_toArray, List.set_cons_zero, List.set_cons_succ]
        refine wpAnyH_ready (rs := [7]) (by kernel_rfl) (by simp) ?_
        refine AllReadyH.cons (o := { dst := none, op := Op.store 25 (Operand.tmp 34) (Operand.tmp 33), type := 0, pos := "heap.go:153", after := #[{ on := 6, ground := Ground.data }, { on := 5, ground := Ground.data }, { on := 5, ground := Ground.chain }, { on := 0, ground := Ground.phase }, { on := 1, ground := Ground.phase }, { on := 2, ground := Ground.phase }, { on := 3, ground := Ground.phase }, { on := 4, ground := Ground.phase }, { on := 5, ground := Ground.phase }], guard := none }) rfl (fun K hK => ?_) AllReadyH.nil
        go_simp
        refine hK.out _ _ trivial (fun hHeldN => ?_)
        clear hK K
        try simp only [Act.put, List.setIfInBounds_toArray, List.set_cons_zero, List.set_cons_succ]
        refine wpAnyH_done (by kernel_rfl) ?_ _
        go_wp2
        go_roundg gi
        case measure => omega
        case rel => exact ⟨i + 1, by have := Hi.out; omega, by go_num, f2, n2, c2, _, HCM.out⟩
end Go.Proofs.Ytenfgahedbeekaa

namespace Go.Proofs.Ytenfgahedbeekaa
open Go.RowKit Go.Deep Go.Shelf
set_option linter.unusedVariables false
set_option linter.unusedSimpArgs false

/- A value told, or none. -/
def MbP (k : Nat) (w : World) (c : Option (CT k)) (e : Ending) (w' : World) : Prop := Below w.heap.size w w' ∧ match c with
  | none => e = .returned (.tuple #[.agg #[.int .i64 0, .int .i64 0, .string ⟨#[]⟩, .int .i64 0, .slice none 0 0], .bool false])
  | some c => ∃ t : VT k, e = .returned (.tuple #[(hdT k t).v, .bool true]) ∧ RdP k w' (fun b => w.heap.size ≤ b ∧ b < w'.heap.size) t ∧ ofT k t = c
def rowAt {k : Nat} (ms : List (Sl × Rw k)) (m : Int) : Rw k := if 0 ≤ m then ((ms[m.toNat]?).map (·.2)).getD [] else []
theorem rowAt_no {k : Nat} {ms : List (Sl × Rw k)} {n : Nat} {m : Int} (hn : n = ms.length) (h : hasB n m = false) : rowAt ms m = [] := by
  unfold rowAt
  split
  · rename_i h0
    have : ¬ m < (n : Int) := by intro h1; simp [hasB, h0, h1] at h
    rw [List.getElem?_eq_none (by omega)]; rfl
  · rfl
theorem rowAt_yes {k : Nat} {ms : List (Sl × Rw k)} {i : Nat} {p : Sl × Rw k} (h : ms[i]? = some p) : rowAt ms (i : Int) = p.2 := by
  unfold rowAt
  rw [if_pos (by omega), Int.toNat_natCast, h]; rfl
set_option maxRecDepth 100000 in
set_option maxHeartbeats 2000000 in
theorem first_any (k : Nat) (w : World) (sa : Option Addr) (sn sc : Nat) (ms : List (Sl × Rw k)) (hd : StR k w sa sn ms) (m : Int) :
    Calls Try.prog 21 #[.agg #[.slice sa sn sc], .int .i64 m] w (MbP k w ((rowAt ms m).head?.map fun p => ofT k p.1)) := by
  have D := hid hd
  have Hn := hid hd.n1
  have hle := hd.n2
  have hle2 : (sn : Int) ≤ 1000 := by omega
  clear hd
  have K39 := hid (fun w1 => hasMap_any w1 sa sn sc m (by omega))
  obtain ⟨W0, hW0⟩ : ∃ W0, W0 = (w.alloc (.cells #[.slice sa sn sc] 27)).alloc (.cells #[.int .i64 0, .int .i64 0, .string ⟨#[]⟩, .int .i64 0, .slice none 0 0] 31) := ⟨_, rfl⟩
  have b0 : W0.heap[w.heap.size]? = some (.cells #[.slice sa sn sc] 27 (0, 0)) := by rw [hW0]; exact (Below.heap_alloc _ _ _ (by simp)).trans (heap_alloc_new w _)
  have b1 : W0.heap[w.heap.size + 1]? = some (.cells #[.int .i64 0, .int .i64 0, .string ⟨#[]⟩, .int .i64 0, .slice none 0 0] 31 (0, 0)) := by
    have := heap_alloc_new (w.alloc (.cells #[.slice sa sn sc] 27)) (.cells #[.int .i64 0, .int .i64 0, .string ⟨#[]⟩, .int .i64 0, .slice none 0 0] 31)
    rw [World.size_alloc] at this
    rw [hW0]; exact this
  have hb0 : Below w.heap.size w W0 := by rw [hW0]; exact ((Below.refl _ w).alloc (Nat.le_refl _) _).alloc (by simp) _
  have FX : Hid (∀ w2 : World, Below W0.heap.size W0 w2 → w2.cell? ⟨w.heap.size, 0, none⟩ = some (.slice sa sn sc) ∧ w2.heap[w.heap.size + 1]? = some (.cells #[.int .i64 0, .int .i64 0, .string ⟨#[]⟩, .int .i64 0, .slice none 0 0] 31 (0, 0)) ∧ Below w.heap.size w w2) := hid (fun w2 hb => ⟨cellOf ((hb.block _ (Array.getElem?_eq_some_iff.1 b0).1).trans b0) 0, (hb.block _ (Array.getElem?_eq_some_iff.1 b1).1).trans b1, hb0.trans (hb.mono hb0.size)⟩)
  have HS0 : Hid (w.heap.size ≤ W0.heap.size) := hid hb0.size
  clear b0 b1 hb0
  cases hh : hasB sn m with
  | false =>
    rw [rowAt_no Hn.out hh]
    simp only [hh] at K39
    go_enter Try.func21, Try.ntmps21
    go_wp2_with (go_at_call 39; (rw [← hW0]; refine (Hid.out K39 _).mono ?_; rintro e w1 ⟨rfl, hb1⟩; obtain ⟨g0, c2, bb⟩ := FX.out w1 hb1; have e0 := cellOf c2 0; have e1 := cellOf c2 1; have e2 := cellOf c2 2; have e3 := cellOf c2 3; have e4 := cellOf c2 4; have f0 := freeOf c2 0; have f1 := freeOf c2 1; have f2 := freeOf c2 2; have f3 := freeOf c2 3; have f4 := freeOf c2 4; simp only [List.getElem?_toArray, List.getElem?_cons_zero, List.getElem?_cons_succ] at e0 e1 e2 e3 e4; have HC2 := hid c2; clear c2))
    have h5 := five_new HC2.out ⟨0, 0, ⟨#[]⟩, 0, none, 0, 0⟩
    have hb5 : Below w.heap.size w (five w1 (w.heap.size + 1) 0 ⟨0, 0, ⟨#[]⟩, 0, none, 0, 0⟩) := five_below bb (by omega) _
    change bodyPost _ _ _ _ _ (five w1 (w.heap.size + 1) 0 ⟨0, 0, ⟨#[]⟩, 0, none, 0, 0⟩)
    have r0 := cellOf h5 0
    have r1 := cellOf h5 1
    have r2 := cellOf h5 2
    have r3 := cellOf h5 3
    have r4 := cellOf h5 4
    simp only [List.getElem?_toArray, List.getElem?_cons_zero, List.getElem?_cons_succ] at r0 r1 r2 r3 r4
    generalize five w1 (w.heap.size + 1) 0 ⟨0, 0, ⟨#[]⟩, 0, none, 0, 0⟩ = W5 at *
    refine bodyPost_ret (v := .tuple #[.agg #[.int .i64 0, .int .i64 0, .string ⟨#[]⟩, .int .i64 0, .slice none 0 0], .bool false]) (by simp [results, Try.results21, go_sem, r0, r1, r2, r3, r4]) rfl ⟨hb5, rfl⟩
  | true =>
    have hm : 0 ≤ m ∧ m < (sn : Int) := by simpa [hasB] using hh
    simp only [hh] at K39
    obtain ⟨i, rfl⟩ : ∃ i : Nat, m = (i : Int) := ⟨m.toNat, by omega⟩
    have hi0 := hm.1
    have hi1 := hm.2
    obtain ⟨p, hp⟩ : ∃ p, ms[i]? = some p := ⟨ms[i]'(by rw [← Hn.out]; omega), List.getElem?_eq_getElem _⟩
    rw [rowAt_yes hp]
    obtain ⟨b, off, ea, dc⟩ := D.out.rd i p.1 (by rw [List.getElem?_map, hp]; rfl)
    subst ea
    have hel := (D.out.el p (List.mem_of_getElem? hp)).1
    obtain ⟨⟨ma, mn, mc⟩, mr⟩ := p
    simp only [Sl.v] at dc
    simp only at hel ⊢
    have Hdc : Hid (∀ w2 : World, Below w.heap.size w w2 → w2.cell? ⟨b, off + i, none⟩ = some (.slice ma mn mc)) := hid (fun w2 hb => (hb.cell (p := ⟨b, off + i, none⟩) (World.block_lt_of_cell? w _ dc)).trans dc)
    have hmn := hel.n1
    have hmn2 := hel.n2
    have Hel := hid hel
    clear dc hp hel hh hm
    cases mr with
    | nil =>
      simp only [List.length_nil] at hmn
      subst hmn
      go_enter Try.func21, Try.ntmps21
      go_wp2_with (go_at_call 39; (rw [← hW0]; refine (Hid.out K39 _).mono ?_; rintro e w1 ⟨rfl, hb1⟩; obtain ⟨g0, c2, bb⟩ := FX.out w1 hb1; have d1 := Hdc.out w1 bb; have e0 := cellOf c2 0; have e1 := cellOf c2 1; have e2 := cellOf c2 2; have e3 := cellOf c2 3; have e4 := cellOf c2 4; have f0 := freeOf c2 0; have f1 := freeOf c2 1; have f2 := freeOf c2 2; have f3 := freeOf c2 3; have f4 := freeOf c2 4; simp only [List.getElem?_toArray, List.getElem?_cons_zero, List.getElem?_cons_succ] at e0 e1 e2 e3 e4; have HC2 := hid c2; clear c2))
      have h5 := five_new HC2.out ⟨0, 0, ⟨#[]⟩, 0, none, 0, 0⟩
      have hb5 : Below w.heap.size w (five w1 (w.heap.size + 1) 0 ⟨0, 0, ⟨#[]⟩, 0, none, 0, 0⟩) := five_below bb (by omega) _
      change bodyPost _ _ _ _ _ (five w1 (w.heap.size + 1) 0 ⟨0, 0, ⟨#[]⟩, 0, none, 0, 0⟩)
      have r0 := cellOf h5 0
      have r1 := cellOf h5 1
      have r2 := cellOf h5 2
      have r3 := cellOf h5 3
      have r4 := cellOf h5 4
      simp only [List.getElem?_toArray, List.getElem?_cons_zero, List.getElem?_cons_succ] at r0 r1 r2 r3 r4
      generalize five w1 (w.heap.size + 1) 0 ⟨0, 0, ⟨#[]⟩, 0, none, 0, 0⟩ = W5 at *
      refine bodyPost_ret (v := .tuple #[.agg #[.int .i64 0, .int .i64 0, .string ⟨#[]⟩, .int .i64 0, .slice none 0 0], .bool false]) (by simp [results, Try.results21, go_sem, r0, r1, r2, r3, r4]) rfl ⟨hb5, rfl⟩
    | cons p rest =>
      have hmn' : ¬ (mn : Int) = 0 := by simp at hmn; omega
      have hmb : ((mn : Int) == 0) = false := by simpa using hmn'
      have hm0 : (0 : Int) < (mn : Int) := by omega
      obtain ⟨eb, eo, ea, dh⟩ := Hel.out.rd 0 (enT k p) rfl
      subst ea
      have he1 := (Hel.out.el p (by simp)).1
      have hbl : eb < w.heap.size := World.block_lt_of_cell? w _ ((dh 0 (by omega)).trans (show (enT k p).cs[0]? = some (.int .i64 (hdT k p.1).kind) from rfl))
      have Hd5 : Hid (∀ w2 : World, Below w.heap.size w w2 → w2.cell? ⟨eb, eo, none⟩ = some (.int .i64 (hdT k p.1).kind) ∧ w2.cell? ⟨eb, eo + 1, none⟩ = some (.int .i64 (hdT k p.1).int) ∧ w2.cell? ⟨eb, eo + 2, none⟩ = some (.string (hdT k p.1).text) ∧ w2.cell? ⟨eb, eo + 3, none⟩ = some (.int .i64 (hdT k p.1).rc) ∧ w2.cell? ⟨eb, eo + 4, none⟩ = some (.slice (hdT k p.1).a (hdT k p.1).n (hdT k p.1).cap)) := hid (fun w2 hb => ⟨(hb.cell (p := ⟨eb, eo, none⟩) hbl).trans (dh 0 (by omega)), (hb.cell (p := ⟨eb, eo + 1, none⟩) hbl).trans (dh 1 (by omega)), (hb.cell (p := ⟨eb, eo + 2, none⟩) hbl).trans (dh 2 (by omega)), (hb.cell (p := ⟨eb, eo + 3, none⟩) hbl).trans (dh 3 (by omega)), (hb.cell (p := ⟨eb, eo + 4, none⟩) hbl).trans (dh 4 (by omega))⟩)
      have C46 := hid (fun (w1 : World) (hb : Below w.heap.size w w1) => copy_any k w1 p.1 (Rds.below k he1 (Nat.le_refl _) hb))
      generalize hdT k p.1 = hd0 at *
      obtain ⟨yk, yi, yt, yr, ya, yn, yc⟩ := hd0
      simp only [Hd.v] at C46 Hd5
      clear dh he1 hmn Hel
      go_enter Try.func21, Try.ntmps21
      go_wp2_with (first
        | (go_at_call 46; (refine (C46.out _ bb).mono ?_; rintro e w2 ⟨t, rfl, hb2, hrt, het⟩; simp only [Hd.v]; obtain ⟨_, c2, bb2⟩ := FX.out w2 (hb1.trans (hb2.mono hb1.size)); have e0 := cellOf c2 0; have e1 := cellOf c2 1; have e2 := cellOf c2 2; have e3 := cellOf c2 3; have e4 := cellOf c2 4; have f0 := freeOf c2 0; have f1 := freeOf c2 1; have f2 := freeOf c2 2; have f3 := freeOf c2 3; have f4 := freeOf c2 4; simp only [List.getElem?_toArray, List.getElem?_cons_zero, List.getElem?_cons_succ] at e0 e1 e2 e3 e4; have HC2 := hid c2; have Hrt := hid hrt; have Het := hid het; have Hb2 := hid hb2; clear c2 hrt het hb2))
        | (go_at_call 39; (rw [← hW0]; refine (Hid.out K39 _).mono ?_; rintro e w1 ⟨rfl, hb1⟩; obtain ⟨g0, cc, bb⟩ := FX.out w1 hb1; have d1 := Hdc.out w1 bb; obtain ⟨a0, a1, a2, a3, a4⟩ := Hd5.out w1 bb; have HW1 : Hid (w.heap.size + 1 < w1.heap.size) := hid (Array.getElem?_eq_some_iff.1 cc).1; clear cc)))
      have h5 := five_new HC2.out (hdT k t)
      have hb5 : Below w.heap.size w (five w2 (w.heap.size + 1) 0 (hdT k t)) := five_below bb2 (by omega) _
      have hkp : ∀ b, w1.heap.size ≤ b → (five w2 (w.heap.size + 1) 0 (hdT k t)).heap[b]? = w2.heap[b]? := fun b hb => five_heap _ _ _ _ (by have := HW1.out; omega)
      have hs5 : (five w2 (w.heap.size + 1) 0 (hdT k t)).heap.size = w2.heap.size := by simp [five, World.setCell]
      change bodyPost _ _ _ _ _ (five w2 (w.heap.size + 1) 0 (hdT k t))
      have r0 := cellOf h5 0
      have r1 := cellOf h5 1
      have r2 := cellOf h5 2
      have r3 := cellOf h5 3
      have r4 := cellOf h5 4
      simp only [List.getElem?_toArray, List.getElem?_cons_zero, List.getElem?_cons_succ] at r0 r1 r2 r3 r4
      generalize five w2 (w.heap.size + 1) 0 (hdT k t) = W5 at *
      refine bodyPost_ret (v := .tuple #[(hdT k t).v, .bool true]) (by simp [results, Try.results21, go_sem, r0, r1, r2, r3, r4, Hd.v]) rfl ⟨hb5, t, rfl, ?_, Het.out⟩
      exact (Hrt.out.keep k (fun b hb => hkp b hb.1)).imp k (fun b hb => ⟨by have := HW1.out; omega, by omega⟩)
end Go.Proofs.Ytenfgahedbeekaa

namespace Go.Proofs.Ytenfgahedbeekaa
open Go.RowKit Go.Deep Go.Shelf
set_option linter.unusedVariables false
set_option linter.unusedSimpArgs false

theorem boxes2 (w : World) (a b : Array Value) (s t : TypeId) : Below w.heap.size w ((w.alloc (.cells a s)).alloc (.cells b t)) := ((Below.refl _ w).alloc (Nat.le_refl _) _).alloc (by simp) _
set_option maxHeartbeats 400000 in
theorem same_any (k : Nat) (w : World) (s t : VT k) (hs : Rds k w s) (ht : Rds k w t) : Calls Try.prog 45 #[(hdT k s).v, (hdT k t).v] w fun e w' => e = .returned (.bool (cmpT k s t == 0)) ∧ Below w.heap.size w w' := by
  have K := hid (fun (w1 : World) (hb : Below w.heap.size w w1) => compare_any k w1 s t (Rds.below k hs (Nat.le_refl _) hb) (Rds.below k ht (Nat.le_refl _) hb))
  clear hs ht
  generalize cmpT k s t = c at *
  generalize hdT k s = h at *
  generalize hdT k t = g at *
  obtain ⟨k1, i1, t1, r1, a1, m1, c1⟩ := h
  obtain ⟨k2, i2, t2, r2, a2, m2, c2⟩ := g
  simp only [Hd.v] at K ⊢
  have hb := boxes2 w #[.int .i64 k1, .int .i64 i1, .string t1, .int .i64 r1, .slice a1 m1 c1] #[.int .i64 k2, .int .i64 i2, .string t2, .int .i64 r2, .slice a2 m2 c2] 31 31
  have HB := hid hb
  clear hb
  go_enter Try.func45, Try.ntmps45
  go_wp2_with (go_at_call 47; (refine (Hid.out K _ HB.out).mono ?_; rintro e w1 ⟨rfl, hb1⟩))
  go_ret
  exact ⟨rfl, HB.out.trans (hb1.mono HB.out.size)⟩
def entB (k : Nat) (p q : VT k × VT k) : Bool := cmpT k p.1 q.1 == 0 && cmpT k p.2 q.2 == 0
set_option maxRecDepth 100000 in
set_option maxHeartbeats 1000000 in
theorem sameEntry_any (k : Nat) (w : World) (p q : VT k × VT k) (p1 : Rds k w p.1) (p2 : Rds k w p.2) (q1 : Rds k w q.1) (q2 : Rds k w q.2) :
    Calls Try.prog 71 #[(enT k p).v, (enT k q).v] w fun e w' => e = .returned (.bool (entB k p q)) ∧ Below w.heap.size w w' := by
  have KA := hid (fun (w1 : World) (hb : Below w.heap.size w w1) => same_any k w1 p.1 q.1 (Rds.below k p1 (Nat.le_refl _) hb) (Rds.below k q1 (Nat.le_refl _) hb))
  have KB := hid (fun (w1 : World) (hb : Below w.heap.size w w1) => same_any k w1 p.2 q.2 (Rds.below k p2 (Nat.le_refl _) hb) (Rds.below k q2 (Nat.le_refl _) hb))
  clear p1 p2 q1 q2
  unfold entB
  obtain ⟨A, hA⟩ : ∃ A, A = (cmpT k p.1 q.1 == 0) := ⟨_, rfl⟩
  obtain ⟨B, hB⟩ : ∃ B, B = (cmpT k p.2 q.2 == 0) := ⟨_, rfl⟩
  rw [← hA, ← hB]
  rw [← hA] at KA
  rw [← hB] at KB
  clear hA hB
  unfold enT
  generalize hdT k p.1 = h1 at *
  generalize hdT k p.2 = h2 at *
  generalize hdT k q.1 = h3 at *
  generalize hdT k q.2 = h4 at *
  obtain ⟨yk, yi, yt, yr, ya, yn, yc⟩ := h1
  obtain ⟨zk, zi, zt, zr, za, zn, zc⟩ := h2
  obtain ⟨uk, ui, ut, ur, ua, un, uc⟩ := h3
  obtain ⟨vk, vi, vt, vr, va, vn, vc⟩ := h4
  simp only [Hd.v, En.v, En.cs] at KA KB ⊢
  obtain ⟨W0, hW0⟩ : ∃ W0, W0 = (w.alloc (.cells #[.int .i64 yk, .int .i64 yi, .string yt, .int .i64 yr, .slice ya yn yc, .int .i64 zk, .int .i64 zi, .string zt, .int .i64 zr, .slice za zn zc] 81)).alloc (.cells #[.int .i64 uk, .int .i64 ui, .string ut, .int .i64 ur, .slice ua un uc, .int .i64 vk, .int .i64 vi, .string vt, .int .i64 vr, .slice va vn vc] 81) := ⟨_, rfl⟩
  have b0 : W0.heap[w.heap.size]? = some (.cells #[.int .i64 yk, .int .i64 yi, .string yt, .int .i64 yr, .slice ya yn yc, .int .i64 zk, .int .i64 zi, .string zt, .int .i64 zr, .slice za zn zc] 81 (0, 0)) := by rw [hW0]; exact (Below.heap_alloc _ _ _ (by simp)).trans (heap_alloc_new w _)
  have b1 : W0.heap[w.heap.size + 1]? = some (.cells #[.int .i64 uk, .int .i64 ui, .string ut, .int .i64 ur, .slice ua un uc, .int .i64 vk, .int .i64 vi, .string vt, .int .i64 vr, .slice va vn vc] 81 (0, 0)) := by
    have := heap_alloc_new (w.alloc (.cells #[.int .i64 yk, .int .i64 yi, .string yt, .int .i64 yr, .slice ya yn yc, .int .i64 zk, .int .i64 zi, .string zt, .int .i64 zr, .slice za zn zc] 81)) (.cells #[.int .i64 uk, .int .i64 ui, .string ut, .int .i64 ur, .slice ua un uc, .int .i64 vk, .int .i64 vi, .string vt, .int .i64 vr, .slice va vn vc] 81)
    rw [World.size_alloc] at this
    rw [hW0]; exact this
  have hb0 : Below w.heap.size w W0 := by rw [hW0]; exact boxes2 _ _ _ _ _
  have FX : Hid (∀ w2 : World, Below W0.heap.size W0 w2 → (w2.cell? ⟨w.heap.size, 0, none⟩ = some (.int .i64 yk) ∧ w2.cell? ⟨w.heap.size, 1, none⟩ = some (.int .i64 yi) ∧ w2.cell? ⟨w.heap.size, 2, none⟩ = some (.string yt) ∧ w2.cell? ⟨w.heap.size, 3, none⟩ = some (.int .i64 yr) ∧ w2.cell? ⟨w.heap.size, 4, none⟩ = some (.slice ya yn yc) ∧ w2.cell? ⟨w.heap.size, 5, none⟩ = some (.int .i64 zk) ∧ w2.cell? ⟨w.heap.size, 6, none⟩ = some (.int .i64 zi) ∧ w2.cell? ⟨w.heap.size, 7, none⟩ = some (.string zt) ∧ w2.cell? ⟨w.heap.size, 8, none⟩ = some (.int .i64 zr) ∧ w2.cell? ⟨w.heap.size, 9, none⟩ = some (.slice za zn zc) ∧ w2.cell? ⟨w.heap.size + 1, 0, none⟩ = some (.int .i64 uk) ∧ w2.cell? ⟨w.heap.size + 1, 1, none⟩ = some (.int .i64 ui) ∧ w2.cell? ⟨w.heap.size + 1, 2, none⟩ = some (.string ut) ∧ w2.cell? ⟨w.heap.size + 1, 3, none⟩ = some (.int .i64 ur) ∧ w2.cell? ⟨w.heap.size + 1, 4, none⟩ = some (.slice ua un uc) ∧ w2.cell? ⟨w.heap.size + 1, 5, none⟩ = some (.int .i64 vk) ∧ w2.cell? ⟨w.heap.size + 1, 6, none⟩ = some (.int .i64 vi) ∧ w2.cell? ⟨w.heap.size + 1, 7, none⟩ = some (.string vt) ∧ w2.cell? ⟨w.heap.size + 1, 8, none⟩ = some (.int .i64 vr) ∧ w2.cell? ⟨w.heap.size + 1, 9, none⟩ = some (.slice va vn vc)) ∧ Below w.heap.size w w2) := hid (fun w2 hb => by
    have q0 := (hb.block _ (Array.getElem?_eq_some_iff.1 b0).1).trans b0
    have q1 := (hb.block _ (Array.getElem?_eq_some_iff.1 b1).1).trans b1
    exact ⟨⟨cellOf q0 0, cellOf q0 1, cellOf q0 2, cellOf q0 3, cellOf q0 4, cellOf q0 5, cellOf q0 6, cellOf q0 7, cellOf q0 8, cellOf q0 9, cellOf q1 0, cellOf q1 1, cellOf q1 2, cellOf q1 3, cellOf q1 4, cellOf q1 5, cellOf q1 6, cellOf q1 7, cellOf q1 8, cellOf q1 9⟩, hb0.trans (hb.mono hb0.size)⟩)
  obtain ⟨⟨n0, n1, n2, n3, n4, n5, n6, n7, n8, n9, n10, n11, n12, n13, n14, n15, n16, n17, n18, n19⟩, _⟩ := FX.out W0 (Below.refl _ _)
  have HB0 := hid hb0
  clear b0 b1 hb0
  cases A with
  | false =>
    go_enter Try.func71, Try.ntmps71
    go_wp2_with (go_at_call 45; (rw [← hW0]; refine (Hid.out KA _ HB0.out).mono ?_; rintro e w1 ⟨rfl, hb1⟩; obtain ⟨⟨k0, k1, k2, k3, k4, k5, k6, k7, k8, k9, k10, k11, k12, k13, k14, k15, k16, k17, k18, k19⟩, bb1⟩ := FX.out w1 hb1))
    go_ret
    exact ⟨rfl, bb1⟩
  | true =>
    go_enter Try.func71, Try.ntmps71
    go_wp2_with (first
      | (go_at_call 45; (have hno := bb1; refine (Hid.out KB _ bb1).mono ?_; rintro e w2 ⟨rfl, hb2⟩))
      | (go_at_call 45; (rw [← hW0]; refine (Hid.out KA _ HB0.out).mono ?_; rintro e w1 ⟨rfl, hb1⟩; obtain ⟨⟨k0, k1, k2, k3, k4, k5, k6, k7, k8, k9, k10, k11, k12, k13, k14, k15, k16, k17, k18, k19⟩, bb1⟩ := FX.out w1 hb1)))
    go_ret
    exact ⟨by simp, bb1.trans (hb2.mono bb1.size)⟩
end Go.Proofs.Ytenfgahedbeekaa

