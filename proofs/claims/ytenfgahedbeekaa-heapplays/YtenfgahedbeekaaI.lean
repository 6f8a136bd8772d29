/- A row of values: one appended, one written anew; what stays. -/
import Derived.Test.YtenfgahedbeekaaH
namespace Go.Proofs.Ytenfgahedbeekaa
open Go.RowKit Go.Deep Go.Shelf
set_option linter.unusedVariables false
set_option linter.unusedSimpArgs false

theorem five_heap (w : World) (b o : Nat) (h : Hd) {k : Nat} (hk : k ≠ b) : (five w b o h).heap[k]? = w.heap[k]? := by
  unfold Go.Proofs.Ytenfgahedbeekaa.five
  rw [Below.heap_setCell _ _ _ _ hk, Below.heap_setCell _ _ _ _ hk, Below.heap_setCell _ _ _ _ hk, Below.heap_setCell _ _ _ _ hk, Below.heap_setCell _ _ _ _ hk]
theorem VRow.five {w : World} {B : Nat} {v : Value} {hs : List Hd} {g : Nat} (h : VRow w B v hs) (hg : v.ownBlock = some g) {k : Nat} (hk : k < hs.length) (x : Hd) : VRow (five w g (k * 5) x) B v (hs.set k x) := by
  have h1 := h.1
  rcases h.2 with ⟨rfl, _⟩ | ⟨g', cap, cur, rfl, hb, hgg, hc, hm, hs', ht⟩
  · cases hg
  · cases hg
    have hS : SRow w g' hs := ⟨cur, hgg, fun j y e i hi => by
      have hj : j < hs.length := (List.getElem?_eq_some_iff.1 e).1
      rw [← vv_at hs j y e i hi, ← ht, List.getElem?_take, if_pos (by omega)]; simp⟩
    obtain ⟨cur', h2, h3⟩ := hS.five hk x
    have h4 := heap_set_at (heap_set_at (heap_set_at (heap_set_at (heap_set_at hgg (k * 5) (.int .i64 x.kind)) (k * 5 + 1) (.int .i64 x.int)) (k * 5 + 2) (.string x.text)) (k * 5 + 3) (.int .i64 x.rc)) (k * 5 + 4) (.slice x.a x.n x.cap)
    have h5 := h2
    unfold Go.Proofs.Ytenfgahedbeekaa.five at h5
    rw [h4] at h5
    have hsz : cur'.size = cur.size := by
      simp only [Option.some.injEq, Obj.cells.injEq] at h5
      rw [← h5.1]; simp
    refine ⟨by rw [vv_length], .inr ⟨g', cap, cur', by rw [List.length_set], hb, h2, by rw [List.length_set]; exact hc, hm, by rw [hsz]; exact hs', ?_⟩⟩
    rw [List.length_set]
    refine List.ext_getElem? fun j => ?_
    rw [List.getElem?_take]
    split
    · rename_i hj
      have hlt : j / 5 < (hs.set k x).length := by rw [List.length_set]; omega
      have e := h3 (j / 5) (hs.set k x)[j / 5] (by rw [List.getElem?_eq_getElem hlt]) (j % 5) (by omega)
      have e2 := vv_at (hs.set k x) (j / 5) (hs.set k x)[j / 5] (by rw [List.getElem?_eq_getElem hlt]) (j % 5) (by omega)
      rw [show j / 5 * 5 + j % 5 = j from by omega] at e e2
      rw [e2, ← e]; simp
    · rw [List.getElem?_eq_none (by rw [vv_length, List.length_set]; omega)]

theorem run_appV (w : World) (ty : TypeId) (B : Nat) (v : Value) (hs : List Hd) (h : Hd) (g : Nat) (hr : VRow w B v hs) (hg : w.heap[g]? = some (.cells h.cs.toArray 31 (0, 0))) (hB : B ≤ w.heap.size) (hl : hs.length ≤ 1000000) :
    ∃ v' w', (Builtin.append_ #[29, 29] ty #[v, .slice (some ⟨g, 0, none⟩) 1 1]).run Try.prog w = .ok v' w' ∧ VRow w' B v' (hs ++ [h]) ∧ Grw w v w' v' := by
  obtain ⟨i0, hi, hz0, hz1, hz2⟩ := info_parts info31
  obtain ⟨v', w', hrun, hown, hgr, _, hat⟩ := run_append_own_at (P := Try.prog) w B 29 ty 31 i0 zeroV 5 64 Try.underlying29 hi hz0 hz1 hz2 rfl (by decide) v hs.length (vv hs) hr ⟨g, 0, none⟩ 1 1 h.cs rfl (by
    intro j u hu
    exact World.news_of_block hg j u (by simpa using hu)) (cs_one h) (by unfold maxLen; omega) (by omega) hB
  refine ⟨v', w', hrun, ?_, hgr, ?_⟩
  · unfold VRow
    rw [vv_snoc, List.length_append]
    exact hown
  · rcases hat with hat | hat
    · exact .inl hat
    · exact .inr ⟨_, hat, Nat.le_refl _⟩

theorem step_appV {ops : Array Oper} {o : Oper} {a : Act} {w : World} {K : Act → World → Prop} {Q : Exit → Act → World → Prop} {E : Prop} (hgd : o.guard = none) (s x : Operand)
    (ho : o.op = .call { callee := .builtin .append, args := #[s, x], argTypes := #[29, 29] }) (v : Value) (g : Nat) (h : Hd) (hs : a.eval s = v) (hx : a.eval x = .slice (some ⟨g, 0, none⟩) 1 1)
    (B : Nat) (xs : List Hd) (hr : VRow w B v xs) (hg : w.heap[g]? = some (.cells h.cs.toArray 31 (0, 0))) (hB : B ≤ w.heap.size) (hl : xs.length ≤ 1000000)
    (k : ∀ v' w', VRow w' B v' (xs ++ [h]) → Grw w v w' v' → K (a.put o.dst v') w') :
    if Region.wanted o (yielded ops a.tmps) = true then Oper.wp Try.prog o a w K Q else E := by
  have hw : Region.wanted o (yielded ops a.tmps) = true := by simp [Region.wanted, hgd]
  rw [if_pos hw]
  obtain ⟨v', w', hr, h2, h3⟩ := run_appV w o.type B v xs h g hr hg hB hl
  unfold Oper.wp execOp
  simp only [ho, resolve, invoke, builtin, Sem.run_bind, Sem.run_pure, Result.andThen_ok, List.map_toArray, List.map_cons, List.map_nil, hs, hx, hr]
  exact k v' w' h2 h3

/- What stays: all but one block and a row. -/
structure Okp (Z : Nat) (v : Value) (W W' : World) : Prop where
  os : W'.os = W.os
  tape : W'.tape = W.tape
  output : W'.output = W.output
  size : W.heap.size ≤ W'.heap.size
  block : ∀ j, j < W.heap.size → j ≠ Z → v.ownBlock ≠ some j → W'.heap[j]? = W.heap[j]?
theorem Okp.of_below {Z : Nat} {v : Value} {W W' : World} (h : Below W.heap.size W W') : Okp Z v W W' := ⟨h.os, h.tape, h.output, h.size, fun j hj _ _ => h.block j hj⟩
theorem Okp.grw {Z : Nat} {v v' : Value} {W w w' : World} (h : Okp Z v W w) (k : Grw w v w' v') : Okp Z v W w' :=
  ⟨k.1.os.trans h.os, k.1.tape.trans h.tape, k.1.output.trans h.output, Nat.le_trans h.size k.1.size, fun j h1 h2 h3 => (k.1.block j (Nat.lt_of_lt_of_le h1 h.size) (fun e => h3 e.symm)).trans (h.block j h1 h2 h3)⟩
theorem Okp.set {Z : Nat} {v : Value} {W w : World} (h : Okp Z v W w) (i : Nat) (u : Value) : Okp Z v W (w.setCell ⟨Z, i, none⟩ u) :=
  ⟨h.os, h.tape, h.output, by simpa [World.setCell] using h.size, fun j h1 h2 h3 => (Below.heap_setCell _ _ _ _ h2).trans (h.block j h1 h2 h3)⟩
theorem Okp.five {Z : Nat} {v : Value} {W w : World} (h : Okp Z v W w) (r o : Nat) (hr : v.ownBlock = some r ∨ W.heap.size ≤ r) (x : Hd) : Okp Z v W (five w r o x) :=
  have k := five_below (B := 0) (Below.refl 0 w) (b := r) (o := o) (Nat.zero_le _) x
  ⟨k.os.trans h.os, k.tape.trans h.tape, k.output.trans h.output, Nat.le_trans h.size k.size, fun j h1 h2 h3 => (five_heap _ _ _ _ (fun e => by subst e; rcases hr with hr | hr; exact h3 hr; omega)).trans (h.block j h1 h2 h3)⟩
end Go.Proofs.Ytenfgahedbeekaa
