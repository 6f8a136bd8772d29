/- Rows of entries: a head cut off and grown, a tail put behind. -/
import Derived.Test.YtenfgahedbeekaaY
import Derived.ArgAppend
namespace Go.Proofs.Ytenfgahedbeekaa
open Go.RowKit Go.Deep Go.Shelf
set_option linter.unusedVariables false
set_option linter.unusedSimpArgs false

theorem ee_get (es : List En) (j : Nat) (u : Value) (h : (ee es)[j]? = some u) : ∃ x, es[j / 10]? = some x ∧ x.cs[j % 10]? = some u := by
  have hl : j < (ee es).length := (List.getElem?_eq_some_iff.1 h).1
  rw [ee_length] at hl
  have hq : j / 10 < es.length := by omega
  refine ⟨es[j / 10], List.getElem?_eq_getElem hq, ?_⟩
  have := ee_at es (j / 10) es[j / 10] (List.getElem?_eq_getElem hq) (j % 10) (by omega)
  rw [← this, show j / 10 * 10 + j % 10 = j from by omega]
  exact h
theorem ERd.cells_at {w : World} {ad : Addr} {es : List En} (h : ERd w (some ad) es) (d : Nat) : ∀ j u, (ee (es.drop d))[j]? = some u → w.cell? ((ad.add (d * 10)).add j) = some u := by
  intro j u hu
  obtain ⟨x, hx, hc⟩ := ee_get _ j u hu
  rw [List.getElem?_drop] at hx
  obtain ⟨b, off, e, hh⟩ := h _ x hx
  cases e
  rw [Addr.add_lit, Addr.add_lit]
  rw [← hc, ← hh (j % 10) (by omega)]
  congr 2
  omega
theorem ERd.cells_0 {w : World} {ad : Addr} {es : List En} (h : ERd w (some ad) es) : ∀ j u, (ee es)[j]? = some u → w.cell? (ad.add j) = some u := by
  intro j u hu
  obtain ⟨x, hx, hc⟩ := ee_get _ j u hu
  obtain ⟨b, off, e, hh⟩ := h _ x hx
  cases e
  rw [Addr.add_lit]
  rw [← hc, ← hh (j % 10) (by omega)]
  congr 2
  omega
theorem ee_one (es : List En) : ∀ u ∈ ee es, u.oneCell' = true := by
  intro u hu
  simp only [ee, List.mem_flatMap] at hu
  obtain ⟨x, _, hx⟩ := hu
  exact ecs_one x u hx
theorem ee_append (a b : List En) : ee (a ++ b) = ee a ++ ee b := by simp [ee]
theorem ERd.take {w : World} {a : Option Addr} {es : List En} (h : ERd w a es) (n : Nat) : ERd w a (es.take n) := by
  intro j x hx
  rw [List.getElem?_take] at hx
  split at hx
  · exact h j x hx
  · cases hx
/- A head that has no room, and one more: a new row. -/
theorem run_appT (w : World) (ty : TypeId) (ta : Option Addr) (n : Nat) (es : List En) (hn : n = es.length) (hle : n ≤ 1000) (hrd : ERd w ta es) (h : En) (g : Nat) (hg : w.heap[g]? = some (.cells h.cs.toArray 81 (0, 0))) :
    ∃ v' w', (Builtin.append_ #[70, 70] ty #[.slice ta n n, .slice (some ⟨g, 0, none⟩) 1 1]).run Try.prog w = .ok v' w' ∧ ERow w' w.heap.size v' (es ++ [h]) ∧ w.grownBy w' none := by
  cases ta with
  | none =>
    have hes : es = [] := by
      cases es with
      | nil => rfl
      | cons x r => obtain ⟨b, off, e, _⟩ := hrd 0 x rfl; cases e
    subst hes
    subst hn
    obtain ⟨v', w', hrun, h1, h2⟩ := run_appE w ty w.heap.size (.slice none 0 0) [] h g (ERow.nil _ _) hg (Nat.le_refl _) (by simp)
    exact ⟨v', w', hrun, h1, h2.1⟩
  | some ad =>
    obtain ⟨i0, hi, hz0, hz1, hz2⟩ := info_parts info81
    obtain ⟨v', w', hrun, hown, hgr⟩ := run_append_arg_grows (P := Try.prog) w 70 ty 81 i0 zeroE 10 128 Try.underlying70 hi hz0 hz1 hz2 rfl (by decide) ad n n (ee es) (by rw [ee_length, hn]) hrd.cells_0 ⟨g, 0, none⟩ 1 1 h.cs rfl (by
      intro j u hu
      exact World.news_of_block hg j u (by simpa using hu)) (by omega) (by unfold maxLen; omega) (by omega)
    refine ⟨v', w', hrun, ?_, hgr⟩
    unfold ERow
    rw [ee_append, List.length_append, ← hn]
    simpa [ee] using hown
theorem run_app_none (w : World) (ty : TypeId) (B : Nat) (v : Value) (es : List En) (hr : ERow w B v es) (c : Nat) : (Builtin.append_ #[70, 70] ty #[v, .slice none 0 c]).run Try.prog w = .ok v w := by
  obtain ⟨i0, hi, hz0, hz1, hz2⟩ := info_parts info81
  rcases hr.2 with ⟨rfl, _⟩ | ⟨g, cap, cur, rfl, _, _, hnc, _⟩
  · simp [Builtin.append_, run_underlying Try.underlying70, sizeOf, typeInfo, hi, Builtin.lenOf, Builtin.firstCells]
  · simp [Builtin.append_, run_underlying Try.underlying70, sizeOf, typeInfo, hi, Builtin.lenOf, Builtin.firstCells, hnc, storeCells]
theorem run_appX (w : World) (ty : TypeId) (B : Nat) (v : Value) (es : List En) (hr : ERow w B v es) (hB : B ≤ w.heap.size) (ma : Option Addr) (mn mc d : Nat) (ps : List En) (hn : mn = ps.length) (hle : mn ≤ 1000) (hd : d ≤ mn) (hc : mn ≤ mc) (hrd : ERd w ma ps) (hl : es.length ≤ 1000000) :
    ∃ v' w', (Builtin.append_ #[70, 70] ty #[v, sliced ma d mn mc 10]).run Try.prog w = .ok v' w' ∧ ERow w' B v' (es ++ ps.drop d) ∧ Grw w v w' v' := by
  obtain ⟨i0, hi, hz0, hz1, hz2⟩ := info_parts info81
  have grw : Grw w v w v := ⟨⟨rfl, rfl, rfl, Nat.le_refl _, fun _ _ _ => rfl⟩, .inl rfl⟩
  unfold sliced
  cases ma with
  | none =>
    have hps : ps = [] := by
      cases ps with
      | nil => rfl
      | cons x r => obtain ⟨b, off, e, _⟩ := hrd 0 x rfl; cases e
    subst hps
    simp only [List.length_nil] at hn
    subst hn
    have hd0 : d = 0 := by omega
    subst hd0
    refine ⟨v, w, ?_, by simpa using hr, grw⟩
    have := run_app_none w ty B v es hr (mc - 0)
    simpa using this
  | some ad =>
    have fin : ∀ (a2 : Addr) (c2 : Nat), (∀ j u, (ee (ps.drop d))[j]? = some u → w.cell? (a2.add j) = some u) → ∃ v' w', (Builtin.append_ #[70, 70] ty #[v, .slice (some a2) (mn - d) c2]).run Try.prog w = .ok v' w' ∧ ERow w' B v' (es ++ ps.drop d) ∧ Grw w v w' v' := by
      intro a2 c2 hcell
      have hln : (ps.drop d).length = mn - d := by rw [List.length_drop, hn]
      obtain ⟨v', w', hrun, hown, hgr, _, hat⟩ := run_append_own_at (P := Try.prog) w B 70 ty 81 i0 zeroE 10 128 Try.underlying70 hi hz0 hz1 hz2 rfl (by decide) v es.length (ee es) hr a2 (mn - d) c2 (ee (ps.drop d)) (by rw [ee_length, hln]) hcell (ee_one _) (by unfold maxLen; omega) (by omega) hB
      refine ⟨v', w', hrun, ?_, hgr, ?_⟩
      · unfold ERow
        rw [ee_append, List.length_append, hln]
        exact hown
      · rcases hat with hat | hat
        · exact .inl hat
        · exact .inr ⟨_, hat, Nat.le_refl _⟩
    by_cases hmd : mc = d
    · rw [if_pos hmd]
      refine fin ad _ ?_
      have : ps.drop d = [] := List.drop_of_length_le (by omega)
      rw [this]
      intro j u hu
      simp [ee] at hu
    · rw [if_neg hmd]
      exact fin _ _ (hrd.cells_at d)
theorem step_appT {ops : Array Oper} {o : Oper} {a : Act} {w : World} {K : Act → World → Prop} {Q : Exit → Act → World → Prop} {E : Prop} (hgd : o.guard = none) (s x : Operand)
    (ho : o.op = .call { callee := .builtin .append, args := #[s, x], argTypes := #[70, 70] }) (sv : Value) (hs : a.eval s = sv) (g : Nat) (h : En) (hx : a.eval x = .slice (some ⟨g, 0, none⟩) 1 1)
    (ta : Option Addr) (n : Nat) (hsv : sv = .slice ta n n) (es : List En) (hn : n = es.length) (hle : n ≤ 1000) (hrd : ERd w ta es) (hg : w.heap[g]? = some (.cells h.cs.toArray 81 (0, 0)))
    (k : ∀ v' w', ERow w' w.heap.size v' (es ++ [h]) → w.grownBy w' none → K (a.put o.dst v') w') :
    if Region.wanted o (yielded ops a.tmps) = true then Oper.wp Try.prog o a w K Q else E := by
  have hw : Region.wanted o (yielded ops a.tmps) = true := by simp [Region.wanted, hgd]
  rw [if_pos hw]
  subst hsv
  obtain ⟨v', w', hr, h2, h3⟩ := run_appT w o.type ta n es hn hle hrd h g hg
  unfold Oper.wp execOp
  simp only [ho, resolve, invoke, builtin, Sem.run_bind, Sem.run_pure, Result.andThen_ok, List.map_toArray, List.map_cons, List.map_nil, hs, hx, hr]
  exact k v' w' h2 h3
theorem step_appX {ops : Array Oper} {o : Oper} {a : Act} {w : World} {K : Act → World → Prop} {Q : Exit → Act → World → Prop} {E : Prop} (hgd : o.guard = none) (s x : Operand)
    (ho : o.op = .call { callee := .builtin .append, args := #[s, x], argTypes := #[70, 70] }) (v : Value) (hs : a.eval s = v) (xv : Value) (hx : a.eval x = xv)
    (B : Nat) (es : List En) (hr : ERow w B v es) (hB : B ≤ w.heap.size) (ma : Option Addr) (mn mc d : Nat) (hxv : xv = sliced ma d mn mc 10) (ps : List En) (hn : mn = ps.length) (hle : mn ≤ 1000) (hd : d ≤ mn) (hc : mn ≤ mc) (hrd : ERd w ma ps) (hl : es.length ≤ 1000000)
    (k : ∀ v' w', ERow w' B v' (es ++ ps.drop d) → Grw w v w' v' → K (a.put o.dst v') w') :
    if Region.wanted o (yielded ops a.tmps) = true then Oper.wp Try.prog o a w K Q else E := by
  have hw : Region.wanted o (yielded ops a.tmps) = true := by simp [Region.wanted, hgd]
  rw [if_pos hw]
  subst hxv
  obtain ⟨v', w', hr, h2, h3⟩ := run_appX w o.type B v es hr hB ma mn mc d ps hn hle hd hc hrd hl
  unfold Oper.wp execOp
  simp only [ho, resolve, invoke, builtin, Sem.run_bind, Sem.run_pure, Result.andThen_ok, List.map_toArray, List.map_cons, List.map_nil, hs, hx, hr]
  exact k v' w' h2 h3
theorem placeR_le {α : Type} (c : α → Int) (l : List α) : (placeR c l).1 ≤ l.length := List.findIdx_le_length
theorem placeR_lt {α : Type} (c : α → Int) (l : List α) (h : (placeR c l).2 = true) : (placeR c l).1 < l.length := by
  unfold placeR at h ⊢
  simp only at h ⊢
  cases hf : l.find? (plQ c) with
  | none => rw [hf] at h; simp at h
  | some a => exact List.findIdx_lt_length_of_exists ⟨a, List.mem_of_find?_eq_some hf, List.find?_some hf⟩
end Go.Proofs.Ytenfgahedbeekaa
