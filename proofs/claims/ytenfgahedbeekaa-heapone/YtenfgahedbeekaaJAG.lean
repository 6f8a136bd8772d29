/- Rows of entries: a head cut off and grown, a tail put behind. -/
import Derived.Test.YtenfgahedbeekaaJAF
import Derived.ArgAppend
namespace Go.Proofs.Ytenfgahedbeekaa
open Go.RowKit Go.Deep Go.Shelf
set_option linter.unusedVariables false
set_option linter.unusedSimpArgs false

theorem ee_get (es : List En) (j : Nat) (u : Value) (h : (ee es)[j]? = some u) : ∃ x, es[j / 10]? = some x ∧ x.cs[j % 10]? = some u := by
  have hl : j < (ee es).length := (List.getElem?_eq_some_iff.1 h).1
  rw [ee_length] at hl
  have hq : j / 10 < es.length := by omega
  refine ⟨es[j / 10], List.getElem?_eq_getElem hq, ?_⟩
  have := ee_at es (j / 10) es[j / 10] (List.getElem?_eq_getElem hq) (j % 10) (by omega)
  rw [← this, show j / 10 * 10 + j % 10 = j from by omega]
  exact h
theorem ERd.cells_at {w : World} {ad : Addr} {es : List En} (h : ERd w (some ad) es) (d : Nat) : ∀ j u, (ee (es.drop d))[j]? = some u → w.cell? ((ad.add (d * 10)).add j) = some u := by
  intro j u hu
  obtain ⟨x, hx, hc⟩ := ee_get _ j u hu
  rw [List.getElem?_drop] at hx
  obtain ⟨b, off, e, hh⟩ := h _ x hx
  cases e
  rw [Addr.add_lit, Addr.add_lit]
  rw [← hc, ← hh (j % 10) (by omega)]
  congr 2
  omega
theorem ERd.cells_0 {w : World} {ad : Addr} {es : List En} (h : ERd w (some ad) es) : ∀ j u, (ee es)[j]? = some u → w.cell? (ad.add j) = some u := by
  intro j u hu
  obtain ⟨x, hx, hc⟩ := ee_get _ j u hu
  obtain ⟨b, off, e, hh⟩ := h _ x hx
  cases e
  rw [Addr.add_lit]
  rw [← hc, ← hh (j % 10) (by omega)]
  congr 2
  omega
theorem ee_one (es : List En) : ∀ u ∈ ee es, u.oneCell' = true := by
  intro u hu
  simp only [ee, List.mem_flatMap] at hu
  obtain ⟨x, _, hx⟩ := hu
  exact ecs_one x u hx
theorem ee_append (a b : List En) : ee (a ++ b) = ee a ++ ee b := by simp [ee]
theorem ERd.take {w : World} {a : Option Addr} {es : List En} (h : ERd w a es) (n : Nat) : ERd w a (es.take n) := by
  intro j x hx
  rw [List.getElem?_take] at hx
  split at hx
  · exact h j x hx
  · cases hx
/- A head that has no room, and one more: a new row. -/
theorem run_appT (w : World) (ty : TypeId) (ta : Option Addr) (n : Nat) (es : List En) (hn : n = es.length) (hle : n ≤ 1000) (hrd : ERd w ta es) (h : En) (g : Nat) (hg : w.heap[g]? = some (.cells h.cs.toArray 81 (0, 0))) :
    ∃ v' w', (Builtin.append_ #[70, 70] ty #[.slice ta n n, .slice (some ⟨g, 0, none⟩) 1 1]).run Try.prog w = .ok v' w' ∧ ERow w' w.heap.size v' (es ++ [h]) ∧ w.grownBy w' none := by
  cases ta with
  | none =>
    have hes : es = [] := by
      cases es with
      | nil => rfl
      | cons x r => obtain ⟨b, off, e, _⟩ := hrd 0 x rfl; cases e
    subst hes
    subst hn
    obtain ⟨v', w', hrun, h1, h2⟩ := run_appE w ty w.heap.size (.slice none 0 0) [] h g (ERow.nil _ _) hg (Nat.le_refl _) (by simp)
    exact ⟨v', w', hrun, h1, h2.1⟩
  | some ad =>
    obtain ⟨i0, hi, hz0, hz1, hz2⟩ := info_parts info81
    obtain ⟨v', w', hrun, hown, hgr⟩ := run_append_arg_grows (P := Try.prog) w 70 ty 81 i0 zeroE 10 128 Try.underlying70 hi hz0 hz1 hz2 rfl (by decide) ad n n (ee es) (by rw [ee_length, hn]) hrd.cells_0 ⟨g, 0, none⟩ 1 1 h.cs rfl (by
      intro j u hu
      exact World.news_of_block hg j u (by simpa using hu)) (by omega) (by unfold maxLen; omega) (by omega)
    refine ⟨v', w', hrun, ?_, hgr⟩
    unfold ERow
    rw [ee_append, List.length_append, ← hn]
    simpa [ee] using hown
theorem run_app_none (w : World) (ty : TypeId) (B : Nat) (v : Value) (es : List En) (hr : ERow w B v es) (c : Nat) : (Builtin.append_ #[70, 70] ty #[v, .slice none 0 c]).run Try.prog w = .ok v w := by
  obtain ⟨i0, hi, hz0, hz1, hz2⟩ := info_parts info81
  rcases hr.2 with ⟨rfl, _⟩ | ⟨g, cap, cur, rfl, _, _, hnc, _⟩
  · simp [Builtin.append_, run_underlying Try.underlying70, sizeOf, typeInfo, hi, Builtin.lenOf, Builtin.firstCells]
  · simp [Builtin.append_, run_underlying Try.underlying70, sizeOf, typeInfo, hi, Builtin.lenOf, Builtin.firstCells, hnc, storeCells]
theorem run_appX (w : World) (ty : TypeId) (B : Nat) (v : Value) (es : List En) (hr : ERow w B v es) (hB : B ≤ w.heap.size) (ma : Option Addr) (mn mc d : Nat) (ps : List En) (hn : mn = ps.length) (hle : mn ≤ 1000) (hd : d ≤ mn) (hc : mn ≤ mc) (hrd : ERd w ma ps) (hl : es.length ≤ 1000000) :
    ∃ v' w', (Builtin.append_ #[70, 70] ty #[v, sliced ma d mn mc 10]).run Try.prog w = .ok v' w' ∧ ERow w' B v' (es ++ ps.drop d) ∧ Grw w v w' v' := by
  obtain ⟨i0, hi, hz0, hz1, hz2⟩ := info_parts info81
  have grw : Grw w v w v := ⟨⟨rfl, rfl, rfl, Nat.le_refl _, fun _ _ _ => rfl⟩, .inl rfl⟩
  unfold sliced
  cases ma with
  | none =>
    have hps : ps = [] := by
      cases ps with
      | nil => rfl
      | cons x r => obtain ⟨b, off, e, _⟩ := hrd 0 x rfl; cases e
    subst hps
    simp only [List.length_nil] at hn
    subst hn
    have hd0 : d = 0 := by omega
    subst hd0
    refine ⟨v, w, ?_, by simpa using hr, grw⟩
    have := run_app_none w ty B v es hr (mc - 0)
    simpa using this
  | some ad =>
    have fin : ∀ (a2 : Addr) (c2 : Nat), (∀ j u, (ee (ps.drop d))[j]? = some u → w.cell? (a2.add j) = some u) → ∃ v' w', (Builtin.append_ #[70, 70] ty #[v, .slice (some a2) (mn - d) c2]).run Try.prog w = .ok v' w' ∧ ERow w' B v' (es ++ ps.drop d) ∧ Grw w v w' v' := by
      intro a2 c2 hcell
      have hln : (ps.drop d).length = mn - d := by rw [List.length_drop, hn]
      obtain ⟨v', w', hrun, hown, hgr, _, hat⟩ := run_append_own_at (P := Try.prog) w B 70 ty 81 i0 zeroE 10 128 Try.underlying70 hi hz0 hz1 hz2 rfl (by decide) v es.length (ee es) hr a2 (mn - d) c2 (ee (ps.drop d)) (by rw [ee_length, hln]) hcell (ee_one _) (by unfold maxLen; omega) (by omega) hB
      refine ⟨v', w', hrun, ?_, hgr, ?_⟩
      · unfold ERow
        rw [ee_append, List.length_append, hln]
        exact hown
      · rcases hat with hat | hat
        · exact .inl hat
        · exact .inr ⟨_, hat, Nat.le_refl _⟩
    by_cases hmd : mc = d
    · rw [if_pos hmd]
      refine fin ad _ ?_
      have : ps.drop d = [] := List.drop_of_length_le (by omega)
      rw [this]
      intro j u hu
      simp [ee] at hu
    · rw [if_neg hmd]
      exact fin _ _ (hrd.cells_at d)
theorem step_appT {ops : Array Oper} {o : Oper} {a : Act} {w : World} {K : Act → World → Prop} {Q : Exit → Act → World → Prop} {E : Prop} (hgd : o.guard = none) (s x : Operand)
    (ho : o.op = .call { callee := .builtin .append, args := #[s, x], argTypes := #[70, 70] }) (sv : Value) (hs : a.eval s = sv) (g : Nat) (h : En) (hx : a.eval x = .slice (some ⟨g, 0, none⟩) 1 1)
    (ta : Option Addr) (n : Nat) (hsv : sv = .slice ta n n) (es : List En) (hn : n = es.length) (hle : n ≤ 1000) (hrd : ERd w ta es) (hg : w.heap[g]? = some (.cells h.cs.toArray 81 (0, 0)))
    (k : ∀ v' w', ERow w' w.heap.size v' (es ++ [h]) → w.grownBy w' none → K (a.put o.dst v') w') :
    if Region.wanted o (yielded ops a.tmps) = true then Oper.wp Try.prog o a w K Q else E := by
  have hw : Region.wanted o (yielded ops a.tmps) = true := by simp [Region.wanted, hgd]
  rw [if_pos hw]
  subst hsv
  obtain ⟨v', w', hr, h2, h3⟩ := run_appT w o.type ta n es hn hle hrd h g hg
  unfold Oper.wp execOp
  simp only [ho, resolve, invoke, builtin, Sem.run_bind, Sem.run_pure, Result.andThen_ok, List.map_toArray, List.map_cons, List.map_nil, hs, hx, hr]
  exact k v' w' h2 h3
theorem step_appX {ops : Array Oper} {o : Oper} {a : Act} {w : World} {K : Act → World → Prop} {Q : Exit → Act → World → Prop} {E : Prop} (hgd : o.guard = none) (s x : Operand)
    (ho : o.op = .call { callee := .builtin .append, args := #[s, x], argTypes := #[70, 70] }) (v : Value) (hs : a.eval s = v) (xv : Value) (hx : a.eval x = xv)
    (B : Nat) (es : List En) (hr : ERow w B v es) (hB : B ≤ w.heap.size) (ma : Option Addr) (mn mc d : Nat) (hxv : xv = sliced ma d mn mc 10) (ps : List En) (hn : mn = ps.length) (hle : mn ≤ 1000) (hd : d ≤ mn) (hc : mn ≤ mc) (hrd : ERd w ma ps) (hl : es.length ≤ 1000000)
    (k : ∀ v' w', ERow w' B v' (es ++ ps.drop d) → Grw w v w' v' → K (a.put o.dst v') w') :
    if Region.wanted o (yielded ops a.tmps) = true then Oper.wp Try.prog o a w K Q else E := by
  have hw : Region.wanted o (yielded ops a.tmps) = true := by simp [Region.wanted, hgd]
  rw [if_pos hw]
  subst hxv
  obtain ⟨v', w', hr, h2, h3⟩ := run_appX w o.type B v es hr hB ma mn mc d ps hn hle hd hc hrd hl
  unfold Oper.wp execOp
  simp only [ho, resolve, invoke, builtin, Sem.run_bind, Sem.run_pure, Result.andThen_ok, List.map_toArray, List.map_cons, List.map_nil, hs, hx, hr]
  exact k v' w' h2 h3
theorem placeR_le {α : Type} (c : α → Int) (l : List α) : (placeR c l).1 ≤ l.length := List.findIdx_le_length
theorem placeR_lt {α : Type} (c : α → Int) (l : List α) (h : (placeR c l).2 = true) : (placeR c l).1 < l.length := by
  unfold placeR at h ⊢
  simp only at h ⊢
  cases hf : l.find? (plQ c) with
  | none => rw [hf] at h; simp at h
  | some a => exact List.findIdx_lt_length_of_exists ⟨a, List.mem_of_find?_eq_some hf, List.find?_some hf⟩
end Go.Proofs.Ytenfgahedbeekaa

namespace Go.Proofs.Ytenfgahedbeekaa
open Go.RowKit Go.Deep Go.Shelf
set_option linter.unusedVariables false
set_option linter.unusedSimpArgs false

theorem below_of_grown {W W' : World} (h : W.grownBy W' none) : Below W.heap.size W W' := ⟨h.os, h.tape, h.output, h.size, fun i hi => h.block i hi (by simp)⟩
@[reducible] def SC (s : Nat) (sv : Value) (kk ki : Int) (kx : ByteArray) (kr : Int) (ka : Option Addr) (kn kc : Nat) (vk vi : Int) (vx : ByteArray) (vr : Int) (va : Option Addr) (vn vc : Nat) (W' : World) : Prop := (W'.cell? ⟨s, 0, none⟩ = some sv ∧ W'.cell? ⟨s + 1, 0, none⟩ = some (.int .i64 kk) ∧ W'.cell? ⟨s + 1, 1, none⟩ = some (.int .i64 ki) ∧ W'.cell? ⟨s + 1, 2, none⟩ = some (.string kx) ∧ W'.cell? ⟨s + 1, 3, none⟩ = some (.int .i64 kr) ∧ W'.cell? ⟨s + 1, 4, none⟩ = some (.slice ka kn kc)) ∧ W'.cell? ⟨s + 1 + 1, 0, none⟩ = some (.int .i64 vk) ∧ W'.cell? ⟨s + 1 + 1, 1, none⟩ = some (.int .i64 vi) ∧ W'.cell? ⟨s + 1 + 1, 2, none⟩ = some (.string vx) ∧ W'.cell? ⟨s + 1 + 1, 3, none⟩ = some (.int .i64 vr) ∧ W'.cell? ⟨s + 1 + 1, 4, none⟩ = some (.slice va vn vc)
theorem grw_below {W0 W W' : World} {B : Nat} {v v' : Value} {es : List En} (h : Below W0.heap.size W0 W) (hr : ERow W B v es) (hg : Grw W v W' v') (hB : W0.heap.size ≤ B) : Below W0.heap.size W0 W' :=
  ⟨hg.1.os.trans h.os, hg.1.tape.trans h.tape, hg.1.output.trans h.output, Nat.le_trans h.size hg.1.size, fun i hi => (hg.1.block i (Nat.lt_of_lt_of_le hi h.size) (fun e => by have := (hr.own i e.symm).1; omega)).trans (h.block i hi)⟩
theorem SC.set {s : Nat} {sv : Value} {kk ki : Int} {kx : ByteArray} {kr : Int} {ka : Option Addr} {kn kc : Nat} {vk vi : Int} {vx : ByteArray} {vr : Int} {va : Option Addr} {vn vc : Nat} {W : World} (h : SC s sv kk ki kx kr ka kn kc vk vi vx vr va vn vc W) (v : Value) : SC s sv kk ki kx kr ka kn kc vk vi vx vr va vn vc (W.setCell ⟨s + 1 + 1 + 1, 0, none⟩ v) := by
  have st : ∀ b i, b ≠ s + 1 + 1 + 1 → (W.setCell ⟨s + 1 + 1 + 1, 0, none⟩ v).cell? ⟨b, i, none⟩ = W.cell? ⟨b, i, none⟩ := fun b i hb => World.cell?_of_block (a := ⟨b, i, none⟩) (Below.heap_setCell _ _ _ _ hb)
  exact ⟨⟨(st _ _ (by omega)).trans h.1.1, (st _ _ (by omega)).trans h.1.2.1, (st _ _ (by omega)).trans h.1.2.2.1, (st _ _ (by omega)).trans h.1.2.2.2.1, (st _ _ (by omega)).trans h.1.2.2.2.2.1, (st _ _ (by omega)).trans h.1.2.2.2.2.2⟩, (st _ _ (by omega)).trans h.2.1, (st _ _ (by omega)).trans h.2.2.1, (st _ _ (by omega)).trans h.2.2.2.1, (st _ _ (by omega)).trans h.2.2.2.2.1, (st _ _ (by omega)).trans h.2.2.2.2.2⟩
/- What is put: the row with one entry more, or with another. -/
def putR {α : Type} (c : α → Int) (x : α) (l : List α) : List α := l.take (placeR c l).1 ++ [x] ++ l.drop (if (placeR c l).2 then (placeR c l).1 + 1 else (placeR c l).1)

def PtP (k : Nat) (w : World) (m : Int) (row : Rw k) (ms : List (Sl × Rw k)) (e : Ending) (w' : World) : Prop := ∃ fa fn fc ns, e = .returned (.tuple #[.agg #[.slice fa fn fc], .int .i64 0]) ∧ Below w.heap.size w w' ∧ fn ≤ fc ∧ StP k w' (fun b => w.heap.size ≤ b ∧ b < w'.heap.size) fa fn ns ∧ ns.map (fun q => rowC k q.2) = wth m (rowC k row) (ms.map fun q => rowC k q.2)

set_option maxRecDepth 100000 in
set_option maxHeartbeats 2000000 in
theorem put_ok (k : Nat) (w : World) (sa : Option Addr) (sn sc : Nat) (ms : List (Sl × Rw k)) (hd : StR k w sa sn ms) (m : Int) (kt vt : VT k) (hk : Rds k w kt) (hv : Rds k w vt) (hh : hasB sn m = true) (hok : (placeR (fun p => cmpT k p.1 kt) (rowAt ms m)).2 = true ∨ (rowAt ms m).length < 24) :
    Calls Try.prog 12 #[.agg #[.slice sa sn sc], .int .i64 m, (hdT k kt).v, (hdT k vt).v] w (PtP k w m (putR (fun p => cmpT k p.1 kt) (kt, vt) (rowAt ms m)) ms) := by
  have D := hid hd
  have Hn := hid hd.n1
  have hle := hd.n2
  have hle2 : (sn : Int) ≤ 1000 := by omega
  have K39 := hid (fun w1 => hasMap_any w1 sa sn sc m (by omega))
  have DK := hid hk
  have DV := hid hv
  have K40 := hid (fun (w1 : World) (hb : Below w.heap.size w w1) => place_any k w1 sa sn sc ms (hd.below (Nat.le_refl _) hb) m kt (Rds.below k hk (Nat.le_refl _) hb))
  clear hd hk hv
  obtain ⟨enk, henk⟩ : ∃ enk : En, enk = enT k (kt, vt) := ⟨_, rfl⟩
  have Henk := hid henk
  clear henk
  have Hk1 : Hid (hdT k kt = enk.key) := hid (by rw [Henk.out]; rfl)
  have Hv1 : Hid (hdT k vt = enk.val) := hid (by rw [Henk.out]; rfl)
  rw [Hk1.out] at K40 ⊢
  rw [Hv1.out]
  obtain ⟨⟨kk, ki, kx, kr, ka, kn, kc⟩, ⟨vk, vi, vx, vr, va, vn, vc⟩⟩ := enk
  simp only [Hd.v] at K40 ⊢
  obtain ⟨W0, hW0⟩ : ∃ W0, W0 = (((w.alloc (.cells #[.slice sa sn sc] 27)).alloc (.cells #[.int .i64 kk, .int .i64 ki, .string kx, .int .i64 kr, .slice ka kn kc] 31)).alloc (.cells #[.int .i64 vk, .int .i64 vi, .string vx, .int .i64 vr, .slice va vn vc] 31)).alloc (.cells #[.slice none 0 0] 27) := ⟨_, rfl⟩
  have pl' : ∀ {w : World} {o x : Obj} {k : Nat}, w.heap[k]? = some x → (w.alloc o).heap[k]? = some x := fun h => (Below.heap_alloc _ _ _ (Array.getElem?_eq_some_iff.1 h).1).trans h
  have n1 := heap_alloc_new w (.cells #[.slice sa sn sc] 27)
  have n2 := heap_alloc_new (w.alloc (.cells #[.slice sa sn sc] 27)) (.cells #[.int .i64 kk, .int .i64 ki, .string kx, .int .i64 kr, .slice ka kn kc] 31)
  have n3 := heap_alloc_new ((w.alloc (.cells #[.slice sa sn sc] 27)).alloc (.cells #[.int .i64 kk, .int .i64 ki, .string kx, .int .i64 kr, .slice ka kn kc] 31)) (.cells #[.int .i64 vk, .int .i64 vi, .string vx, .int .i64 vr, .slice va vn vc] 31)
  have n4 := heap_alloc_new (((w.alloc (.cells #[.slice sa sn sc] 27)).alloc (.cells #[.int .i64 kk, .int .i64 ki, .string kx, .int .i64 kr, .slice ka kn kc] 31)).alloc (.cells #[.int .i64 vk, .int .i64 vi, .string vx, .int .i64 vr, .slice va vn vc] 31)) (.cells #[.slice none 0 0] 27)
  have hz0 : W0.heap.size = w.heap.size + 1 + 1 + 1 + 1 := by rw [hW0]; simp
  simp only [World.size_alloc] at n2 n3 n4
  have q1 : W0.heap[w.heap.size]? = some (.cells #[.slice sa sn sc] 27 (0, 0)) := by rw [hW0]; exact pl' (pl' (pl' n1))
  have q2 : W0.heap[w.heap.size + 1]? = some (.cells #[.int .i64 kk, .int .i64 ki, .string kx, .int .i64 kr, .slice ka kn kc] 31 (0, 0)) := by rw [hW0]; exact pl' (pl' n2)
  have q3 : W0.heap[w.heap.size + 1 + 1]? = some (.cells #[.int .i64 vk, .int .i64 vi, .string vx, .int .i64 vr, .slice va vn vc] 31 (0, 0)) := by rw [hW0]; exact pl' n3
  have q4 : W0.heap[w.heap.size + 1 + 1 + 1]? = some (.cells #[.slice none 0 0] 27 (0, 0)) := by rw [hW0]; exact n4
  have hb0 : Below w.heap.size w W0 := by
    rw [hW0]; exact ((((Below.refl _ w).alloc (Nat.le_refl _) _).alloc (by simp) _).alloc (by simp; omega) _).alloc (by simp; omega) _
  have FX : Hid (∀ w2 : World, Below W0.heap.size W0 w2 → ((w2.cell? ⟨w.heap.size, 0, none⟩ = some (.slice sa sn sc) ∧ w2.cell? ⟨w.heap.size + 1, 0, none⟩ = some (.int .i64 kk) ∧ w2.cell? ⟨w.heap.size + 1, 1, none⟩ = some (.int .i64 ki) ∧ w2.cell? ⟨w.heap.size + 1, 2, none⟩ = some (.string kx) ∧ w2.cell? ⟨w.heap.size + 1, 3, none⟩ = some (.int .i64 kr) ∧ w2.cell? ⟨w.heap.size + 1, 4, none⟩ = some (.slice ka kn kc)) ∧ w2.cell? ⟨w.heap.size + 1 + 1, 0, none⟩ = some (.int .i64 vk) ∧ w2.cell? ⟨w.heap.size + 1 + 1, 1, none⟩ = some (.int .i64 vi) ∧ w2.cell? ⟨w.heap.size + 1 + 1, 2, none⟩ = some (.string vx) ∧ w2.cell? ⟨w.heap.size + 1 + 1, 3, none⟩ = some (.int .i64 vr) ∧ w2.cell? ⟨w.heap.size + 1 + 1, 4, none⟩ = some (.slice va vn vc)) ∧ w2.heap[w.heap.size + 1 + 1 + 1]? = some (.cells #[.slice none 0 0] 27 (0, 0)) ∧ Below w.heap.size w w2) := hid (fun w2 hb => by
    have bx := (hb.block _ (Array.getElem?_eq_some_iff.1 q1).1).trans q1
    have by' := (hb.block _ (Array.getElem?_eq_some_iff.1 q2).1).trans q2
    have bz := (hb.block _ (Array.getElem?_eq_some_iff.1 q3).1).trans q3
    exact ⟨⟨⟨cellOf bx 0, cellOf by' 0, cellOf by' 1, cellOf by' 2, cellOf by' 3, cellOf by' 4⟩, cellOf bz 0, cellOf bz 1, cellOf bz 2, cellOf bz 3, cellOf bz 4⟩, (hb.block _ (Array.getElem?_eq_some_iff.1 q4).1).trans q4, hb0.trans (hb.mono hb0.size)⟩)
  have TR : Hid (∀ {x y : World}, Below W0.heap.size W0 x → Below x.heap.size x y → Below W0.heap.size W0 y) := hid (fun h1 h2 => h1.trans (h2.mono h1.size))
  have HR0 := hid (Below.refl W0.heap.size W0)
  clear n1 n2 n3 n4 pl' q1 q2 q3 q4 hb0

  have hm : 0 ≤ m ∧ m < (sn : Int) := by simpa [hasB] using hh
  simp only [hh] at K39
  obtain ⟨i0, rfl⟩ : ∃ i0 : Nat, m = (i0 : Int) := ⟨m.toNat, by omega⟩
  have hi0 := hm.1
  have hi1 := hm.2
  obtain ⟨p, hp⟩ : ∃ p, ms[i0]? = some p := ⟨ms[i0]'(by rw [← Hn.out]; omega), List.getElem?_eq_getElem _⟩
  rw [rowAt_yes hp] at *
  obtain ⟨b, off, ea, dc⟩ := D.out.rd i0 p.1 (by rw [List.getElem?_map, hp]; rfl)
  subst ea
  have hel := (D.out.el p (List.mem_of_getElem? hp)).1
  have hcap := (D.out.el p (List.mem_of_getElem? hp)).2
  obtain ⟨⟨ma, mn, mc⟩, mr⟩ := p
  simp only [Sl.v] at dc
  simp only at hel hcap K40
  simp only at hok ⊢
  have Hdc : Hid (∀ w2 : World, Below w.heap.size w w2 → w2.cell? ⟨b, off + i0, none⟩ = some (.slice ma mn mc)) := hid (fun w2 hb => (hb.cell (p := ⟨b, off + i0, none⟩) (World.block_lt_of_cell? w _ dc)).trans dc)
  have Hmn := hid hel.n1
  have hmn2 := hel.n2
  have hmn3 : (mn : Int) ≤ 1000 := by omega
  have Hel := hid hel
  have hpl : (placeR (fun p => cmpT k p.1 kt) mr).1 ≤ mn := by rw [Hmn.out]; exact placeR_le _ _
  have hpl2 : (placeR (fun p => cmpT k p.1 kt) mr).2 = true → (placeR (fun p => cmpT k p.1 kt) mr).1 < mn := by rw [Hmn.out]; exact placeR_lt _ _

  obtain ⟨row', hrow'⟩ : ∃ row', row' = putR (fun p => cmpT k p.1 kt) (kt, vt) mr := ⟨_, rfl⟩
  rw [← hrow']
  unfold putR at hrow'
  obtain ⟨at', hat⟩ : ∃ at', at' = (placeR (fun p => cmpT k p.1 kt) mr).1 := ⟨_, rfl⟩
  obtain ⟨th, hth⟩ : ∃ th, th = (placeR (fun p => cmpT k p.1 kt) mr).2 := ⟨_, rfl⟩
  rw [← hat, ← hth] at K40 hrow'
  rw [← hat] at hpl
  rw [← hat, ← hth] at hpl2
  rw [← hth, ← Hmn.out] at hok
  clear hat hth
  have Hrow' := hid hrow'
  have hat2 : (at' : Int) ≤ (mn : Int) := by omega
  have hat0 : (0 : Int) ≤ (at' : Int) := by omega
  have hcap2 : (mn : Int) ≤ (mc : Int) := by omega
  have hatc : (at' : Int) ≤ (mc : Int) := by omega
  have E1 : Hid (∀ w1 : World, Below w.heap.size w w1 → ERd w1 ma (mr.map (enT k))) := hid (fun w1 hb => (Hel.out.below (Nat.le_refl _) hb).rd)
  have hr1 : Hid (∀ w1 : World, Below w.heap.size w w1 → ∀ q ∈ row', Rds k w1 q.1 ∧ Rds k w1 q.2) := hid (fun w1 hb q hq => by
    rw [Hrow'.out] at hq
    rcases List.mem_append.1 hq with hq | hq
    · rcases List.mem_append.1 hq with hq | hq
      · exact (Hel.out.below (Nat.le_refl _) hb).el q (List.mem_of_mem_take hq)
      · rw [List.mem_singleton] at hq
        subst hq
        exact ⟨Rds.below k DK.out (Nat.le_refl _) hb, Rds.below k DV.out (Nat.le_refl _) hb⟩
    · exact (Hel.out.below (Nat.le_refl _) hb).el q (List.mem_of_mem_drop hq))
  have K41 : Hid (∀ (w1 : World), Below w.heap.size w w1 → ∀ (ra : Option Addr) (rn rc : Nat), RwR k w1 ra rn row' → Calls Try.prog 41 #[.agg #[.slice (some ⟨b, off, none⟩) sn sc], .int .i64 (i0 : Int), .slice ra rn rc] w1 (CwP k w1 (i0 : Int) row' ms)) := hid (fun w1 hb ra rn rc hr => with_any k w1 _ sn sc ms (D.out.below (Nat.le_refl _) hb) _ ra rn rc row' hr)
  clear dc hp hel hh hm D hrow'
  have hen : (enT k (kt, vt)) = ⟨⟨kk, ki, kx, kr, ka, kn, kc⟩, ⟨vk, vi, vx, vr, va, vn, vc⟩⟩ := Henk.out.symm
  have Hen := hid hen
  clear hen Henk Hk1 Hv1
  obtain ⟨bh, hbh⟩ : ∃ bh, bh = if th then at' + 1 else at' := ⟨_, rfl⟩
  have Hbh := hid hbh
  have hbh2 : bh ≤ mn := by
    rw [hbh]; split
    · rename_i h; have := hpl2 h; omega
    · exact hpl
  have hbh3 : (bh : Int) ≤ (mn : Int) := by omega
  have hbh0 : (0 : Int) ≤ (bh : Int) := by omega
  have hrlen : row'.length ≤ 1000 := by
    rw [Hrow'.out, ← hbh]
    simp only [List.length_append, List.length_take, List.length_drop, List.length_singleton, ← Hmn.out]
    rcases hok with h | h
    · have := hpl2 h
      have : bh = at' + 1 := by rw [hbh, if_pos h]
      omega
    · have : at' ≤ bh := by rw [hbh]; split <;> omega
      omega
  have hmap : row'.map (enT k) = (mr.map (enT k)).take at' ++ [(⟨⟨kk, ki, kx, kr, ka, kn, kc⟩, ⟨vk, vi, vx, vr, va, vn, vc⟩⟩ : En)] ++ (mr.map (enT k)).drop bh := by
    rw [Hrow'.out, ← hbh, List.map_append, List.map_append, List.map_take, List.map_drop, ← Hen.out]; rfl
  have Hmap := hid hmap
  have HSE : Hid (∀ w2 : World, Below W0.heap.size W0 w2 → SC w.heap.size (.slice (some ⟨b, off, none⟩) sn sc) kk ki kx kr ka kn kc vk vi vx vr va vn vc w2) := hid (fun w2 hb => (FX.out w2 hb).1)
  clear hbh hmap
  have hwr : IntKind.i64.wrap ((at' : Int) + 1) = ((at' + 1 : Nat) : Int) := by rw [IntKind.wrap_i64]; omega
  clear hpl2
  have hbt : th = true → bh = at' + 1 := fun h => by rw [Hbh.out, if_pos h]
  have hbf : th = false → bh = at' := fun h => by rw [Hbh.out, h]; rfl
  cases th with
  | true =>
    have hb1 := hbt rfl
    clear hbt hbf hok
    subst hb1
    by_cases hmb : mc = (at' + 1)
    · have hmt := eq_true hmb
      have Hmb := hid hmb
      clear hmb
      go_enter Try.func12, Try.ntmps12
      go_wp2_with (first
        | (go_at_call 39; (rw [← hW0]; refine (Hid.out K39 _).mono ?_; rintro e w1 ⟨rfl, hb1⟩; obtain ⟨⟨⟨c0, c1, c2, c3, c4, c5⟩, c6, c7, c8, c9, c10⟩, x2, bb⟩ := FX.out w1 hb1; have y0 := Hdc.out w1 bb; have HB1 := hid hb1; clear hb1 x2))
        | (go_at_call 40; (refine (Hid.out K40 w1 bb).mono ?_; rintro e w2 ⟨rfl, hb2⟩; have hb2' := TR.out HB1.out hb2; clear c0 c1 c2 c3 c4 c5 c6 c7 c8 c9 c10; obtain ⟨⟨⟨c0, c1, c2, c3, c4, c5⟩, c6, c7, c8, c9, c10⟩, x2, bb2⟩ := FX.out w2 hb2'; have HB2 := hid hb2'; have BB2 := hid bb2; clear hb2 hb2' x2)))
      have BD := hid HB2.out.drew
      have hs2 := HB2.out.size
      have hlow : (0 : Int) ≤ (at' : Int) + 1 := by omega
      try have hlow2 : (at' : Int) + 1 ≤ (mn : Int) := by omega
      have BA : Hid (∀ o, Below W0.heap.size W0 (w2.drew.alloc o)) := hid (fun o => HB2.out.drew.alloc HB2.out.drew.size o)
      have BW : Hid (∀ o, Below w.heap.size w (w2.drew.alloc o)) := hid (fun o => (FX.out _ (BA.out o)).2.2)
      go_region_held3 (fun W' => (W'.cell? ⟨w.heap.size, 0, none⟩ = some (.slice (some ⟨b, off, none⟩) sn sc) ∧ W'.cell? ⟨w.heap.size + 1, 0, none⟩ = some (.int .i64 kk) ∧ W'.cell? ⟨w.heap.size + 1, 1, none⟩ = some (.int .i64 ki) ∧ W'.cell? ⟨w.heap.size + 1, 2, none⟩ = some (.string kx) ∧ W'.cell? ⟨w.heap.size + 1, 3, none⟩ = some (.int .i64 kr) ∧ W'.cell? ⟨w.heap.size + 1, 4, none⟩ = some (.slice ka kn kc)) ∧ W'.cell? ⟨w.heap.size + 1 + 1, 0, none⟩ = some (.int .i64 vk) ∧ W'.cell? ⟨w.heap.size + 1 + 1, 1, none⟩ = some (.int .i64 vi) ∧ W'.cell? ⟨w.heap.size + 1 + 1, 2, none⟩ = some (.string vx) ∧ W'.cell? ⟨w.heap.size + 1 + 1, 3, none⟩ = some (.int .i64 vr) ∧ W'.cell? ⟨w.heap.size + 1 + 1, 4, none⟩ = some (.slice va vn vc)) (first | exact HSE.out _ B4.out | exact HSE.out _ (BA.out _) | exact HSE.out _ BD.out | go_keep) ((first
        | (refine step_appT (by rfl) _ _ (by rfl) _ (by rfl) w2.heap.size ⟨⟨kk, ki, kx, kr, ka, kn, kc⟩, ⟨vk, vi, vx, vr, va, vn, vc⟩⟩ (by rfl) ma at' (by rfl) ((mr.map (enT k)).take at') (by rw [List.length_take, List.length_map, ← Hmn.out]; omega) (by omega) ((E1.out _ (BW.out _)).take at') (heap_alloc_new w2.drew _) ?_; intro v4 w4 hr4 hg4; have B4 := hid (TR.out (BA.out _) (below_of_grown hg4)); obtain ⟨fa, fc, e4, hc4⟩ := hr4.form; obtain ⟨fn, hfn⟩ : ∃ fn, fn = ((mr.map (enT k)).take at' ++ [(⟨⟨kk, ki, kx, kr, ka, kn, kc⟩, ⟨vk, vi, vx, vr, va, vn, vc⟩⟩ : En)]).length := ⟨_, rfl⟩; rw [← hfn] at e4; subst e4; have R4 := hid hr4; have G4 := hid hg4.size; have H4l : Hid (((mr.map (enT k)).take at' ++ [(⟨⟨kk, ki, kx, kr, ka, kn, kc⟩, ⟨vk, vi, vx, vr, va, vn, vc⟩⟩ : En)]).length ≤ 1001) := hid (by simp only [List.length_append, List.length_take, List.length_map, List.length_singleton]; omega); have GA := hid (BA.out (.cells (⟨⟨kk, ki, kx, kr, ka, kn, kc⟩, ⟨vk, vi, vx, vr, va, vn, vc⟩⟩ : En).cs.toArray 81)).size; clear hr4 hg4 hc4 hfn)))
      go_wp2
      have BD4 := hid B4.out.drew
      have W4 := hid (FX.out _ B4.out).2.2
      have W4d := hid (FX.out _ BD4.out).2.2
      go_region_held3 (fun W' => (W'.cell? ⟨w.heap.size, 0, none⟩ = some (.slice (some ⟨b, off, none⟩) sn sc) ∧ W'.cell? ⟨w.heap.size + 1, 0, none⟩ = some (.int .i64 kk) ∧ W'.cell? ⟨w.heap.size + 1, 1, none⟩ = some (.int .i64 ki) ∧ W'.cell? ⟨w.heap.size + 1, 2, none⟩ = some (.string kx) ∧ W'.cell? ⟨w.heap.size + 1, 3, none⟩ = some (.int .i64 kr) ∧ W'.cell? ⟨w.heap.size + 1, 4, none⟩ = some (.slice ka kn kc)) ∧ W'.cell? ⟨w.heap.size + 1 + 1, 0, none⟩ = some (.int .i64 vk) ∧ W'.cell? ⟨w.heap.size + 1 + 1, 1, none⟩ = some (.int .i64 vi) ∧ W'.cell? ⟨w.heap.size + 1 + 1, 2, none⟩ = some (.string vx) ∧ W'.cell? ⟨w.heap.size + 1 + 1, 3, none⟩ = some (.int .i64 vr) ∧ W'.cell? ⟨w.heap.size + 1 + 1, 4, none⟩ = some (.slice va vn vc)) (first | exact SC.set (HSE.out _ B6.out) _ | exact HSE.out _ B6.out | exact HSE.out _ B5.out | exact HSE.out _ BD4.out | exact HSE.out _ B4.out | go_keep) ((first
        | (go_at_call 41; (have hno := R5; refine (K41.out w5 W5.out ga gn gc R5.out).mono ?_; rintro e w6 ⟨ja, jn, jc, ns, rfl, hb6, hjc, hst, hns⟩; have B6 := hid (TR.out B5.out hb6); obtain ⟨_, x6, bb6⟩ := FX.out w6 B6.out; have x60 := cellOf x6 0; have x6f := freeOf x6 0; simp only [List.getElem?_toArray, List.getElem?_cons_zero] at x60; have X6 := hid x6; have BB6 := hid bb6; have HST := hid hst; have HNS := hid hns; have hs6 := hb6.size; clear x6 bb6 hst hns hb6))
        | (refine step_appX (by rfl) _ _ (by rfl) (.slice fa fn fc) (by rfl) _ (by rfl) _ _ (R4.out.below (Nat.le_refl _) (Below.refl _ w4).drew) (by have := G4.out; simpa using this) ma mn mc (at' + 1) (by unfold sliced; rw [if_pos Hmb.out]; rfl) (mr.map (enT k)) (by rw [List.length_map]; exact Hmn.out) hmn2 hbh2 hcap (E1.out _ W4d.out) (by have := H4l.out; omega) ?_; intro v5 w5 hr5 hg5; rw [← Hmap.out] at hr5; have B5 := hid (grw_below BD4.out (R4.out.below (Nat.le_refl _) (Below.refl _ w4).drew) hg5 (by simp; omega)); obtain ⟨ga, gc, e5, hc5⟩ := hr5.form; obtain ⟨gn, hgn⟩ : ∃ gn, gn = (row'.map (enT k)).length := ⟨_, rfl⟩; rw [← hgn] at e5; subst e5; have W5 := hid (FX.out _ B5.out).2.2; have R5 : Hid (RwR k w5 ga gn row') := hid ⟨by rw [hgn, List.length_map], by rw [hgn, List.length_map]; exact hrlen, hr5.rd, fun q hq => hr1.out _ W5.out q hq⟩; clear hr5 hg5 hc5 hgn)))
      go_wp2
      have h5 := set_cells X6.out (.slice ja jn jc)
      have r0 := cellOf h5 0
      simp only [List.getElem?_toArray, List.getElem?_cons_zero, List.getElem?_cons_succ] at r0
      have hb5 := BB6.out.setCell (p := ⟨w.heap.size + 1 + 1 + 1, 0, none⟩) (by show w.heap.size ≤ w.heap.size + 1 + 1 + 1; omega) (.slice ja jn jc)
      have hs5 : (w6.setCell ⟨w.heap.size + 1 + 1 + 1, 0, none⟩ (.slice ja jn jc)).heap.size = w6.heap.size := by simp [World.setCell]
      have hsB := B5.out.size
      have hkp : ∀ x, w5.heap.size ≤ x → (w6.setCell ⟨w.heap.size + 1 + 1 + 1, 0, none⟩ (.slice ja jn jc)).heap[x]? = w6.heap[x]? := fun x hx => Below.heap_setCell _ _ _ _ (by show x ≠ w.heap.size + 1 + 1 + 1; omega)
      generalize w6.setCell ⟨w.heap.size + 1 + 1 + 1, 0, none⟩ (.slice ja jn jc) = W9 at *
      refine bodyPost_ret (v := .tuple #[.agg #[.slice ja jn jc], .int .i64 0]) (by simp [results, Try.results12, go_sem, r0]) rfl ⟨ja, jn, jc, ns, rfl, hb5, hjc, (HST.out.keep (fun x hx => hkp x hx.1)).imp (fun x hx => ⟨by omega, by omega⟩), HNS.out⟩
    · go_enter Try.func12, Try.ntmps12
      go_wp2_with (first
        | (go_at_call 39; (rw [← hW0]; refine (Hid.out K39 _).mono ?_; rintro e w1 ⟨rfl, hb1⟩; obtain ⟨⟨⟨c0, c1, c2, c3, c4, c5⟩, c6, c7, c8, c9, c10⟩, x2, bb⟩ := FX.out w1 hb1; have y0 := Hdc.out w1 bb; have HB1 := hid hb1; clear hb1 x2))
        | (go_at_call 40; (refine (Hid.out K40 w1 bb).mono ?_; rintro e w2 ⟨rfl, hb2⟩; have hb2' := TR.out HB1.out hb2; clear c0 c1 c2 c3 c4 c5 c6 c7 c8 c9 c10; obtain ⟨⟨⟨c0, c1, c2, c3, c4, c5⟩, c6, c7, c8, c9, c10⟩, x2, bb2⟩ := FX.out w2 hb2'; have HB2 := hid hb2'; have BB2 := hid bb2; clear hb2 hb2' x2)))
      have BD := hid HB2.out.drew
      have hs2 := HB2.out.size
      have hlow : (0 : Int) ≤ (at' : Int) + 1 := by omega
      try have hlow2 : (at' : Int) + 1 ≤ (mn : Int) := by omega
      have BA : Hid (∀ o, Below W0.heap.size W0 (w2.drew.alloc o)) := hid (fun o => HB2.out.drew.alloc HB2.out.drew.size o)
      have BW : Hid (∀ o, Below w.heap.size w (w2.drew.alloc o)) := hid (fun o => (FX.out _ (BA.out o)).2.2)
      go_region_held3 (fun W' => (W'.cell? ⟨w.heap.size, 0, none⟩ = some (.slice (some ⟨b, off, none⟩) sn sc) ∧ W'.cell? ⟨w.heap.size + 1, 0, none⟩ = some (.int .i64 kk) ∧ W'.cell? ⟨w.heap.size + 1, 1, none⟩ = some (.int .i64 ki) ∧ W'.cell? ⟨w.heap.size + 1, 2, none⟩ = some (.string kx) ∧ W'.cell? ⟨w.heap.size + 1, 3, none⟩ = some (.int .i64 kr) ∧ W'.cell? ⟨w.heap.size + 1, 4, none⟩ = some (.slice ka kn kc)) ∧ W'.cell? ⟨w.heap.size + 1 + 1, 0, none⟩ = some (.int .i64 vk) ∧ W'.cell? ⟨w.heap.size + 1 + 1, 1, none⟩ = some (.int .i64 vi) ∧ W'.cell? ⟨w.heap.size + 1 + 1, 2, none⟩ = some (.string vx) ∧ W'.cell? ⟨w.heap.size + 1 + 1, 3, none⟩ = some (.int .i64 vr) ∧ W'.cell? ⟨w.heap.size + 1 + 1, 4, none⟩ = some (.slice va vn vc)) (first | exact HSE.out _ B4.out | exact HSE.out _ (BA.out _) | exact HSE.out _ BD.out | go_keep) ((first
        | (refine step_appT (by rfl) _ _ (by rfl) _ (by rfl) w2.heap.size ⟨⟨kk, ki, kx, kr, ka, kn, kc⟩, ⟨vk, vi, vx, vr, va, vn, vc⟩⟩ (by rfl) ma at' (by rfl) ((mr.map (enT k)).take at') (by rw [List.length_take, List.length_map, ← Hmn.out]; omega) (by omega) ((E1.out _ (BW.out _)).take at') (heap_alloc_new w2.drew _) ?_; intro v4 w4 hr4 hg4; have B4 := hid (TR.out (BA.out _) (below_of_grown hg4)); obtain ⟨fa, fc, e4, hc4⟩ := hr4.form; obtain ⟨fn, hfn⟩ : ∃ fn, fn = ((mr.map (enT k)).take at' ++ [(⟨⟨kk, ki, kx, kr, ka, kn, kc⟩, ⟨vk, vi, vx, vr, va, vn, vc⟩⟩ : En)]).length := ⟨_, rfl⟩; rw [← hfn] at e4; subst e4; have R4 := hid hr4; have G4 := hid hg4.size; have H4l : Hid (((mr.map (enT k)).take at' ++ [(⟨⟨kk, ki, kx, kr, ka, kn, kc⟩, ⟨vk, vi, vx, vr, va, vn, vc⟩⟩ : En)]).length ≤ 1001) := hid (by simp only [List.length_append, List.length_take, List.length_map, List.length_singleton]; omega); have GA := hid (BA.out (.cells (⟨⟨kk, ki, kx, kr, ka, kn, kc⟩, ⟨vk, vi, vx, vr, va, vn, vc⟩⟩ : En).cs.toArray 81)).size; clear hr4 hg4 hc4 hfn)))
      go_wp2
      have BD4 := hid B4.out.drew
      have W4 := hid (FX.out _ B4.out).2.2
      have W4d := hid (FX.out _ BD4.out).2.2
      go_region_held3 (fun W' => (W'.cell? ⟨w.heap.size, 0, none⟩ = some (.slice (some ⟨b, off, none⟩) sn sc) ∧ W'.cell? ⟨w.heap.size + 1, 0, none⟩ = some (.int .i64 kk) ∧ W'.cell? ⟨w.heap.size + 1, 1, none⟩ = some (.int .i64 ki) ∧ W'.cell? ⟨w.heap.size + 1, 2, none⟩ = some (.string kx) ∧ W'.cell? ⟨w.heap.size + 1, 3, none⟩ = some (.int .i64 kr) ∧ W'.cell? ⟨w.heap.size + 1, 4, none⟩ = some (.slice ka kn kc)) ∧ W'.cell? ⟨w.heap.size + 1 + 1, 0, none⟩ = some (.int .i64 vk) ∧ W'.cell? ⟨w.heap.size + 1 + 1, 1, none⟩ = some (.int .i64 vi) ∧ W'.cell? ⟨w.heap.size + 1 + 1, 2, none⟩ = some (.string vx) ∧ W'.cell? ⟨w.heap.size + 1 + 1, 3, none⟩ = some (.int .i64 vr) ∧ W'.cell? ⟨w.heap.size + 1 + 1, 4, none⟩ = some (.slice va vn vc)) (first | exact SC.set (HSE.out _ B6.out) _ | exact HSE.out _ B6.out | exact HSE.out _ B5.out | exact HSE.out _ BD4.out | exact HSE.out _ B4.out | go_keep) ((first
        | (go_at_call 41; (have hno := R5; refine (K41.out w5 W5.out ga gn gc R5.out).mono ?_; rintro e w6 ⟨ja, jn, jc, ns, rfl, hb6, hjc, hst, hns⟩; have B6 := hid (TR.out B5.out hb6); obtain ⟨_, x6, bb6⟩ := FX.out w6 B6.out; have x60 := cellOf x6 0; have x6f := freeOf x6 0; simp only [List.getElem?_toArray, List.getElem?_cons_zero] at x60; have X6 := hid x6; have BB6 := hid bb6; have HST := hid hst; have HNS := hid hns; have hs6 := hb6.size; clear x6 bb6 hst hns hb6))
        | (refine step_appX (by rfl) _ _ (by rfl) (.slice fa fn fc) (by rfl) _ (by rfl) _ _ (R4.out.below (Nat.le_refl _) (Below.refl _ w4).drew) (by have := G4.out; simpa using this) ma mn mc (at' + 1) (by unfold sliced; rw [if_neg hmb]; rfl) (mr.map (enT k)) (by rw [List.length_map]; exact Hmn.out) hmn2 hbh2 hcap (E1.out _ W4d.out) (by have := H4l.out; omega) ?_; intro v5 w5 hr5 hg5; rw [← Hmap.out] at hr5; have B5 := hid (grw_below BD4.out (R4.out.below (Nat.le_refl _) (Below.refl _ w4).drew) hg5 (by simp; omega)); obtain ⟨ga, gc, e5, hc5⟩ := hr5.form; obtain ⟨gn, hgn⟩ : ∃ gn, gn = (row'.map (enT k)).length := ⟨_, rfl⟩; rw [← hgn] at e5; subst e5; have W5 := hid (FX.out _ B5.out).2.2; have R5 : Hid (RwR k w5 ga gn row') := hid ⟨by rw [hgn, List.length_map], by rw [hgn, List.length_map]; exact hrlen, hr5.rd, fun q hq => hr1.out _ W5.out q hq⟩; clear hr5 hg5 hc5 hgn)))
      go_wp2
      have h5 := set_cells X6.out (.slice ja jn jc)
      have r0 := cellOf h5 0
      simp only [List.getElem?_toArray, List.getElem?_cons_zero, List.getElem?_cons_succ] at r0
      have hb5 := BB6.out.setCell (p := ⟨w.heap.size + 1 + 1 + 1, 0, none⟩) (by show w.heap.size ≤ w.heap.size + 1 + 1 + 1; omega) (.slice ja jn jc)
      have hs5 : (w6.setCell ⟨w.heap.size + 1 + 1 + 1, 0, none⟩ (.slice ja jn jc)).heap.size = w6.heap.size := by simp [World.setCell]
      have hsB := B5.out.size
      have hkp : ∀ x, w5.heap.size ≤ x → (w6.setCell ⟨w.heap.size + 1 + 1 + 1, 0, none⟩ (.slice ja jn jc)).heap[x]? = w6.heap[x]? := fun x hx => Below.heap_setCell _ _ _ _ (by show x ≠ w.heap.size + 1 + 1 + 1; omega)
      generalize w6.setCell ⟨w.heap.size + 1 + 1 + 1, 0, none⟩ (.slice ja jn jc) = W9 at *
      refine bodyPost_ret (v := .tuple #[.agg #[.slice ja jn jc], .int .i64 0]) (by simp [results, Try.results12, go_sem, r0]) rfl ⟨ja, jn, jc, ns, rfl, hb5, hjc, (HST.out.keep (fun x hx => hkp x hx.1)).imp (fun x hx => ⟨by omega, by omega⟩), HNS.out⟩

  | false =>
    have hb1 := (hbf rfl).symm
    have hlt24 : mn < 24 := by rcases hok with h | h; · cases h
                               · exact h
    have hlt24' : ¬ (24 : Int) ≤ (mn : Int) := by omega
    clear hbt hbf hok
    subst hb1
    by_cases hmb : mc = at'
    · have hmt := eq_true hmb
      have Hmb := hid hmb
      clear hmb
      go_enter Try.func12, Try.ntmps12
      go_wp2_with (first
        | (go_at_call 39; (rw [← hW0]; refine (Hid.out K39 _).mono ?_; rintro e w1 ⟨rfl, hb1⟩; obtain ⟨⟨⟨c0, c1, c2, c3, c4, c5⟩, c6, c7, c8, c9, c10⟩, x2, bb⟩ := FX.out w1 hb1; have y0 := Hdc.out w1 bb; have HB1 := hid hb1; clear hb1 x2))
        | (go_at_call 40; (refine (Hid.out K40 w1 bb).mono ?_; rintro e w2 ⟨rfl, hb2⟩; have hb2' := TR.out HB1.out hb2; clear c0 c1 c2 c3 c4 c5 c6 c7 c8 c9 c10; obtain ⟨⟨⟨c0, c1, c2, c3, c4, c5⟩, c6, c7, c8, c9, c10⟩, x2, bb2⟩ := FX.out w2 hb2'; have HB2 := hid hb2'; have BB2 := hid bb2; clear hb2 hb2' x2)))
      have BD := hid HB2.out.drew
      have hs2 := HB2.out.size
      have hlow : (0 : Int) ≤ (at' : Int) + 1 := by omega
      try have hlow2 : (at' : Int) + 1 ≤ (mn : Int) := by omega
      have BA : Hid (∀ o, Below W0.heap.size W0 (w2.drew.alloc o)) := hid (fun o => HB2.out.drew.alloc HB2.out.drew.size o)
      have BW : Hid (∀ o, Below w.heap.size w (w2.drew.alloc o)) := hid (fun o => (FX.out _ (BA.out o)).2.2)
      go_region_held3 (fun W' => (W'.cell? ⟨w.heap.size, 0, none⟩ = some (.slice (some ⟨b, off, none⟩) sn sc) ∧ W'.cell? ⟨w.heap.size + 1, 0, none⟩ = some (.int .i64 kk) ∧ W'.cell? ⟨w.heap.size + 1, 1, none⟩ = some (.int .i64 ki) ∧ W'.cell? ⟨w.heap.size + 1, 2, none⟩ = some (.string kx) ∧ W'.cell? ⟨w.heap.size + 1, 3, none⟩ = some (.int .i64 kr) ∧ W'.cell? ⟨w.heap.size + 1, 4, none⟩ = some (.slice ka kn kc)) ∧ W'.cell? ⟨w.heap.size + 1 + 1, 0, none⟩ = some (.int .i64 vk) ∧ W'.cell? ⟨w.heap.size + 1 + 1, 1, none⟩ = some (.int .i64 vi) ∧ W'.cell? ⟨w.heap.size + 1 + 1, 2, none⟩ = some (.string vx) ∧ W'.cell? ⟨w.heap.size + 1 + 1, 3, none⟩ = some (.int .i64 vr) ∧ W'.cell? ⟨w.heap.size + 1 + 1, 4, none⟩ = some (.slice va vn vc)) (first | exact HSE.out _ B4.out | exact HSE.out _ (BA.out _) | exact HSE.out _ BD.out | go_keep) ((first
        | (refine step_appT (by rfl) _ _ (by rfl) _ (by rfl) w2.heap.size ⟨⟨kk, ki, kx, kr, ka, kn, kc⟩, ⟨vk, vi, vx, vr, va, vn, vc⟩⟩ (by rfl) ma at' (by rfl) ((mr.map (enT k)).take at') (by rw [List.length_take, List.length_map, ← Hmn.out]; omega) (by omega) ((E1.out _ (BW.out _)).take at') (heap_alloc_new w2.drew _) ?_; intro v4 w4 hr4 hg4; have B4 := hid (TR.out (BA.out _) (below_of_grown hg4)); obtain ⟨fa, fc, e4, hc4⟩ := hr4.form; obtain ⟨fn, hfn⟩ : ∃ fn, fn = ((mr.map (enT k)).take at' ++ [(⟨⟨kk, ki, kx, kr, ka, kn, kc⟩, ⟨vk, vi, vx, vr, va, vn, vc⟩⟩ : En)]).length := ⟨_, rfl⟩; rw [← hfn] at e4; subst e4; have R4 := hid hr4; have G4 := hid hg4.size; have H4l : Hid (((mr.map (enT k)).take at' ++ [(⟨⟨kk, ki, kx, kr, ka, kn, kc⟩, ⟨vk, vi, vx, vr, va, vn, vc⟩⟩ : En)]).length ≤ 1001) := hid (by simp only [List.length_append, List.length_take, List.length_map, List.length_singleton]; omega); have GA := hid (BA.out (.cells (⟨⟨kk, ki, kx, kr, ka, kn, kc⟩, ⟨vk, vi, vx, vr, va, vn, vc⟩⟩ : En).cs.toArray 81)).size; clear hr4 hg4 hc4 hfn)))
      go_wp2
      have BD4 := hid B4.out.drew
      have W4 := hid (FX.out _ B4.out).2.2
      have W4d := hid (FX.out _ BD4.out).2.2
      go_region_held3 (fun W' => (W'.cell? ⟨w.heap.size, 0, none⟩ = some (.slice (some ⟨b, off, none⟩) sn sc) ∧ W'.cell? ⟨w.heap.size + 1, 0, none⟩ = some (.int .i64 kk) ∧ W'.cell? ⟨w.heap.size + 1, 1, none⟩ = some (.int .i64 ki) ∧ W'.cell? ⟨w.heap.size + 1, 2, none⟩ = some (.string kx) ∧ W'.cell? ⟨w.heap.size + 1, 3, none⟩ = some (.int .i64 kr) ∧ W'.cell? ⟨w.heap.size + 1, 4, none⟩ = some (.slice ka kn kc)) ∧ W'.cell? ⟨w.heap.size + 1 + 1, 0, none⟩ = some (.int .i64 vk) ∧ W'.cell? ⟨w.heap.size + 1 + 1, 1, none⟩ = some (.int .i64 vi) ∧ W'.cell? ⟨w.heap.size + 1 + 1, 2, none⟩ = some (.string vx) ∧ W'.cell? ⟨w.heap.size + 1 + 1, 3, none⟩ = some (.int .i64 vr) ∧ W'.cell? ⟨w.heap.size + 1 + 1, 4, none⟩ = some (.slice va vn vc)) (first | exact SC.set (HSE.out _ B6.out) _ | exact HSE.out _ B6.out | exact HSE.out _ B5.out | exact HSE.out _ BD4.out | exact HSE.out _ B4.out | go_keep) ((first
        | (go_at_call 41; (have hno := R5; refine (K41.out w5 W5.out ga gn gc R5.out).mono ?_; rintro e w6 ⟨ja, jn, jc, ns, rfl, hb6, hjc, hst, hns⟩; have B6 := hid (TR.out B5.out hb6); obtain ⟨_, x6, bb6⟩ := FX.out w6 B6.out; have x60 := cellOf x6 0; have x6f := freeOf x6 0; simp only [List.getElem?_toArray, List.getElem?_cons_zero] at x60; have X6 := hid x6; have BB6 := hid bb6; have HST := hid hst; have HNS := hid hns; have hs6 := hb6.size; clear x6 bb6 hst hns hb6))
        | (refine step_appX (by rfl) _ _ (by rfl) (.slice fa fn fc) (by rfl) _ (by rfl) _ _ (R4.out.below (Nat.le_refl _) (Below.refl _ w4).drew) (by have := G4.out; simpa using this) ma mn mc at' (by unfold sliced; rw [if_pos Hmb.out]; rfl) (mr.map (enT k)) (by rw [List.length_map]; exact Hmn.out) hmn2 hbh2 hcap (E1.out _ W4d.out) (by have := H4l.out; omega) ?_; intro v5 w5 hr5 hg5; rw [← Hmap.out] at hr5; have B5 := hid (grw_below BD4.out (R4.out.below (Nat.le_refl _) (Below.refl _ w4).drew) hg5 (by simp; omega)); obtain ⟨ga, gc, e5, hc5⟩ := hr5.form; obtain ⟨gn, hgn⟩ : ∃ gn, gn = (row'.map (enT k)).length := ⟨_, rfl⟩; rw [← hgn] at e5; subst e5; have W5 := hid (FX.out _ B5.out).2.2; have R5 : Hid (RwR k w5 ga gn row') := hid ⟨by rw [hgn, List.length_map], by rw [hgn, List.length_map]; exact hrlen, hr5.rd, fun q hq => hr1.out _ W5.out q hq⟩; clear hr5 hg5 hc5 hgn)))
      go_wp2
      have h5 := set_cells X6.out (.slice ja jn jc)
      have r0 := cellOf h5 0
      simp only [List.getElem?_toArray, List.getElem?_cons_zero, List.getElem?_cons_succ] at r0
      have hb5 := BB6.out.setCell (p := ⟨w.heap.size + 1 + 1 + 1, 0, none⟩) (by show w.heap.size ≤ w.heap.size + 1 + 1 + 1; omega) (.slice ja jn jc)
      have hs5 : (w6.setCell ⟨w.heap.size + 1 + 1 + 1, 0, none⟩ (.slice ja jn jc)).heap.size = w6.heap.size := by simp [World.setCell]
      have hsB := B5.out.size
      have hkp : ∀ x, w5.heap.size ≤ x → (w6.setCell ⟨w.heap.size + 1 + 1 + 1, 0, none⟩ (.slice ja jn jc)).heap[x]? = w6.heap[x]? := fun x hx => Below.heap_setCell _ _ _ _ (by show x ≠ w.heap.size + 1 + 1 + 1; omega)
      generalize w6.setCell ⟨w.heap.size + 1 + 1 + 1, 0, none⟩ (.slice ja jn jc) = W9 at *
      refine bodyPost_ret (v := .tuple #[.agg #[.slice ja jn jc], .int .i64 0]) (by simp [results, Try.results12, go_sem, r0]) rfl ⟨ja, jn, jc, ns, rfl, hb5, hjc, (HST.out.keep (fun x hx => hkp x hx.1)).imp (fun x hx => ⟨by omega, by omega⟩), HNS.out⟩
    · go_enter Try.func12, Try.ntmps12
      go_wp2_with (first
        | (go_at_call 39; (rw [← hW0]; refine (Hid.out K39 _).mono ?_; rintro e w1 ⟨rfl, hb1⟩; obtain ⟨⟨⟨c0, c1, c2, c3, c4, c5⟩, c6, c7, c8, c9, c10⟩, x2, bb⟩ := FX.out w1 hb1; have y0 := Hdc.out w1 bb; have HB1 := hid hb1; clear hb1 x2))
        | (go_at_call 40; (refine (Hid.out K40 w1 bb).mono ?_; rintro e w2 ⟨rfl, hb2⟩; have hb2' := TR.out HB1.out hb2; clear c0 c1 c2 c3 c4 c5 c6 c7 c8 c9 c10; obtain ⟨⟨⟨c0, c1, c2, c3, c4, c5⟩, c6, c7, c8, c9, c10⟩, x2, bb2⟩ := FX.out w2 hb2'; have HB2 := hid hb2'; have BB2 := hid bb2; clear hb2 hb2' x2)))
      have BD := hid HB2.out.drew
      have hs2 := HB2.out.size
      have hlow : (0 : Int) ≤ (at' : Int) + 1 := by omega
      try have hlow2 : (at' : Int) + 1 ≤ (mn : Int) := by omega
      have BA : Hid (∀ o, Below W0.heap.size W0 (w2.drew.alloc o)) := hid (fun o => HB2.out.drew.alloc HB2.out.drew.size o)
      have BW : Hid (∀ o, Below w.heap.size w (w2.drew.alloc o)) := hid (fun o => (FX.out _ (BA.out o)).2.2)
      go_region_held3 (fun W' => (W'.cell? ⟨w.heap.size, 0, none⟩ = some (.slice (some ⟨b, off, none⟩) sn sc) ∧ W'.cell? ⟨w.heap.size + 1, 0, none⟩ = some (.int .i64 kk) ∧ W'.cell? ⟨w.heap.size + 1, 1, none⟩ = some (.int .i64 ki) ∧ W'.cell? ⟨w.heap.size + 1, 2, none⟩ = some (.string kx) ∧ W'.cell? ⟨w.heap.size + 1, 3, none⟩ = some (.int .i64 kr) ∧ W'.cell? ⟨w.heap.size + 1, 4, none⟩ = some (.slice ka kn kc)) ∧ W'.cell? ⟨w.heap.size + 1 + 1, 0, none⟩ = some (.int .i64 vk) ∧ W'.cell? ⟨w.heap.size + 1 + 1, 1, none⟩ = some (.int .i64 vi) ∧ W'.cell? ⟨w.heap.size + 1 + 1, 2, none⟩ = some (.string vx) ∧ W'.cell? ⟨w.heap.size + 1 + 1, 3, none⟩ = some (.int .i64 vr) ∧ W'.cell? ⟨w.heap.size + 1 + 1, 4, none⟩ = some (.slice va vn vc)) (first | exact HSE.out _ B4.out | exact HSE.out _ (BA.out _) | exact HSE.out _ BD.out | go_keep) ((first
        | (refine step_appT (by rfl) _ _ (by rfl) _ (by rfl) w2.heap.size ⟨⟨kk, ki, kx, kr, ka, kn, kc⟩, ⟨vk, vi, vx, vr, va, vn, vc⟩⟩ (by rfl) ma at' (by rfl) ((mr.map (enT k)).take at') (by rw [List.length_take, List.length_map, ← Hmn.out]; omega) (by omega) ((E1.out _ (BW.out _)).take at') (heap_alloc_new w2.drew _) ?_; intro v4 w4 hr4 hg4; have B4 := hid (TR.out (BA.out _) (below_of_grown hg4)); obtain ⟨fa, fc, e4, hc4⟩ := hr4.form; obtain ⟨fn, hfn⟩ : ∃ fn, fn = ((mr.map (enT k)).take at' ++ [(⟨⟨kk, ki, kx, kr, ka, kn, kc⟩, ⟨vk, vi, vx, vr, va, vn, vc⟩⟩ : En)]).length := ⟨_, rfl⟩; rw [← hfn] at e4; subst e4; have R4 := hid hr4; have G4 := hid hg4.size; have H4l : Hid (((mr.map (enT k)).take at' ++ [(⟨⟨kk, ki, kx, kr, ka, kn, kc⟩, ⟨vk, vi, vx, vr, va, vn, vc⟩⟩ : En)]).length ≤ 1001) := hid (by simp only [List.length_append, List.length_take, List.length_map, List.length_singleton]; omega); have GA := hid (BA.out (.cells (⟨⟨kk, ki, kx, kr, ka, kn, kc⟩, ⟨vk, vi, vx, vr, va, vn, vc⟩⟩ : En).cs.toArray 81)).size; clear hr4 hg4 hc4 hfn)))
      go_wp2
      have BD4 := hid B4.out.drew
      have W4 := hid (FX.out _ B4.out).2.2
      have W4d := hid (FX.out _ BD4.out).2.2
      go_region_held3 (fun W' => (W'.cell? ⟨w.heap.size, 0, none⟩ = some (.slice (some ⟨b, off, none⟩) sn sc) ∧ W'.cell? ⟨w.heap.size + 1, 0, none⟩ = some (.int .i64 kk) ∧ W'.cell? ⟨w.heap.size + 1, 1, none⟩ = some (.int .i64 ki) ∧ W'.cell? ⟨w.heap.size + 1, 2, none⟩ = some (.string kx) ∧ W'.cell? ⟨w.heap.size + 1, 3, none⟩ = some (.int .i64 kr) ∧ W'.cell? ⟨w.heap.size + 1, 4, none⟩ = some (.slice ka kn kc)) ∧ W'.cell? ⟨w.heap.size + 1 + 1, 0, none⟩ = some (.int .i64 vk) ∧ W'.cell? ⟨w.heap.size + 1 + 1, 1, none⟩ = some (.int .i64 vi) ∧ W'.cell? ⟨w.heap.size + 1 + 1, 2, none⟩ = some (.string vx) ∧ W'.cell? ⟨w.heap.size + 1 + 1, 3, none⟩ = some (.int .i64 vr) ∧ W'.cell? ⟨w.heap.size + 1 + 1, 4, none⟩ = some (.slice va vn vc)) (first | exact SC.set (HSE.out _ B6.out) _ | exact HSE.out _ B6.out | exact HSE.out _ B5.out | exact HSE.out _ BD4.out | exact HSE.out _ B4.out | go_keep) ((first
        | (go_at_call 41; (have hno := R5; refine (K41.out w5 W5.out ga gn gc R5.out).mono ?_; rintro e w6 ⟨ja, jn, jc, ns, rfl, hb6, hjc, hst, hns⟩; have B6 := hid (TR.out B5.out hb6); obtain ⟨_, x6, bb6⟩ := FX.out w6 B6.out; have x60 := cellOf x6 0; have x6f := freeOf x6 0; simp only [List.getElem?_toArray, List.getElem?_cons_zero] at x60; have X6 := hid x6; have BB6 := hid bb6; have HST := hid hst; have HNS := hid hns; have hs6 := hb6.size; clear x6 bb6 hst hns hb6))
        | (refine step_appX (by rfl) _ _ (by rfl) (.slice fa fn fc) (by rfl) _ (by rfl) _ _ (R4.out.below (Nat.le_refl _) (Below.refl _ w4).drew) (by have := G4.out; simpa using this) ma mn mc at' (by unfold sliced; rw [if_neg hmb]; rfl) (mr.map (enT k)) (by rw [List.length_map]; exact Hmn.out) hmn2 hbh2 hcap (E1.out _ W4d.out) (by have := H4l.out; omega) ?_; intro v5 w5 hr5 hg5; rw [← Hmap.out] at hr5; have B5 := hid (grw_below BD4.out (R4.out.below (Nat.le_refl _) (Below.refl _ w4).drew) hg5 (by simp; omega)); obtain ⟨ga, gc, e5, hc5⟩ := hr5.form; obtain ⟨gn, hgn⟩ : ∃ gn, gn = (row'.map (enT k)).length := ⟨_, rfl⟩; rw [← hgn] at e5; subst e5; have W5 := hid (FX.out _ B5.out).2.2; have R5 : Hid (RwR k w5 ga gn row') := hid ⟨by rw [hgn, List.length_map], by rw [hgn, List.length_map]; exact hrlen, hr5.rd, fun q hq => hr1.out _ W5.out q hq⟩; clear hr5 hg5 hc5 hgn)))
      go_wp2
      have h5 := set_cells X6.out (.slice ja jn jc)
      have r0 := cellOf h5 0
      simp only [List.getElem?_toArray, List.getElem?_cons_zero, List.getElem?_cons_succ] at r0
      have hb5 := BB6.out.setCell (p := ⟨w.heap.size + 1 + 1 + 1, 0, none⟩) (by show w.heap.size ≤ w.heap.size + 1 + 1 + 1; omega) (.slice ja jn jc)
      have hs5 : (w6.setCell ⟨w.heap.size + 1 + 1 + 1, 0, none⟩ (.slice ja jn jc)).heap.size = w6.heap.size := by simp [World.setCell]
      have hsB := B5.out.size
      have hkp : ∀ x, w5.heap.size ≤ x → (w6.setCell ⟨w.heap.size + 1 + 1 + 1, 0, none⟩ (.slice ja jn jc)).heap[x]? = w6.heap[x]? := fun x hx => Below.heap_setCell _ _ _ _ (by show x ≠ w.heap.size + 1 + 1 + 1; omega)
      generalize w6.setCell ⟨w.heap.size + 1 + 1 + 1, 0, none⟩ (.slice ja jn jc) = W9 at *
      refine bodyPost_ret (v := .tuple #[.agg #[.slice ja jn jc], .int .i64 0]) (by simp [results, Try.results12, go_sem, r0]) rfl ⟨ja, jn, jc, ns, rfl, hb5, hjc, (HST.out.keep (fun x hx => hkp x hx.1)).imp (fun x hx => ⟨by omega, by omega⟩), HNS.out⟩



end Go.Proofs.Ytenfgahedbeekaa

namespace Go.Proofs.Ytenfgahedbeekaa
open Go.RowKit Go.Deep Go.Shelf
set_option linter.unusedVariables false
set_option linter.unusedSimpArgs false

abbrev RC (k : Nat) := List (CT k × CT k)
def StCR (k : Nat) (w : World) (a : Option Addr) (n : Nat) (S : List (RC k)) : Prop := ∃ ms, StR k w a n ms ∧ ms.map (fun q => rowC k q.2) = S
def StCP (k : Nat) (w : World) (A : Nat → Prop) (a : Option Addr) (n : Nat) (S : List (RC k)) : Prop := ∃ ms, StP k w A a n ms ∧ ms.map (fun q => rowC k q.2) = S
theorem StCP.cr {k : Nat} {w : World} {A : Nat → Prop} {a : Option Addr} {n : Nat} {S : List (RC k)} (h : StCP k w A a n S) : StCR k w a n S := by
  obtain ⟨ms, h1, h2⟩ := h
  exact ⟨ms, h1.str, h2⟩
theorem StCP.keep {k : Nat} {w w' : World} {A : Nat → Prop} {a : Option Addr} {n : Nat} {S : List (RC k)} (h : StCP k w A a n S) (e : ∀ b, A b → w'.heap[b]? = w.heap[b]?) : StCP k w' A a n S := by
  obtain ⟨ms, h1, h2⟩ := h
  exact ⟨ms, h1.keep e, h2⟩
theorem StCP.imp {k : Nat} {w : World} {A B : Nat → Prop} {a : Option Addr} {n : Nat} {S : List (RC k)} (h : StCP k w A a n S) (i : ∀ b, A b → B b) : StCP k w B a n S := by
  obtain ⟨ms, h1, h2⟩ := h
  exact ⟨ms, h1.imp i, h2⟩
theorem StCR.below {k : Nat} {w w' : World} {a : Option Addr} {n : Nat} {S : List (RC k)} {B : Nat} (h : StCR k w a n S) (hB : w.heap.size ≤ B) (hb : Below B w w') : StCR k w' a n S := by
  obtain ⟨ms, h1, h2⟩ := h
  exact ⟨ms, h1.below hB hb, h2⟩
theorem StCR.len {k : Nat} {w : World} {a : Option Addr} {n : Nat} {S : List (RC k)} (h : StCR k w a n S) : n = S.length ∧ n ≤ 1000 := by
  obtain ⟨ms, h1, h2⟩ := h
  exact ⟨by rw [← h2, List.length_map, h1.n1], h1.n2⟩
def rowOf {k : Nat} (S : List (RC k)) (m : Int) : RC k := if 0 ≤ m then (S[m.toNat]?).getD [] else []
theorem rowAt_c {k : Nat} {ms : List (Sl × Rw k)} {S : List (RC k)} (h : ms.map (fun q => rowC k q.2) = S) (m : Int) : rowC k (rowAt ms m) = rowOf S m := by
  unfold rowAt rowOf
  split
  · rw [← h, List.getElem?_map]
    cases ms[m.toNat]? <;> rfl
  · rfl
theorem find_c {k : Nat} (r : Rw k) (P : CT k → Bool) (f : CT k × CT k → CT k) (g : VT k × VT k → CT k) (hg : ∀ p, g p = f (ofP k p)) : (r.find? (fun p => P (ofT k p.1))).map g = ((rowC k r).find? (fun q => P q.1)).map f := by
  unfold rowC
  rw [List.find?_map]
  have : (fun q : CT k × CT k => P q.1) ∘ ofP k = fun p => P (ofT k p.1) := rfl
  rw [this]
  cases r.find? (fun p => P (ofT k p.1)) with
  | none => rfl
  | some p => simp [hg]
theorem next_c (k : Nat) (w : World) (sa : Option Addr) (sn sc : Nat) (S : List (RC k)) (hd : StCR k w sa sn S) (m : Int) (h : Hd) (c : CT k) (hk : RdC k w h c) :
    Calls Try.prog 19 #[.agg #[.slice sa sn sc], .int .i64 m, h.v] w (MbP k w (((rowOf S m).find? (fun q => decide (0 < cmpC k q.1 c))).map (·.1))) := by
  obtain ⟨ms, h1, h2⟩ := hd
  obtain ⟨t, rfl, t2, rfl⟩ := hk
  have := next_any k w sa sn sc ms h1 m t t2
  have e : ((rowAt ms m).find? (fun p => decide (0 < cmpT k p.1 t))).map (fun p => ofT k p.1) = ((rowOf S m).find? (fun q => decide (0 < cmpC k q.1 (ofT k t)))).map (·.1) := by
    rw [← rowAt_c h2 m, ← find_c (rowAt ms m) (fun c => decide (0 < cmpC k c (ofT k t))) (·.1) (fun p => ofT k p.1) (fun p => rfl)]
    simp only [cmpC_of]
  rw [e] at this
  exact this
theorem first_c (k : Nat) (w : World) (sa : Option Addr) (sn sc : Nat) (S : List (RC k)) (hd : StCR k w sa sn S) (m : Int) :
    Calls Try.prog 21 #[.agg #[.slice sa sn sc], .int .i64 m] w (MbP k w ((rowOf S m).head?.map (·.1))) := by
  obtain ⟨ms, h1, h2⟩ := hd
  have := first_any k w sa sn sc ms h1 m
  have e : ((rowAt ms m).head?.map fun p => ofT k p.1) = (rowOf S m).head?.map (·.1) := by
    rw [← rowAt_c h2 m]
    unfold rowC
    cases rowAt ms m <;> rfl
  rw [e] at this
  exact this
/- A state told: in new memory. -/
def StTold (k : Nat) (w : World) (S : List (RC k)) (e : Ending) (w' : World) : Prop := ∃ fa fn fc, e = .returned (.agg #[.slice fa fn fc]) ∧ Below w.heap.size w w' ∧ fn ≤ fc ∧ StCP k w' (fun b => w.heap.size ≤ b ∧ b < w'.heap.size) fa fn S
theorem wth_c {k : Nat} (m : Int) (r : RC k) (S : List (RC k)) : wth m r S = if 0 ≤ m then S.set m.toNat r else S := by
  unfold wth
  by_cases h0 : 0 ≤ m
  · rw [if_pos h0]
    apply List.ext_getElem?
    intro i
    rw [List.getElem?_mapIdx, List.getElem?_set]
    by_cases h : m.toNat = i
    · rw [if_pos h]
      subst h
      by_cases hl : m.toNat < S.length
      · rw [if_pos hl, List.getElem?_eq_getElem hl, Option.map_some, if_pos (by omega)]
      · rw [if_neg hl, List.getElem?_eq_none (by omega)]
        rfl
    · rw [if_neg h]
      cases S[i]? with
      | none => rfl
      | some x => rw [Option.map_some, if_neg (by omega)]
  · rw [if_neg h0]
    apply List.ext_getElem?
    intro i
    rw [List.getElem?_mapIdx]
    cases S[i]? with
    | none => rfl
    | some x => rw [Option.map_some, if_neg (by omega)]
theorem del_c (k : Nat) (w : World) (sa : Option Addr) (sn sc : Nat) (S : List (RC k)) (hd : StCR k w sa sn S) (m : Int) (h : Hd) (c : CT k) (hk : RdC k w h c) :
    Calls Try.prog 15 #[.agg #[.slice sa sn sc], .int .i64 m, h.v] w (StTold k w (if 0 ≤ m then S.set m.toNat ((rowOf S m).filter fun q => !(cmpC k q.1 c == 0)) else S)) := by
  obtain ⟨ms, h1, h2⟩ := hd
  obtain ⟨t, rfl, t2, rfl⟩ := hk
  refine (del_any k w sa sn sc ms h1 m t t2).mono ?_
  rintro e w' ⟨fa, fn, fc, ns, he, hb, hc, hs, hn⟩
  refine ⟨fa, fn, fc, he, hb, hc, ns, hs, ?_⟩
  rw [hn, wth_c, h2]
  have : rowC k ((rowAt ms m).filter fun p => !(cmpT k p.1 t == 0)) = (rowOf S m).filter fun q => !(cmpC k q.1 (ofT k t) == 0) := by
    rw [← rowAt_c h2 m]
    unfold rowC
    rw [List.filter_map]
    congr 1
    apply List.filter_congr
    intro p _
    simp only [Function.comp, ofP, cmpC_of]
  rw [this]
theorem placeR_map {α β : Type} (c : β → Int) (f : α → β) (l : List α) : placeR (fun a => c (f a)) l = placeR c (l.map f) := by
  unfold placeR
  have e : plQ c ∘ f = plQ (fun a => c (f a)) := rfl
  rw [List.findIdx_map, List.find?_map, e]
  refine Prod.ext rfl ?_
  show _ = Option.getD (Option.map (fun a => c a == 0) (Option.map f (List.find? (plQ fun a => c (f a)) l))) false
  cases List.find? (plQ fun a => c (f a)) l <;> rfl
theorem putR_map {α β : Type} (c : β → Int) (f : α → β) (x : α) (l : List α) : (putR (fun a => c (f a)) x l).map f = putR c (f x) (l.map f) := by
  unfold putR
  rw [placeR_map]
  simp only [List.map_append, List.map_take, List.map_drop, List.map_cons, List.map_nil]
def PutTold (k : Nat) (w : World) (S : List (RC k)) (e : Ending) (w' : World) : Prop := ∃ fa fn fc, e = .returned (.tuple #[.agg #[.slice fa fn fc], .int .i64 0]) ∧ Below w.heap.size w w' ∧ fn ≤ fc ∧ StCP k w' (fun b => w.heap.size ≤ b ∧ b < w'.heap.size) fa fn S
theorem place_c {k : Nat} {ms : List (Sl × Rw k)} {S : List (RC k)} (h2 : ms.map (fun q => rowC k q.2) = S) (m : Int) (t : VT k) : placeR (fun p => cmpT k p.1 t) (rowAt ms m) = placeR (fun q => cmpC k q.1 (ofT k t)) (rowOf S m) := by
  rw [← rowAt_c h2 m]
  unfold rowC
  rw [← placeR_map]
  congr 1
  funext p
  exact (cmpC_of k p.1 t).symm
theorem put_c_ok (k : Nat) (w : World) (sa : Option Addr) (sn sc : Nat) (S : List (RC k)) (hd : StCR k w sa sn S) (m : Int) (h g : Hd) (c d : CT k) (hk : RdC k w h c) (hv : RdC k w g d) (hm : hasB sn m = true) (hok : (placeR (fun q => cmpC k q.1 c) (rowOf S m)).2 = true ∨ (rowOf S m).length < 24) :
    Calls Try.prog 12 #[.agg #[.slice sa sn sc], .int .i64 m, h.v, g.v] w (PutTold k w (S.set m.toNat (putR (fun q => cmpC k q.1 c) (c, d) (rowOf S m)))) := by
  obtain ⟨ms, h1, h2⟩ := hd
  obtain ⟨t, rfl, t2, rfl⟩ := hk
  obtain ⟨u, rfl, u2, rfl⟩ := hv
  have hl : (rowAt ms m).length = (rowOf S m).length := by rw [← rowAt_c h2 m]; simp [rowC]
  have h0 : 0 ≤ m := by
    have : 0 ≤ m ∧ m < (sn : Int) := by simpa [hasB] using hm
    exact this.1
  refine (put_ok k w sa sn sc ms h1 m t u t2 u2 hm (by rw [place_c h2, hl]; exact hok)).mono ?_
  rintro e w' ⟨fa, fn, fc, ns, he, hb, hc, hs, hn⟩
  refine ⟨fa, fn, fc, he, hb, hc, ns, hs, ?_⟩
  rw [hn, wth_c, h2, if_pos h0]
  have : rowC k (putR (fun p => cmpT k p.1 t) (t, u) (rowAt ms m)) = putR (fun q => cmpC k q.1 (ofT k t)) (ofT k t, ofT k u) (rowOf S m) := by
    rw [← rowAt_c h2 m]
    unfold rowC
    rw [show (ofT k t, ofT k u) = ofP k (t, u) from rfl, ← putR_map]
    congr 2
    funext p
    exact (cmpC_of k p.1 t).symm
  rw [this]
theorem same_c (k : Nat) (w : World) (a : Option Addr) (n cap : Nat) (S : List (RC k)) (b : Option Addr) (m cap2 : Nat) (T : List (RC k)) (hp : StCR k w a n S) (hq : StCR k w b m T) :
    Calls Try.prog 24 #[.agg #[.slice a n cap], .agg #[.slice b m cap2]] w fun e w' => (∃ r : Bool, e = .returned (.bool r) ∧ (r = true ↔ S = T)) ∧ Below w.heap.size w w' := by
  obtain ⟨ms, h1, h2⟩ := hp
  obtain ⟨ns, g1, g2⟩ := hq
  refine (heapSame_any k w a n cap ms b m cap2 ns h1 g1).mono ?_
  rintro e w' ⟨he, hb⟩
  exact ⟨⟨_, he, by rw [stB_iff, h2, g2]⟩, hb⟩
end Go.Proofs.Ytenfgahedbeekaa

