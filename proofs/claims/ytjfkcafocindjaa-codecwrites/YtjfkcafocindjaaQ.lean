/- Rows of values in memory; what is read as a row of values. -/
import Derived.Test.YtjfkcafocindjaaP
import Derived.Deep.LoopGhost
namespace Go.Proofs.Ytjfkcafocindjaa
open Go.RowKit Go.Deep
set_option linter.unusedVariables false
set_option linter.unusedSimpArgs false

def Hd.cs (h : Hd) : List Value := [.int .i64 h.kind, .int .i64 h.int, .string h.text, .int .i64 h.rc, .slice h.a h.n h.cap]
def vv (hs : List Hd) : List Value := hs.flatMap Hd.cs
theorem vv_length (hs : List Hd) : (vv hs).length = hs.length * 5 := by
  induction hs with
  | nil => rfl
  | cons h r ih => simp [vv, Hd.cs] at ih ⊢; omega
theorem vv_snoc (hs : List Hd) (h : Hd) : vv (hs ++ [h]) = vv hs ++ h.cs := by simp [vv]
theorem vv_at (hs : List Hd) : ∀ (j : Nat) (h : Hd), hs[j]? = some h → ∀ i, i < 5 → (vv hs)[j * 5 + i]? = h.cs[i]? := by
  induction hs with
  | nil => intro j h e; simp at e
  | cons x r ih =>
    intro j h e i hi
    have hx : (Hd.cs x).length = 5 := rfl
    cases j with
    | zero =>
      simp at e; subst e
      simp only [vv, List.flatMap_cons]
      rw [List.getElem?_append_left (by omega)]
      simp
    | succ j =>
      simp at e
      simp only [vv, List.flatMap_cons]
      rw [List.getElem?_append_right (by omega), hx, show (j + 1) * 5 + i - 5 = j * 5 + i from by omega]
      exact ih j h e i hi

/- A row of values that is the call's own. -/
def VRow (w : World) (B : Nat) (v : Value) (hs : List Hd) : Prop := w.ownsRow B 45 5 v hs.length (vv hs)
theorem VRow.nil (w : World) (B : Nat) : VRow w B (.slice none 0 0) [] := World.ownsRow_nil w B 45 5
theorem VRow.own {w B v hs} (h : VRow w B v hs) : ∀ k, v.ownBlock = some k → B ≤ k ∧ k < w.heap.size := World.ownsRow.lt h
theorem VRow.same {w w' : World} {B v xs} (h : VRow w B v xs) (e : ∀ g, v.ownBlock = some g → w'.heap[g]? = w.heap[g]?) : VRow w' B v xs := by
  refine ⟨h.1, ?_⟩
  rcases h.2 with hn | ⟨g, cap, cur, rfl, hb, hgg, rest⟩
  · exact .inl hn
  · exact .inr ⟨g, cap, cur, rfl, hb, (e g rfl).trans hgg, rest⟩
theorem VRow.below {w w' : World} {B C v xs} (h : VRow w B v xs) (hC : w.heap.size ≤ C) (k : Below C w w') : VRow w' B v xs :=
  h.same fun g e => k.block g (by have := (h.own g e).2; omega)
theorem VRow.mono {w : World} {B C v xs} (h : VRow w B v xs) (hC : C ≤ B) : VRow w C v xs := by
  refine ⟨h.1, ?_⟩
  rcases h.2 with hn | ⟨g, cap, cur, rfl, hb, rest⟩
  · exact .inl hn
  · exact .inr ⟨g, cap, cur, rfl, by omega, rest⟩
theorem VRow.form {w B v xs} (h : VRow w B v xs) : ∃ a cap, v = .slice a xs.length cap ∧ xs.length ≤ cap := by
  rcases h.2 with ⟨rfl, hn⟩ | ⟨g, cap, cur, rfl, hb, hgg, hc, rest⟩
  · exact ⟨none, 0, by rw [hn], by omega⟩
  · exact ⟨_, _, rfl, hc⟩

/- Values that a slice reads: each its five cells. -/
def VRd (w : World) (a : Option Addr) (hs : List Hd) : Prop := ∀ (j : Nat) (h : Hd), hs[j]? = some h → ∃ b off, a = some ⟨b, off, none⟩ ∧ ∀ i, i < 5 → w.cell? ⟨b, off + j * 5 + i, none⟩ = h.cs[i]?
theorem VRow.rd {w : World} {B a n cap hs} (h : VRow w B (.slice a n cap) hs) : VRd w a hs := by
  intro j x hx
  rcases h.2 with ⟨e, hn⟩ | ⟨g, cap', cur, e, hb, hgg, hc, hm, hs', ht⟩
  · have : hs = [] := List.eq_nil_of_length_eq_zero hn
    subst this; simp at hx
  · cases e
    refine ⟨g, 0, rfl, fun i hi => ?_⟩
    have hv := vv_at hs j x hx i hi
    have hj : j < hs.length := (List.getElem?_eq_some_iff.1 hx).1
    rw [← hv, Nat.zero_add]
    have hlt : j * 5 + i < (vv hs).length := by rw [vv_length]; omega
    obtain ⟨u, hu⟩ : ∃ u, (vv hs)[j * 5 + i]? = some u := ⟨_, List.getElem?_eq_getElem hlt⟩
    have := World.ownsRow.cells h (g := g) rfl _ u hu
    rw [Addr.add_lit, Nat.zero_add] at this
    rw [this, hu]
theorem VRd.below {w w' : World} {a hs B} (h : VRd w a hs) (hB : w.heap.size ≤ B) (k : Below B w w') : VRd w' a hs := by
  intro j x hx
  obtain ⟨b, off, rfl, hc⟩ := h j x hx
  refine ⟨b, off, rfl, fun i hi => ?_⟩
  have h0 := hc 0 (by omega)
  have hb : b < w.heap.size := World.block_lt_of_cell? w _ (h0.trans (show x.cs[0]? = some (.int .i64 x.kind) from rfl))
  rw [World.cell?_of_block (w := w) (k.block b (by omega))]
  exact hc i hi

theorem info45 : (Try.prog.info? 45).map (fun i => (i.zero, i.size, i.bytes)) = some (some zeroV, 5, 64) := by kernel_rfl

theorem cs_one (h : Hd) : ∀ u ∈ h.cs, u.oneCell' = true := by
  intro u hu
  simp only [Hd.cs, List.mem_cons, List.mem_nil_iff, or_false] at hu
  rcases hu with rfl | rfl | rfl | rfl | rfl <;> rfl

theorem run_appV (w : World) (ty : TypeId) (B : Nat) (v : Value) (hs : List Hd) (h : Hd) (hr : VRow w B v hs) (hB : B ≤ w.heap.size) (hl : hs.length ≤ 1000000) :
    ∃ v' w', (Builtin.append_ #[43, 43] ty #[v, .slice (some ⟨w.heap.size, 0, none⟩) 1 1]).run Try.prog (w.alloc (.cells h.cs.toArray 45)) = .ok v' w' ∧ VRow w' B v' (hs ++ [h]) ∧ Grw w v w' v' := by
  obtain ⟨i0, hi, hz0, hz1, hz2⟩ := info_parts info45
  obtain ⟨v', w', hrun, hown, hg, _, hat⟩ := run_append_own_at (P := Try.prog) (w.alloc (.cells h.cs.toArray 45)) B 43 ty 45 i0 zeroV 5 64 Try.underlying43 hi hz0 hz1 hz2 rfl (by decide) v hs.length (vv hs) (World.ownsRow.alloc hr _) ⟨w.heap.size, 0, none⟩ 1 1 h.cs rfl (by
    intro j u hu
    exact World.news_of_block (heap_alloc_new w (.cells h.cs.toArray 45)) j u (by simpa using hu)) (cs_one h) (by unfold maxLen; omega) (by omega) (by simp; omega)
  refine ⟨v', w', hrun, ?_, alloc_grown hg, ?_⟩
  · unfold VRow
    rw [vv_snoc, List.length_append]
    exact hown
  · rcases hat with hat | hat
    · exact .inl hat
    · exact .inr ⟨_, hat, by simp⟩
theorem wpList_appV {ops : Array Oper} {rest : List Oper} {o : Oper} {a : Act} {Q : Exit → Act → World → Prop} (w : World) (hgd : o.guard = none) (sl x : Operand)
    (ho : o.op = .call { callee := .builtin .append, args := #[sl, x], argTypes := #[43, 43] }) (v : Value) (h : Hd) (hs : a.eval sl = v) (hx : a.eval x = .slice (some ⟨w.heap.size, 0, none⟩) 1 1)
    (B : Nat) (xs : List Hd) (hr : VRow w B v xs) (hB : B ≤ w.heap.size) (hl : xs.length ≤ 1000000)
    (k : ∀ v' w', VRow w' B v' (xs ++ [h]) → Grw w v w' v' → wpList Try.prog ops Q rest (a.put o.dst v') w') :
    wpList Try.prog ops Q (o :: rest) a (w.alloc (.cells h.cs.toArray 45)) := by
  refine wpList_plain hgd fun K hK => ?_
  obtain ⟨v', w', hrun, h2, h3⟩ := run_appV w o.type B v xs h hr hB hl
  unfold Oper.wp execOp
  simp only [ho, resolve, invoke, builtin, Sem.run_bind, Sem.run_pure, Result.andThen_ok, List.map_toArray, List.map_cons, List.map_nil, hs, hx, hrun]
  exact hK _ _ (k v' w' h2 h3)
end Go.Proofs.Ytjfkcafocindjaa
