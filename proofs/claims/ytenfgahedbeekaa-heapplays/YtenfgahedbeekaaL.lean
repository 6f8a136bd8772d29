/- Rows of entries: ten cells each. -/
import Derived.Test.YtenfgahedbeekaaK
namespace Go.Proofs.Ytenfgahedbeekaa
open Go.RowKit Go.Deep Go.Shelf
set_option linter.unusedVariables false
set_option linter.unusedSimpArgs false

structure En where
  key : Hd
  val : Hd
def En.cs (e : En) : List Value := [.int .i64 e.key.kind, .int .i64 e.key.int, .string e.key.text, .int .i64 e.key.rc, .slice e.key.a e.key.n e.key.cap, .int .i64 e.val.kind, .int .i64 e.val.int, .string e.val.text, .int .i64 e.val.rc, .slice e.val.a e.val.n e.val.cap]
def En.v (e : En) : Value := .agg e.cs.toArray
def ee (es : List En) : List Value := es.flatMap En.cs
theorem ee_length (es : List En) : (ee es).length = es.length * 10 := by
  induction es with
  | nil => rfl
  | cons h r ih => simp [ee, En.cs] at ih ⊢; omega
theorem ee_snoc (es : List En) (h : En) : ee (es ++ [h]) = ee es ++ h.cs := by simp [ee]
theorem ee_at (es : List En) : ∀ (j : Nat) (h : En), es[j]? = some h → ∀ i, i < 10 → (ee es)[j * 10 + i]? = h.cs[i]? := by
  induction es with
  | nil => intro j h e; simp at e
  | cons x r ih =>
    intro j h e i hi
    have hx : (En.cs x).length = 10 := rfl
    cases j with
    | zero =>
      simp at e; subst e
      simp only [ee, List.flatMap_cons]
      rw [List.getElem?_append_left (by omega)]
      simp
    | succ j =>
      simp at e
      simp only [ee, List.flatMap_cons]
      rw [List.getElem?_append_right (by omega), hx, show (j + 1) * 10 + i - 10 = j * 10 + i from by omega]
      exact ih j h e i hi
def ERow (w : World) (B : Nat) (v : Value) (es : List En) : Prop := w.ownsRow B 81 10 v es.length (ee es)
theorem ERow.nil (w : World) (B : Nat) : ERow w B (.slice none 0 0) [] := World.ownsRow_nil w B 81 10
theorem ERow.own {w B v es} (h : ERow w B v es) : ∀ k, v.ownBlock = some k → B ≤ k ∧ k < w.heap.size := World.ownsRow.lt h
theorem ERow.same {w w' : World} {B v xs} (h : ERow w B v xs) (e : ∀ g, v.ownBlock = some g → w'.heap[g]? = w.heap[g]?) : ERow w' B v xs := by
  refine ⟨h.1, ?_⟩
  rcases h.2 with hn | ⟨g, cap, cur, rfl, hb, hgg, rest⟩
  · exact .inl hn
  · exact .inr ⟨g, cap, cur, rfl, hb, (e g rfl).trans hgg, rest⟩
theorem ERow.below {w w' : World} {B C v xs} (h : ERow w B v xs) (hC : w.heap.size ≤ C) (k : Below C w w') : ERow w' B v xs :=
  h.same fun g e => k.block g (by have := (h.own g e).2; omega)
theorem ERow.mono {w : World} {B C v xs} (h : ERow w B v xs) (hC : C ≤ B) : ERow w C v xs := by
  refine ⟨h.1, ?_⟩
  rcases h.2 with hn | ⟨g, cap, cur, rfl, hb, rest⟩
  · exact .inl hn
  · exact .inr ⟨g, cap, cur, rfl, by omega, rest⟩
theorem ERow.form {w B v xs} (h : ERow w B v xs) : ∃ a cap, v = .slice a xs.length cap ∧ xs.length ≤ cap := by
  rcases h.2 with ⟨rfl, hn⟩ | ⟨g, cap, cur, rfl, hb, hgg, hc, rest⟩
  · exact ⟨none, 0, by rw [hn], by omega⟩
  · exact ⟨_, _, rfl, hc⟩
def ERd (w : World) (a : Option Addr) (es : List En) : Prop := ∀ (j : Nat) (h : En), es[j]? = some h → ∃ b off, a = some ⟨b, off, none⟩ ∧ ∀ i, i < 10 → w.cell? ⟨b, off + j * 10 + i, none⟩ = h.cs[i]?
theorem ERow.rd {w : World} {B a n cap es} (h : ERow w B (.slice a n cap) es) : ERd w a es := by
  intro j x hx
  rcases h.2 with ⟨e, hn⟩ | ⟨g, cap', cur, e, hb, hgg, hc, hm, hs', ht⟩
  · have : es = [] := List.eq_nil_of_length_eq_zero hn
    subst this; simp at hx
  · cases e
    refine ⟨g, 0, rfl, fun i hi => ?_⟩
    have hv := ee_at es j x hx i hi
    have hj : j < es.length := (List.getElem?_eq_some_iff.1 hx).1
    rw [← hv, Nat.zero_add]
    have hlt : j * 10 + i < (ee es).length := by rw [ee_length]; omega
    rw [cellOf hgg (j * 10 + i)]
    rw [← ht, List.getElem?_take, if_pos (by omega)]
    simp
theorem ERd.keep {w w' : World} {a : Option Addr} {es : List En} (h : ERd w a es) (e : ∀ x : Addr, a = some x → es ≠ [] → w'.heap[x.block]? = w.heap[x.block]?) : ERd w' a es := by
  intro j x hx
  obtain ⟨b, off, rfl, hc⟩ := h j x hx
  refine ⟨b, off, rfl, fun i hi => ?_⟩
  rw [← hc i hi]
  exact World.cell?_of_block (a := ⟨b, off + j * 10 + i, none⟩) (show w'.heap[b]? = w.heap[b]? from e ⟨b, off, none⟩ rfl (fun h0 => by rw [h0] at hx; simp at hx))
theorem ERd.below {w w' : World} {a : Option Addr} {es : List En} {B : Nat} (h : ERd w a es) (hB : w.heap.size ≤ B) (k : Below B w w') : ERd w' a es := by
  intro j x hx
  obtain ⟨b, off, rfl, hc⟩ := h j x hx
  refine ⟨b, off, rfl, fun i hi => ?_⟩
  have h0 := hc 0 (by omega)
  have hb : b < w.heap.size := World.block_lt_of_cell? w _ (h0.trans (show x.cs[0]? = some (.int .i64 x.key.kind) from rfl))
  rw [← hc i hi]
  exact k.cell (p := ⟨b, off + j * 10 + i, none⟩) (Nat.lt_of_lt_of_le hb hB)
def zeroE : Value := .agg #[.int .i64 0, .int .i64 0, .string ⟨#[]⟩, .int .i64 0, .slice none 0 0, .int .i64 0, .int .i64 0, .string ⟨#[]⟩, .int .i64 0, .slice none 0 0]
theorem info81 : (Try.prog.info? 81).map (fun i => (i.zero, i.size, i.bytes)) = some (some zeroE, 10, 128) := by kernel_rfl
theorem ecs_one (h : En) : ∀ u ∈ h.cs, u.oneCell' = true := by
  intro u hu
  simp only [En.cs, List.mem_cons, List.not_mem_nil, or_false] at hu
  rcases hu with rfl | rfl | rfl | rfl | rfl | rfl | rfl | rfl | rfl | rfl <;> rfl
theorem run_appE (w : World) (ty : TypeId) (B : Nat) (v : Value) (es : List En) (h : En) (g : Nat) (hr : ERow w B v es) (hg : w.heap[g]? = some (.cells h.cs.toArray 81 (0, 0))) (hB : B ≤ w.heap.size) (hl : es.length ≤ 1000000) :
    ∃ v' w', (Builtin.append_ #[70, 70] ty #[v, .slice (some ⟨g, 0, none⟩) 1 1]).run Try.prog w = .ok v' w' ∧ ERow w' B v' (es ++ [h]) ∧ Grw w v w' v' := by
  obtain ⟨i0, hi, hz0, hz1, hz2⟩ := info_parts info81
  obtain ⟨v', w', hrun, hown, hgr, _, hat⟩ := run_append_own_at (P := Try.prog) w B 70 ty 81 i0 zeroE 10 128 Try.underlying70 hi hz0 hz1 hz2 rfl (by decide) v es.length (ee es) hr ⟨g, 0, none⟩ 1 1 h.cs rfl (by
    intro j u hu
    exact World.news_of_block hg j u (by simpa using hu)) (ecs_one h) (by unfold maxLen; omega) (by omega) hB
  refine ⟨v', w', hrun, ?_, hgr, ?_⟩
  · unfold ERow
    rw [ee_snoc, List.length_append]
    exact hown
  · rcases hat with hat | hat
    · exact .inl hat
    · exact .inr ⟨_, hat, Nat.le_refl _⟩
end Go.Proofs.Ytenfgahedbeekaa
