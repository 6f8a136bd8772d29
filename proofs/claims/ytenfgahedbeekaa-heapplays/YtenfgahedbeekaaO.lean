/- A state's maps: a row of rows; hasMap. -/
import Derived.Test.YtenfgahedbeekaaN
namespace Go.Proofs.Ytenfgahedbeekaa
open Go.RowKit Go.Deep Go.Shelf
set_option linter.unusedVariables false
set_option linter.unusedSimpArgs false

structure Sl where
  a : Option Addr
  n : Nat
  cap : Nat
def Sl.v (s : Sl) : Value := .slice s.a s.n s.cap
def MRow (w : World) (B : Nat) (v : Value) (ms : List Sl) : Prop := w.ownsRow B 70 1 v ms.length (ms.map Sl.v)
theorem MRow.nil (w : World) (B : Nat) : MRow w B (.slice none 0 0) [] := World.ownsRow_nil w B 70 1
theorem MRow.own {w B v ms} (h : MRow w B v ms) : ∀ k, v.ownBlock = some k → B ≤ k ∧ k < w.heap.size := World.ownsRow.lt h
theorem MRow.same {w w' : World} {B v xs} (h : MRow w B v xs) (e : ∀ g, v.ownBlock = some g → w'.heap[g]? = w.heap[g]?) : MRow w' B v xs := by
  refine ⟨h.1, ?_⟩
  rcases h.2 with hn | ⟨g, cap, cur, rfl, hb, hgg, rest⟩
  · exact .inl hn
  · exact .inr ⟨g, cap, cur, rfl, hb, (e g rfl).trans hgg, rest⟩
theorem MRow.below {w w' : World} {B C v xs} (h : MRow w B v xs) (hC : w.heap.size ≤ C) (k : Below C w w') : MRow w' B v xs :=
  h.same fun g e => k.block g (by have := (h.own g e).2; omega)
theorem MRow.form {w B v xs} (h : MRow w B v xs) : ∃ a cap, v = .slice a xs.length cap ∧ xs.length ≤ cap := by
  rcases h.2 with ⟨rfl, hn⟩ | ⟨g, cap, cur, rfl, hb, hgg, hc, rest⟩
  · exact ⟨none, 0, by rw [hn], by omega⟩
  · exact ⟨_, _, rfl, hc⟩
/- What a slice of rows reads. -/
def MRd (w : World) (a : Option Addr) (ms : List Sl) : Prop := ∀ (j : Nat) (m : Sl), ms[j]? = some m → ∃ b off, a = some ⟨b, off, none⟩ ∧ w.cell? ⟨b, off + j, none⟩ = some m.v
theorem MRow.rd {w : World} {B a n cap ms} (h : MRow w B (.slice a n cap) ms) : MRd w a ms := by
  intro j x hx
  rcases h.2 with ⟨e, hn⟩ | ⟨g, cap', cur, e, hb, hgg, hc, hm, hs', ht⟩
  · have : ms = [] := List.eq_nil_of_length_eq_zero hn
    subst this; simp at hx
  · cases e
    refine ⟨g, 0, rfl, ?_⟩
    have hj : j < ms.length := (List.getElem?_eq_some_iff.1 hx).1
    rw [Nat.zero_add, cellOf hgg j]
    have h2 : (ms.map Sl.v)[j]? = some x.v := by rw [List.getElem?_map, hx]; rfl
    rw [← h2, ← ht, List.getElem?_take, if_pos (by omega)]
    simp
theorem MRd.below {w w' : World} {a : Option Addr} {ms : List Sl} {B : Nat} (h : MRd w a ms) (hB : w.heap.size ≤ B) (k : Below B w w') : MRd w' a ms := by
  intro j x hx
  obtain ⟨b, off, rfl, hc⟩ := h j x hx
  exact ⟨b, off, rfl, (k.cell (p := ⟨b, off + j, none⟩) (Nat.lt_of_lt_of_le (World.block_lt_of_cell? w _ hc) hB)).trans hc⟩
theorem info70 : (Try.prog.info? 70).map (fun i => (i.zero, i.size, i.bytes)) = some (some (.slice none 0 0), 1, 24) := by kernel_rfl
theorem run_appM (w : World) (ty : TypeId) (B : Nat) (v : Value) (ms : List Sl) (h : Sl) (g : Nat) (hr : MRow w B v ms) (hg : w.heap[g]? = some (.cells #[h.v] 70 (0, 0))) (hB : B ≤ w.heap.size) (hl : ms.length ≤ 1000000) :
    ∃ v' w', (Builtin.append_ #[25, 25] ty #[v, .slice (some ⟨g, 0, none⟩) 1 1]).run Try.prog w = .ok v' w' ∧ MRow w' B v' (ms ++ [h]) ∧ Grw w v w' v' := by
  obtain ⟨i0, hi, hz0, hz1, hz2⟩ := info_parts info70
  obtain ⟨v', w', hrun, hown, hgr, _, hat⟩ := run_append_own_at (P := Try.prog) w B 25 ty 70 i0 (.slice none 0 0) 1 24 Try.underlying25 hi hz0 hz1 hz2 rfl (by decide) v ms.length (ms.map Sl.v) hr ⟨g, 0, none⟩ 1 1 [h.v] rfl (by
    intro j u hu
    exact World.news_of_block hg j u (by simpa using hu)) (by intro u hu; simp only [List.mem_cons, List.not_mem_nil, or_false] at hu; subst hu; rfl) (by unfold maxLen; omega) (by omega) hB
  refine ⟨v', w', hrun, ?_, hgr, ?_⟩
  · unfold MRow
    rw [List.map_append, List.length_append]
    exact hown
  · rcases hat with hat | hat
    · exact .inl hat
    · exact .inr ⟨_, hat, Nat.le_refl _⟩
/- Is there a map m? -/
def hasB (n : Nat) (m : Int) : Bool := decide (0 ≤ m) && decide (m < (n : Int))
set_option maxHeartbeats 400000 in
theorem hasMap_any (w : World) (a : Option Addr) (n cap : Nat) (m : Int) (hn : n ≤ 9223372036854775807) :
    Calls Try.prog 39 #[.agg #[.slice a n cap], .int .i64 m] w fun e w' => e = .returned (.bool (hasB n m)) ∧ Below w.heap.size w w' := by
  have hb : Below w.heap.size w (w.alloc (.cells #[.slice a n cap] 27)) := (Below.refl _ _).alloc (Nat.le_refl _) _
  have HB := hid hb
  have c0 : (w.alloc (.cells #[.slice a n cap] 27)).cell? ⟨w.heap.size, 0, none⟩ = some (.slice a n cap) := cellOf (heap_alloc_new w (.cells #[.slice a n cap] 27)) 0
  clear hb
  by_cases h0 : 0 ≤ m
  · by_cases h1 : m < (n : Int)
    · have hv : hasB n m = true := by simp [hasB, h0, h1]
      rw [hv]
      go_enter Try.func39, Try.ntmps39
      go_wp2
      go_ret
      exact ⟨rfl, HB.out⟩
    · have hv : hasB n m = false := by simp [hasB, h1]
      rw [hv]
      go_enter Try.func39, Try.ntmps39
      go_wp2
      go_ret
      exact ⟨rfl, HB.out⟩
  · have hv : hasB n m = false := by simp [hasB, h0]
    rw [hv]
    go_enter Try.func39, Try.ntmps39
    go_wp2
    go_ret
    exact ⟨rfl, HB.out⟩
end Go.Proofs.Ytenfgahedbeekaa
