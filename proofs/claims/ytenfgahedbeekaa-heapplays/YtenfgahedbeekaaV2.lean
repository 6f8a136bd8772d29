/- Entries copied within a row; an entry written. -/
import Derived.Test.YtenfgahedbeekaaU2
import Derived.Laws.IdiomCopy
namespace Go.Proofs.Ytenfgahedbeekaa
open Go.RowKit Go.Deep Go.Shelf
set_option linter.unusedVariables false
set_option linter.unusedSimpArgs false

theorem run_copyE (w : World) (ty : TypeId) (b o dLen dCap : Nat) (a : Addr) (sLen sCap n : Nat) (cs : List Value) (hn : n = Nat.min sLen dLen) (hl : cs.length = n * 10)
    (hsrc : ∀ j v, cs[j]? = some v → w.cell? (a.add j) = some v) (hc : ∀ j, j < cs.length → (w.cell? ⟨b, o + j, none⟩).isSome = true) (hf : ∀ j, j < cs.length → w.frozen? ⟨b, o + j, none⟩ = false) (h1 : ∀ v ∈ cs, v.oneCell' = true) :
    (Builtin.copy_ #[70, 70] ty #[.slice (some ⟨b, o, none⟩) dLen dCap, .slice (some a) sLen sCap]).run Try.prog w = .ok (goInt n) (w.setCells b o cs) := by
  have hld := run_loadCells_list (P := Try.prog) w a cs hsrc
  have hst := run_storeCells_cells (P := Try.prog) b o cs 0 w (by simpa using hc) (by simpa using hf) h1
  obtain ⟨i0, hi, hz0, hz1, hz2⟩ := info_parts info81
  subst hn
  rw [hl] at hld
  simp [Builtin.copy_, run_underlying Try.underlying70, Builtin.lenOf, Builtin.firstCells, sizeOf, typeInfo, hi, hz1, hld, hst]
theorem setCells_heap (b : Nat) : ∀ (vs : List Value) (o : Nat) (w : World) (x : Nat), x ≠ b → (w.setCells b o vs).heap[x]? = w.heap[x]?
  | [], _, _, _, _ => rfl
  | v :: r, o, w, x, h => by rw [World.setCells, setCells_heap b r (o + 1) _ x h, Below.heap_setCell _ _ _ _ h]
theorem setCells_size (b : Nat) : ∀ (vs : List Value) (o : Nat) (w : World), (w.setCells b o vs).heap.size = w.heap.size
  | [], _, _ => rfl
  | v :: r, o, w => by rw [World.setCells, setCells_size b r (o + 1)]; simp [World.setCell]
theorem setCells_below (b : Nat) {B : Nat} {w0 : World} (hB : B ≤ b) : ∀ (vs : List Value) (o : Nat) (w : World), Below B w0 w → Below B w0 (w.setCells b o vs)
  | [], _, _, h => h
  | v :: r, o, w, h => by rw [World.setCells]; exact setCells_below b hB r (o + 1) _ (h.setCell (p := ⟨b, o, none⟩) hB _)
/- Behind the copy: the entries from d on stand one further. -/
theorem ERd.shift {w : World} {g : Nat} {es : List En} (z : En) (d : Nat) (hd : d ≤ es.length) (h : ERd w (some ⟨g, 0, none⟩) (es ++ [z])) :
    ERd (w.setCells g ((d + 1) * 10) (ee (es.drop d))) (some ⟨g, 0, none⟩) ((es ++ [z]).take (d + 1) ++ es.drop d) := by
  have hcell : ∀ (j : Nat) (y : En), (es ++ [z])[j]? = some y → ∀ t, t < 10 → w.cell? ⟨g, j * 10 + t, none⟩ = y.cs[t]? := fun j y hy t ht => by
    obtain ⟨b, off, e, hc⟩ := h j y hy
    cases e
    have := hc t ht
    rw [Nat.zero_add] at this
    exact this
  have hlen : (ee (es.drop d)).length = (es.length - d) * 10 := by rw [ee_length, List.length_drop]
  have hsome : ∀ (y : En) (t : Nat), t < 10 → (y.cs[t]?).isSome = true := fun y t ht => by
    have : y.cs.length = 10 := rfl
    rw [List.getElem?_eq_getElem (by omega)]; rfl
  have hin : ∀ j, j < (ee (es.drop d)).length → (w.cell? ⟨g, (d + 1) * 10 + j, none⟩).isSome = true := fun j hj => by
    rw [hlen] at hj
    have hq : d + 1 + j / 10 < (es ++ [z]).length := by rw [List.length_append]; simp; omega
    have := hcell (d + 1 + j / 10) (es ++ [z])[d + 1 + j / 10] (List.getElem?_eq_getElem hq) (j % 10) (by omega)
    rw [show (d + 1) * 10 + j = (d + 1 + j / 10) * 10 + j % 10 from by omega, this]
    exact hsome _ _ (by omega)
  intro j y hy
  refine ⟨g, 0, rfl, fun t ht => ?_⟩
  rw [Nat.zero_add]
  have hl1 : ((es ++ [z]).take (d + 1)).length = d + 1 := by rw [List.length_take, List.length_append]; simp; omega
  rcases Nat.lt_or_ge j (d + 1) with hj | hj
  · rw [List.getElem?_append_left (by omega), List.getElem?_take, if_pos hj] at hy
    rw [World.cell?_setCells_out g _ _ _ _ (fun _ _ => .inl (by show j * 10 + t < (d + 1) * 10; omega))]
    exact hcell j y hy t ht
  · rw [List.getElem?_append_right (by omega), hl1] at hy
    have hjl := (List.getElem?_eq_some_iff.1 hy).1
    rw [List.length_drop] at hjl
    have hlt : (j - (d + 1)) * 10 + t < (ee (es.drop d)).length := by rw [hlen]; omega
    have h1 := World.cell?_setCells_in g (ee (es.drop d)) ((d + 1) * 10) w hin ((j - (d + 1)) * 10 + t) hlt
    rw [show (d + 1) * 10 + ((j - (d + 1)) * 10 + t) = j * 10 + t from by omega] at h1
    rw [h1, ← ee_at (es.drop d) (j - (d + 1)) y hy t ht, List.getElem?_eq_getElem hlt]
/- An entry written. -/
theorem ERd.set10 {w : World} {g : Nat} {es : List En} (h : ERd w (some ⟨g, 0, none⟩) es) (i : Nat) (hi : i < es.length) (x y : Hd) : ERd (five (five w g (i * 10) x) g (i * 10 + 5) y) (some ⟨g, 0, none⟩) (es.set i ⟨x, y⟩) := by
  have hcell : ∀ (j : Nat) (z : En), es[j]? = some z → ∀ t, t < 10 → w.cell? ⟨g, j * 10 + t, none⟩ = z.cs[t]? := fun j z hz t ht => by
    obtain ⟨b, off, e, hc⟩ := h j z hz
    cases e
    have := hc t ht
    rw [Nat.zero_add] at this
    exact this
  have hsome : ∀ t, t < 10 → (w.cell? ⟨g, i * 10 + t, none⟩).isSome = true := fun t ht => by
    rw [hcell i es[i] (List.getElem?_eq_getElem hi) t ht]
    have : (es[i]).cs.length = 10 := rfl
    rw [List.getElem?_eq_getElem (by omega)]; rfl
  have hsome2 : ∀ t, t < 5 → ((five w g (i * 10) x).cell? ⟨g, i * 10 + 5 + t, none⟩).isSome = true := fun t ht => by
    rw [five_cell_out _ _ _ _ _ (fun _ => .inr (by show i * 10 + 5 ≤ i * 10 + 5 + t; omega)), show i * 10 + 5 + t = i * 10 + (5 + t) from by omega]
    exact hsome (5 + t) (by omega)
  intro j z hz
  refine ⟨g, 0, rfl, fun t ht => ?_⟩
  rw [Nat.zero_add]
  by_cases hj : i = j
  · subst hj
    rw [List.getElem?_set_self hi] at hz
    cases hz
    rcases Nat.lt_or_ge t 5 with h5 | h5
    · rw [five_cell_out _ _ _ _ _ (fun _ => .inl (by show i * 10 + t < i * 10 + 5; omega)), five_cell_in w g (i * 10) x (fun a ha => hsome a (by omega)) t h5]
      clear hsome hsome2 hcell h ht
      rcases t with _ | _ | _ | _ | _ | t
      · rfl
      · rfl
      · rfl
      · rfl
      · rfl
      · omega
    · obtain ⟨u, rfl⟩ : ∃ u, t = 5 + u := ⟨t - 5, by omega⟩
      rw [show i * 10 + (5 + u) = i * 10 + 5 + u from by omega, five_cell_in _ g (i * 10 + 5) y hsome2 u (by omega)]
      have hu5 : u < 5 := by omega
      clear hsome hsome2 hcell h ht h5
      rcases u with _ | _ | _ | _ | _ | u
      · rfl
      · rfl
      · rfl
      · rfl
      · rfl
      · omega
  · rw [List.getElem?_set_ne hj] at hz
    rw [five_cell_out _ _ _ _ _ (fun _ => by show j * 10 + t < i * 10 + 5 ∨ i * 10 + 5 + 5 ≤ j * 10 + t; omega), five_cell_out _ _ _ _ _ (fun _ => by show j * 10 + t < i * 10 ∨ i * 10 + 5 ≤ j * 10 + t; omega), hcell j z hz t ht]
end Go.Proofs.Ytenfgahedbeekaa
