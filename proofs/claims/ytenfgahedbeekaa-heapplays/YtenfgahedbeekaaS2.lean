/- Entries written into a row: what the row then reads. -/
import Derived.Test.YtenfgahedbeekaaR2
namespace Go.Proofs.Ytenfgahedbeekaa
open Go.RowKit Go.Deep Go.Shelf
set_option linter.unusedVariables false
set_option linter.unusedSimpArgs false

theorem five_cell_out (w : World) (b o : Nat) (h : Hd) (p : Addr) (hp : p.block = b → p.off < o ∨ o + 5 ≤ p.off) : (five w b o h).cell? p = w.cell? p := by
  have st : ∀ (W : World) (i : Nat) (v : Value), i < 5 → (W.setCell ⟨b, o + i, none⟩ v).cell? p = W.cell? p := fun W i v hi =>
    World.cell?_setCell_other _ _ _ _ (by
      intro e
      have e1 := congrArg Addr.block e
      have e2 := congrArg Addr.off e
      simp only at e1 e2
      rcases hp (by first | exact e1.symm | exact e1) with h1 | h1 <;> omega)
  unfold Go.Proofs.Ytenfgahedbeekaa.five
  have s0 := fun W v => st W 0 v (by omega)
  simp only [Nat.add_zero] at s0
  rw [st _ 4 _ (by omega), st _ 3 _ (by omega), st _ 2 _ (by omega), st _ 1 _ (by omega), s0]
theorem five_cell_in (w : World) (b o : Nat) (h : Hd) (hs : ∀ i, i < 5 → (w.cell? ⟨b, o + i, none⟩).isSome = true) (i : Nat) (hi : i < 5) : (five w b o h).cell? ⟨b, o + i, none⟩ = h.cs[i]? := by
  have ot : ∀ (W : World) (j j' : Nat) (v : Value), j ≠ j' → (W.setCell ⟨b, o + j, none⟩ v).cell? ⟨b, o + j', none⟩ = W.cell? ⟨b, o + j', none⟩ := fun W j j' v hne =>
    World.cell?_setCell_other _ _ _ _ (by
      intro e
      have e2 := congrArg Addr.off e
      simp only at e2
      omega)
  have h0 := hs 0 (by omega)
  have h1 := hs 1 (by omega)
  have h2 := hs 2 (by omega)
  have h3 := hs 3 (by omega)
  have h4 := hs 4 (by omega)
  have e : five w b o h = ((((w.setCell ⟨b, o + 0, none⟩ (.int .i64 h.kind)).setCell ⟨b, o + 1, none⟩ (.int .i64 h.int)).setCell ⟨b, o + 2, none⟩ (.string h.text)).setCell ⟨b, o + 3, none⟩ (.int .i64 h.rc)).setCell ⟨b, o + 4, none⟩ (.slice h.a h.n h.cap) := rfl
  rw [e]
  match i, hi with
  | 0, _ => rw [ot _ 4 0 _ (by omega), ot _ 3 0 _ (by omega), ot _ 2 0 _ (by omega), ot _ 1 0 _ (by omega), World.cell?_setCell_same' _ _ _ h0]; rfl
  | 1, _ => rw [ot _ 4 1 _ (by omega), ot _ 3 1 _ (by omega), ot _ 2 1 _ (by omega), World.cell?_setCell_same' _ _ _ (by rw [ot _ 0 1 _ (by omega)]; exact h1)]; rfl
  | 2, _ => rw [ot _ 4 2 _ (by omega), ot _ 3 2 _ (by omega), World.cell?_setCell_same' _ _ _ (by rw [ot _ 1 2 _ (by omega), ot _ 0 2 _ (by omega)]; exact h2)]; rfl
  | 3, _ => rw [ot _ 4 3 _ (by omega), World.cell?_setCell_same' _ _ _ (by rw [ot _ 2 3 _ (by omega), ot _ 1 3 _ (by omega), ot _ 0 3 _ (by omega)]; exact h3)]; rfl
  | 4, _ => rw [World.cell?_setCell_same' _ _ _ (by rw [ot _ 3 4 _ (by omega), ot _ 2 4 _ (by omega), ot _ 1 4 _ (by omega), ot _ 0 4 _ (by omega)]; exact h4)]; rfl
theorem ERd.setv {w : World} {g : Nat} {es : List En} (h : ERd w (some ⟨g, 0, none⟩) es) (i : Nat) (x : En) (hi : es[i]? = some x) (y : Hd) : ERd (five w g (i * 10 + 5) y) (some ⟨g, 0, none⟩) (es.set i ⟨x.key, y⟩) := by
  have hl := (List.getElem?_eq_some_iff.1 hi).1
  have hcell : ∀ (j : Nat) (z : En), es[j]? = some z → ∀ t, t < 10 → w.cell? ⟨g, j * 10 + t, none⟩ = z.cs[t]? := fun j z hz t ht => by
    obtain ⟨b, off, e, hc⟩ := h j z hz
    cases e
    have := hc t ht
    rw [Nat.zero_add] at this
    exact this
  intro j z hz
  refine ⟨g, 0, rfl, fun t ht => ?_⟩
  rw [Nat.zero_add]
  by_cases hj : i = j
  · subst hj
    rw [List.getElem?_set_self hl] at hz
    cases hz
    rcases Nat.lt_or_ge t 5 with h5 | h5
    · rw [five_cell_out _ _ _ _ _ (fun _ => .inl (by show i * 10 + t < i * 10 + 5; omega)), hcell i x hi t ht]
      match t, h5 with
      | 0, _ => rfl
      | 1, _ => rfl
      | 2, _ => rfl
      | 3, _ => rfl
      | 4, _ => rfl
    · obtain ⟨u, rfl⟩ : ∃ u, t = 5 + u := ⟨t - 5, by omega⟩
      have := five_cell_in w g (i * 10 + 5) y (fun a ha => by
        rw [show i * 10 + 5 + a = i * 10 + (5 + a) from by omega, hcell i x hi (5 + a) (by omega)]
        match a, ha with
        | 0, _ => rfl
        | 1, _ => rfl
        | 2, _ => rfl
        | 3, _ => rfl
        | 4, _ => rfl) u (by omega)
      rw [show i * 10 + (5 + u) = i * 10 + 5 + u from by omega, this]
      have hu5 : u < 5 := by omega
      clear this hcell h ht h5 hi hl
      rcases u with _ | _ | _ | _ | _ | u
      · rfl
      · rfl
      · rfl
      · rfl
      · rfl
      · omega
  · rw [List.getElem?_set_ne hj] at hz
    rw [five_cell_out _ _ _ _ _ (fun _ => by show j * 10 + t < i * 10 + 5 ∨ i * 10 + 5 + 5 ≤ j * 10 + t; omega), hcell j z hz t ht]
end Go.Proofs.Ytenfgahedbeekaa
