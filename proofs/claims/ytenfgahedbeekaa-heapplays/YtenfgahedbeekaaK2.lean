/- The document's side: where a key stands (windlassref4.at). -/
import Derived.Test.YtenfgahedbeekaaJ2
import Derived.BigQuiet
namespace Go.Proofs.Ytenfgahedbeekaa
open Go.RowKit Go.Deep Go.Shelf
set_option linter.unusedVariables false
set_option linter.unusedSimpArgs false

def Bnd3 (c : Int) : Prop := c = -1 ∨ c = 0 ∨ c = 1
theorem ci_bnd (a b : Int) : Bnd3 (ci a b) := by
  unfold ci Bnd3
  split
  · exact .inl rfl
  · split
    · exact .inr (.inr rfl)
    · exact .inr (.inl rfl)
theorem cS_bnd (a b : ByteArray) : Bnd3 (cS a b) := by
  unfold cS cB Bnd3
  split
  · exact .inl rfl
  · split
    · exact .inr (.inl rfl)
    · exact .inr (.inr rfl)
theorem cC_bnd (a b : C4) : Bnd3 (cC a b) := by
  unfold cC
  simp only [orL]
  split
  · split
    · split
      · split
        · exact .inr (.inl rfl)
        · exact ci_bnd _ _
      · exact cS_bnd _ _
    · exact ci_bnd _ _
  · exact ci_bnd _ _
theorem cmpL_bnd {α : Type} {f : α → α → Int} (h : ∀ a b, Bnd3 (f a b)) : ∀ l m : List α, Bnd3 (cmpL f l m)
  | [], [] => .inr (.inl rfl)
  | [], _ :: _ => .inl rfl
  | _ :: _, [] => .inr (.inr rfl)
  | a :: l, b :: m => by
    rw [cmpL]
    split
    · exact cmpL_bnd h l m
    · exact h a b
theorem cmpC_bnd : ∀ (k : Nat) (a b : CT k), Bnd3 (cmpC k a b)
  | 0, _, _ => .inr (.inl rfl)
  | k + 1, a, b => by
    show Bnd3 (if cC a.1 b.1 = 0 then cmpL (cmpC k) a.2 b.2 else cC a.1 b.1)
    split
    · exact cmpL_bnd (cmpC_bnd k) _ _
    · exact cC_bnd _ _
theorem cmpT_bnd (k : Nat) (a b : VT k) : Bnd3 (cmpT k a b) := by rw [← cmpC_of]; exact cmpC_bnd k _ _
theorem place_at {α : Type} (c : α → Int) (l : List α) (i : Nat) (hi : i < l.length) (h : ∀ j (hj : j < i), plQ c (l[j]'(by omega)) = false) (hx : plQ c l[i] = true) : placeR c l = (i, c l[i] == 0) := by
  unfold placeR
  have h1 : l.findIdx (plQ c) = i := by rw [List.findIdx_eq hi]; exact ⟨hx, h⟩
  have h2 : l.find? (plQ c) = some l[i] := by
    rw [List.find?_eq_some_iff_getElem]
    exact ⟨hx, i, hi, rfl, fun j hj => by simp [h j hj]⟩
  rw [h1, h2]
  rfl
theorem place_end {α : Type} (c : α → Int) (l : List α) (h : ∀ j (hj : j < l.length), plQ c l[j] = false) : placeR c l = (l.length, false) := by
  refine place_none c l (fun x _ => h x.val x.isLt)
end Go.Proofs.Ytenfgahedbeekaa
