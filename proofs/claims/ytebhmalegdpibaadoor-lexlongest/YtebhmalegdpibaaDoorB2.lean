/- LexBlanks: the walk. -/
import Derived.Test.YtebhmalegdpibaaDoorA2
import Derived.Test.YtebhmalegdpibaaDoorS
namespace Go.Proofs.YtebhmalegdpibaaDoor
open Go.RowKit Go.Deep
set_option linter.unusedVariables false
set_option linter.unusedSimpArgs false

def wI (bs : Bs) (i : Nat) : Nat := (bs.getD i 0).toNat % 12
def gI (gs : Bs) (i : Nat) : Nat := if i < gs.length then (gs.getD i 0).toNat % 6 else 0
def blS (bs gs : Bs) : Nat → Bs
  | 0 => []
  | i + 1 => blS bs gs i ++ (bw.getD (wI bs i) [] ++ bg.getD (gI gs i) [])
theorem wI_lt (bs : Bs) (i : Nat) : wI bs i < 12 := Nat.mod_lt _ (by decide)
theorem gI_lt (gs : Bs) (i : Nat) : gI gs i < 6 := by unfold gI; split; exact Nat.mod_lt _ (by decide); decide
def strs (l : List Bs) : Array Value := (l.map fun x => Value.string (ofB x)).toArray
theorem strs_at (l : List Bs) (k : Nat) (h : k < l.length) : (strs l)[k]? = some (.string (ofB (l.getD k []))) := by
  unfold strs
  simp [List.getElem?_eq_getElem h, List.getD_eq_getElem?_getD]
theorem piece_len (bs gs : Bs) (i : Nat) : (bw.getD (wI bs i) [] ++ bg.getD (gI gs i) []).length ≤ 13 := by
  have h1 : ∀ k, k < 12 → (bw.getD k []).length ≤ 6 := by decide
  have h2 : ∀ k, k < 6 → (bg.getD k []).length ≤ 7 := by decide
  have := h1 _ (wI_lt bs i)
  have := h2 _ (gI_lt gs i)
  rw [List.length_append]; omega
theorem blS_len (bs gs : Bs) : ∀ i, (blS bs gs i).length ≤ 13 * i
  | 0 => by simp [blS]
  | i + 1 => by
    have := blS_len bs gs i
    have := piece_len bs gs i
    rw [blS, List.length_append]; omega
/- The tokens of what is told, and what is left. -/
def blT (bs gs : Bs) : Nat → List LTok
  | 0 => []
  | i + 1 => blT bs gs i ++ [⟨bk.getD (wI bs i) 0, bt.getD (wI bs i) [], (blS bs gs i).length⟩]
theorem blT_len (bs gs : Bs) : ∀ i, (blT bs gs i).length = i
  | 0 => rfl
  | i + 1 => by rw [blT, List.length_append, blT_len bs gs i]; rfl
theorem get_some {α : Type} (l : List α) (d : α) (k : Nat) (h : k < l.length) : l[k]? = some (l.getD k d) := by
  rw [List.getD_eq_getElem?_getD, List.getElem?_eq_getElem h]; rfl
theorem lexG_bl (bs gs : Bs) : ∀ (i : Nat) (r : Bs), lexG 0 0 (blS bs gs i ++ r) = catE (blT bs gs i) (lexG 0 (blS bs gs i).length r)
  | 0, r => by simp [blS, blT, catE_nil]
  | i + 1, r => by
    rw [blS, List.append_assoc, lexG_bl bs gs i, piece (wI bs i) (gI gs i) _ _ _ _ (get_some bw [] _ (wI_lt bs i)) (get_some bt [] _ (wI_lt bs i)) (get_some bk 0 _ (wI_lt bs i)) (get_some bg [] _ (gI_lt gs i)), catE_cat, ← List.length_append]
    rfl
theorem lexT_bl (bs gs : Bs) (h : bs.length ≤ 60) : lexT (blS bs gs bs.length) = .ok (blT bs gs bs.length ++ [⟨0, [], (blS bs gs bs.length).length⟩]) := by
  have := blS_len bs gs bs.length
  have h2 := lexG_bl bs gs bs.length []
  rw [List.append_nil] at h2
  unfold lexT
  rw [if_neg (by omega), h2]
  rfl
theorem blT_at (bs gs : Bs) : ∀ (n i : Nat), i < n → (blT bs gs n)[i]? = some ⟨bk.getD (wI bs i) 0, bt.getD (wI bs i) [], (blS bs gs i).length⟩
  | 0, i, h => by omega
  | n + 1, i, h => by
    rw [blT]
    rcases Nat.lt_or_ge i n with hi | hi
    · rw [List.getElem?_append_left (by rw [blT_len]; exact hi)]; exact blT_at bs gs n i hi
    · obtain rfl : i = n := by omega
      rw [List.getElem?_append_right (by rw [blT_len]; omega), blT_len]; simp

end Go.Proofs.YtebhmalegdpibaaDoor
