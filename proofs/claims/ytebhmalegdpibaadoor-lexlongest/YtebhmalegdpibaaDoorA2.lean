/- Words and gaps, one behind the other. -/
import Derived.Test.YtebhmalegdpibaaDoorP
namespace Go.Proofs.YtebhmalegdpibaaDoor
set_option linter.unusedVariables false
set_option linter.unusedSimpArgs false

def bw : List Bs := [[119, 104, 105, 108, 101], [97, 98, 99], [65, 98, 99], [120, 95, 49], [52, 50], [60, 61], [40], [34, 65, 32, 98, 34], [42, 37], [45], [45, 62], [119, 104, 105, 108, 101, 49]]
def bt : List Bs := [[119, 104, 105, 108, 101], [97, 98, 99], [65, 98, 99], [120, 95, 49], [52, 50], [60, 61], [40], [65, 32, 98], [42, 37], [45], [45, 62], [119, 104, 105, 108, 101, 49]]
def bk : List Nat := [2, 1, 1, 1, 3, 5, 5, 4, 5, 5, 5, 1]
def bg : List Bs := [[32], [9, 32], [10], [32, 35, 110, 111, 116, 101, 10], [13, 10, 35, 10, 32], [32, 32, 32]]

theorem bw0 (g : UInt8) (hg : g = 32 ∨ g = 9 ∨ g = 10 ∨ g = 13) (r : Bs) (at' : Nat) : lexG 0 at' ([119, 104, 105, 108, 101] ++ g :: r) = catE [⟨2, [119, 104, 105, 108, 101], at'⟩] (lexG 0 (at' + 5) (g :: r)) := by
  have hf : firstF ([119, 104, 105, 108, 101] ++ g :: r) = (2, 5, 0) := by rcases hg with rfl | rfl | rfl | rfl <;> rfl
  exact lexG_at _ at' 2 5 (by decide) (by decide) hf
theorem bw1 (g : UInt8) (hg : g = 32 ∨ g = 9 ∨ g = 10 ∨ g = 13) (r : Bs) (at' : Nat) : lexG 0 at' ([97, 98, 99] ++ g :: r) = catE [⟨1, [97, 98, 99], at'⟩] (lexG 0 (at' + 3) (g :: r)) := by
  have hf : firstF ([97, 98, 99] ++ g :: r) = (1, 3, 0) := by rcases hg with rfl | rfl | rfl | rfl <;> rfl
  exact lexG_at _ at' 1 3 (by decide) (by decide) hf
theorem bw2 (g : UInt8) (hg : g = 32 ∨ g = 9 ∨ g = 10 ∨ g = 13) (r : Bs) (at' : Nat) : lexG 0 at' ([65, 98, 99] ++ g :: r) = catE [⟨1, [65, 98, 99], at'⟩] (lexG 0 (at' + 3) (g :: r)) := by
  have hf : firstF ([65, 98, 99] ++ g :: r) = (1, 3, 0) := by rcases hg with rfl | rfl | rfl | rfl <;> rfl
  exact lexG_at _ at' 1 3 (by decide) (by decide) hf
theorem bw3 (g : UInt8) (hg : g = 32 ∨ g = 9 ∨ g = 10 ∨ g = 13) (r : Bs) (at' : Nat) : lexG 0 at' ([120, 95, 49] ++ g :: r) = catE [⟨1, [120, 95, 49], at'⟩] (lexG 0 (at' + 3) (g :: r)) := by
  have hf : firstF ([120, 95, 49] ++ g :: r) = (1, 3, 0) := by rcases hg with rfl | rfl | rfl | rfl <;> rfl
  exact lexG_at _ at' 1 3 (by decide) (by decide) hf
theorem bw4 (g : UInt8) (hg : g = 32 ∨ g = 9 ∨ g = 10 ∨ g = 13) (r : Bs) (at' : Nat) : lexG 0 at' ([52, 50] ++ g :: r) = catE [⟨3, [52, 50], at'⟩] (lexG 0 (at' + 2) (g :: r)) := by
  have hf : firstF ([52, 50] ++ g :: r) = (3, 2, 0) := by rcases hg with rfl | rfl | rfl | rfl <;> rfl
  exact lexG_at _ at' 3 2 (by decide) (by decide) hf
theorem bw5 (g : UInt8) (hg : g = 32 ∨ g = 9 ∨ g = 10 ∨ g = 13) (r : Bs) (at' : Nat) : lexG 0 at' ([60, 61] ++ g :: r) = catE [⟨5, [60, 61], at'⟩] (lexG 0 (at' + 2) (g :: r)) := by
  have hf : firstF ([60, 61] ++ g :: r) = (5, 2, 0) := by rcases hg with rfl | rfl | rfl | rfl <;> rfl
  exact lexG_at _ at' 5 2 (by decide) (by decide) hf
theorem bw6 (g : UInt8) (hg : g = 32 ∨ g = 9 ∨ g = 10 ∨ g = 13) (r : Bs) (at' : Nat) : lexG 0 at' ([40] ++ g :: r) = catE [⟨5, [40], at'⟩] (lexG 0 (at' + 1) (g :: r)) := by
  have hf : firstF ([40] ++ g :: r) = (5, 1, 0) := by rcases hg with rfl | rfl | rfl | rfl <;> rfl
  exact lexG_at _ at' 5 1 (by decide) (by decide) hf
theorem bw7 (g : UInt8) (hg : g = 32 ∨ g = 9 ∨ g = 10 ∨ g = 13) (r : Bs) (at' : Nat) : lexG 0 at' ([34, 65, 32, 98, 34] ++ g :: r) = catE [⟨4, [65, 32, 98], at'⟩] (lexG 0 (at' + 5) (g :: r)) := by
  have hf : firstF ([34, 65, 32, 98, 34] ++ g :: r) = (4, 5, 0) := by rcases hg with rfl | rfl | rfl | rfl <;> rfl
  exact lexG_at _ at' 4 5 (by decide) (by decide) hf
theorem bw8 (g : UInt8) (hg : g = 32 ∨ g = 9 ∨ g = 10 ∨ g = 13) (r : Bs) (at' : Nat) : lexG 0 at' ([42, 37] ++ g :: r) = catE [⟨5, [42, 37], at'⟩] (lexG 0 (at' + 2) (g :: r)) := by
  have hf : firstF ([42, 37] ++ g :: r) = (5, 2, 0) := by rcases hg with rfl | rfl | rfl | rfl <;> rfl
  exact lexG_at _ at' 5 2 (by decide) (by decide) hf
theorem bw9 (g : UInt8) (hg : g = 32 ∨ g = 9 ∨ g = 10 ∨ g = 13) (r : Bs) (at' : Nat) : lexG 0 at' ([45] ++ g :: r) = catE [⟨5, [45], at'⟩] (lexG 0 (at' + 1) (g :: r)) := by
  have hf : firstF ([45] ++ g :: r) = (5, 1, 0) := by rcases hg with rfl | rfl | rfl | rfl <;> rfl
  exact lexG_at _ at' 5 1 (by decide) (by decide) hf
theorem bw10 (g : UInt8) (hg : g = 32 ∨ g = 9 ∨ g = 10 ∨ g = 13) (r : Bs) (at' : Nat) : lexG 0 at' ([45, 62] ++ g :: r) = catE [⟨5, [45, 62], at'⟩] (lexG 0 (at' + 2) (g :: r)) := by
  have hf : firstF ([45, 62] ++ g :: r) = (5, 2, 0) := by rcases hg with rfl | rfl | rfl | rfl <;> rfl
  exact lexG_at _ at' 5 2 (by decide) (by decide) hf
theorem bw11 (g : UInt8) (hg : g = 32 ∨ g = 9 ∨ g = 10 ∨ g = 13) (r : Bs) (at' : Nat) : lexG 0 at' ([119, 104, 105, 108, 101, 49] ++ g :: r) = catE [⟨1, [119, 104, 105, 108, 101, 49], at'⟩] (lexG 0 (at' + 6) (g :: r)) := by
  have hf : firstF ([119, 104, 105, 108, 101, 49] ++ g :: r) = (1, 6, 0) := by rcases hg with rfl | rfl | rfl | rfl <;> rfl
  exact lexG_at _ at' 1 6 (by decide) (by decide) hf
theorem bg0 (r : Bs) (at' : Nat) : lexG 0 at' ([32] ++ r) = lexG 0 (at' + 1) r := by rfl
theorem bg1 (r : Bs) (at' : Nat) : lexG 0 at' ([9, 32] ++ r) = lexG 0 (at' + 2) r := by rfl
theorem bg2 (r : Bs) (at' : Nat) : lexG 0 at' ([10] ++ r) = lexG 0 (at' + 1) r := by rfl
theorem bg3 (r : Bs) (at' : Nat) : lexG 0 at' ([32, 35, 110, 111, 116, 101, 10] ++ r) = lexG 0 (at' + 7) r := by rfl
theorem bg4 (r : Bs) (at' : Nat) : lexG 0 at' ([13, 10, 35, 10, 32] ++ r) = lexG 0 (at' + 5) r := by rfl
theorem bg5 (r : Bs) (at' : Nat) : lexG 0 at' ([32, 32, 32] ++ r) = lexG 0 (at' + 3) r := by rfl
theorem bw_one (i : Nat) (w t : Bs) (k : Nat) (hw : bw[i]? = some w) (ht : bt[i]? = some t) (hk : bk[i]? = some k) (g : UInt8) (hg : g = 32 ∨ g = 9 ∨ g = 10 ∨ g = 13) (r : Bs) (at' : Nat) : lexG 0 at' (w ++ g :: r) = catE [⟨k, t, at'⟩] (lexG 0 (at' + w.length) (g :: r)) := by
  match i, hw, ht, hk with
  | 0, hw, ht, hk => cases hw; cases ht; cases hk; exact bw0 g hg r at'
  | 1, hw, ht, hk => cases hw; cases ht; cases hk; exact bw1 g hg r at'
  | 2, hw, ht, hk => cases hw; cases ht; cases hk; exact bw2 g hg r at'
  | 3, hw, ht, hk => cases hw; cases ht; cases hk; exact bw3 g hg r at'
  | 4, hw, ht, hk => cases hw; cases ht; cases hk; exact bw4 g hg r at'
  | 5, hw, ht, hk => cases hw; cases ht; cases hk; exact bw5 g hg r at'
  | 6, hw, ht, hk => cases hw; cases ht; cases hk; exact bw6 g hg r at'
  | 7, hw, ht, hk => cases hw; cases ht; cases hk; exact bw7 g hg r at'
  | 8, hw, ht, hk => cases hw; cases ht; cases hk; exact bw8 g hg r at'
  | 9, hw, ht, hk => cases hw; cases ht; cases hk; exact bw9 g hg r at'
  | 10, hw, ht, hk => cases hw; cases ht; cases hk; exact bw10 g hg r at'
  | 11, hw, ht, hk => cases hw; cases ht; cases hk; exact bw11 g hg r at'
  | n + 12, hw, _, _ => simp [bw] at hw
theorem bg_one (j : Nat) (g : Bs) (hg : bg[j]? = some g) (r : Bs) (at' : Nat) : lexG 0 at' (g ++ r) = lexG 0 (at' + g.length) r := by
  match j, hg with
  | 0, hg => cases hg; exact bg0 r at'
  | 1, hg => cases hg; exact bg1 r at'
  | 2, hg => cases hg; exact bg2 r at'
  | 3, hg => cases hg; exact bg3 r at'
  | 4, hg => cases hg; exact bg4 r at'
  | 5, hg => cases hg; exact bg5 r at'
  | n + 6, hg => simp [bg] at hg
theorem bg_head (j : Nat) (g : Bs) (hg : bg[j]? = some g) : ∃ c t, g = c :: t ∧ (c = 32 ∨ c = 9 ∨ c = 10 ∨ c = 13) := by
  match j, hg with
  | 0, hg => cases hg; exact ⟨_, _, rfl, by decide⟩
  | 1, hg => cases hg; exact ⟨_, _, rfl, by decide⟩
  | 2, hg => cases hg; exact ⟨_, _, rfl, by decide⟩
  | 3, hg => cases hg; exact ⟨_, _, rfl, by decide⟩
  | 4, hg => cases hg; exact ⟨_, _, rfl, by decide⟩
  | 5, hg => cases hg; exact ⟨_, _, rfl, by decide⟩
  | n + 6, hg => simp [bg] at hg
theorem piece (i j : Nat) (w t g : Bs) (k : Nat) (hw : bw[i]? = some w) (ht : bt[i]? = some t) (hk : bk[i]? = some k) (hg : bg[j]? = some g) (r : Bs) (at' : Nat) :
    lexG 0 at' (w ++ g ++ r) = catE [⟨k, t, at'⟩] (lexG 0 (at' + (w ++ g).length) r) := by
  obtain ⟨c, u, rfl, hc⟩ := bg_head j g hg
  rw [List.append_assoc, List.cons_append, bw_one i w t k hw ht hk c hc (u ++ r) at', ← List.cons_append, bg_one j _ hg, List.length_append, Nat.add_assoc]
end Go.Proofs.YtebhmalegdpibaaDoor
