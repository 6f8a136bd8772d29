/- ValueSorted: the walk. -/
import Derived.Test.YtenfgahedbeekaaG
import Derived.Deep.RegionHeld3
import Derived.Deep.LoopGhost
namespace Go.Proofs.Ytenfgahedbeekaa
open Go.RowKit Go.Deep
set_option linter.unusedVariables false
set_option linter.unusedSimpArgs false


/- A row of values that lies whole in a block. -/
def SRow (W : World) (g : Nat) (hs : List Hd) : Prop := ∃ cur, W.heap[g]? = some (.cells cur 31 (0, 0)) ∧ ∀ (j : Nat) (h : Hd), hs[j]? = some h → ∀ i, i < 5 → cur[j * 5 + i]? = h.cs[i]?
theorem SRow.cell {W : World} {g : Nat} {hs : List Hd} (s : SRow W g hs) {j : Nat} {h : Hd} (e : hs[j]? = some h) (i : Nat) (hi : i < 5) : W.cell? ⟨g, j * 5 + i, none⟩ = h.cs[i]? := by
  obtain ⟨cur, h1, h2⟩ := s
  rw [cellOf h1]; exact h2 j h e i hi
theorem SRow.free {W : World} {g : Nat} {hs : List Hd} (s : SRow W g hs) (i : Nat) : W.frozen? ⟨g, i, none⟩ = false := by
  obtain ⟨cur, h1, h2⟩ := s
  exact freeOf h1 i
theorem SRow.below {W W' : World} {g : Nat} {hs : List Hd} (s : SRow W g hs) (k : Below W.heap.size W W') : SRow W' g hs := by
  obtain ⟨cur, h1, h2⟩ := s
  exact ⟨cur, (k.block g (Array.getElem?_eq_some_iff.1 h1).1).trans h1, h2⟩
theorem SRow.lt {W : World} {g : Nat} {hs : List Hd} (s : SRow W g hs) : g < W.heap.size := by
  obtain ⟨cur, h1, h2⟩ := s
  exact (Array.getElem?_eq_some_iff.1 h1).1
theorem VRow.srow {W : World} {B : Nat} {v : Value} {hs : List Hd} (h : VRow W B v hs) (hne : hs ≠ []) : ∃ g cap, v = .slice (some ⟨g, 0, none⟩) hs.length cap ∧ hs.length ≤ cap ∧ B ≤ g ∧ SRow W g hs := by
  rcases h.2 with ⟨_, e⟩ | ⟨g, cap, cur, rfl, hb, hgg, hc, hm, hs', ht⟩
  · exact absurd (List.eq_nil_of_length_eq_zero e) hne
  · refine ⟨g, cap, rfl, hc, hb, cur, hgg, fun j x e i hi => ?_⟩
    have hj : j < hs.length := (List.getElem?_eq_some_iff.1 e).1
    have hv := vv_at hs j x e i hi
    rw [← hv, ← ht, List.getElem?_take, if_pos (by omega)]
    simp
/- Five cells of a row written. -/
def five (w : World) (b o : Nat) (h : Hd) : World := ((((w.setCell ⟨b, o, none⟩ (.int .i64 h.kind)).setCell ⟨b, o + 1, none⟩ (.int .i64 h.int)).setCell ⟨b, o + 2, none⟩ (.string h.text)).setCell ⟨b, o + 3, none⟩ (.int .i64 h.rc)).setCell ⟨b, o + 4, none⟩ (.slice h.a h.n h.cap)
theorem heap_set_at {w : World} {b : Nat} {c : Array Value} {e : TypeId} {f : Nat × Nat} (h : w.heap[b]? = some (.cells c e f)) (i : Nat) (u : Value) :
    (w.setCell ⟨b, i, none⟩ u).heap[b]? = some (.cells (c.setIfInBounds i u) e f) := by
  simp [World.setCell, Array.getElem?_modify, h]
theorem SRow.five {W : World} {g : Nat} {hs : List Hd} (s : SRow W g hs) {k : Nat} (hk : k < hs.length) (x : Hd) : SRow (five W g (k * 5) x) g (hs.set k x) := by
  obtain ⟨cur, h1, h2⟩ := s
  refine ⟨_, heap_set_at (heap_set_at (heap_set_at (heap_set_at (heap_set_at h1 _ _) _ _) _ _) _ _) _ _, fun j y e i hi => ?_⟩
  have hsz : ∀ i, i < 5 → k * 5 + i < cur.size := fun i hi => by
    have := h2 k hs[k] (by simp [hk]) i hi
    rw [show (hs[k]).cs[i]? = some ((hs[k]).cs[i]'(by simp [Hd.cs]; omega)) from by simp [Hd.cs]] at this
    exact (Array.getElem?_eq_some_iff.1 this).1
  have s0 := hsz 0 (by omega)
  have s1 := hsz 1 (by omega)
  have s2 := hsz 2 (by omega)
  have s3 := hsz 3 (by omega)
  have s4 := hsz 4 (by omega)
  simp only [Array.getElem?_setIfInBounds, Array.size_setIfInBounds]
  by_cases hjk : j = k
  · subst hjk
    rw [List.getElem?_set_self hk] at e
    cases e
    match i, hi with
    | 0, _ => simp [Hd.cs]; omega
    | 1, _ => simp [Hd.cs]; omega
    | 2, _ => simp [Hd.cs]; omega
    | 3, _ => simp [Hd.cs]; omega
    | 4, _ => simp [Hd.cs]; omega
  · rw [List.getElem?_set_ne (fun e => hjk e.symm)] at e
    rw [if_neg (by omega), if_neg (by omega), if_neg (by omega), if_neg (by omega), if_neg (by omega)]
    exact h2 j y e i hi
theorem five_below {B : Nat} {w0 w : World} (hb : Below B w0 w) {b o : Nat} (hB : B ≤ b) (h : Hd) : Below B w0 (five w b o h) := by
  unfold Go.Proofs.Ytenfgahedbeekaa.five
  exact ((((hb.setCell hB _).setCell hB _).setCell hB _).setCell hB _).setCell hB _

/- In order, but for the one at k. -/
def leA (ts : List (VT 3)) (p q : Nat) : Prop := ∀ a b, ts[p]? = some a → ts[q]? = some b → cmpT 3 a b ≤ 0
structure Srt (ts : List (VT 3)) (k i : Nat) : Prop where
  oth : ∀ p q, p < q → q ≤ i → p ≠ k → q ≠ k → leA ts p q
  own : ∀ q, k < q → q ≤ i → leA ts k q
def Upto (ts : List (VT 3)) (i : Nat) : Prop := ∀ p q, p < q → q < i → leA ts p q
theorem Upto.begin {ts : List (VT 3)} {i : Nat} (h : Upto ts i) : Srt ts i i := ⟨fun p q h1 h2 h3 h4 => h p q h1 (by omega), fun q h1 h2 => by omega⟩
theorem Srt.stop0 {ts : List (VT 3)} {i : Nat} (h : Srt ts 0 i) : Upto ts (i + 1) := fun p q h1 h2 => by
  by_cases hp : p = 0
  · subst hp; exact h.own q h1 (by omega)
  · exact h.oth p q h1 (by omega) hp (by omega)
theorem Srt.stop {ts : List (VT 3)} {k i : Nat} (h : Srt ts (k + 1) i) (hk : k + 1 ≤ i) (hi : i < ts.length) (hle : leA ts k (k + 1)) : Upto ts (i + 1) := fun p q h1 h2 => by
  by_cases hp : p = k + 1
  · subst hp; exact h.own q h1 (by omega)
  · by_cases hq : q = k + 1
    · subst hq
      by_cases hpk : p = k
      · subst hpk; exact hle
      · intro a b ea eb
        have hkk : k < ts.length := by omega
        have h3 := h.oth p k (by omega) (by omega) (by omega) (by omega) a ts[k] ea (by simp [hkk])
        exact (ord_cmpT 3).tr a ts[k] b h3 (hle ts[k] b (by simp [hkk]) eb)
    · exact h.oth p q h1 (by omega) hp hq
def swp (ts : List (VT 3)) (k : Nat) (a b : VT 3) : List (VT 3) := (ts.set (k + 1) b).set k a
theorem Srt.swap {ts : List (VT 3)} {k i : Nat} {a b : VT 3} (h : Srt ts (k + 1) i) (ea : ts[k + 1]? = some a) (eb : ts[k]? = some b) (hk : k + 1 ≤ i) (hlt : cmpT 3 a b < 0) : Srt (swp ts k a b) k i := by
  have l1 : k + 1 < ts.length := (List.getElem?_eq_some_iff.1 ea).1
  have g : ∀ j, (swp ts k a b)[j]? = if j = k then some a else if j = k + 1 then some b else ts[j]? := fun j => by
    unfold swp
    by_cases h1 : j = k
    · subst h1; rw [List.getElem?_set_self (by simp; omega), if_pos rfl]
    · rw [List.getElem?_set_ne (fun e => h1 e.symm), if_neg h1]
      by_cases h2 : j = k + 1
      · subst h2; rw [List.getElem?_set_self l1, if_pos rfl]
      · rw [List.getElem?_set_ne (fun e => h2 e.symm), if_neg h2]
  constructor
  · intro p q h1 h2 h3 h4 x y ex ey
    rw [g, if_neg h3] at ex
    rw [g, if_neg h4] at ey
    by_cases hp : p = k + 1
    · rw [if_pos hp] at ex
      cases ex
      rw [if_neg (by omega)] at ey
      exact h.oth k q (by omega) h2 (by omega) (by omega) _ _ eb ey
    · rw [if_neg hp] at ex
      by_cases hq : q = k + 1
      · rw [if_pos hq] at ey
        cases ey
        exact h.oth p k (by omega) (by omega) hp (by omega) _ _ ex eb
      · rw [if_neg hq] at ey
        exact h.oth p q h1 h2 hp hq x y ex ey
  · intro q h1 h2 x y ex ey
    rw [g, if_pos rfl] at ex
    cases ex
    rw [g, if_neg (by omega)] at ey
    by_cases hq : q = k + 1
    · rw [if_pos hq] at ey
      cases ey
      omega
    · rw [if_neg hq] at ey
      exact h.own q (by omega) h2 _ _ ea ey
end Go.Proofs.Ytenfgahedbeekaa
