/- What HeapOrders keeps: keys with what was put last, beside a list that rises. -/
import Derived.Test.YtenfgahedbeekaaF2
namespace Go.Proofs.Ytenfgahedbeekaa
open Go.RowKit Go.Deep Go.Shelf
set_option linter.unusedVariables false
set_option linter.unusedSimpArgs false

structure PV (T Z : List Int) (L : NL) : Prop where
  ris : Ris L
  tz : T.length = Z.length
  nd : ∀ (i j : Nat) (x : Int), T[i]? = some x → T[j]? = some x → i = j
  ln : L.length = T.length
  mem : ∀ x y : Int, (x, y) ∈ L ↔ ∃ j : Nat, T[j]? = some x ∧ Z[j]? = some y
  le : T.length ≤ 24
  rt : ∀ x ∈ T, -32768 ≤ x ∧ x ≤ 32767
  rz : ∀ z ∈ Z, 0 ≤ z ∧ z ≤ 1000
theorem PV.nil : PV [] [] [] := ⟨List.Pairwise.nil, rfl, fun i j x h => by simp at h, rfl, fun x y => by simp, by simp, fun x h => by simp at h, fun x h => by simp at h⟩
theorem PV.there {T Z : List Int} {L : NL} (h : PV T Z L) (a : Int) : (placeR (cA a) L).2 = true ↔ a ∈ T := by
  rw [place_there a L h.ris]
  constructor
  · rintro ⟨y, hy⟩
    obtain ⟨j, h1, _⟩ := (h.mem a y).1 hy
    exact List.mem_of_getElem? h1
  · intro ha
    obtain ⟨j, hj⟩ := List.getElem?_of_mem ha
    have hl := (List.getElem?_eq_some_iff.1 hj).1
    have : Z[j]? = some (Z[j]'(by rw [← h.tz]; exact hl)) := List.getElem?_eq_getElem _
    exact ⟨_, (h.mem a _).2 ⟨j, hj, this⟩⟩
theorem PV.add {T Z : List Int} {L : NL} (h : PV T Z L) {a i : Int} (ha : a ∉ T) (hl : T.length < 24) (hr : -32768 ≤ a ∧ a ≤ 32767) (hi : 0 ≤ i ∧ i ≤ 1000) : PV (T ++ [a]) (Z ++ [i]) (insI a i L) := by
  have hnp : ¬ (placeR (cA a) L).2 = true := fun e => ha ((h.there a).1 e)
  refine ⟨insI_ris a i L h.ris, by simp [h.tz], ?_, by rw [insI_len, if_neg hnp, h.ln]; simp, ?_, by simp; omega, ?_, ?_⟩
  · intro p q x hp hq
    rw [List.getElem?_append] at hp hq
    split at hp <;> split at hq
    · exact h.nd p q x hp hq
    · rename_i h1 h2
      rw [List.getElem?_singleton] at hq
      split at hq
      · cases hq; exact absurd (List.mem_of_getElem? hp) ha
      · cases hq
    · rename_i h1 h2
      rw [List.getElem?_singleton] at hp
      split at hp
      · cases hp; exact absurd (List.mem_of_getElem? hq) ha
      · cases hp
    · rename_i h1 h2
      rw [List.getElem?_singleton] at hp hq
      split at hp
      · split at hq
        · omega
        · cases hq
      · cases hp
  · intro x y
    rw [insI_mem a i L h.ris]
    constructor
    · rintro (⟨rfl, rfl⟩ | ⟨h1, h2⟩)
      · exact ⟨T.length, by simp, by rw [h.tz]; simp⟩
      · obtain ⟨j, g1, g2⟩ := (h.mem x y).1 h2
        exact ⟨j, by rw [List.getElem?_append_left (List.getElem?_eq_some_iff.1 g1).1]; exact g1, by rw [List.getElem?_append_left (List.getElem?_eq_some_iff.1 g2).1]; exact g2⟩
    · rintro ⟨j, g1, g2⟩
      rcases Nat.lt_or_ge j T.length with hj | hj
      · rw [List.getElem?_append_left hj] at g1
        rw [List.getElem?_append_left (by rw [← h.tz]; exact hj)] at g2
        refine .inr ⟨?_, (h.mem x y).2 ⟨j, g1, g2⟩⟩
        rintro rfl
        exact ha (List.mem_of_getElem? g1)
      · rw [List.getElem?_append_right hj, List.getElem?_singleton] at g1
        rw [List.getElem?_append_right (by rw [← h.tz]; exact hj), List.getElem?_singleton] at g2
        split at g1
        · split at g2
          · cases g1; cases g2; exact .inl ⟨rfl, rfl⟩
          · cases g2
        · cases g1
  · intro x hx
    rcases List.mem_append.1 hx with hx | hx
    · exact h.rt x hx
    · rw [List.mem_singleton] at hx; subst hx; exact hr
  · intro x hx
    rcases List.mem_append.1 hx with hx | hx
    · exact h.rz x hx
    · rw [List.mem_singleton] at hx; subst hx; exact hi
theorem PV.upd {T Z : List Int} {L : NL} (h : PV T Z L) {a i : Int} {k : Nat} (ha : T[k]? = some a) (hi : 0 ≤ i ∧ i ≤ 1000) : PV T (Z.set k i) (insI a i L) := by
  have hp : (placeR (cA a) L).2 = true := (h.there a).2 (List.mem_of_getElem? ha)
  have hk := (List.getElem?_eq_some_iff.1 ha).1
  refine ⟨insI_ris a i L h.ris, by simp [h.tz], h.nd, by rw [insI_len, if_pos hp, h.ln], ?_, h.le, h.rt, ?_⟩
  · intro x y
    rw [insI_mem a i L h.ris]
    constructor
    · rintro (⟨rfl, rfl⟩ | ⟨h1, h2⟩)
      · exact ⟨k, ha, by rw [List.getElem?_set_self (by rw [← h.tz]; exact hk)]⟩
      · obtain ⟨j, g1, g2⟩ := (h.mem x y).1 h2
        refine ⟨j, g1, ?_⟩
        rw [List.getElem?_set_ne]
        · exact g2
        · rintro rfl
          rw [ha] at g1
          cases g1
          exact h1 rfl
    · rintro ⟨j, g1, g2⟩
      by_cases hjk : k = j
      · subst hjk
        rw [List.getElem?_set_self (by rw [← h.tz]; exact hk)] at g2
        rw [ha] at g1
        cases g1; cases g2
        exact .inl ⟨rfl, rfl⟩
      · rw [List.getElem?_set_ne hjk] at g2
        refine .inr ⟨?_, (h.mem x y).2 ⟨j, g1, g2⟩⟩
        rintro rfl
        exact hjk (h.nd k j x ha g1)
  · intro z hz
    rcases List.mem_or_eq_of_mem_set hz with hz | hz
    · exact h.rz z hz
    · subst hz; exact hi
theorem filter_len (a : Int) : ∀ (L : NL), Ris L → (∃ y, (a, y) ∈ L) → (L.filter fun p => !(p.1 == a)).length + 1 = L.length
  | [], _, h => by obtain ⟨y, hy⟩ := h; simp at hy
  | p :: r, h, he => by
    have hr : Ris r := (List.pairwise_cons.1 h).2
    have hp := (List.pairwise_cons.1 h).1
    rw [List.filter_cons]
    by_cases h1 : p.1 = a
    · have e1 : (!(p.1 == a)) = false := by simp [h1]
      rw [e1]
      have e2 : (r.filter fun p => !(p.1 == a)) = r := by
        rw [List.filter_eq_self]
        intro q hq
        have := hp q hq
        have : ¬ q.1 = a := by omega
        simp [this]
      simp only [Bool.false_eq_true, if_false]
      rw [e2]; rfl
    · have e1 : (!(p.1 == a)) = true := by simp [h1]
      rw [if_pos e1, List.length_cons, List.length_cons]
      have he' : ∃ y, (a, y) ∈ r := by
        obtain ⟨y, hy⟩ := he
        rcases List.mem_cons.1 hy with hy | hy
        · rw [← hy] at h1; exact absurd rfl h1
        · exact ⟨y, hy⟩
      rw [filter_len a r hr he']
theorem getElem?_cut (T : List Int) (k j : Nat) (hk : k < T.length) : (T.take k ++ T.drop (k + 1))[j]? = if j < k then T[j]? else T[j + 1]? := by
  by_cases h : j < k
  · rw [if_pos h, List.getElem?_append_left (by rw [List.length_take]; omega), List.getElem?_take, if_pos h]
  · rw [if_neg h, List.getElem?_append_right (by rw [List.length_take]; omega), List.getElem?_drop, List.length_take]
    congr 1
    omega
theorem PV.del {T Z : List Int} {L : NL} (h : PV T Z L) {a : Int} {k : Nat} (ha : T[k]? = some a) : PV (T.take k ++ T.drop (k + 1)) (Z.take k ++ Z.drop (k + 1)) (L.filter fun p => !(p.1 == a)) := by
  have hk := (List.getElem?_eq_some_iff.1 ha).1
  have hkz : k < Z.length := by rw [← h.tz]; exact hk
  have hex : ∃ y, (a, y) ∈ L := (place_there a L h.ris).1 ((h.there a).2 (List.mem_of_getElem? ha))
  have hfl := filter_len a L h.ris hex
  have htl : (T.take k ++ T.drop (k + 1)).length = T.length - 1 := by rw [List.length_append, List.length_take, List.length_drop]; omega
  have hzl : (Z.take k ++ Z.drop (k + 1)).length = Z.length - 1 := by rw [List.length_append, List.length_take, List.length_drop]; omega
  refine ⟨List.Pairwise.filter _ h.ris, by rw [htl, hzl, h.tz], ?_, by rw [htl, ← h.ln]; omega, ?_, by rw [htl]; have := h.le; omega, ?_, ?_⟩
  · intro p q x hp hq
    rw [getElem?_cut T k p hk] at hp
    rw [getElem?_cut T k q hk] at hq
    split at hp <;> split at hq
    · exact h.nd p q x hp hq
    · have := h.nd _ _ x hp hq; omega
    · have := h.nd _ _ x hp hq; omega
    · have := h.nd _ _ x hp hq; omega
  · intro x y
    rw [List.mem_filter, h.mem]
    constructor
    · rintro ⟨⟨j, g1, g2⟩, hne⟩
      have hxa : ¬ x = a := by simpa using hne
      rcases Nat.lt_trichotomy j k with hj | hj | hj
      · exact ⟨j, by rw [getElem?_cut T k j hk, if_pos hj]; exact g1, by rw [getElem?_cut Z k j hkz, if_pos hj]; exact g2⟩
      · subst hj
        rw [ha] at g1
        cases g1
        exact absurd rfl hxa
      · exact ⟨j - 1, by rw [getElem?_cut T k _ hk, if_neg (by omega), show j - 1 + 1 = j from by omega]; exact g1, by rw [getElem?_cut Z k _ hkz, if_neg (by omega), show j - 1 + 1 = j from by omega]; exact g2⟩
    · rintro ⟨j, g1, g2⟩
      rw [getElem?_cut T k j hk] at g1
      rw [getElem?_cut Z k j hkz] at g2
      by_cases hj : j < k
      · rw [if_pos hj] at g1 g2
        refine ⟨⟨j, g1, g2⟩, ?_⟩
        have : ¬ x = a := by
          rintro rfl
          have := h.nd j k x g1 ha
          omega
        simpa using this
      · rw [if_neg hj] at g1 g2
        refine ⟨⟨j + 1, g1, g2⟩, ?_⟩
        have : ¬ x = a := by
          rintro rfl
          have := h.nd (j + 1) k x g1 ha
          omega
        simpa using this
  · intro x hx
    rcases List.mem_append.1 hx with hx | hx
    · exact h.rt x (List.mem_of_mem_take hx)
    · exact h.rt x (List.mem_of_mem_drop hx)
  · intro x hx
    rcases List.mem_append.1 hx with hx | hx
    · exact h.rz x (List.mem_of_mem_take hx)
    · exact h.rz x (List.mem_of_mem_drop hx)
theorem ris_get {L : NL} (h : Ris L) {n : Nat} {a b : Int} (hn : L[n]? = some (a, b)) : L.find? (fun p => p.1 == a) = some (a, b) := by
  obtain ⟨hl, he⟩ := List.getElem?_eq_some_iff.1 hn
  rw [List.find?_eq_some_iff_getElem]
  refine ⟨by simp, n, hl, he, fun j hj => ?_⟩
  have := List.pairwise_iff_getElem.1 h j n (by omega) hl hj
  rw [he] at this
  have : ¬ (L[j]'(by omega)).1 = a := by simp at this; omega
  simp [this]
theorem ris_next {L : NL} (h : Ris L) {n : Nat} {a b : Int} (hn : L[n]? = some (a, b)) : L.find? (fun p => decide (a < p.1)) = L[n + 1]? := by
  obtain ⟨hl, he⟩ := List.getElem?_eq_some_iff.1 hn
  have hle : ∀ j (hj : j < L.length), j ≤ n → (L[j]).1 ≤ a := by
    intro j hj hjn
    rcases Nat.lt_or_eq_of_le hjn with h1 | h1
    · have := List.pairwise_iff_getElem.1 h j n hj hl h1
      rw [he] at this
      simp at this; omega
    · subst h1; rw [he]; exact Int.le_refl _
  rcases Nat.lt_or_ge (n + 1) L.length with h1 | h1
  · rw [List.getElem?_eq_getElem h1, List.find?_eq_some_iff_getElem]
    have h2 := List.pairwise_iff_getElem.1 h n (n + 1) hl h1 (by omega)
    rw [he] at h2
    refine ⟨by simpa using h2, n + 1, h1, rfl, fun j hj => ?_⟩
    have := hle j (by omega) (by omega)
    simp; omega
  · rw [List.getElem?_eq_none h1, List.find?_eq_none]
    intro p hp
    obtain ⟨j, hj, e⟩ := List.getElem_of_mem hp
    have := hle j hj (by omega)
    rw [e] at this
    simp; omega

/- What lies where. -/
@[reducible] def HA (w wr : World) (a1 a2 : Option Addr) (b : Nat) : Prop := b ≠ w.heap.size + 1 ∧ b < wr.heap.size ∧ (∀ x : Addr, a1 = some x → x.block ≠ b) ∧ (∀ x : Addr, a2 = some x → x.block ≠ b)
structure HM (w wr : World) (T Z : List Int) (L : NL) (a1 : Option Addr) (c1 : Nat) (a2 : Option Addr) (c2 : Nat) (sa : Option Addr) (sn sc : Nat) : Prop where
  bel : Below w.heap.size w wr
  bx : wr.heap[w.heap.size + 1]? = some (.cells #[.slice sa sn sc] 27 (0, 0))
  st : StCP 1 wr (HA w wr a1 a2) sa sn (([[], L] : List NL).map rowN)
  g1 : GRow wr (w.heap.size + 2) a1 T.length c1 T
  g2 : GRow wr (w.heap.size + 2) a2 Z.length c2 Z
  dj : ∀ x y : Addr, a1 = some x → a2 = some y → x.block ≠ y.block
  sz : w.heap.size + 2 ≤ wr.heap.size
theorem HM.below {w wr w' : World} {T Z : List Int} {L : NL} {a1 a2 : Option Addr} {c1 c2 : Nat} {sa : Option Addr} {sn sc : Nat} (h : HM w wr T Z L a1 c1 a2 c2 sa sn sc) (hb : Below wr.heap.size wr w') : HM w w' T Z L a1 c1 a2 c2 sa sn sc :=
  ⟨h.bel.trans (hb.mono h.bel.size), (hb.block _ (Array.getElem?_eq_some_iff.1 h.bx).1).trans h.bx, (h.st.keep (fun b hA => hb.block b hA.2.1)).imp (fun b hA => ⟨hA.1, Nat.lt_of_lt_of_le hA.2.1 hb.size, hA.2.2⟩), h.g1.below (Nat.le_refl _) hb, h.g2.below (Nat.le_refl _) hb, h.dj, Nat.le_trans h.sz hb.size⟩
theorem HM.blk1 {w wr : World} {T Z : List Int} {L : NL} {a1 a2 : Option Addr} {c1 c2 : Nat} {sa : Option Addr} {sn sc : Nat} (h : HM w wr T Z L a1 c1 a2 c2 sa sn sc) (x : Addr) (e : a1 = some x) : w.heap.size + 2 ≤ x.block ∧ x.block < wr.heap.size := by
  obtain ⟨g, rfl, h1, h2⟩ := h.g1.at' x e
  exact ⟨h1, h2⟩
theorem HM.blk2 {w wr : World} {T Z : List Int} {L : NL} {a1 a2 : Option Addr} {c1 c2 : Nat} {sa : Option Addr} {sn sc : Nat} (h : HM w wr T Z L a1 c1 a2 c2 sa sn sc) (x : Addr) (e : a2 = some x) : w.heap.size + 2 ≤ x.block ∧ x.block < wr.heap.size := by
  obtain ⟨g, rfl, h1, h2⟩ := h.g2.at' x e
  exact ⟨h1, h2⟩
/- Another state in the box. -/
theorem HM.state {w wr w' : World} {T Z : List Int} {L L' : NL} {a1 a2 : Option Addr} {c1 c2 : Nat} {sa fa : Option Addr} {sn sc fn fc : Nat} (h : HM w wr T Z L a1 c1 a2 c2 sa sn sc) (hb : Below wr.heap.size wr w') (hs : StCP 1 w' (fun b => wr.heap.size ≤ b ∧ b < w'.heap.size) fa fn (([[], L'] : List NL).map rowN)) :
    HM w (w'.setCell ⟨w.heap.size + 1, 0, none⟩ (.slice fa fn fc)) T Z L' a1 c1 a2 c2 fa fn fc := by
  have h' := h.below hb
  have st : ∀ b, b ≠ w.heap.size + 1 → (w'.setCell ⟨w.heap.size + 1, 0, none⟩ (.slice fa fn fc)).heap[b]? = w'.heap[b]? := fun b hb => Below.heap_setCell _ _ _ _ hb
  have ss : (w'.setCell ⟨w.heap.size + 1, 0, none⟩ (.slice fa fn fc)).heap.size = w'.heap.size := by simp [World.setCell]
  have hsz := h.sz
  refine ⟨h'.bel.setCell (p := ⟨w.heap.size + 1, 0, none⟩) (by show w.heap.size ≤ w.heap.size + 1; omega) _, set_cells h'.bx _, (hs.keep (fun b hA => st b (by omega))).imp (fun b hA => ⟨by omega, by rw [ss]; exact hA.2, fun x e => by have := h.blk1 x e; omega, fun x e => by have := h.blk2 x e; omega⟩), h'.g1.keep (by rw [ss]; exact Nat.le_refl _) (fun x e => st _ (by have := h.blk1 x e; omega)), h'.g2.keep (by rw [ss]; exact Nat.le_refl _) (fun x e => st _ (by have := h.blk2 x e; omega)), h.dj, by rw [ss]; exact h'.sz⟩
theorem HM.app1 {w wr w' : World} {T T' Z : List Int} {L : NL} {a1 a2 v' : Option Addr} {c1 c2 c' : Nat} {sa : Option Addr} {sn sc : Nat} {o : Obj} (h : HM w wr T Z L a1 c1 a2 c2 sa sn sc) (hr : GRow w' (w.heap.size + 2) v' T'.length c' T') (hg : Gwn (wr.alloc o) a1 w' v') :
    HM w w' T' Z L v' c' a2 c2 sa sn sc := by
  have h' := h.below ((Below.refl _ wr).alloc (Nat.le_refl _) o)
  obtain ⟨⟨row, hgr, hrow⟩, hv⟩ := hg
  have s1 := hgr.size
  have s0 : (wr.alloc o).heap.size = wr.heap.size + 1 := by simp
  have keep : ∀ b, b < (wr.alloc o).heap.size → (∀ x : Addr, a1 = some x → x.block ≠ b) → w'.heap[b]? = (wr.alloc o).heap[b]? := fun b hb hne => hgr.block b hb (fun e => by
    obtain ⟨x, e1, e2⟩ := hrow b e.symm
    exact hne x e1 e2)
  have hnew : ∀ x : Addr, v' = some x → a1 = some x ∨ (wr.alloc o).heap.size ≤ x.block := fun x e => by
    rcases hv with hv | ⟨g, e1, e2⟩
    · exact .inl (hv ▸ e)
    · rw [e1] at e; cases e; exact .inr e2
  have hbx := (Array.getElem?_eq_some_iff.1 h'.bx).1
  refine ⟨?_, (keep _ hbx (fun x e => by have := h'.blk1 x e; omega)).trans h'.bx, (h'.st.keep (fun b hA => keep b hA.2.1 hA.2.2.1)).imp (fun b hA => ⟨hA.1, by omega, fun x e => ?_, hA.2.2.2⟩), hr, h'.g2.keep s1 (fun x e => keep _ (h'.blk2 x e).2 (fun y ey => h.dj y x ey e)), fun x y ex ey => ?_, by have := h.sz; omega⟩
  · exact ⟨hgr.os.trans h'.bel.os, hgr.tape.trans h'.bel.tape, hgr.output.trans h'.bel.output, by have := h'.bel.size; omega, fun j hj => (keep j (by have := h'.bel.size; omega) (fun x e => by have := h'.blk1 x e; omega)).trans (h'.bel.block j hj)⟩
  · rcases hnew x e with h1 | h1
    · exact hA.2.2.1 x h1
    · omega
  · rcases hnew x ex with h1 | h1
    · exact h.dj x y h1 ey
    · have := h'.blk2 y ey; omega
theorem HM.app2 {w wr w' : World} {T Z Z' : List Int} {L : NL} {a1 a2 v' : Option Addr} {c1 c2 c' : Nat} {sa : Option Addr} {sn sc : Nat} {o : Obj} (h : HM w wr T Z L a1 c1 a2 c2 sa sn sc) (hr : GRow w' (w.heap.size + 2) v' Z'.length c' Z') (hg : Gwn (wr.alloc o) a2 w' v') :
    HM w w' T Z' L a1 c1 v' c' sa sn sc := by
  have h' := h.below ((Below.refl _ wr).alloc (Nat.le_refl _) o)
  obtain ⟨⟨row, hgr, hrow⟩, hv⟩ := hg
  have s1 := hgr.size
  have s0 : (wr.alloc o).heap.size = wr.heap.size + 1 := by simp
  have keep : ∀ b, b < (wr.alloc o).heap.size → (∀ x : Addr, a2 = some x → x.block ≠ b) → w'.heap[b]? = (wr.alloc o).heap[b]? := fun b hb hne => hgr.block b hb (fun e => by
    obtain ⟨x, e1, e2⟩ := hrow b e.symm
    exact hne x e1 e2)
  have hnew : ∀ x : Addr, v' = some x → a2 = some x ∨ (wr.alloc o).heap.size ≤ x.block := fun x e => by
    rcases hv with hv | ⟨g, e1, e2⟩
    · exact .inl (hv ▸ e)
    · rw [e1] at e; cases e; exact .inr e2
  have hbx := (Array.getElem?_eq_some_iff.1 h'.bx).1
  refine ⟨?_, (keep _ hbx (fun x e => by have := h'.blk2 x e; omega)).trans h'.bx, (h'.st.keep (fun b hA => keep b hA.2.1 hA.2.2.2)).imp (fun b hA => ⟨hA.1, by omega, hA.2.2.1, fun x e => ?_⟩), h'.g1.keep s1 (fun x e => keep _ (h'.blk1 x e).2 (fun y ey e2 => h.dj x y e ey e2.symm)), hr, fun x y ex ey => ?_, by have := h.sz; omega⟩
  · exact ⟨hgr.os.trans h'.bel.os, hgr.tape.trans h'.bel.tape, hgr.output.trans h'.bel.output, by have := h'.bel.size; omega, fun j hj => (keep j (by have := h'.bel.size; omega) (fun x e => by have := h'.blk2 x e; omega)).trans (h'.bel.block j hj)⟩
  · rcases hnew x e with h1 | h1
    · exact hA.2.2.2 x h1
    · omega
  · rcases hnew y ey with h1 | h1
    · exact h.dj x y ex h1
    · have := h'.blk1 x ex; omega
theorem HM.set2 {w wr : World} {T Z : List Int} {L : NL} {a1 : Option Addr} {g : Nat} {c1 c2 : Nat} {sa : Option Addr} {sn sc : Nat} (h : HM w wr T Z L a1 c1 (some ⟨g, 0, none⟩) c2 sa sn sc) (j : Nat) (hj : j < Z.length) (v : Int) :
    HM w (wr.setCell ⟨g, j, none⟩ (.int .i64 v)) T (Z.set j v) L a1 c1 (some ⟨g, 0, none⟩) c2 sa sn sc := by
  have hB := h.blk2 _ rfl
  simp only at hB
  have st : ∀ b, b ≠ g → (wr.setCell ⟨g, j, none⟩ (.int .i64 v)).heap[b]? = wr.heap[b]? := fun b hb => Below.heap_setCell _ _ _ _ hb
  have ss : (wr.setCell ⟨g, j, none⟩ (.int .i64 v)).heap.size = wr.heap.size := by simp [World.setCell]
  refine ⟨h.bel.setCell (p := ⟨g, j, none⟩) (by show w.heap.size ≤ g; omega) _, (st _ (by omega)).trans h.bx, (h.st.keep (fun b hA => st b (fun e => hA.2.2.2 _ rfl e.symm))).imp (fun b hA => ⟨hA.1, by rw [ss]; exact hA.2.1, hA.2.2⟩), h.g1.keep (by rw [ss]; exact Nat.le_refl _) (fun x e => st _ (h.dj x _ e rfl)), ?_, h.dj, by rw [ss]; exact h.sz⟩
  rw [List.length_set]
  exact h.g2.set j hj v
theorem HM.cut {w wr w1 w2 : World} {T T' Z Z' : List Int} {L : NL} {a1 a2 v1 v2 : Option Addr} {c1 c2 d1 d2 : Nat} {sa : Option Addr} {sn sc : Nat} (h : HM w wr T Z L a1 c1 a2 c2 sa sn sc)
    (hw1 : Below wr.heap.size wr w1) (hr1 : GRow w1 (w.heap.size + 2) v1 T'.length d1 T') (hv1 : v1 = a1 ∨ ∃ g, v1 = some ⟨g, 0, none⟩ ∧ wr.heap.size ≤ g)
    (hw2 : Below w1.heap.size w1 w2) (hr2 : GRow w2 (w.heap.size + 2) v2 Z'.length d2 Z') (hv2 : v2 = a2 ∨ ∃ g, v2 = some ⟨g, 0, none⟩ ∧ w1.heap.size ≤ g) :
    HM w w2 T' Z' L v1 d1 v2 d2 sa sn sc := by
  have hb := hw1.trans (hw2.mono hw1.size)
  have h' := h.below hb
  have s1 := hw1.size
  have s2 := hw2.size
  have n1 : ∀ x : Addr, v1 = some x → a1 = some x ∨ wr.heap.size ≤ x.block := fun x e => by
    rcases hv1 with hv | ⟨g, e1, e2⟩
    · exact .inl (hv ▸ e)
    · rw [e1] at e; cases e; exact .inr e2
  have n2 : ∀ x : Addr, v2 = some x → a2 = some x ∨ w1.heap.size ≤ x.block := fun x e => by
    rcases hv2 with hv | ⟨g, e1, e2⟩
    · exact .inl (hv ▸ e)
    · rw [e1] at e; cases e; exact .inr e2
  have l1 : ∀ x : Addr, v1 = some x → x.block < w1.heap.size := fun x e => by
    obtain ⟨g, rfl, _, h2⟩ := hr1.at' x e
    exact h2
  refine ⟨h'.bel, h'.bx, (h.st.keep (fun b hA => hb.block b hA.2.1)).imp (fun b hA => ⟨hA.1, by omega, fun x e => ?_, fun x e => ?_⟩), hr1.below (Nat.le_refl _) hw2, hr2, fun x y ex ey => ?_, h'.sz⟩
  · rcases n1 x e with h1 | h1
    · exact hA.2.2.1 x h1
    · omega
  · rcases n2 x e with h1 | h1
    · exact hA.2.2.2 x h1
    · omega
  · rcases n2 y ey with h2 | h2
    · rcases n1 x ex with h1 | h1
      · exact h.dj x y h1 h2
      · have := h.blk2 y h2; omega
    · have := l1 x ex; omega
end Go.Proofs.Ytenfgahedbeekaa
