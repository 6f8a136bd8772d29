/- Rows whose keys rise; the document's calls, told by what the state holds. -/
import Derived.Test.YtenfgahedbeekaaX2
namespace Go.Proofs.Ytenfgahedbeekaa
open Go.RowKit Go.Deep Go.Shelf
set_option linter.unusedVariables false
set_option linter.unusedSimpArgs false

def Rise (k : Nat) (l : RC k) : Prop := l.Pairwise (fun p q => cmpC k p.1 q.1 < 0)
def RiseS (k : Nat) (S : List (RC k)) : Prop := ∀ l ∈ S, Rise k l
theorem rise_above {k : Nat} {x y c : CT k} (h : cmpC k x y < 0) (hx : 0 ≤ cmpC k x c) : cmpC k y c = 1 := by
  have o := ord_cmpC k
  have h1 : cmpC k c x ≤ 0 := by have := o.anti c x; omega
  have h2 : cmpC k c y ≤ 0 := o.tr c x y h1 (by omega)
  have h3 : cmpC k y c ≠ 0 := fun e => by
    have := cmpC_zero k y c e
    subst this
    omega
  have h4 := o.anti c y
  rcases cmpC_bnd k y c with e | e | e
  · omega
  · exact absurd e h3
  · exact e
theorem rise_below {k : Nat} {x y c : CT k} (h : cmpC k x y < 0) (hx : cmpC k y c ≤ 0) : cmpC k x c = -1 := by
  have o := ord_cmpC k
  have h1 : cmpC k x c ≤ 0 := o.tr x y c (by omega) hx
  have h3 : cmpC k x c ≠ 0 := fun e => by
    have := cmpC_zero k x c e
    subst this
    have := o.anti x y
    omega
  rcases cmpC_bnd k x c with e | e | e
  · exact e
  · exact absurd e h3
  · omega
theorem placeR_con2 {α : Type} (f : α → Int) (x : α) (r : List α) : placeR f (x :: r) = if plQ f x = true then (0, f x == 0) else ((placeR f r).1 + 1, (placeR f r).2) := by
  unfold placeR
  by_cases h : plQ f x = true
  · simp [List.findIdx_cons, List.find?_cons, h]
  · have h' : plQ f x = false := by simpa using h
    simp [List.findIdx_cons, List.find?_cons, h']
theorem rise_get {k : Nat} (c : CT k) : ∀ (l : RC k), Rise k l → l.find? (fun q => cmpC k q.1 c == 0) = if (placeR (fun q => cmpC k q.1 c) l).2 = true then l[(placeR (fun q => cmpC k q.1 c) l).1]? else none
  | [], _ => rfl
  | x :: r, h => by
    have ih := rise_get c r (List.pairwise_cons.1 h).2
    have hx := (List.pairwise_cons.1 h).1
    rw [placeR_con2, List.find?_cons]
    rcases cmpC_bnd k x.1 c with e | e | e
    · simp [plQ, e, ih]
    · simp [plQ, e]
    · simp only [plQ, e]
      simp
      intro a b hm
      have := rise_above (hx (a, b) hm) (c := c) (by omega)
      simp only at this
      omega
theorem rise_next {k : Nat} (c : CT k) : ∀ (l : RC k), Rise k l → l.find? (fun q => decide (0 < cmpC k q.1 c)) = l[if (placeR (fun q => cmpC k q.1 c) l).2 = true then (placeR (fun q => cmpC k q.1 c) l).1 + 1 else (placeR (fun q => cmpC k q.1 c) l).1]?
  | [], _ => by simp [placeR]
  | x :: r, h => by
    have ih := rise_next c r (List.pairwise_cons.1 h).2
    have hx := (List.pairwise_cons.1 h).1
    rw [placeR_con2, List.find?_cons]
    rcases cmpC_bnd k x.1 c with e | e | e
    · simp only [plQ, e]
      simp only [show ((-1 : Int) == 0 || (-1 : Int) == 1) = false from rfl, show decide ((0 : Int) < -1) = false from rfl, ih]
      cases (placeR (fun q => cmpC k q.1 c) r).2 <;> simp
    · simp only [plQ, e]
      simp
      cases r with
      | nil => rfl
      | cons y r' =>
        have := rise_above (hx y (by simp)) (c := c) (by omega)
        simp [List.find?_cons, this]
    · simp [plQ, e]
theorem rise_del {k : Nat} (c : CT k) : ∀ (l : RC k), Rise k l → l.filter (fun q => !(cmpC k q.1 c == 0)) = if (placeR (fun q => cmpC k q.1 c) l).2 = true then l.take (placeR (fun q => cmpC k q.1 c) l).1 ++ l.drop ((placeR (fun q => cmpC k q.1 c) l).1 + 1) else l
  | [], _ => rfl
  | x :: r, h => by
    have ih := rise_del c r (List.pairwise_cons.1 h).2
    have hx := (List.pairwise_cons.1 h).1
    have all : 0 ≤ cmpC k x.1 c → r.filter (fun q => !(cmpC k q.1 c == 0)) = r := fun h0 => by
      rw [List.filter_eq_self]
      intro y hy
      have := rise_above (hx y hy) (c := c) h0
      simp [this]
    rw [placeR_con2, List.filter_cons]
    rcases cmpC_bnd k x.1 c with e | e | e
    · simp only [plQ, e]
      simp only [show ((-1 : Int) == 0 || (-1 : Int) == 1) = false from rfl, show (!((-1 : Int) == 0)) = true from rfl, ih]
      cases (placeR (fun q => cmpC k q.1 c) r).2 <;> simp
    · simp [plQ, e, all (by omega)]
    · simp [plQ, e, all (by omega)]
theorem rise_putR {k : Nat} (c d : CT k) : ∀ (l : RC k), Rise k l → Rise k (putR (fun q => cmpC k q.1 c) (c, d) l)
  | [], _ => by simp [putR, placeR, Rise]
  | x :: r, h => by
    have ih := rise_putR c d r (List.pairwise_cons.1 h).2
    have hx := (List.pairwise_cons.1 h).1
    have hr := (List.pairwise_cons.1 h).2
    have above : 0 ≤ cmpC k x.1 c → ∀ y ∈ r, cmpC k c y.1 < 0 := fun h0 y hy => by
      have := rise_above (hx y hy) (c := c) h0
      have := (ord_cmpC k).anti c y.1
      omega
    unfold putR at ih ⊢
    rw [placeR_con2]
    rcases cmpC_bnd k x.1 c with e | e | e
    · simp only [plQ, e]
      simp only [show ((-1 : Int) == 0 || (-1 : Int) == 1) = false from rfl, Bool.false_eq_true, if_false]
      have hl : List.take ((placeR (fun q => cmpC k q.1 c) r).1 + 1) (x :: r) ++ [(c, d)] ++ List.drop (if (placeR (fun q => cmpC k q.1 c) r).2 = true then (placeR (fun q => cmpC k q.1 c) r).1 + 1 + 1 else (placeR (fun q => cmpC k q.1 c) r).1 + 1) (x :: r) = x :: (List.take (placeR (fun q => cmpC k q.1 c) r).1 r ++ [(c, d)] ++ List.drop (if (placeR (fun q => cmpC k q.1 c) r).2 = true then (placeR (fun q => cmpC k q.1 c) r).1 + 1 else (placeR (fun q => cmpC k q.1 c) r).1) r) := by
        cases (placeR (fun q => cmpC k q.1 c) r).2 <;> simp
      rw [hl]
      refine List.pairwise_cons.2 ⟨fun y hy => ?_, ih⟩
      rw [List.append_assoc, List.mem_append, List.mem_append, List.mem_singleton] at hy
      rcases hy with hy | hy | hy
      · exact hx y (List.mem_of_mem_take hy)
      · subst hy; simp only; omega
      · exact hx y (List.mem_of_mem_drop hy)
    · simp only [plQ, e]
      simp only [show ((0 : Int) == 0 || (0 : Int) == 1) = true from rfl, show ((0 : Int) == 0) = true from rfl, if_true, List.take_zero, List.nil_append, List.singleton_append, List.drop_succ_cons, List.drop_zero, Nat.zero_add]
      exact List.pairwise_cons.2 ⟨above (by omega), hr⟩
    · simp only [plQ, e]
      simp only [show ((1 : Int) == 0 || (1 : Int) == 1) = true from rfl, show ((1 : Int) == 0) = false from rfl, if_true, Bool.false_eq_true, if_false, List.take_zero, List.nil_append, List.singleton_append, List.drop_zero]
      refine List.pairwise_cons.2 ⟨fun y hy => ?_, h⟩
      rcases List.mem_cons.1 hy with hy | hy
      · subst hy
        have := (ord_cmpC k).anti c y.1
        simp only; omega
      · exact above (by omega) y hy
theorem rise_filter {k : Nat} (P : CT k × CT k → Bool) {l : RC k} (h : Rise k l) : Rise k (l.filter P) := List.Pairwise.filter P h
theorem place_has {k : Nat} (c : CT k) : ∀ (l : RC k), (placeR (fun q => cmpC k q.1 c) l).2 = true → ∃ d, l[(placeR (fun q => cmpC k q.1 c) l).1]? = some (c, d)
  | [], h => by simp [placeR] at h
  | x :: r, h => by
    rw [placeR_con2] at h ⊢
    by_cases hp : plQ (fun q : CT k × CT k => cmpC k q.1 c) x = true
    · rw [if_pos hp] at h ⊢
      have : x.1 = c := cmpC_zero k _ _ (by simpa using h)
      exact ⟨x.2, by simp [← this]⟩
    · rw [if_neg hp] at h ⊢
      obtain ⟨d, hd⟩ := place_has c r h
      exact ⟨d, by simpa using hd⟩
theorem putR_there {k : Nat} (c d : CT k) (l : RC k) (h : (placeR (fun q => cmpC k q.1 c) l).2 = true) : l.modify (placeR (fun q => cmpC k q.1 c) l).1 (fun q => (q.1, d)) = putR (fun q => cmpC k q.1 c) (c, d) l := by
  obtain ⟨d0, hd⟩ := place_has c l h
  unfold putR
  rw [if_pos h]
  generalize (placeR (fun q => cmpC k q.1 c) l).1 = i at *
  have hi := (List.getElem?_eq_some_iff.1 hd).1
  apply List.ext_getElem?
  intro j
  rw [List.getElem?_modify, List.append_assoc]
  rcases Nat.lt_trichotomy j i with hj | hj | hj
  · rw [List.getElem?_append_left (by rw [List.length_take]; omega), List.getElem?_take, if_pos hj]
    cases l[j]? with
    | none => rfl
    | some x => simp [show i ≠ j from by omega]
  · subst hj
    rw [hd, List.getElem?_append_right (by rw [List.length_take]; omega)]
    simp [List.length_take, Nat.min_eq_left (Nat.le_of_lt hi)]
  · rw [List.getElem?_append_right (by rw [List.length_take]; omega), List.length_take, Nat.min_eq_left (by omega), List.getElem?_append_right (by simp; omega), List.getElem?_drop]
    simp only [List.length_singleton]
    rw [show i + 1 + (j - i - 1) = j from by omega]
    cases l[j]? with
    | none => rfl
    | some x => simp [show i ≠ j from by omega]
theorem rise_of {k : Nat} {S : List (RC k)} (h : RiseS k S) (m : Int) : Rise k (rowOf S m) := by
  unfold rowOf
  split
  · cases e : S[m.toNat]? with
    | none => exact List.Pairwise.nil
    | some l => exact h l (List.mem_of_getElem? e)
  · exact List.Pairwise.nil
theorem RiseS.set {k : Nat} {S : List (RC k)} (h : RiseS k S) (i : Nat) {l : RC k} (hl : Rise k l) : RiseS k (S.set i l) := fun x hx => by
  rcases List.mem_or_eq_of_mem_set hx with hx | hx
  · exact h x hx
  · subst hx; exact hl
theorem rowC_get (k : Nat) (r : Rw k) (i : Nat) (f : CT k × CT k → CT k) (g : VT k × VT k → CT k) (hg : ∀ p, g p = f (ofP k p)) : (r[i]?).map g = ((rowC k r)[i]?).map f := by
  unfold rowC
  rw [List.getElem?_map]
  cases r[i]? with
  | none => rfl
  | some p => simp [hg]
/- Get, Next, First, Del, Put of the document. -/
theorem refGet_c (k : Nat) (w : World) (sa : Option Addr) (sn sc : Nat) (S : List (RC k)) (hd : StCR k w sa sn S) (hr : RiseS k S) (m : Int) (h : Hd) (c : CT k) (hk : RdC k w h c) :
    Calls Try.prog 18 #[.agg #[.slice sa sn sc], .int .i64 m, h.v] w (RbP k w (((rowOf S m).find? (fun q => cmpC k q.1 c == 0)).map (·.2))) := by
  obtain ⟨ms, h1, h2⟩ := hd
  obtain ⟨t, rfl, t2, rfl⟩ := hk
  have := refGet_any k w sa sn sc ms h1 m t t2
  rw [place_c h2] at this
  have e : (if (placeR (fun q => cmpC k q.1 (ofT k t)) (rowOf S m)).2 = true then ((rowAt ms m)[(placeR (fun q => cmpC k q.1 (ofT k t)) (rowOf S m)).1]?).map (fun p => ofT k p.2) else none) = ((rowOf S m).find? (fun q => cmpC k q.1 (ofT k t) == 0)).map (·.2) := by
    rw [rise_get (ofT k t) (rowOf S m) (rise_of hr m), rowC_get k (rowAt ms m) _ (·.2) (fun p => ofT k p.2) (fun p => rfl), rowAt_c h2]
    split <;> rfl
  rw [e] at this
  exact this
theorem refNext_c (k : Nat) (w : World) (sa : Option Addr) (sn sc : Nat) (S : List (RC k)) (hd : StCR k w sa sn S) (hr : RiseS k S) (m : Int) (h : Hd) (c : CT k) (hk : RdC k w h c) :
    Calls Try.prog 20 #[.agg #[.slice sa sn sc], .int .i64 m, h.v] w (RbP k w (((rowOf S m).find? (fun q => decide (0 < cmpC k q.1 c))).map (·.1))) := by
  obtain ⟨ms, h1, h2⟩ := hd
  obtain ⟨t, rfl, t2, rfl⟩ := hk
  have := refNext_any k w sa sn sc ms h1 m t t2
  rw [place_c h2, rowC_get k (rowAt ms m) _ (·.1) (fun p => ofT k p.1) (fun p => rfl), rowAt_c h2, ← rise_next (ofT k t) (rowOf S m) (rise_of hr m)] at this
  exact this
theorem refFirst_c (k : Nat) (w : World) (sa : Option Addr) (sn sc : Nat) (S : List (RC k)) (hd : StCR k w sa sn S) (m : Int) :
    Calls Try.prog 22 #[.agg #[.slice sa sn sc], .int .i64 m] w (RbP k w ((rowOf S m).head?.map (·.1))) := by
  obtain ⟨ms, h1, h2⟩ := hd
  have := refFirst_any k w sa sn sc ms h1 m
  have e : ((rowAt ms m).head?.map fun p => ofT k p.1) = (rowOf S m).head?.map (·.1) := by
    rw [← rowAt_c h2 m]
    unfold rowC
    cases rowAt ms m <;> rfl
  rw [e] at this
  exact this
theorem set_same {α : Type} (S : List α) (i : Nat) (x : α) (h : i < S.length → S[i]? = some x) : S.set i x = S := by
  apply List.ext_getElem?
  intro j
  rw [List.getElem?_set]
  by_cases hj : i = j
  · subst hj
    by_cases hl : i < S.length
    · rw [if_pos rfl, if_pos hl, h hl]
    · rw [if_pos rfl, if_neg hl, List.getElem?_eq_none (by omega)]
  · rw [if_neg hj]
theorem rowOf_at {k : Nat} (S : List (RC k)) {m : Int} (h0 : 0 ≤ m) (h : m.toNat < S.length) : S[m.toNat]? = some (rowOf S m) := by
  unfold rowOf
  rw [if_pos h0, List.getElem?_eq_getElem h]
  rfl
theorem refDel_c (k : Nat) (w : World) (sa : Option Addr) (sn sc : Nat) (S : List (RC k)) (hd : StCR k w sa sn S) (hsc : sn ≤ sc) (hr : RiseS k S) (m : Int) (h : Hd) (c : CT k) (hk : RdC k w h c) :
    Calls Try.prog 16 #[.agg #[.slice sa sn sc], .int .i64 m, h.v] w (RsP k w (if 0 ≤ m then S.set m.toNat ((rowOf S m).filter fun q => !(cmpC k q.1 c == 0)) else S)) := by
  obtain ⟨ms, h1, h2⟩ := hd
  obtain ⟨t, rfl, t2, rfl⟩ := hk
  have := refDel_any k w sa sn sc ms h1 hsc m t t2
  rw [place_c h2, h2] at this
  have e : (if (placeR (fun q => cmpC k q.1 (ofT k t)) (rowOf S m)).2 = true then S.set m.toNat (rowC k ((rowAt ms m).take (placeR (fun q => cmpC k q.1 (ofT k t)) (rowOf S m)).1 ++ (rowAt ms m).drop ((placeR (fun q => cmpC k q.1 (ofT k t)) (rowOf S m)).1 + 1))) else S) = if 0 ≤ m then S.set m.toNat ((rowOf S m).filter fun q => !(cmpC k q.1 (ofT k t) == 0)) else S := by
    rw [rise_del (ofT k t) (rowOf S m) (rise_of hr m)]
    have hc : ∀ i, rowC k ((rowAt ms m).take i ++ (rowAt ms m).drop (i + 1)) = (rowOf S m).take i ++ (rowOf S m).drop (i + 1) := fun i => by
      rw [← rowAt_c h2 m]
      unfold rowC
      simp
    rw [hc]
    by_cases h0 : 0 ≤ m
    · rw [if_pos h0]
      split
      · rfl
      · rw [set_same]
        intro hl
        exact rowOf_at S h0 hl
    · rw [if_neg h0]
      have : rowOf S m = [] := by unfold rowOf; rw [if_neg h0]
      rw [this]
      simp [placeR]
  rw [e] at this
  exact this
def RpP (k : Nat) (w : World) (S : List (RC k)) (e : Ending) (w' : World) : Prop := ∃ fa fn fc, e = .returned (.tuple #[.agg #[.slice fa fn fc], .int .i64 0]) ∧ Below w.heap.size w w' ∧ fn ≤ fc ∧ StCR k w' fa fn S
theorem refPut_c_ok (k : Nat) (w : World) (sa : Option Addr) (sn sc : Nat) (S : List (RC k)) (hd : StCR k w sa sn S) (m : Int) (h g : Hd) (c d : CT k) (hk : RdC k w h c) (hv : RdC k w g d) (hm : hasB sn m = true) (hok : (placeR (fun q => cmpC k q.1 c) (rowOf S m)).2 = true ∨ (rowOf S m).length < 24) :
    Calls Try.prog 13 #[.agg #[.slice sa sn sc], .int .i64 m, h.v, g.v] w (RpP k w (S.set m.toNat (putR (fun q => cmpC k q.1 c) (c, d) (rowOf S m)))) := by
  obtain ⟨ms, h1, h2⟩ := hd
  obtain ⟨t, rfl, t2, rfl⟩ := hk
  obtain ⟨u, rfl, u2, rfl⟩ := hv
  have hl : (rowAt ms m).length = (rowOf S m).length := by rw [← rowAt_c h2 m]; simp [rowC]
  cases hb : (placeR (fun q => cmpC k q.1 (ofT k t)) (rowOf S m)).2 with
  | true =>
    have := refPut_there k w sa sn sc ms h1 m t u t2 u2 hm (by rw [place_c h2]; exact hb)
    rw [h2, rowAt_c h2, place_c h2, putR_there _ _ _ hb] at this
    exact this
  | false =>
    have hlt : (rowOf S m).length < 24 := by
      rcases hok with e | e
      · rw [hb] at e; cases e
      · exact e
    have := refPut_new k w sa sn sc ms h1 m t u t2 u2 hm (by rw [place_c h2]; exact hb) (by rw [hl]; exact hlt)
    rw [h2, place_c h2] at this
    have e : ∀ i, rowC k ((rowAt ms m).take i ++ [(t, u)] ++ (rowAt ms m).drop i) = (rowOf S m).take i ++ [(ofT k t, ofT k u)] ++ (rowOf S m).drop i := fun i => by
      rw [← rowAt_c h2 m]
      unfold rowC
      simp [ofP]
    rw [e] at this
    unfold putR
    rw [hb]
    exact this
theorem refPut_c_full (k : Nat) (w : World) (sa : Option Addr) (sn sc : Nat) (S : List (RC k)) (hd : StCR k w sa sn S) (m : Int) (h g : Hd) (c d : CT k) (hk : RdC k w h c) (hv : RdC k w g d) (hm : hasB sn m = true) (hnt : (placeR (fun q => cmpC k q.1 c) (rowOf S m)).2 = false) (hfl : 24 ≤ (rowOf S m).length) :
    Calls Try.prog 13 #[.agg #[.slice sa sn sc], .int .i64 m, h.v, g.v] w fun e w' => e = .returned (.tuple #[.agg #[.slice none 0 0], .int .i64 41]) ∧ Below w.heap.size w w' := by
  obtain ⟨ms, h1, h2⟩ := hd
  obtain ⟨t, rfl, t2, rfl⟩ := hk
  obtain ⟨u, rfl, u2, rfl⟩ := hv
  have hl : (rowAt ms m).length = (rowOf S m).length := by rw [← rowAt_c h2 m]; simp [rowC]
  exact refPut_full k w sa sn sc ms h1 m t u t2 u2 hm (by rw [place_c h2]; exact hnt) (by rw [hl]; exact hfl)
theorem refPut_c_nomap (k : Nat) (w : World) (sa : Option Addr) (sn sc : Nat) (S : List (RC k)) (hd : StCR k w sa sn S) (m : Int) (h g : Hd) (c d : CT k) (hk : RdC k w h c) (hv : RdC k w g d) (hm : hasB sn m = false) :
    Calls Try.prog 13 #[.agg #[.slice sa sn sc], .int .i64 m, h.v, g.v] w fun e w' => e = .returned (.tuple #[.agg #[.slice none 0 0], .int .i64 42]) ∧ Below w.heap.size w w' := by
  obtain ⟨ms, h1, h2⟩ := hd
  obtain ⟨t, rfl, t2, rfl⟩ := hk
  obtain ⟨u, rfl, u2, rfl⟩ := hv
  exact refPut_nomap k w sa sn sc ms h1 m t u t2 u2 hm
theorem refSame_c (k : Nat) (w : World) (h g : Hd) (c : CT k) (hh : RdC k w h c) (hg : RdC k w g c) : Calls Try.prog 23 #[h.v, g.v] w fun e w' => e = .returned (.bool true) ∧ Below w.heap.size w w' := by
  obtain ⟨t, rfl, t2, e1⟩ := hh
  obtain ⟨u, rfl, u2, e2⟩ := hg
  have := refSame k w t u t2 u2
  have e : cmpT k t u = 0 := by rw [← cmpC_of, e1, e2]; exact (cmpC_iff k c c).2 rfl
  rw [e] at this
  exact this
end Go.Proofs.Ytenfgahedbeekaa
