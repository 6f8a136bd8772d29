/- The state's calls, told by what the state holds. -/
import Derived.Test.YtenfgahedbeekaaA2
namespace Go.Proofs.Ytenfgahedbeekaa
open Go.RowKit Go.Deep Go.Shelf
set_option linter.unusedVariables false
set_option linter.unusedSimpArgs false

abbrev RC (k : Nat) := List (CT k × CT k)
def StCR (k : Nat) (w : World) (a : Option Addr) (n : Nat) (S : List (RC k)) : Prop := ∃ ms, StR k w a n ms ∧ ms.map (fun q => rowC k q.2) = S
def StCP (k : Nat) (w : World) (A : Nat → Prop) (a : Option Addr) (n : Nat) (S : List (RC k)) : Prop := ∃ ms, StP k w A a n ms ∧ ms.map (fun q => rowC k q.2) = S
theorem StCP.cr {k : Nat} {w : World} {A : Nat → Prop} {a : Option Addr} {n : Nat} {S : List (RC k)} (h : StCP k w A a n S) : StCR k w a n S := by
  obtain ⟨ms, h1, h2⟩ := h
  exact ⟨ms, h1.str, h2⟩
theorem StCP.keep {k : Nat} {w w' : World} {A : Nat → Prop} {a : Option Addr} {n : Nat} {S : List (RC k)} (h : StCP k w A a n S) (e : ∀ b, A b → w'.heap[b]? = w.heap[b]?) : StCP k w' A a n S := by
  obtain ⟨ms, h1, h2⟩ := h
  exact ⟨ms, h1.keep e, h2⟩
theorem StCP.imp {k : Nat} {w : World} {A B : Nat → Prop} {a : Option Addr} {n : Nat} {S : List (RC k)} (h : StCP k w A a n S) (i : ∀ b, A b → B b) : StCP k w B a n S := by
  obtain ⟨ms, h1, h2⟩ := h
  exact ⟨ms, h1.imp i, h2⟩
theorem StCR.below {k : Nat} {w w' : World} {a : Option Addr} {n : Nat} {S : List (RC k)} {B : Nat} (h : StCR k w a n S) (hB : w.heap.size ≤ B) (hb : Below B w w') : StCR k w' a n S := by
  obtain ⟨ms, h1, h2⟩ := h
  exact ⟨ms, h1.below hB hb, h2⟩
theorem StCR.len {k : Nat} {w : World} {a : Option Addr} {n : Nat} {S : List (RC k)} (h : StCR k w a n S) : n = S.length ∧ n ≤ 1000 := by
  obtain ⟨ms, h1, h2⟩ := h
  exact ⟨by rw [← h2, List.length_map, h1.n1], h1.n2⟩
def rowOf {k : Nat} (S : List (RC k)) (m : Int) : RC k := if 0 ≤ m then (S[m.toNat]?).getD [] else []
theorem rowAt_c {k : Nat} {ms : List (Sl × Rw k)} {S : List (RC k)} (h : ms.map (fun q => rowC k q.2) = S) (m : Int) : rowC k (rowAt ms m) = rowOf S m := by
  unfold rowAt rowOf
  split
  · rw [← h, List.getElem?_map]
    cases ms[m.toNat]? <;> rfl
  · rfl
theorem find_c {k : Nat} (r : Rw k) (P : CT k → Bool) (f : CT k × CT k → CT k) (g : VT k × VT k → CT k) (hg : ∀ p, g p = f (ofP k p)) : (r.find? (fun p => P (ofT k p.1))).map g = ((rowC k r).find? (fun q => P q.1)).map f := by
  unfold rowC
  rw [List.find?_map]
  have : (fun q : CT k × CT k => P q.1) ∘ ofP k = fun p => P (ofT k p.1) := rfl
  rw [this]
  cases r.find? (fun p => P (ofT k p.1)) with
  | none => rfl
  | some p => simp [hg]
theorem get_c (k : Nat) (w : World) (sa : Option Addr) (sn sc : Nat) (S : List (RC k)) (hd : StCR k w sa sn S) (m : Int) (h : Hd) (c : CT k) (hk : RdC k w h c) :
    Calls Try.prog 17 #[.agg #[.slice sa sn sc], .int .i64 m, h.v] w (MbP k w (((rowOf S m).find? (fun q => cmpC k q.1 c == 0)).map (·.2))) := by
  obtain ⟨ms, h1, h2⟩ := hd
  obtain ⟨t, rfl, t2, rfl⟩ := hk
  have := get_any k w sa sn sc ms h1 m t t2
  have e : ((rowAt ms m).find? (fun p => cmpT k p.1 t == 0)).map (fun p => ofT k p.2) = ((rowOf S m).find? (fun q => cmpC k q.1 (ofT k t) == 0)).map (·.2) := by
    rw [← rowAt_c h2 m, ← find_c (rowAt ms m) (fun c => cmpC k c (ofT k t) == 0) (·.2) (fun p => ofT k p.2) (fun p => rfl)]
    simp only [cmpC_of]
  rw [e] at this
  exact this
theorem next_c (k : Nat) (w : World) (sa : Option Addr) (sn sc : Nat) (S : List (RC k)) (hd : StCR k w sa sn S) (m : Int) (h : Hd) (c : CT k) (hk : RdC k w h c) :
    Calls Try.prog 19 #[.agg #[.slice sa sn sc], .int .i64 m, h.v] w (MbP k w (((rowOf S m).find? (fun q => decide (0 < cmpC k q.1 c))).map (·.1))) := by
  obtain ⟨ms, h1, h2⟩ := hd
  obtain ⟨t, rfl, t2, rfl⟩ := hk
  have := next_any k w sa sn sc ms h1 m t t2
  have e : ((rowAt ms m).find? (fun p => decide (0 < cmpT k p.1 t))).map (fun p => ofT k p.1) = ((rowOf S m).find? (fun q => decide (0 < cmpC k q.1 (ofT k t)))).map (·.1) := by
    rw [← rowAt_c h2 m, ← find_c (rowAt ms m) (fun c => decide (0 < cmpC k c (ofT k t))) (·.1) (fun p => ofT k p.1) (fun p => rfl)]
    simp only [cmpC_of]
  rw [e] at this
  exact this
theorem first_c (k : Nat) (w : World) (sa : Option Addr) (sn sc : Nat) (S : List (RC k)) (hd : StCR k w sa sn S) (m : Int) :
    Calls Try.prog 21 #[.agg #[.slice sa sn sc], .int .i64 m] w (MbP k w ((rowOf S m).head?.map (·.1))) := by
  obtain ⟨ms, h1, h2⟩ := hd
  have := first_any k w sa sn sc ms h1 m
  have e : ((rowAt ms m).head?.map fun p => ofT k p.1) = (rowOf S m).head?.map (·.1) := by
    rw [← rowAt_c h2 m]
    unfold rowC
    cases rowAt ms m <;> rfl
  rw [e] at this
  exact this
/- A state told: in new memory. -/
def StTold (k : Nat) (w : World) (S : List (RC k)) (e : Ending) (w' : World) : Prop := ∃ fa fn fc, e = .returned (.agg #[.slice fa fn fc]) ∧ Below w.heap.size w w' ∧ fn ≤ fc ∧ StCP k w' (fun b => w.heap.size ≤ b ∧ b < w'.heap.size) fa fn S
theorem wth_c {k : Nat} (m : Int) (r : RC k) (S : List (RC k)) : wth m r S = if 0 ≤ m then S.set m.toNat r else S := by
  unfold wth
  by_cases h0 : 0 ≤ m
  · rw [if_pos h0]
    apply List.ext_getElem?
    intro i
    rw [List.getElem?_mapIdx, List.getElem?_set]
    by_cases h : m.toNat = i
    · rw [if_pos h]
      subst h
      by_cases hl : m.toNat < S.length
      · rw [if_pos hl, List.getElem?_eq_getElem hl, Option.map_some, if_pos (by omega)]
      · rw [if_neg hl, List.getElem?_eq_none (by omega)]
        rfl
    · rw [if_neg h]
      cases S[i]? with
      | none => rfl
      | some x => rw [Option.map_some, if_neg (by omega)]
  · rw [if_neg h0]
    apply List.ext_getElem?
    intro i
    rw [List.getElem?_mapIdx]
    cases S[i]? with
    | none => rfl
    | some x => rw [Option.map_some, if_neg (by omega)]
theorem del_c (k : Nat) (w : World) (sa : Option Addr) (sn sc : Nat) (S : List (RC k)) (hd : StCR k w sa sn S) (m : Int) (h : Hd) (c : CT k) (hk : RdC k w h c) :
    Calls Try.prog 15 #[.agg #[.slice sa sn sc], .int .i64 m, h.v] w (StTold k w (if 0 ≤ m then S.set m.toNat ((rowOf S m).filter fun q => !(cmpC k q.1 c == 0)) else S)) := by
  obtain ⟨ms, h1, h2⟩ := hd
  obtain ⟨t, rfl, t2, rfl⟩ := hk
  refine (del_any k w sa sn sc ms h1 m t t2).mono ?_
  rintro e w' ⟨fa, fn, fc, ns, he, hb, hc, hs, hn⟩
  refine ⟨fa, fn, fc, he, hb, hc, ns, hs, ?_⟩
  rw [hn, wth_c, h2]
  have : rowC k ((rowAt ms m).filter fun p => !(cmpT k p.1 t == 0)) = (rowOf S m).filter fun q => !(cmpC k q.1 (ofT k t) == 0) := by
    rw [← rowAt_c h2 m]
    unfold rowC
    rw [List.filter_map]
    congr 1
    apply List.filter_congr
    intro p _
    simp only [Function.comp, ofP, cmpC_of]
  rw [this]
theorem placeR_map {α β : Type} (c : β → Int) (f : α → β) (l : List α) : placeR (fun a => c (f a)) l = placeR c (l.map f) := by
  unfold placeR
  have e : plQ c ∘ f = plQ (fun a => c (f a)) := rfl
  rw [List.findIdx_map, List.find?_map, e]
  refine Prod.ext rfl ?_
  show _ = Option.getD (Option.map (fun a => c a == 0) (Option.map f (List.find? (plQ fun a => c (f a)) l))) false
  cases List.find? (plQ fun a => c (f a)) l <;> rfl
theorem putR_map {α β : Type} (c : β → Int) (f : α → β) (x : α) (l : List α) : (putR (fun a => c (f a)) x l).map f = putR c (f x) (l.map f) := by
  unfold putR
  rw [placeR_map]
  simp only [List.map_append, List.map_take, List.map_drop, List.map_cons, List.map_nil]
def PutTold (k : Nat) (w : World) (S : List (RC k)) (e : Ending) (w' : World) : Prop := ∃ fa fn fc, e = .returned (.tuple #[.agg #[.slice fa fn fc], .int .i64 0]) ∧ Below w.heap.size w w' ∧ fn ≤ fc ∧ StCP k w' (fun b => w.heap.size ≤ b ∧ b < w'.heap.size) fa fn S
theorem place_c {k : Nat} {ms : List (Sl × Rw k)} {S : List (RC k)} (h2 : ms.map (fun q => rowC k q.2) = S) (m : Int) (t : VT k) : placeR (fun p => cmpT k p.1 t) (rowAt ms m) = placeR (fun q => cmpC k q.1 (ofT k t)) (rowOf S m) := by
  rw [← rowAt_c h2 m]
  unfold rowC
  rw [← placeR_map]
  congr 1
  funext p
  exact (cmpC_of k p.1 t).symm
theorem put_c_ok (k : Nat) (w : World) (sa : Option Addr) (sn sc : Nat) (S : List (RC k)) (hd : StCR k w sa sn S) (m : Int) (h g : Hd) (c d : CT k) (hk : RdC k w h c) (hv : RdC k w g d) (hm : hasB sn m = true) (hok : (placeR (fun q => cmpC k q.1 c) (rowOf S m)).2 = true ∨ (rowOf S m).length < 24) :
    Calls Try.prog 12 #[.agg #[.slice sa sn sc], .int .i64 m, h.v, g.v] w (PutTold k w (S.set m.toNat (putR (fun q => cmpC k q.1 c) (c, d) (rowOf S m)))) := by
  obtain ⟨ms, h1, h2⟩ := hd
  obtain ⟨t, rfl, t2, rfl⟩ := hk
  obtain ⟨u, rfl, u2, rfl⟩ := hv
  have hl : (rowAt ms m).length = (rowOf S m).length := by rw [← rowAt_c h2 m]; simp [rowC]
  have h0 : 0 ≤ m := by
    have : 0 ≤ m ∧ m < (sn : Int) := by simpa [hasB] using hm
    exact this.1
  refine (put_ok k w sa sn sc ms h1 m t u t2 u2 hm (by rw [place_c h2, hl]; exact hok)).mono ?_
  rintro e w' ⟨fa, fn, fc, ns, he, hb, hc, hs, hn⟩
  refine ⟨fa, fn, fc, he, hb, hc, ns, hs, ?_⟩
  rw [hn, wth_c, h2, if_pos h0]
  have : rowC k (putR (fun p => cmpT k p.1 t) (t, u) (rowAt ms m)) = putR (fun q => cmpC k q.1 (ofT k t)) (ofT k t, ofT k u) (rowOf S m) := by
    rw [← rowAt_c h2 m]
    unfold rowC
    rw [show (ofT k t, ofT k u) = ofP k (t, u) from rfl, ← putR_map]
    congr 2
    funext p
    exact (cmpC_of k p.1 t).symm
  rw [this]
theorem put_c_full (k : Nat) (w : World) (sa : Option Addr) (sn sc : Nat) (S : List (RC k)) (hd : StCR k w sa sn S) (m : Int) (h g : Hd) (c d : CT k) (hk : RdC k w h c) (hv : RdC k w g d) (hm : hasB sn m = true) (hnt : (placeR (fun q => cmpC k q.1 c) (rowOf S m)).2 = false) (hfl : 24 ≤ (rowOf S m).length) :
    Calls Try.prog 12 #[.agg #[.slice sa sn sc], .int .i64 m, h.v, g.v] w fun e w' => e = .returned (.tuple #[.agg #[.slice none 0 0], .int .i64 41]) ∧ Below w.heap.size w w' := by
  obtain ⟨ms, h1, h2⟩ := hd
  obtain ⟨t, rfl, t2, rfl⟩ := hk
  obtain ⟨u, rfl, u2, rfl⟩ := hv
  have hl : (rowAt ms m).length = (rowOf S m).length := by rw [← rowAt_c h2 m]; simp [rowC]
  exact put_full k w sa sn sc ms h1 m t u t2 u2 hm (by rw [place_c h2]; exact hnt) (by rw [hl]; exact hfl)
theorem put_c_nomap (k : Nat) (w : World) (sa : Option Addr) (sn sc : Nat) (S : List (RC k)) (hd : StCR k w sa sn S) (m : Int) (h g : Hd) (c d : CT k) (hk : RdC k w h c) (hv : RdC k w g d) (hm : hasB sn m = false) :
    Calls Try.prog 12 #[.agg #[.slice sa sn sc], .int .i64 m, h.v, g.v] w fun e w' => e = .returned (.tuple #[.agg #[.slice none 0 0], .int .i64 42]) ∧ Below w.heap.size w w' := by
  obtain ⟨ms, h1, h2⟩ := hd
  obtain ⟨t, rfl, t2, rfl⟩ := hk
  obtain ⟨u, rfl, u2, rfl⟩ := hv
  exact put_nomap k w sa sn sc ms h1 m t u t2 u2 hm
theorem same_c (k : Nat) (w : World) (a : Option Addr) (n cap : Nat) (S : List (RC k)) (b : Option Addr) (m cap2 : Nat) (T : List (RC k)) (hp : StCR k w a n S) (hq : StCR k w b m T) :
    Calls Try.prog 24 #[.agg #[.slice a n cap], .agg #[.slice b m cap2]] w fun e w' => (∃ r : Bool, e = .returned (.bool r) ∧ (r = true ↔ S = T)) ∧ Below w.heap.size w w' := by
  obtain ⟨ms, h1, h2⟩ := hp
  obtain ⟨ns, g1, g2⟩ := hq
  refine (heapSame_any k w a n cap ms b m cap2 ns h1 g1).mono ?_
  rintro e w' ⟨he, hb⟩
  exact ⟨⟨_, he, by rw [stB_iff, h2, g2]⟩, hb⟩
end Go.Proofs.Ytenfgahedbeekaa
