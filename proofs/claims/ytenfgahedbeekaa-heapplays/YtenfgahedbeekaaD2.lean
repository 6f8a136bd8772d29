/- The state's calls on maps of numbers; what they do to a list that rises. -/
import Derived.Test.YtenfgahedbeekaaC2
namespace Go.Proofs.Ytenfgahedbeekaa
open Go.RowKit Go.Deep Go.Shelf
set_option linter.unusedVariables false
set_option linter.unusedSimpArgs false

abbrev NL := List (Int × Int)
def numP (p : Int × Int) : CT 1 × CT 1 := (numC p.1, numC p.2)
def rowN (L : NL) : RC 1 := L.map numP
def cA (a : Int) (p : Int × Int) : Int := ci p.1 a
theorem ci_zero_iff (x a : Int) : (ci x a == 0) = (x == a) := by
  unfold ci
  by_cases h1 : x < a
  · rw [if_pos h1]
    have : ¬ x = a := by omega
    simp [this]
  · rw [if_neg h1]
    by_cases h2 : a < x
    · rw [if_pos h2]
      have : ¬ x = a := by omega
      simp [this]
    · rw [if_neg h2]
      have : x = a := by omega
      simp [this]
theorem ci_pos_iff (x a : Int) : decide (0 < ci x a) = decide (a < x) := by
  unfold ci
  by_cases h1 : x < a
  · rw [if_pos h1]
    have : ¬ a < x := by omega
    simp [this]
  · rw [if_neg h1]
    by_cases h2 : a < x
    · rw [if_pos h2]; simp [h2]
    · rw [if_neg h2]; simp [h2]
theorem rowOf_n {SS : List NL} {i : Nat} {L : NL} (hi : SS[i]? = some L) : rowOf (SS.map rowN) (i : Int) = rowN L := by
  unfold rowOf
  rw [if_pos (by omega), Int.toNat_natCast, List.getElem?_map, hi]; rfl
theorem cA_n (a : Int) : (fun q : CT 1 × CT 1 => cmpC 1 q.1 (numC a)) ∘ numP = cA a := by
  funext p
  exact cmp_num p.1 a
theorem place_n (a : Int) (L : NL) : placeR (fun q => cmpC 1 q.1 (numC a)) (rowN L) = placeR (cA a) L := by
  unfold rowN
  rw [← placeR_map (fun q : CT 1 × CT 1 => cmpC 1 q.1 (numC a)) numP L]
  congr 1
  exact cA_n a
theorem put_n_row (a b : Int) (L : NL) : putR (fun q => cmpC 1 q.1 (numC a)) (numC a, numC b) (rowN L) = rowN (putR (cA a) (a, b) L) := by
  unfold rowN
  rw [show (numC a, numC b) = numP (a, b) from rfl, ← putR_map (fun q : CT 1 × CT 1 => cmpC 1 q.1 (numC a)) numP (a, b) L]
  congr 2
  exact cA_n a
def In64 (a : Int) : Prop := -9223372036854775808 ≤ a ∧ a ≤ 9223372036854775807
theorem hasB_n {n i : Nat} (h : i < n) : hasB n (i : Int) = true := by
  simp [hasB, h]
theorem put_n (w : World) (sa : Option Addr) (sn sc : Nat) (SS : List NL) (hd : StCR 1 w sa sn (SS.map rowN)) (i : Nat) (L : NL) (hi : SS[i]? = some L) (a b : Int) (ha : In64 a) (hb : In64 b) (hok : (placeR (cA a) L).2 = true ∨ L.length < 24) :
    Calls Try.prog 12 #[.agg #[.slice sa sn sc], .int .i64 (i : Int), (numH a).v, (numH b).v] w (PutTold 1 w ((SS.set i (putR (cA a) (a, b) L)).map rowN)) := by
  have hl : i < sn := by
    have := hd.len.1
    rw [List.length_map] at this
    have := (List.getElem?_eq_some_iff.1 hi).1
    omega
  have h := put_c_ok 1 w sa sn sc _ hd (i : Int) (numH a) (numH b) (numC a) (numC b) (num_rd w a ha.1 ha.2) (num_rd w b hb.1 hb.2) (hasB_n hl) (by
    rw [rowOf_n hi, place_n]
    rcases hok with h | h
    · exact .inl h
    · exact .inr (by unfold rowN; rw [List.length_map]; exact h))
  rw [rowOf_n hi, put_n_row, Int.toNat_natCast, ← List.map_set] at h
  exact h
theorem full_n (w : World) (sa : Option Addr) (sn sc : Nat) (SS : List NL) (hd : StCR 1 w sa sn (SS.map rowN)) (i : Nat) (L : NL) (hi : SS[i]? = some L) (a b : Int) (ha : In64 a) (hb : In64 b) (hnt : (placeR (cA a) L).2 = false) (hfl : 24 ≤ L.length) :
    Calls Try.prog 12 #[.agg #[.slice sa sn sc], .int .i64 (i : Int), (numH a).v, (numH b).v] w fun e w' => e = .returned (.tuple #[.agg #[.slice none 0 0], .int .i64 41]) ∧ Below w.heap.size w w' := by
  have hl : i < sn := by
    have := hd.len.1
    rw [List.length_map] at this
    have := (List.getElem?_eq_some_iff.1 hi).1
    omega
  exact put_c_full 1 w sa sn sc _ hd (i : Int) (numH a) (numH b) (numC a) (numC b) (num_rd w a ha.1 ha.2) (num_rd w b hb.1 hb.2) (hasB_n hl) (by rw [rowOf_n hi, place_n]; exact hnt) (by rw [rowOf_n hi]; unfold rowN; rw [List.length_map]; exact hfl)
theorem find_n (L : NL) (P : CT 1 → Bool) (Q : Int → Bool) (hPQ : ∀ x, P (numC x) = Q x) (f : CT 1 × CT 1 → CT 1) : ((rowN L).find? (fun q => P q.1)).map f = (L.find? (fun p => Q p.1)).map (fun p => f (numP p)) := by
  unfold rowN
  rw [List.find?_map]
  have : (fun q : CT 1 × CT 1 => P q.1) ∘ numP = fun p => Q p.1 := by funext p; exact hPQ p.1
  rw [this]
  cases L.find? (fun p => Q p.1) <;> rfl
theorem get_n (w : World) (sa : Option Addr) (sn sc : Nat) (SS : List NL) (hd : StCR 1 w sa sn (SS.map rowN)) (i : Nat) (L : NL) (hi : SS[i]? = some L) (h : Hd) (a : Int) (hk : RdC 1 w h (numC a)) :
    Calls Try.prog 17 #[.agg #[.slice sa sn sc], .int .i64 (i : Int), h.v] w (MbP 1 w ((L.find? (fun p => p.1 == a)).map (fun p => numC p.2))) := by
  have h := get_c 1 w sa sn sc _ hd (i : Int) h (numC a) hk
  rw [rowOf_n hi, find_n L (fun c => cmpC 1 c (numC a) == 0) (fun x => x == a) (fun x => by rw [cmp_num]; exact ci_zero_iff x a) (·.2)] at h
  exact h
theorem next_n (w : World) (sa : Option Addr) (sn sc : Nat) (SS : List NL) (hd : StCR 1 w sa sn (SS.map rowN)) (i : Nat) (L : NL) (hi : SS[i]? = some L) (h : Hd) (a : Int) (hk : RdC 1 w h (numC a)) :
    Calls Try.prog 19 #[.agg #[.slice sa sn sc], .int .i64 (i : Int), h.v] w (MbP 1 w ((L.find? (fun p => decide (a < p.1))).map (fun p => numC p.1))) := by
  have h := next_c 1 w sa sn sc _ hd (i : Int) h (numC a) hk
  rw [rowOf_n hi, find_n L (fun c => decide (0 < cmpC 1 c (numC a))) (fun x => decide (a < x)) (fun x => by rw [cmp_num]; exact ci_pos_iff x a) (·.1)] at h
  exact h
theorem first_n (w : World) (sa : Option Addr) (sn sc : Nat) (SS : List NL) (hd : StCR 1 w sa sn (SS.map rowN)) (i : Nat) (L : NL) (hi : SS[i]? = some L) :
    Calls Try.prog 21 #[.agg #[.slice sa sn sc], .int .i64 (i : Int)] w (MbP 1 w (L.head?.map (fun p => numC p.1))) := by
  have h := first_c 1 w sa sn sc _ hd (i : Int)
  rw [rowOf_n hi] at h
  have e : (rowN L).head?.map (·.1) = L.head?.map (fun p => numC p.1) := by
    unfold rowN
    cases L <;> rfl
  rw [e] at h
  exact h
theorem del_n (w : World) (sa : Option Addr) (sn sc : Nat) (SS : List NL) (hd : StCR 1 w sa sn (SS.map rowN)) (i : Nat) (L : NL) (hi : SS[i]? = some L) (a : Int) (ha : In64 a) :
    Calls Try.prog 15 #[.agg #[.slice sa sn sc], .int .i64 (i : Int), (numH a).v] w (StTold 1 w ((SS.set i (L.filter fun p => !(p.1 == a))).map rowN)) := by
  have h := del_c 1 w sa sn sc _ hd (i : Int) (numH a) (numC a) (num_rd w a ha.1 ha.2)
  rw [if_pos (by omega), rowOf_n hi, Int.toNat_natCast] at h
  have e : ((rowN L).filter fun q => !(cmpC 1 q.1 (numC a) == 0)) = rowN (L.filter fun p => !(p.1 == a)) := by
    unfold rowN
    rw [List.filter_map]
    congr 1
    apply List.filter_congr
    intro p _
    show (!(cmpC 1 (numC p.1) (numC a) == 0)) = !(p.1 == a)
    rw [cmp_num, ci_zero_iff]
  rw [e, ← List.map_set] at h
  exact h
/- Put, on a list. -/
def insI (a b : Int) : NL → NL
  | [] => [(a, b)]
  | p :: r => if p.1 < a then p :: insI a b r else if p.1 = a then (a, b) :: r else (a, b) :: p :: r
theorem placeR_cons {α : Type} (c : α → Int) (x : α) (l : List α) : placeR c (x :: l) = if c x = 0 then (0, true) else if c x = 1 then (0, false) else ((placeR c l).1 + 1, (placeR c l).2) := by
  unfold placeR
  by_cases h0 : c x = 0
  · rw [if_pos h0]
    have : plQ c x = true := by simp [plQ, h0]
    simp [List.findIdx_cons, this, h0]
  · rw [if_neg h0]
    by_cases h1 : c x = 1
    · rw [if_pos h1]
      have : plQ c x = true := by simp [plQ, h1]
      simp [List.findIdx_cons, this, h1]
    · rw [if_neg h1]
      have : plQ c x = false := by simp [plQ, h0, h1]
      simp [List.findIdx_cons, this]
theorem putR_ins (a b : Int) : ∀ L : NL, putR (cA a) (a, b) L = insI a b L
  | [] => rfl
  | p :: r => by
    have ih := putR_ins a b r
    unfold putR at ih ⊢
    rw [placeR_cons, insI]
    unfold cA ci
    by_cases h1 : p.1 < a
    · simp only [if_pos h1]
      rw [if_neg (by omega), if_neg (by omega)]
      rw [← ih]
      simp only [List.take_succ_cons, List.cons_append]
      congr 1
      congr 1
      cases hq : (placeR (cA a) r).2
      · have : (placeR (fun p : Int × Int => if p.1 < a then -1 else if a < p.1 then 1 else 0) r).2 = false := hq
        simp [this]
        rfl
      · have : (placeR (fun p : Int × Int => if p.1 < a then -1 else if a < p.1 then 1 else 0) r).2 = true := hq
        simp [this]
        rfl
    · simp only [if_neg h1]
      by_cases h2 : p.1 = a
      · rw [if_pos h2]
        have h3 : ¬ a < p.1 := by omega
        simp [h3]
      · rw [if_neg h2]
        have h3 : a < p.1 := by omega
        simp [h3]
def Ris (L : NL) : Prop := L.Pairwise fun p q => p.1 < q.1
theorem insI_mem (a b : Int) : ∀ (L : NL), Ris L → ∀ x y, (x, y) ∈ insI a b L ↔ (x = a ∧ y = b) ∨ (x ≠ a ∧ (x, y) ∈ L)
  | [], _, x, y => by simp [insI]
  | p :: r, h, x, y => by
    have hr : Ris r := (List.pairwise_cons.1 h).2
    have hp := (List.pairwise_cons.1 h).1
    have ih := insI_mem a b r hr x y
    obtain ⟨u, v⟩ := p
    unfold insI
    by_cases h1 : u < a
    · rw [if_pos h1, List.mem_cons, ih, List.mem_cons, Prod.mk.injEq]
      constructor
      · rintro (⟨rfl, rfl⟩ | h | ⟨h2, h3⟩)
        · exact .inr ⟨by omega, .inl ⟨rfl, rfl⟩⟩
        · exact .inl h
        · exact .inr ⟨h2, .inr h3⟩
      · rintro (h | ⟨h2, h3 | h3⟩)
        · exact .inr (.inl h)
        · exact .inl h3
        · exact .inr (.inr ⟨h2, h3⟩)
    · rw [if_neg h1]
      by_cases h2 : u = a
      · rw [if_pos h2, List.mem_cons, List.mem_cons, Prod.mk.injEq, Prod.mk.injEq]
        constructor
        · rintro (h | h)
          · exact .inl h
          · have : u < x := hp (x, y) h
            exact .inr ⟨by omega, .inr h⟩
        · rintro (h | ⟨h3, h4 | h4⟩)
          · exact .inl h
          · exact absurd (h4.1.trans h2) h3
          · exact .inr h4
      · rw [if_neg h2, List.mem_cons, List.mem_cons, Prod.mk.injEq, Prod.mk.injEq]
        constructor
        · rintro (h | ⟨rfl, rfl⟩ | h)
          · exact .inl h
          · exact .inr ⟨h2, .inl ⟨rfl, rfl⟩⟩
          · have : u < x := hp (x, y) h
            exact .inr ⟨by omega, .inr h⟩
        · rintro (h | ⟨h3, h4⟩)
          · exact .inl h
          · exact .inr h4
theorem insI_ris (a b : Int) : ∀ (L : NL), Ris L → Ris (insI a b L)
  | [], _ => by simp [insI, Ris]
  | p :: r, h => by
    have hr : Ris r := (List.pairwise_cons.1 h).2
    have hp := (List.pairwise_cons.1 h).1
    have ih := insI_ris a b r hr
    unfold insI
    by_cases h1 : p.1 < a
    · rw [if_pos h1]
      refine List.pairwise_cons.2 ⟨fun q hq => ?_, ih⟩
      obtain ⟨x, y⟩ := q
      rcases (insI_mem a b r hr x y).1 hq with ⟨rfl, rfl⟩ | ⟨_, h2⟩
      · exact h1
      · exact hp _ h2
    · rw [if_neg h1]
      by_cases h2 : p.1 = a
      · rw [if_pos h2]
        exact List.pairwise_cons.2 ⟨fun q hq => by have := hp q hq; show a < q.1; omega, hr⟩
      · rw [if_neg h2]
        refine List.pairwise_cons.2 ⟨fun q hq => ?_, h⟩
        rcases List.mem_cons.1 hq with rfl | hq
        · show a < q.1; omega
        · have := hp q hq; show a < q.1; omega
theorem place_there (a : Int) : ∀ (L : NL), Ris L → ((placeR (cA a) L).2 = true ↔ ∃ y, (a, y) ∈ L)
  | [], _ => by simp [placeR]
  | p :: r, h => by
    have hr : Ris r := (List.pairwise_cons.1 h).2
    have hp := (List.pairwise_cons.1 h).1
    have ih := place_there a r hr
    obtain ⟨u, v⟩ := p
    rw [placeR_cons]
    unfold cA ci at *
    simp only at *
    by_cases h1 : u < a
    · rw [if_pos h1, if_neg (by omega), if_neg (by omega)]
      show (placeR _ r).2 = true ↔ _
      rw [ih]
      constructor
      · rintro ⟨y, hy⟩; exact ⟨y, List.mem_cons_of_mem _ hy⟩
      · rintro ⟨y, hy⟩
        rcases List.mem_cons.1 hy with h2 | h2
        · rw [Prod.mk.injEq] at h2; omega
        · exact ⟨y, h2⟩
    · rw [if_neg h1]
      by_cases h2 : a < u
      · rw [if_pos h2, if_neg (by omega), if_pos rfl]
        constructor
        · intro h3; cases h3
        · rintro ⟨y, hy⟩
          rcases List.mem_cons.1 hy with h3 | h3
          · rw [Prod.mk.injEq] at h3; omega
          · have : u < a := hp _ h3
            omega
      · rw [if_neg h2, if_pos rfl]
        have : u = a := by omega
        subst this
        exact ⟨fun _ => ⟨v, List.mem_cons_self⟩, fun _ => rfl⟩
theorem insI_len (a b : Int) (L : NL) : (insI a b L).length = if (placeR (cA a) L).2 = true then L.length else L.length + 1 := by
  rw [← putR_ins]
  unfold putR
  have h1 := placeR_le (cA a) L
  have h2 := placeR_lt (cA a) L
  simp only [List.length_append, List.length_take, List.length_drop, List.length_singleton]
  by_cases h : (placeR (cA a) L).2 = true
  · have := h2 h
    rw [if_pos h, if_pos h]; omega
  · rw [if_neg h, if_neg h]; omega
end Go.Proofs.Ytenfgahedbeekaa
