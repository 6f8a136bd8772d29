/- Numbers as values; states of numbers. -/
import Derived.Test.YtenfgahedbeekaaJAG
import Derived.Deep.CutBlock
import Derived.Deep.DeepCutAuto
import Derived.Deep.LoopGhost
namespace Go.Proofs.Ytenfgahedbeekaa
open Go.RowKit Go.Deep Go.Shelf
set_option linter.unusedVariables false
set_option linter.unusedSimpArgs false

def numH (n : Int) : Hd := ⟨1, n, ⟨#[]⟩, 0, none, 0, 0⟩
def numC (n : Int) : CT 1 := ((⟨1, n, ⟨#[]⟩, 0⟩ : C4), [])
theorem num_rd (w : World) (n : Int) (h0 : -9223372036854775808 ≤ n) (h1 : n ≤ 9223372036854775807) : RdC 1 w (numH n) (numC n) :=
  ⟨((numH n, []) : VT 1), rfl, ⟨⟨h0, h1, by show (-9223372036854775808 : Int) ≤ 1; omega, by show (1 : Int) ≤ 9223372036854775807; omega, by show (-9223372036854775808 : Int) ≤ 0; omega, by show (0 : Int) ≤ 9223372036854775807; omega, by show (⟨#[]⟩ : ByteArray).size ≤ _; decide, by show (0 : Nat) ≤ _; omega⟩, rfl, by show (0 : Nat) ≤ 1000; omega, fun j x hx => by simp at hx, fun u hu => by cases hu⟩, rfl⟩
theorem cmp_num (a b : Int) : cmpC 1 (numC a) (numC b) = ci a b := by
  show (if cC ⟨1, a, ⟨#[]⟩, 0⟩ ⟨1, b, ⟨#[]⟩, 0⟩ = 0 then cmpL (cmpC 0) [] [] else cC ⟨1, a, ⟨#[]⟩, 0⟩ ⟨1, b, ⟨#[]⟩, 0⟩) = ci a b
  have h1 : ci (1 : Int) 1 = 0 := ci_self 1
  have h2 : cS (⟨#[]⟩ : ByteArray) ⟨#[]⟩ = 0 := ord_cS.self _
  have h3 : ci (0 : Int) 0 = 0 := ci_self 0
  have e : cC ⟨1, a, ⟨#[]⟩, 0⟩ ⟨1, b, ⟨#[]⟩, 0⟩ = ci a b := by
    unfold cC
    simp only [orL, h1, h2, h3, if_true]
    by_cases h : ci a b = 0
    · rw [if_pos h, h]
    · rw [if_neg h]
  rw [e]
  by_cases h : ci a b = 0
  · rw [if_pos h, h]; rfl
  · rw [if_neg h]
set_option maxHeartbeats 400000 in
theorem num_any (w : World) (n : Int) : Calls Try.prog 36 #[.int .i64 n] w fun e w' => e = .returned (.agg #[.int .i64 1, .int .i64 n, .string ⟨#[]⟩, .int .i64 0, .slice none 0 0]) ∧ Below w.heap.size w w' := by
  obtain ⟨W0, hW0⟩ : ∃ W0, W0 = w.alloc (.cells #[.int .i64 1, .int .i64 n, .string ⟨#[]⟩, .int .i64 0, .slice none 0 0] 31) := ⟨_, rfl⟩
  have h5 : W0.heap[w.heap.size]? = some (.cells #[.int .i64 1, .int .i64 n, .string ⟨#[]⟩, .int .i64 0, .slice none 0 0] 31 (0, 0)) := by rw [hW0]; exact heap_alloc_new w _
  have hb : Below w.heap.size w W0 := by rw [hW0]; exact (Below.refl _ w).alloc (Nat.le_refl _) _
  have q0 := cellOf h5 0
  have q1 := cellOf h5 1
  have q2 := cellOf h5 2
  have q3 := cellOf h5 3
  have q4 := cellOf h5 4
  simp only [List.getElem?_toArray, List.getElem?_cons_zero, List.getElem?_cons_succ] at q0 q1 q2 q3 q4
  go_enter Try.func36, Try.ntmps36
  go_wp2
  rw [← hW0]
  exact bodyPost_ret (v := .agg #[.int .i64 1, .int .i64 n, .string ⟨#[]⟩, .int .i64 0, .slice none 0 0]) (by simp [results, Try.results36, go_sem, q0, q1, q2, q3, q4]) rfl ⟨rfl, hb⟩
/- A number told. -/
theorem told_num {w' : World} {A : Nat → Prop} {t : VT 1} {n : Int} (h : RdP 1 w' A t) (e : ofT 1 t = numC n) : (hdT 1 t).kind = 1 ∧ (hdT 1 t).int = n ∧ (hdT 1 t).text = ⟨#[]⟩ ∧ (hdT 1 t).rc = 0 ∧ (hdT 1 t).n = 0 := by
  obtain ⟨⟨k, i, x, r, a, m, c⟩, us⟩ := t
  have e1 : (⟨k, i, x, r⟩ : C4) = ⟨1, n, ⟨#[]⟩, 0⟩ := congrArg Prod.fst e
  have e2 : us.map (ofT 0) = [] := congrArg Prod.snd e
  injection e1 with g1 g2 g3 g4
  have h2 : m = us.length := h.2.1
  exact ⟨g1, g2, g3, g4, by rw [show (hdT 1 ((⟨k, i, x, r, a, m, c⟩ : Hd), us)).n = m from rfl, h2, List.map_eq_nil_iff.1 e2]; rfl⟩
/- A state's map as it lies. -/
theorem StCR.at {k : Nat} {w : World} {a : Option Addr} {n : Nat} {S : List (RC k)} (h : StCR k w a n S) {i : Nat} {row : RC k} (hi : S[i]? = some row) : ∃ b off ra rn rc, a = some ⟨b, off, none⟩ ∧ w.cell? ⟨b, off + i, none⟩ = some (.slice ra rn rc) ∧ rn = row.length ∧ rn ≤ 1000 := by
  obtain ⟨ms, h1, h2⟩ := h
  rw [← h2, List.getElem?_map] at hi
  cases hp : ms[i]? with
  | none => rw [hp] at hi; cases hi
  | some p =>
    rw [hp] at hi
    obtain ⟨b, off, e, hc⟩ := h1.rd i p.1 (by rw [List.getElem?_map, hp]; rfl)
    have h3 := (h1.el p (List.mem_of_getElem? hp)).1
    refine ⟨b, off, p.1.a, p.1.n, p.1.cap, e, hc, ?_, h3.n2⟩
    have : row = rowC k p.2 := by simpa using hi.symm
    rw [this, h3.n1]
    simp [rowC]
theorem st_make {k : Nat} {w : World} {A : Nat → Prop} {g n : Nat} (h : w.heap[g]? = some (.cells (List.replicate n (.slice none 0 0)).toArray 70 (0, 0))) (hA : A g) (hn : n ≤ 1000) : StCP k w A (some ⟨g, 0, none⟩) n (List.replicate n []) := by
  refine ⟨List.replicate n ((⟨none, 0, 0⟩ : Sl), ([] : Rw k)), ⟨by simp, hn, ?_, ?_, ?_⟩, by simp [rowC]⟩
  · intro j m hm
    rw [List.map_replicate] at hm
    have hj : j < n := by
      have := (List.getElem?_eq_some_iff.1 hm).1
      simpa using this
    refine ⟨g, 0, rfl, ?_⟩
    rw [Nat.zero_add, cellOf h j]
    rw [List.getElem?_replicate, if_pos hj] at hm
    cases hm
    simp [hj, Sl.v]
  · intro x e _
    cases e
    exact hA
  · intro m hm
    rw [List.mem_replicate] at hm
    obtain ⟨_, rfl⟩ := hm
    exact ⟨⟨rfl, by show (0 : Nat) ≤ 1000; omega, fun j x hx => by simp at hx, fun x e ne => absurd rfl ne, fun p hp => by simp at hp⟩, Nat.le_refl _⟩
end Go.Proofs.Ytenfgahedbeekaa

namespace Go.Proofs.Ytenfgahedbeekaa
open Go.RowKit Go.Deep Go.Shelf
set_option linter.unusedVariables false
set_option linter.unusedSimpArgs false

abbrev NL := List (Int × Int)
def numP (p : Int × Int) : CT 1 × CT 1 := (numC p.1, numC p.2)
def rowN (L : NL) : RC 1 := L.map numP
def cA (a : Int) (p : Int × Int) : Int := ci p.1 a
theorem ci_zero_iff (x a : Int) : (ci x a == 0) = (x == a) := by
  unfold ci
  by_cases h1 : x < a
  · rw [if_pos h1]
    have : ¬ x = a := by omega
    simp [this]
  · rw [if_neg h1]
    by_cases h2 : a < x
    · rw [if_pos h2]
      have : ¬ x = a := by omega
      simp [this]
    · rw [if_neg h2]
      have : x = a := by omega
      simp [this]
theorem ci_pos_iff (x a : Int) : decide (0 < ci x a) = decide (a < x) := by
  unfold ci
  by_cases h1 : x < a
  · rw [if_pos h1]
    have : ¬ a < x := by omega
    simp [this]
  · rw [if_neg h1]
    by_cases h2 : a < x
    · rw [if_pos h2]; simp [h2]
    · rw [if_neg h2]; simp [h2]
theorem rowOf_n {SS : List NL} {i : Nat} {L : NL} (hi : SS[i]? = some L) : rowOf (SS.map rowN) (i : Int) = rowN L := by
  unfold rowOf
  rw [if_pos (by omega), Int.toNat_natCast, List.getElem?_map, hi]; rfl
theorem cA_n (a : Int) : (fun q : CT 1 × CT 1 => cmpC 1 q.1 (numC a)) ∘ numP = cA a := by
  funext p
  exact cmp_num p.1 a
theorem place_n (a : Int) (L : NL) : placeR (fun q => cmpC 1 q.1 (numC a)) (rowN L) = placeR (cA a) L := by
  unfold rowN
  rw [← placeR_map (fun q : CT 1 × CT 1 => cmpC 1 q.1 (numC a)) numP L]
  congr 1
  exact cA_n a
theorem put_n_row (a b : Int) (L : NL) : putR (fun q => cmpC 1 q.1 (numC a)) (numC a, numC b) (rowN L) = rowN (putR (cA a) (a, b) L) := by
  unfold rowN
  rw [show (numC a, numC b) = numP (a, b) from rfl, ← putR_map (fun q : CT 1 × CT 1 => cmpC 1 q.1 (numC a)) numP (a, b) L]
  congr 2
  exact cA_n a
def In64 (a : Int) : Prop := -9223372036854775808 ≤ a ∧ a ≤ 9223372036854775807
theorem hasB_n {n i : Nat} (h : i < n) : hasB n (i : Int) = true := by
  simp [hasB, h]
theorem put_n (w : World) (sa : Option Addr) (sn sc : Nat) (SS : List NL) (hd : StCR 1 w sa sn (SS.map rowN)) (i : Nat) (L : NL) (hi : SS[i]? = some L) (a b : Int) (ha : In64 a) (hb : In64 b) (hok : (placeR (cA a) L).2 = true ∨ L.length < 24) :
    Calls Try.prog 12 #[.agg #[.slice sa sn sc], .int .i64 (i : Int), (numH a).v, (numH b).v] w (PutTold 1 w ((SS.set i (putR (cA a) (a, b) L)).map rowN)) := by
  have hl : i < sn := by
    have := hd.len.1
    rw [List.length_map] at this
    have := (List.getElem?_eq_some_iff.1 hi).1
    omega
  have h := put_c_ok 1 w sa sn sc _ hd (i : Int) (numH a) (numH b) (numC a) (numC b) (num_rd w a ha.1 ha.2) (num_rd w b hb.1 hb.2) (hasB_n hl) (by
    rw [rowOf_n hi, place_n]
    rcases hok with h | h
    · exact .inl h
    · exact .inr (by unfold rowN; rw [List.length_map]; exact h))
  rw [rowOf_n hi, put_n_row, Int.toNat_natCast, ← List.map_set] at h
  exact h
theorem find_n (L : NL) (P : CT 1 → Bool) (Q : Int → Bool) (hPQ : ∀ x, P (numC x) = Q x) (f : CT 1 × CT 1 → CT 1) : ((rowN L).find? (fun q => P q.1)).map f = (L.find? (fun p => Q p.1)).map (fun p => f (numP p)) := by
  unfold rowN
  rw [List.find?_map]
  have : (fun q : CT 1 × CT 1 => P q.1) ∘ numP = fun p => Q p.1 := by funext p; exact hPQ p.1
  rw [this]
  cases L.find? (fun p => Q p.1) <;> rfl
theorem next_n (w : World) (sa : Option Addr) (sn sc : Nat) (SS : List NL) (hd : StCR 1 w sa sn (SS.map rowN)) (i : Nat) (L : NL) (hi : SS[i]? = some L) (h : Hd) (a : Int) (hk : RdC 1 w h (numC a)) :
    Calls Try.prog 19 #[.agg #[.slice sa sn sc], .int .i64 (i : Int), h.v] w (MbP 1 w ((L.find? (fun p => decide (a < p.1))).map (fun p => numC p.1))) := by
  have h := next_c 1 w sa sn sc _ hd (i : Int) h (numC a) hk
  rw [rowOf_n hi, find_n L (fun c => decide (0 < cmpC 1 c (numC a))) (fun x => decide (a < x)) (fun x => by rw [cmp_num]; exact ci_pos_iff x a) (·.1)] at h
  exact h
theorem first_n (w : World) (sa : Option Addr) (sn sc : Nat) (SS : List NL) (hd : StCR 1 w sa sn (SS.map rowN)) (i : Nat) (L : NL) (hi : SS[i]? = some L) :
    Calls Try.prog 21 #[.agg #[.slice sa sn sc], .int .i64 (i : Int)] w (MbP 1 w (L.head?.map (fun p => numC p.1))) := by
  have h := first_c 1 w sa sn sc _ hd (i : Int)
  rw [rowOf_n hi] at h
  have e : (rowN L).head?.map (·.1) = L.head?.map (fun p => numC p.1) := by
    unfold rowN
    cases L <;> rfl
  rw [e] at h
  exact h
/- Put, on a list. -/
def insI (a b : Int) : NL → NL
  | [] => [(a, b)]
  | p :: r => if p.1 < a then p :: insI a b r else if p.1 = a then (a, b) :: r else (a, b) :: p :: r
theorem placeR_cons {α : Type} (c : α → Int) (x : α) (l : List α) : placeR c (x :: l) = if c x = 0 then (0, true) else if c x = 1 then (0, false) else ((placeR c l).1 + 1, (placeR c l).2) := by
  unfold placeR
  by_cases h0 : c x = 0
  · rw [if_pos h0]
    have : plQ c x = true := by simp [plQ, h0]
    simp [List.findIdx_cons, this, h0]
  · rw [if_neg h0]
    by_cases h1 : c x = 1
    · rw [if_pos h1]
      have : plQ c x = true := by simp [plQ, h1]
      simp [List.findIdx_cons, this, h1]
    · rw [if_neg h1]
      have : plQ c x = false := by simp [plQ, h0, h1]
      simp [List.findIdx_cons, this]
theorem putR_ins (a b : Int) : ∀ L : NL, putR (cA a) (a, b) L = insI a b L
  | [] => rfl
  | p :: r => by
    have ih := putR_ins a b r
    unfold putR at ih ⊢
    rw [placeR_cons, insI]
    unfold cA ci
    by_cases h1 : p.1 < a
    · simp only [if_pos h1]
      rw [if_neg (by omega), if_neg (by omega)]
      rw [← ih]
      simp only [List.take_succ_cons, List.cons_append]
      congr 1
      congr 1
      cases hq : (placeR (cA a) r).2
      · have : (placeR (fun p : Int × Int => if p.1 < a then -1 else if a < p.1 then 1 else 0) r).2 = false := hq
        simp [this]
        rfl
      · have : (placeR (fun p : Int × Int => if p.1 < a then -1 else if a < p.1 then 1 else 0) r).2 = true := hq
        simp [this]
        rfl
    · simp only [if_neg h1]
      by_cases h2 : p.1 = a
      · rw [if_pos h2]
        have h3 : ¬ a < p.1 := by omega
        simp [h3]
      · rw [if_neg h2]
        have h3 : a < p.1 := by omega
        simp [h3]
def Ris (L : NL) : Prop := L.Pairwise fun p q => p.1 < q.1
theorem insI_mem (a b : Int) : ∀ (L : NL), Ris L → ∀ x y, (x, y) ∈ insI a b L ↔ (x = a ∧ y = b) ∨ (x ≠ a ∧ (x, y) ∈ L)
  | [], _, x, y => by simp [insI]
  | p :: r, h, x, y => by
    have hr : Ris r := (List.pairwise_cons.1 h).2
    have hp := (List.pairwise_cons.1 h).1
    have ih := insI_mem a b r hr x y
    obtain ⟨u, v⟩ := p
    unfold insI
    by_cases h1 : u < a
    · rw [if_pos h1, List.mem_cons, ih, List.mem_cons, Prod.mk.injEq]
      constructor
      · rintro (⟨rfl, rfl⟩ | h | ⟨h2, h3⟩)
        · exact .inr ⟨by omega, .inl ⟨rfl, rfl⟩⟩
        · exact .inl h
        · exact .inr ⟨h2, .inr h3⟩
      · rintro (h | ⟨h2, h3 | h3⟩)
        · exact .inr (.inl h)
        · exact .inl h3
        · exact .inr (.inr ⟨h2, h3⟩)
    · rw [if_neg h1]
      by_cases h2 : u = a
      · rw [if_pos h2, List.mem_cons, List.mem_cons, Prod.mk.injEq, Prod.mk.injEq]
        constructor
        · rintro (h | h)
          · exact .inl h
          · have : u < x := hp (x, y) h
            exact .inr ⟨by omega, .inr h⟩
        · rintro (h | ⟨h3, h4 | h4⟩)
          · exact .inl h
          · exact absurd (h4.1.trans h2) h3
          · exact .inr h4
      · rw [if_neg h2, List.mem_cons, List.mem_cons, Prod.mk.injEq, Prod.mk.injEq]
        constructor
        · rintro (h | ⟨rfl, rfl⟩ | h)
          · exact .inl h
          · exact .inr ⟨h2, .inl ⟨rfl, rfl⟩⟩
          · have : u < x := hp (x, y) h
            exact .inr ⟨by omega, .inr h⟩
        · rintro (h | ⟨h3, h4⟩)
          · exact .inl h
          · exact .inr h4
theorem insI_ris (a b : Int) : ∀ (L : NL), Ris L → Ris (insI a b L)
  | [], _ => by simp [insI, Ris]
  | p :: r, h => by
    have hr : Ris r := (List.pairwise_cons.1 h).2
    have hp := (List.pairwise_cons.1 h).1
    have ih := insI_ris a b r hr
    unfold insI
    by_cases h1 : p.1 < a
    · rw [if_pos h1]
      refine List.pairwise_cons.2 ⟨fun q hq => ?_, ih⟩
      obtain ⟨x, y⟩ := q
      rcases (insI_mem a b r hr x y).1 hq with ⟨rfl, rfl⟩ | ⟨_, h2⟩
      · exact h1
      · exact hp _ h2
    · rw [if_neg h1]
      by_cases h2 : p.1 = a
      · rw [if_pos h2]
        exact List.pairwise_cons.2 ⟨fun q hq => by have := hp q hq; show a < q.1; omega, hr⟩
      · rw [if_neg h2]
        refine List.pairwise_cons.2 ⟨fun q hq => ?_, h⟩
        rcases List.mem_cons.1 hq with rfl | hq
        · show a < q.1; omega
        · have := hp q hq; show a < q.1; omega
theorem place_there (a : Int) : ∀ (L : NL), Ris L → ((placeR (cA a) L).2 = true ↔ ∃ y, (a, y) ∈ L)
  | [], _ => by simp [placeR]
  | p :: r, h => by
    have hr : Ris r := (List.pairwise_cons.1 h).2
    have hp := (List.pairwise_cons.1 h).1
    have ih := place_there a r hr
    obtain ⟨u, v⟩ := p
    rw [placeR_cons]
    unfold cA ci at *
    simp only at *
    by_cases h1 : u < a
    · rw [if_pos h1, if_neg (by omega), if_neg (by omega)]
      show (placeR _ r).2 = true ↔ _
      rw [ih]
      constructor
      · rintro ⟨y, hy⟩; exact ⟨y, List.mem_cons_of_mem _ hy⟩
      · rintro ⟨y, hy⟩
        rcases List.mem_cons.1 hy with h2 | h2
        · rw [Prod.mk.injEq] at h2; omega
        · exact ⟨y, h2⟩
    · rw [if_neg h1]
      by_cases h2 : a < u
      · rw [if_pos h2, if_neg (by omega), if_pos rfl]
        constructor
        · intro h3; cases h3
        · rintro ⟨y, hy⟩
          rcases List.mem_cons.1 hy with h3 | h3
          · rw [Prod.mk.injEq] at h3; omega
          · have : u < a := hp _ h3
            omega
      · rw [if_neg h2, if_pos rfl]
        have : u = a := by omega
        subst this
        exact ⟨fun _ => ⟨v, List.mem_cons_self⟩, fun _ => rfl⟩
theorem insI_len (a b : Int) (L : NL) : (insI a b L).length = if (placeR (cA a) L).2 = true then L.length else L.length + 1 := by
  rw [← putR_ins]
  unfold putR
  have h1 := placeR_le (cA a) L
  have h2 := placeR_lt (cA a) L
  simp only [List.length_append, List.length_take, List.length_drop, List.length_singleton]
  by_cases h : (placeR (cA a) L).2 = true
  · have := h2 h
    rw [if_pos h, if_pos h]; omega
  · rw [if_neg h, if_neg h]; omega
end Go.Proofs.Ytenfgahedbeekaa

namespace Go.Proofs.Ytenfgahedbeekaa
open Go.RowKit Go.Deep Go.Shelf
set_option linter.unusedVariables false
set_option linter.unusedSimpArgs false

theorem made_n (n : Nat) : madeCells (Value.slice none 0 0).cells (n * 1) = (List.replicate n (Value.slice none 0 0)).toArray := by
  have := toList_madeCells_one (.slice none 0 0) n
  rw [Nat.mul_one]
  exact Array.toList_inj.1 (by rw [List.toList_toArray]; exact this)
theorem run_mk (w : World) (n : Nat) (h : n ≤ 1000) : (Instr.makeSlice 25 (.int .i64 (n : Int)) (.int .i64 (n : Int))).run Try.prog w = .ok (.slice (some ⟨w.heap.size, 0, none⟩) n n) (w.alloc (.cells (List.replicate n (.slice none 0 0)).toArray 70)) := by
  obtain ⟨i0, hi, hz0, hz1, hz2⟩ := info_parts info70
  have := run_make (P := Try.prog) w 25 70 i0 (.slice none 0 0) Try.underlying25 hi hz0 .i64 .i64 (n : Int) (n : Int) (by omega) (Int.le_refl _) (by rw [hz2]; omega) (by omega)
  rw [hz1, Int.toNat_natCast, made_n n] at this
  exact this
set_option maxRecDepth 100000 in
set_option maxHeartbeats 2000000 in
theorem known_any (w : World) : Calls Try.prog 9 #[] w fun e w' => e = .returned (.bool true) ∧ Below w.heap.size w w' := by
  obtain ⟨W1, hW1⟩ : ∃ W1, W1 = (w.alloc (.cells #[.slice none 0 0] 70)).alloc (.cells #[.slice (some ⟨w.heap.size, 0, none⟩) 1 1] 27) := ⟨_, rfl⟩
  have q1 : W1.heap[w.heap.size]? = some (.cells #[.slice none 0 0] 70 (0, 0)) := by rw [hW1]; exact (Below.heap_alloc _ _ _ (by simp)).trans (heap_alloc_new w _)
  have q2 : W1.heap[w.heap.size + 1]? = some (.cells #[.slice (some ⟨w.heap.size, 0, none⟩) 1 1] 27 (0, 0)) := by
    have := heap_alloc_new (w.alloc (.cells #[.slice none 0 0] 70)) (.cells #[.slice (some ⟨w.heap.size, 0, none⟩) 1 1] 27)
    rw [World.size_alloc] at this
    rw [hW1]; exact this
  have hb1 : Below w.heap.size w W1 := by rw [hW1]; exact ((Below.refl _ w).alloc (Nat.le_refl _) _).alloc (by simp) _
  have hz1 : W1.heap.size = w.heap.size + 1 + 1 := by rw [hW1]; simp
  have st1 : StCP 1 W1 (fun b => w.heap.size ≤ b) (some ⟨w.heap.size, 0, none⟩) 1 (([[]] : List NL).map rowN) := st_make (n := 1) q1 (Nat.le_refl _) (by omega)
  have K36 := hid (fun (n : Int) (W : World) => num_any W n)
  have K12a : Hid (∀ W : World, Below W1.heap.size W1 W → Calls Try.prog 12 #[.agg #[.slice (some ⟨w.heap.size, 0, none⟩) 1 1], .int .i64 0, .agg #[.int .i64 1, .int .i64 2, .string ⟨#[]⟩, .int .i64 0, .slice none 0 0], .agg #[.int .i64 1, .int .i64 5, .string ⟨#[]⟩, .int .i64 0, .slice none 0 0]] W (PutTold 1 W (([[(2, 5)]] : List NL).map rowN))) := hid (fun W hb => put_n W _ 1 1 [[]] (st1.cr.below (Nat.le_refl _) hb) 0 [] rfl 2 5 (by unfold In64; omega) (by unfold In64; omega) (.inr (by simp)))
  have HS1 : Hid (∀ W : World, Below W1.heap.size W1 W → W.cell? ⟨w.heap.size + 1, 0, none⟩ = some (.slice (some ⟨w.heap.size, 0, none⟩) 1 1)) := hid (fun W hb => cellOf ((hb.block _ (Array.getElem?_eq_some_iff.1 q2).1).trans q2) 0)
  have HQ2 : Hid (∀ W : World, Below W1.heap.size W1 W → W.heap[w.heap.size + 1]? = some (.cells #[.slice (some ⟨w.heap.size, 0, none⟩) 1 1] 27 (0, 0))) := hid (fun W hb => (hb.block _ (Array.getElem?_eq_some_iff.1 q2).1).trans q2)
  have mk1 : (Instr.makeSlice 25 (.int .i64 1) (.int .i64 1)).run Try.prog w = .ok (.slice (some ⟨w.heap.size, 0, none⟩) 1 1) (w.alloc (.cells #[.slice none 0 0] 70)) := run_mk w 1 (by omega)
  have TR : Hid (∀ {Z x y : World}, Below Z.heap.size Z x → Below x.heap.size x y → Below Z.heap.size Z y) := hid (fun h1 h2 => h1.trans (h2.mono h1.size))
  have HB1 := hid hb1
  have c1 := HS1.out W1 (Below.refl _ _)
  have B0 := hid ((Below.refl W1.heap.size W1).drew)
  clear q1 q2 hb1 st1
  have K12b : Hid (∀ (W2 : World) (fa : Option Addr) (fn fc : Nat), StCR 1 W2 fa fn (([[(2, 5)]] : List NL).map rowN) → ∀ W : World, Below W2.heap.size W2 W → Calls Try.prog 12 #[.agg #[.slice fa fn fc], .int .i64 0, .agg #[.int .i64 1, .int .i64 1, .string ⟨#[]⟩, .int .i64 0, .slice none 0 0], .agg #[.int .i64 1, .int .i64 6, .string ⟨#[]⟩, .int .i64 0, .slice none 0 0]] W (PutTold 1 W (([[(1, 6), (2, 5)]] : List NL).map rowN))) := hid (fun W2 fa fn fc hs W hb => put_n W _ fn fc [[(2, 5)]] (hs.below (Nat.le_refl _) hb) 0 [(2, 5)] rfl 1 6 (by unfold In64; omega) (by unfold In64; omega) (.inr (by simp)))
  have K21 : Hid (∀ (W : World) (fa : Option Addr) (fn fc : Nat), StCR 1 W fa fn (([[(1, 6), (2, 5)]] : List NL).map rowN) → Calls Try.prog 21 #[.agg #[.slice fa fn fc], .int .i64 0] W (MbP 1 W (some (numC 1)))) := hid (fun W fa fn fc hs => first_n W _ fn fc [[(1, 6), (2, 5)]] hs 0 [(1, 6), (2, 5)] rfl)
  have K19 : Hid (∀ (W2 : World) (fa : Option Addr) (fn fc : Nat), StCR 1 W2 fa fn (([[(1, 6), (2, 5)]] : List NL).map rowN) → ∀ W : World, Below W2.heap.size W2 W → Calls Try.prog 19 #[.agg #[.slice fa fn fc], .int .i64 0, .agg #[.int .i64 1, .int .i64 1, .string ⟨#[]⟩, .int .i64 0, .slice none 0 0]] W (MbP 1 W (some (numC 2)))) := hid (fun W2 fa fn fc hs W hb => next_n W _ fn fc [[(1, 6), (2, 5)]] (hs.below (Nat.le_refl _) hb) 0 [(1, 6), (2, 5)] rfl (numH 1) 1 (num_rd W 1 (by omega) (by omega)))
  go_enter Try.func9, Try.ntmps9
  go_upto_region 2 with fail
  rw [← hW1]
  clear hW1
  go_cut [2] from 11 to 17 (fun v2 wc => v2 = .int .i64 0 ∧ ∃ fa fn fc, wc.heap[w.heap.size + 1]? = some (.cells #[.slice fa fn fc] 27 (0, 0)) ∧ StCP 1 wc (fun b => w.heap.size + 2 ≤ b) fa fn (([[(2, 5)]] : List NL).map rowN) ∧ Below w.heap.size w wc ∧ w.heap.size + 2 ≤ wc.heap.size)
  case first =>
    refine wp_region_noPanic ?_
    go_region_with ((first
      | (go_at_call 12; (have hno := B2; refine (K12a.out w3 B2.out).mono ?_; rintro e w4 ⟨fa, fn, fc, rfl, hb4, hfc, hst⟩; have B3 := hid (TR.out B2.out hb4); have ST := hid hst; have HB4 := hid hb4; have y1 := cellOf (HQ2.out _ B3.out) 0; have y2 := freeOf (HQ2.out _ B3.out) 0; simp only [List.getElem?_toArray, List.getElem?_cons_zero] at y1; clear hst hb4))
      | (go_at_call 36; (have hno := B1; refine (K36.out _ w2).mono ?_; rintro e w3 ⟨rfl, hb3⟩; have B2 := hid (TR.out B1.out hb3); have x3 := HS1.out _ B2.out; clear hb3))
      | (go_at_call 36; (refine (K36.out _ _).mono ?_; rintro e w2 ⟨rfl, hb2⟩; have B1 := hid (TR.out B0.out hb2); have x2 := HS1.out _ B1.out; clear hb2))))
    all_goals refine NoPanic.normal ?_
    all_goals
      go_wp2_with fail
      go_meet
    all_goals
      have s2 := B2.out.size
      have s3 := B3.out.size
      refine ⟨rfl, fa, fn, fc, set_cells (HQ2.out _ B3.out) _, (ST.out.keep (fun b hb => Below.heap_setCell _ _ _ _ (by show b ≠ w.heap.size + 1; omega))).imp (fun b hb => by omega), ((HB1.out.trans (B3.out.mono HB1.out.size))).setCell (p := ⟨w.heap.size + 1, 0, none⟩) (by show w.heap.size ≤ w.heap.size + 1; omega) _, by simp [World.setCell]; omega⟩
  case rest =>
    obtain ⟨rfl, fa, fn, fc, q2, st2, hbw, hsz⟩ := hcut
    obtain ⟨wA, hwA⟩ : ∃ wA, wA = wc := ⟨_, rfl⟩
    subst hwA
    have HS2 : Hid (∀ W : World, Below wA.heap.size wA W → W.cell? ⟨w.heap.size + 1, 0, none⟩ = some (.slice fa fn fc)) := hid (fun W hb => cellOf ((hb.block _ (Array.getElem?_eq_some_iff.1 q2).1).trans q2) 0)
    have K12c := hid (K12b.out wA fa fn fc st2.cr)
    have Q2 := hid q2
    have ST2 := hid st2
    have HBW := hid hbw
    have c2 := HS2.out wA (Below.refl _ _)
    have C0 := hid ((Below.refl wA.heap.size wA).drew)
    clear q2 st2 hbw c1 HS1 HQ2 K12a K12b mk1 B0
    go_upto_region 3 with fail
    go_cut [3, 4] from 18 to 24 (fun v3 v4 wd => v4 = .int .i64 0 ∧ ∃ X ga gn gc, v3 = .pointer (some ⟨X, 0, none⟩) ∧ wd.heap[X]? = some (.cells #[.slice ga gn gc] 27 (0, 0)) ∧ StCR 1 wd ga gn (([[(1, 6), (2, 5)]] : List NL).map rowN) ∧ Below wA.heap.size wA wd)
    case first =>
      go_region_held3 (fun W' => W'.cell? ⟨w.heap.size + 1, 0, none⟩ = some (.slice fa fn fc)) (first | exact HS2.out _ (CC03.out.alloc CC03.out.size _) | exact HS2.out _ CC03.out | exact HS2.out _ (CC03.out.setCell (by first | exact Nat.le_refl _ | exact CC01.out.size | exact CC02.out.size) _) | exact HS2.out _ CC02.out | exact HS2.out _ (CC02.out.alloc CC02.out.size _) | exact HS2.out _ CC01.out | exact HS2.out _ (CC01.out.alloc CC01.out.size _) | exact HS2.out _ C0.out | exact HS2.out _ (C0.out.alloc C0.out.size _) | go_keep) ((first
        | (go_at_call 12; (have hno := CC02; refine (K12c.out _ (by first | exact CC02.out | exact CC02.out.alloc CC02.out.size _)).mono ?_; rintro e wC03 ⟨ga, gn, gc, rfl, hbC03, hfc, hst⟩; (first | (have CC03 := hid (TR.out CC02.out hbC03); try have zzC03 := (hbC03.block _ (Array.getElem?_eq_some_iff.1 zzC02).1).trans zzC02) | (have CC03 := hid (TR.out (CC02.out.alloc CC02.out.size _) hbC03); have zzC03 : wC03.heap[wC02.heap.size]? = some (.cells #[.slice none 0 0] 27 (0, 0)) := (hbC03.block _ (by simp)).trans (heap_alloc_new _ (.cells #[.slice none 0 0] 27)))); (try (have y0 := cellOf zzC03 0; have v0 := freeOf zzC03 0; simp only [List.getElem?_toArray, List.getElem?_cons_zero, List.getElem?_cons_succ] at y0)); have ST := hid hst; clear hst; clear hbC03))
        | (go_at_call 36; (have hno := CC01; refine (K36.out _ _).mono ?_; rintro e wC02 ⟨rfl, hbC02⟩; (first | (have CC02 := hid (TR.out CC01.out hbC02); try have zzC02 := (hbC02.block _ (Array.getElem?_eq_some_iff.1 zzC01).1).trans zzC01) | (have CC02 := hid (TR.out (CC01.out.alloc CC01.out.size _) hbC02); have zzC02 : wC02.heap[wC01.heap.size]? = some (.cells #[.slice none 0 0] 27 (0, 0)) := (hbC02.block _ (by simp)).trans (heap_alloc_new _ (.cells #[.slice none 0 0] 27)))); have HXwC02 := CC02; clear hbC02))
        | (go_at_call 36; (refine (K36.out _ _).mono ?_; rintro e wC01 ⟨rfl, hbC01⟩; (first | (have CC01 := hid (TR.out C0.out hbC01); try have zzC01 := (hbC01.block _ (Array.getElem?_eq_some_iff.1 zzC00).1).trans zzC00) | (have CC01 := hid (TR.out (C0.out.alloc C0.out.size _) hbC01); have zzC01 : wC01.heap[wA.heap.size]? = some (.cells #[.slice none 0 0] 27 (0, 0)) := (hbC01.block _ (by simp)).trans (heap_alloc_new _ (.cells #[.slice none 0 0] 27)))); have HXwC01 := CC01; clear hbC01))))
      all_goals
        go_wp2_with fail
        go_meet
        first
          | exact ⟨rfl, _, ga, gn, gc, rfl, set_cells zzC03 _, (ST.out.keep (fun b hb => Below.heap_setCell _ _ _ _ (by have h1 := CC01.out.size; have h2 := CC02.out.size; (try have h3 := (Array.getElem?_eq_some_iff.1 zzC02).1); (try have h4 := (Array.getElem?_eq_some_iff.1 zzC01).1); intro e; simp at hb e; (try simp at h3); (try simp at h4); omega))).cr, CC03.out.setCell (by first | exact Nat.le_refl _ | exact CC01.out.size | exact CC02.out.size) _⟩
          | exact ⟨rfl, wC03.heap.size, ga, gn, gc, rfl, heap_alloc_new wC03 _, (ST.out.cr).below (Nat.le_refl _) ((Below.refl _ wC03).alloc (Nat.le_refl _) _), CC03.out.alloc CC03.out.size _⟩
    case rest =>
      obtain ⟨rfl, X, ga, gn, gc, rfl, q3, st3, hbd⟩ := hcut
      obtain ⟨wB, hwB⟩ : ∃ wB, wB = wc := ⟨_, rfl⟩
      subst hwB
      have K21a := hid (K21.out wB ga gn gc st3)
      have c3 := cellOf q3 0
      simp only [List.getElem?_toArray, List.getElem?_cons_zero] at c3
      have Q3 := hid q3
      have ST3 := hid st3
      have HBD := hid hbd
      clear q3 st3 hbd c2 C0 K12c HS2 K21
      go_upto_region 5 with (go_at_call 21; (refine (K21a.out).mono ?_; rintro e w5 ⟨hb5, t5, rfl, hrt, het⟩; obtain ⟨i1, i2, i3, i4, i5⟩ := told_num hrt het; have B5 := hid hb5; clear hb5 hrt het; generalize hdT 1 t5 = g5 at i1 i2 i3 i4 i5 ⊢; obtain ⟨p1, p2, p3, p4, p5, p6, p7⟩ := g5; simp only at i1 i2 i3 i4 i5; subst i1 i2 i3 i4 i5; simp only [Hd.v]))
      obtain ⟨wE, hwE⟩ : ∃ wE, wE = w5.alloc (.cells #[.int .i64 1, .int .i64 1, .string ⟨#[]⟩, .int .i64 0, .slice p5 0 p7] 31) := ⟨_, rfl⟩
      have hk1 : wE.cell? ⟨w5.heap.size, 1, none⟩ = some (.int .i64 1) := by rw [hwE]; exact cellOf (heap_alloc_new w5 _) 1
      have hbE : Below w5.heap.size w5 wE := by rw [hwE]; exact (Below.refl _ w5).alloc (Nat.le_refl _) _
      have hzE : wE.heap.size = w5.heap.size + 1 := by rw [hwE]; simp
      rw [← hwE]
      clear hwE
      have hbB : Below wB.heap.size wB wE := B5.out.trans (hbE.mono B5.out.size)
      have hbA : Below wA.heap.size wA wE := HBD.out.trans (hbB.mono HBD.out.size)
      have KN := hid (fun (W : World) (hb : Below wE.heap.size wE W) => K19.out wB ga gn gc ST3.out W (hbB.trans (hb.mono hbB.size)))
      have HS5 : Hid (∀ W : World, Below wE.heap.size wE W → W.cell? ⟨X, 0, none⟩ = some (.slice ga gn gc)) := hid (fun W hb => ((hbB.trans (hb.mono hbB.size)).cell (p := ⟨X, 0, none⟩) (Array.getElem?_eq_some_iff.1 Q3.out).1).trans c3)
      have c5 := HS5.out wE (Below.refl _ _)
      have E0 := hid ((Below.refl wE.heap.size wE).drew)
      have HBA := hid hbA
      have HBB := hid hbB
      have HK1 := hid hk1
      have HzE := hid hzE
      clear hbE hbB hbA hk1 K19 hzE
      go_cut [7, 8] from 30 to 35 (fun v7 v8 wd => v8 = .bool true ∧ ∃ Y, v7 = .pointer (some ⟨Y, 0, none⟩) ∧ wd.cell? ⟨Y, 1, none⟩ = some (.int .i64 2) ∧ Below wE.heap.size wE wd)
      case first =>
        go_region_held3 (fun W' => W'.cell? ⟨X, 0, none⟩ = some (.slice ga gn gc)) (first | with_reducible exact HS5.out _ (CE02.out.alloc CE02.out.size _) | with_reducible exact HS5.out _ CE02.out | with_reducible exact HS5.out _ (((((CE02.out.setCell (by first | exact Nat.le_refl _ | exact CE01.out.size) _).setCell (by first | exact Nat.le_refl _ | exact CE01.out.size) _).setCell (by first | exact Nat.le_refl _ | exact CE01.out.size) _).setCell (by first | exact Nat.le_refl _ | exact CE01.out.size) _).setCell (by first | exact Nat.le_refl _ | exact CE01.out.size) _) | with_reducible exact HS5.out _ CE01.out | with_reducible exact HS5.out _ (CE01.out.alloc CE01.out.size _) | with_reducible exact HS5.out _ E0.out | with_reducible exact HS5.out _ (E0.out.alloc E0.out.size _) | go_keep) ((first
        | (go_at_call 19; (have hno := CE01; refine (KN.out _ (by first | exact CE01.out | exact CE01.out.alloc CE01.out.size _)).mono ?_; rintro e wE02 ⟨hbE02, t7, rfl, hrt, het⟩; (first | (have CE02 := hid (TR.out CE01.out hbE02); try have zzE02 := (hbE02.block _ (Array.getElem?_eq_some_iff.1 zzE01).1).trans zzE01) | (have CE02 := hid (TR.out (CE01.out.alloc CE01.out.size _) hbE02); have zzE02 : wE02.heap[wE01.heap.size]? = some (.cells #[.int .i64 0, .int .i64 0, .string ⟨#[]⟩, .int .i64 0, .slice none 0 0] 31 (0, 0)) := (hbE02.block _ (by simp)).trans (heap_alloc_new _ (.cells #[.int .i64 0, .int .i64 0, .string ⟨#[]⟩, .int .i64 0, .slice none 0 0] 31)))); (try (have y0 := cellOf zzE02 0; have v0 := freeOf zzE02 0; have y1 := cellOf zzE02 1; have v1 := freeOf zzE02 1; have y2 := cellOf zzE02 2; have v2 := freeOf zzE02 2; have y3 := cellOf zzE02 3; have v3 := freeOf zzE02 3; have y4 := cellOf zzE02 4; have v4 := freeOf zzE02 4; simp only [List.getElem?_toArray, List.getElem?_cons_zero, List.getElem?_cons_succ] at y0 y1 y2 y3 y4)); obtain ⟨j1, j2, j3, j4, j5⟩ := told_num hrt het; clear hrt het; generalize hdT 1 t7 = h7 at j1 j2 j3 j4 j5 ⊢; obtain ⟨h1, h2, h3, h4, h5, h6, h7⟩ := h7; simp only at j1 j2 j3 j4 j5; subst j1 j2 j3 j4 j5; simp only [Hd.v]; clear hbE02))
        | (go_at_call 36; (refine (K36.out _ _).mono ?_; rintro e wE01 ⟨rfl, hbE01⟩; (first | (have CE01 := hid (TR.out E0.out hbE01); try have zzE01 := (hbE01.block _ (Array.getElem?_eq_some_iff.1 zzE00).1).trans zzE00) | (have CE01 := hid (TR.out (E0.out.alloc E0.out.size _) hbE01); have zzE01 : wE01.heap[wE.heap.size]? = some (.cells #[.int .i64 0, .int .i64 0, .string ⟨#[]⟩, .int .i64 0, .slice none 0 0] 31 (0, 0)) := (hbE01.block _ (by simp)).trans (heap_alloc_new _ (.cells #[.int .i64 0, .int .i64 0, .string ⟨#[]⟩, .int .i64 0, .slice none 0 0] 31)))); have xwE01 := HS5.out _ CE01.out; have xawE01 := fun o => HS5.out _ (CE01.out.alloc CE01.out.size o); clear hbE01))))
        all_goals
          go_wp2_with fail
          go_meet
          first
            | exact ⟨rfl, _, rfl, cellOf (five_new zzE02 ⟨1, 2, ⟨#[]⟩, 0, h5, 0, h7⟩) 1, five_below CE02.out (by first | exact Nat.le_refl _ | exact CE01.out.size) ⟨1, 2, ⟨#[]⟩, 0, h5, 0, h7⟩⟩
            | exact ⟨rfl, wE02.heap.size, rfl, cellOf (heap_alloc_new wE02 _) 1, CE02.out.alloc CE02.out.size _⟩
      case rest =>
        obtain ⟨rfl, Y, rfl, c7, hbl⟩ := hcut
        have b1 := hbl.cell (p := ⟨w5.heap.size, 1, none⟩) (by show w5.heap.size < _; rw [HzE.out]; omega)
        rw [HK1.out] at b1
        have hA := HBA.out.trans (hbl.mono HBA.out.size)
        have hB := HBB.out.trans (hbl.mono HBB.out.size)
        have b2 := (hA.cell (p := ⟨w.heap.size + 1, 0, none⟩) (Array.getElem?_eq_some_iff.1 Q2.out).1).trans (cellOf Q2.out 0)
        have b3 := (hB.cell (p := ⟨X, 0, none⟩) (Array.getElem?_eq_some_iff.1 Q3.out).1).trans (cellOf Q3.out 0)
        obtain ⟨d1, o1, ra, rn, rc, e1, hc1, hrn, _⟩ := ST2.out.cr.at (i := 0) (row := rowN [(2, 5)]) rfl
        obtain ⟨d2, o2, ra2, rn2, rc2, e2, hc2, hrn2, _⟩ := ST3.out.at (i := 0) (row := rowN [(1, 6), (2, 5)]) rfl
        subst e1
        subst e2
        have hrn' : rn = 1 := hrn
        have hrn2' : rn2 = 2 := hrn2
        subst hrn'
        subst hrn2'
        have hfn : fn = 1 := ST2.out.cr.len.1
        have hgn : gn = 1 := ST3.out.len.1
        subst hfn
        subst hgn
        have b4 := (hA.cell (p := ⟨d1, o1 + 0, none⟩) (World.block_lt_of_cell? _ _ hc1)).trans hc1
        have b5 := (hB.cell (p := ⟨d2, o2 + 0, none⟩) (World.block_lt_of_cell? _ _ hc2)).trans hc2
        simp only [List.getElem?_toArray, List.getElem?_cons_zero, Nat.add_zero] at b2 b3 b4 b5
        have HF := hid (HBW.out.trans (hA.mono HBW.out.size))
        clear hA hB hbl hc1 hc2 hrn hrn2 ST2 ST3 Q2 Q3 HBA HBB HK1 c3 c5 KN HS5 E0
        go_wp2
        go_ret
        exact ⟨rfl, HF.out⟩
end Go.Proofs.Ytenfgahedbeekaa

namespace Go.Proofs.Ytenfgahedbeekaa
open Go.RowKit Go.Deep Go.Shelf
set_option linter.unusedVariables false
set_option linter.unusedSimpArgs false

def iv (xs : List Int) : List Value := xs.map fun x => .int .i64 x
structure GRow (w : World) (B : Nat) (a : Option Addr) (n cap : Nat) (xs : List Int) : Prop where
  n1 : n = xs.length
  nc : n ≤ cap
  at' : ∀ x : Addr, a = some x → ∃ g, x = ⟨g, 0, none⟩ ∧ B ≤ g ∧ g < w.heap.size
  ct : 0 < cap → ∃ g cur, a = some ⟨g, 0, none⟩ ∧ w.heap[g]? = some (.cells cur 2 (0, 0)) ∧ cap ≤ cur.size ∧ cur.toList.take n = iv xs
theorem GRow.nil (w : World) (B : Nat) : GRow w B none 0 0 [] := ⟨rfl, Nat.le_refl _, fun x e => (by cases e), fun h => (by omega)⟩
theorem GRow.keep {w w' : World} {B : Nat} {a : Option Addr} {n cap : Nat} {xs : List Int} (h : GRow w B a n cap xs) (hs : w.heap.size ≤ w'.heap.size) (e : ∀ x : Addr, a = some x → w'.heap[x.block]? = w.heap[x.block]?) : GRow w' B a n cap xs := by
  refine ⟨h.n1, h.nc, fun x ex => ?_, fun hc => ?_⟩
  · obtain ⟨g, h1, h2, h3⟩ := h.at' x ex
    exact ⟨g, h1, h2, by omega⟩
  · obtain ⟨g, cur, rfl, h2, h3⟩ := h.ct hc
    exact ⟨g, cur, rfl, (e _ rfl).trans h2, h3⟩
theorem GRow.below {w w' : World} {B C : Nat} {a : Option Addr} {n cap : Nat} {xs : List Int} (h : GRow w B a n cap xs) (hC : w.heap.size ≤ C) (hb : Below C w w') : GRow w' B a n cap xs :=
  h.keep hb.size (fun x ex => by
    obtain ⟨g, rfl, h2, h3⟩ := h.at' x ex
    exact hb.block _ (by show g < C; omega))
theorem GRow.cell {w : World} {B : Nat} {a : Option Addr} {n cap : Nat} {xs : List Int} (h : GRow w B a n cap xs) {j : Nat} {x : Int} (hj : xs[j]? = some x) : ∃ g, a = some ⟨g, 0, none⟩ ∧ B ≤ g ∧ w.cell? ⟨g, j, none⟩ = some (.int .i64 x) ∧ w.frozen? ⟨g, j, none⟩ = false := by
  have hlt := (List.getElem?_eq_some_iff.1 hj).1
  have hc : 0 < cap := by have := h.n1; have := h.nc; omega
  obtain ⟨g, cur, rfl, h2, h3, h4⟩ := h.ct hc
  obtain ⟨g', e, hB, _⟩ := h.at' _ rfl
  cases e
  refine ⟨g, rfl, hB, ?_, freeOf h2 j⟩
  rw [cellOf h2 j]
  have h5 : (iv xs)[j]? = some (.int .i64 x) := by unfold iv; rw [List.getElem?_map, hj]; rfl
  rw [← h5, ← h4, List.getElem?_take, if_pos (by have := h.n1; omega)]
  simp
theorem GRow.set {w : World} {B : Nat} {n cap : Nat} {xs : List Int} {g : Nat} (h : GRow w B (some ⟨g, 0, none⟩) n cap xs) (j : Nat) (hj : j < n) (v : Int) : GRow (w.setCell ⟨g, j, none⟩ (.int .i64 v)) B (some ⟨g, 0, none⟩) n cap (xs.set j v) := by
  refine ⟨by rw [List.length_set]; exact h.n1, h.nc, fun x ex => ?_, fun hc => ?_⟩
  · obtain ⟨g', h1, h2, h3⟩ := h.at' x ex
    exact ⟨g', h1, h2, by simp [World.setCell]; omega⟩
  · obtain ⟨g', cur, e, h2, h3, h4⟩ := h.ct hc
    cases e
    refine ⟨g, _, rfl, heap_set_at h2 j (.int .i64 v), by simpa using h3, ?_⟩
    rw [Array.toList_setIfInBounds, List.take_set, h4]
    unfold iv
    rw [List.map_set]
theorem GRow.cells {w : World} {B : Nat} {ad : Addr} {n cap : Nat} {xs : List Int} (h : GRow w B (some ad) n cap xs) (d : Nat) : ∀ j u, (iv (xs.drop d))[j]? = some u → w.cell? ((ad.add d).add j) = some u := by
  intro j u hu
  unfold iv at hu
  rw [List.getElem?_map, Option.map_eq_some_iff] at hu
  obtain ⟨x, hx, rfl⟩ := hu
  rw [List.getElem?_drop] at hx
  obtain ⟨g, e, _, hc, _⟩ := h.cell hx
  cases e
  rw [Addr.add_lit, Addr.add_lit, Nat.zero_add]
  exact hc
/- What append leaves: a row, in place or new. -/
end Go.Proofs.Ytenfgahedbeekaa

namespace Go.Proofs.Ytenfgahedbeekaa
open Go.RowKit Go.Deep Go.Shelf
set_option linter.unusedVariables false
set_option linter.unusedSimpArgs false

structure PV (T Z : List Int) (L : NL) : Prop where
  ris : Ris L
  tz : T.length = Z.length
  nd : ∀ (i j : Nat) (x : Int), T[i]? = some x → T[j]? = some x → i = j
  ln : L.length = T.length
  mem : ∀ x y : Int, (x, y) ∈ L ↔ ∃ j : Nat, T[j]? = some x ∧ Z[j]? = some y
  le : T.length ≤ 24
  rt : ∀ x ∈ T, -32768 ≤ x ∧ x ≤ 32767
  rz : ∀ z ∈ Z, 0 ≤ z ∧ z ≤ 1000
theorem PV.nil : PV [] [] [] := ⟨List.Pairwise.nil, rfl, fun i j x h => by simp at h, rfl, fun x y => by simp, by simp, fun x h => by simp at h, fun x h => by simp at h⟩
theorem PV.there {T Z : List Int} {L : NL} (h : PV T Z L) (a : Int) : (placeR (cA a) L).2 = true ↔ a ∈ T := by
  rw [place_there a L h.ris]
  constructor
  · rintro ⟨y, hy⟩
    obtain ⟨j, h1, _⟩ := (h.mem a y).1 hy
    exact List.mem_of_getElem? h1
  · intro ha
    obtain ⟨j, hj⟩ := List.getElem?_of_mem ha
    have hl := (List.getElem?_eq_some_iff.1 hj).1
    have : Z[j]? = some (Z[j]'(by rw [← h.tz]; exact hl)) := List.getElem?_eq_getElem _
    exact ⟨_, (h.mem a _).2 ⟨j, hj, this⟩⟩
theorem PV.add {T Z : List Int} {L : NL} (h : PV T Z L) {a i : Int} (ha : a ∉ T) (hl : T.length < 24) (hr : -32768 ≤ a ∧ a ≤ 32767) (hi : 0 ≤ i ∧ i ≤ 1000) : PV (T ++ [a]) (Z ++ [i]) (insI a i L) := by
  have hnp : ¬ (placeR (cA a) L).2 = true := fun e => ha ((h.there a).1 e)
  refine ⟨insI_ris a i L h.ris, by simp [h.tz], ?_, by rw [insI_len, if_neg hnp, h.ln]; simp, ?_, by simp; omega, ?_, ?_⟩
  · intro p q x hp hq
    rw [List.getElem?_append] at hp hq
    split at hp <;> split at hq
    · exact h.nd p q x hp hq
    · rename_i h1 h2
      rw [List.getElem?_singleton] at hq
      split at hq
      · cases hq; exact absurd (List.mem_of_getElem? hp) ha
      · cases hq
    · rename_i h1 h2
      rw [List.getElem?_singleton] at hp
      split at hp
      · cases hp; exact absurd (List.mem_of_getElem? hq) ha
      · cases hp
    · rename_i h1 h2
      rw [List.getElem?_singleton] at hp hq
      split at hp
      · split at hq
        · omega
        · cases hq
      · cases hp
  · intro x y
    rw [insI_mem a i L h.ris]
    constructor
    · rintro (⟨rfl, rfl⟩ | ⟨h1, h2⟩)
      · exact ⟨T.length, by simp, by rw [h.tz]; simp⟩
      · obtain ⟨j, g1, g2⟩ := (h.mem x y).1 h2
        exact ⟨j, by rw [List.getElem?_append_left (List.getElem?_eq_some_iff.1 g1).1]; exact g1, by rw [List.getElem?_append_left (List.getElem?_eq_some_iff.1 g2).1]; exact g2⟩
    · rintro ⟨j, g1, g2⟩
      rcases Nat.lt_or_ge j T.length with hj | hj
      · rw [List.getElem?_append_left hj] at g1
        rw [List.getElem?_append_left (by rw [← h.tz]; exact hj)] at g2
        refine .inr ⟨?_, (h.mem x y).2 ⟨j, g1, g2⟩⟩
        rintro rfl
        exact ha (List.mem_of_getElem? g1)
      · rw [List.getElem?_append_right hj, List.getElem?_singleton] at g1
        rw [List.getElem?_append_right (by rw [← h.tz]; exact hj), List.getElem?_singleton] at g2
        split at g1
        · split at g2
          · cases g1; cases g2; exact .inl ⟨rfl, rfl⟩
          · cases g2
        · cases g1
  · intro x hx
    rcases List.mem_append.1 hx with hx | hx
    · exact h.rt x hx
    · rw [List.mem_singleton] at hx; subst hx; exact hr
  · intro x hx
    rcases List.mem_append.1 hx with hx | hx
    · exact h.rz x hx
    · rw [List.mem_singleton] at hx; subst hx; exact hi
/- What lies where. -/
@[reducible] def HA (w wr : World) (a1 a2 : Option Addr) (b : Nat) : Prop := b ≠ w.heap.size + 1 ∧ b < wr.heap.size ∧ (∀ x : Addr, a1 = some x → x.block ≠ b) ∧ (∀ x : Addr, a2 = some x → x.block ≠ b)
structure HM (w wr : World) (T Z : List Int) (L : NL) (a1 : Option Addr) (c1 : Nat) (a2 : Option Addr) (c2 : Nat) (sa : Option Addr) (sn sc : Nat) : Prop where
  bel : Below w.heap.size w wr
  bx : wr.heap[w.heap.size + 1]? = some (.cells #[.slice sa sn sc] 27 (0, 0))
  st : StCP 1 wr (HA w wr a1 a2) sa sn (([[], L] : List NL).map rowN)
  g1 : GRow wr (w.heap.size + 2) a1 T.length c1 T
  g2 : GRow wr (w.heap.size + 2) a2 Z.length c2 Z
  dj : ∀ x y : Addr, a1 = some x → a2 = some y → x.block ≠ y.block
  sz : w.heap.size + 2 ≤ wr.heap.size
theorem HM.below {w wr w' : World} {T Z : List Int} {L : NL} {a1 a2 : Option Addr} {c1 c2 : Nat} {sa : Option Addr} {sn sc : Nat} (h : HM w wr T Z L a1 c1 a2 c2 sa sn sc) (hb : Below wr.heap.size wr w') : HM w w' T Z L a1 c1 a2 c2 sa sn sc :=
  ⟨h.bel.trans (hb.mono h.bel.size), (hb.block _ (Array.getElem?_eq_some_iff.1 h.bx).1).trans h.bx, (h.st.keep (fun b hA => hb.block b hA.2.1)).imp (fun b hA => ⟨hA.1, Nat.lt_of_lt_of_le hA.2.1 hb.size, hA.2.2⟩), h.g1.below (Nat.le_refl _) hb, h.g2.below (Nat.le_refl _) hb, h.dj, Nat.le_trans h.sz hb.size⟩
/- Another state in the box. -/
end Go.Proofs.Ytenfgahedbeekaa

namespace Go.Proofs.Ytenfgahedbeekaa
open Go.RowKit Go.Deep Go.Shelf
set_option linter.unusedVariables false
set_option linter.unusedSimpArgs false

structure OneI (ks : List Int) (L : NL) : Prop where
  ris : Ris L
  dbl : ∀ x y, (x, y) ∈ L → y = 2 * x
  mem : ∀ a, (∃ y, (a, y) ∈ L) ↔ a ∈ ks
  len : L.length ≤ ks.length
theorem OneI.nil : OneI [] [] := ⟨List.Pairwise.nil, fun x y h => by simp at h, fun a => by simp, Nat.le_refl _⟩
theorem insI_le (a b : Int) (L : NL) : (insI a b L).length ≤ L.length + 1 := by
  rw [insI_len]; split <;> omega
theorem OneI.add {ks : List Int} {L : NL} (h : OneI ks L) (a : Int) : OneI (ks ++ [a]) (insI a (2 * a) L) := by
  refine ⟨insI_ris _ _ _ h.ris, ?_, ?_, ?_⟩
  · intro x y hx
    rcases (insI_mem a (2 * a) L h.ris x y).1 hx with ⟨rfl, rfl⟩ | ⟨_, h2⟩
    · rfl
    · exact h.dbl x y h2
  · intro x
    rw [List.mem_append, List.mem_singleton, ← h.mem x]
    constructor
    · rintro ⟨y, hy⟩
      rcases (insI_mem a (2 * a) L h.ris x y).1 hy with ⟨rfl, rfl⟩ | ⟨_, h2⟩
      · exact .inr rfl
      · exact .inl ⟨y, h2⟩
    · by_cases hxa : x = a
      · intro _
        exact ⟨2 * a, (insI_mem a (2 * a) L h.ris x _).2 (.inl ⟨hxa, rfl⟩)⟩
      · rintro (⟨y, hy⟩ | h1)
        · exact ⟨y, (insI_mem a (2 * a) L h.ris x y).2 (.inr ⟨hxa, hy⟩)⟩
        · exact absurd h1 hxa
  · rw [List.length_append]
    have := insI_le a (2 * a) L
    have := h.len
    simp; omega
theorem ris_ext : ∀ (L M : NL), Ris L → Ris M → (∀ x y, (x, y) ∈ L ↔ (x, y) ∈ M) → L = M
  | [], [], _, _, _ => rfl
  | [], (x, y) :: M, _, _, h => by have := (h x y).2 (List.mem_cons_self ..); simp at this
  | (x, y) :: L, [], _, _, h => by have := (h x y).1 (List.mem_cons_self ..); simp at this
  | (x, y) :: L, (u, v) :: M, hL, hM, h => by
    have hL' := List.pairwise_cons.1 hL
    have hM' := List.pairwise_cons.1 hM
    have e1 := (h x y).1 (List.mem_cons_self ..)
    have e2 := (h u v).2 (List.mem_cons_self ..)
    have hxu : (x, y) = (u, v) := by
      rcases List.mem_cons.1 e1 with e1 | e1
      · exact e1
      · rcases List.mem_cons.1 e2 with e2 | e2
        · exact e2.symm
        · have a1 := hM'.1 _ e1
          have a2 := hL'.1 _ e2
          simp only at a1 a2
          omega
    cases hxu
    congr 1
    refine ris_ext L M hL'.2 hM'.2 (fun a b => ⟨fun ha => ?_, fun ha => ?_⟩)
    · rcases List.mem_cons.1 ((h a b).1 (List.mem_cons_of_mem _ ha)) with e | e
      · cases e
        have := hL'.1 _ ha
        simp only at this
        omega
      · exact e
    · rcases List.mem_cons.1 ((h a b).2 (List.mem_cons_of_mem _ ha)) with e | e
      · cases e
        have := hM'.1 _ ha
        simp only at this
        omega
      · exact e
theorem OneI.eq {ks js : List Int} {L M : NL} (h : OneI ks L) (g : OneI js M) (e : ∀ a, a ∈ ks ↔ a ∈ js) : L = M := by
  refine ris_ext L M h.ris g.ris (fun x y => ⟨fun hx => ?_, fun hx => ?_⟩)
  · obtain ⟨y', hy'⟩ := (g.mem x).2 ((e x).1 ((h.mem x).1 ⟨y, hx⟩))
    have := h.dbl _ _ hx
    have := g.dbl _ _ hy'
    have : y' = y := by omega
    exact this ▸ hy'
  · obtain ⟨y', hy'⟩ := (h.mem x).2 ((e x).2 ((g.mem x).1 ⟨y, hx⟩))
    have := g.dbl _ _ hx
    have := h.dbl _ _ hy'
    have : y' = y := by omega
    exact this ▸ hy'
/- Twice the same key: the last stays. -/
theorem ins_twice (a b c : Int) (L : NL) (h : Ris L) : insI a c (insI a b L) = insI a c L := by
  refine ris_ext _ _ (insI_ris _ _ _ (insI_ris _ _ _ h)) (insI_ris _ _ _ h) (fun x y => ?_)
  rw [insI_mem a c _ (insI_ris _ _ _ h), insI_mem a c _ h, insI_mem a b _ h]
  constructor
  · rintro (h1 | ⟨h1, h2 | ⟨_, h2⟩⟩)
    · exact .inl h1
    · exact absurd h2.1 h1
    · exact .inr ⟨h1, h2⟩
  · rintro (h1 | ⟨h1, h2⟩)
    · exact .inl h1
    · exact .inr ⟨h1, .inr ⟨h1, h2⟩⟩
/- Put and taken out again. -/
theorem ins_out (a b : Int) (L : NL) (h : Ris L) (hn : ∀ y, (a, y) ∉ L) : ((insI a b L).filter fun p => !(p.1 == a)) = L := by
  refine ris_ext _ _ ((insI_ris a b L h).filter _) h (fun x y => ?_)
  rw [List.mem_filter, insI_mem a b _ h]
  simp only [Bool.not_eq_eq_eq_not, Bool.not_true, beq_eq_false_iff_ne, ne_eq]
  constructor
  · rintro ⟨h1 | ⟨_, h2⟩, h3⟩
    · exact absurd h1.1 h3
    · exact h2
  · intro h1
    have : x ≠ a := fun e => hn y (e ▸ h1)
    exact ⟨.inr ⟨this, h1⟩, this⟩
theorem OneI.far {ks : List Int} {L : NL} (h : OneI ks L) {a : Int} (hk : ∀ k ∈ ks, k ≤ 32767) (ha : 32767 < a) : ∀ y, (a, y) ∉ L := fun y hy => by
  have := hk a ((h.mem a).1 ⟨y, hy⟩)
  omega
theorem place_short {ks : List Int} {L : NL} (h : OneI ks L) (hk : ks.length < 24) (a : Int) : (placeR (cA a) L).2 = true ∨ L.length < 24 := .inr (by have := h.len; omega)
theorem ins_short {ks : List Int} {L : NL} (h : OneI ks L) (hk : ks.length + 1 < 24) (a b : Int) : (insI a b L).length < 24 := by
  have := insI_le a b L
  have := h.len
  omega
/- The places that the second order takes. -/
def rotN (n : Nat) (t : Int) (i : Nat) : Nat := ((((i : Int) + t.tmod n).tmod n + n).tmod n).toNat
theorem rot_lt {n : Nat} (hn : 0 < n) (t : Int) (i : Nat) : rotN n t i < n := by
  unfold rotN
  have h1 : (-(n : Int)) < ((i : Int) + t.tmod n).tmod n := by
    have := Int.lt_tmod_of_pos ((i : Int) + t.tmod n) (show (0 : Int) < n by omega)
    omega
  have h2 : (((i : Int) + t.tmod n).tmod n + n).tmod n < n := Int.tmod_lt_of_pos _ (by omega)
  have h3 : 0 ≤ (((i : Int) + t.tmod n).tmod n + n).tmod n := Int.tmod_nonneg _ (by omega)
  omega
theorem rot_emod {n : Nat} (hn : 0 < n) (t : Int) (i : Nat) : ((rotN n t i : Nat) : Int) = ((i : Int) + t) % n := by
  have h1 : (-(n : Int)) < ((i : Int) + t.tmod n).tmod n := by
    have := Int.lt_tmod_of_pos ((i : Int) + t.tmod n) (show (0 : Int) < n by omega)
    omega
  have h3 : 0 ≤ (((i : Int) + t.tmod n).tmod n + n).tmod n := Int.tmod_nonneg _ (by omega)
  unfold rotN
  rw [Int.toNat_of_nonneg h3, Int.tmod_eq_emod_of_nonneg (by omega), Int.add_emod_right]
  have e1 : ((i : Int) + t.tmod n).tmod n % n = ((i : Int) + t.tmod n) % n := by
    have := Int.mul_tdiv_add_tmod ((i : Int) + t.tmod n) n
    rw [← this, Int.mul_add_emod_self_left, this]
  have e2 : ((i : Int) + t.tmod n) % n = ((i : Int) + t) % n := by
    have := Int.mul_tdiv_add_tmod t n
    have e : (i : Int) + t = (i : Int) + t.tmod n + n * t.tdiv n := by omega
    rw [e, Int.add_mul_emod_self_left]
  rw [e1, e2]
theorem rot_all {n : Nat} (t : Int) (j : Nat) (hj : j < n) : ∃ i, i < n ∧ rotN n t i = j := by
  have hn : 0 < n := by omega
  refine ⟨(((j : Int) - t) % n).toNat, ?_, ?_⟩
  · have h1 := Int.emod_lt_of_pos ((j : Int) - t) (show (0 : Int) < n by omega)
    have h2 := Int.emod_nonneg ((j : Int) - t) (show (n : Int) ≠ 0 by omega)
    omega
  · have h2 := Int.emod_nonneg ((j : Int) - t) (show (n : Int) ≠ 0 by omega)
    have := rot_emod hn t (((j : Int) - t) % n).toNat
    rw [Int.toNat_of_nonneg h2, Int.emod_add_emod] at this
    have e3 : (j : Int) % (n : Int) = (j : Int) := Int.emod_eq_of_lt (by omega) (by omega)
    rw [show (j : Int) - t + t = (j : Int) by omega, e3] at this
    exact Int.ofNat.inj this
def rotL (keys : List Int) (t : Int) (i : Nat) : List Int := (List.range i).map fun j => keys.getD (rotN keys.length t j) 0
theorem rotL_mem (keys : List Int) (t : Int) (a : Int) : a ∈ rotL keys t keys.length ↔ a ∈ keys := by
  unfold rotL
  rw [List.mem_map]
  constructor
  · rintro ⟨j, hj, rfl⟩
    rw [List.mem_range] at hj
    have := rot_lt (show 0 < keys.length by omega) t j
    rw [List.getD_eq_getElem?_getD, List.getElem?_eq_getElem this]
    exact List.getElem_mem _
  · intro ha
    obtain ⟨k, hk⟩ := List.getElem?_of_mem ha
    have hkl := (List.getElem?_eq_some_iff.1 hk).1
    obtain ⟨i, hi, e⟩ := rot_all t k hkl
    exact ⟨i, List.mem_range.2 hi, by rw [e, List.getD_eq_getElem?_getD, hk]; rfl⟩
theorem rotL_succ (keys : List Int) (t : Int) (i : Nat) : rotL keys t (i + 1) = rotL keys t i ++ [keys.getD (rotN keys.length t i) 0] := by
  unfold rotL
  rw [List.range_succ, List.map_append]; rfl
theorem rotL_len (keys : List Int) (t : Int) (i : Nat) : (rotL keys t i).length = i := by simp [rotL]
end Go.Proofs.Ytenfgahedbeekaa

namespace Go.Proofs.Ytenfgahedbeekaa
open Go.RowKit Go.Deep
set_option linter.unusedVariables false
set_option linter.unusedSimpArgs false

def simpleB (h : Hd) : Bool := decide (h.rc = 0) && decide (h.n = 0) &&
  (decide (h.kind = 1) && decide (h.text = ByteArray.empty) || decide (h.kind = 2) && decide (h.int = 0) && decide (h.text.size ≤ 64) || decide (h.kind = 3) && decide (h.text = ByteArray.empty) && (decide (h.int = 0) || decide (h.int = 1)))

def plainB (h : Hd) (fs : List Hd) : Bool := if h.kind = 4 then decide (h.int = 0) && decide (h.text = ByteArray.empty) && decide (0 ≤ h.rc) && decide (h.rc ≤ 15) && decide (h.n ≤ 12) && fs.all simpleB else simpleB h
theorem plainB_rec {h : Hd} {fs : List Hd} (hk : h.kind = 4) : plainB h fs = (decide (h.int = 0) && decide (h.text = ByteArray.empty) && decide (0 ≤ h.rc) && decide (h.rc ≤ 15) && decide (h.n ≤ 12) && fs.all simpleB) := by unfold plainB; rw [if_pos hk]

theorem all_drop {fs : List Hd} {i : Nat} {f : Hd} (h : fs[i]? = some f) : (fs.drop i).all simpleB = (simpleB f && (fs.drop (i + 1)).all simpleB) := by
  have hlt : i < fs.length := (List.getElem?_eq_some_iff.1 h).1
  rw [List.drop_eq_getElem_cons hlt]
  have : fs[i] = f := by simpa [hlt] using h
  rw [this]; rfl

theorem simpleB_cases {h : Hd} (hs : simpleB h = true) : h.rc = 0 ∧ h.n = 0 ∧ ((h.kind = 1 ∧ h.text = ByteArray.empty) ∨ (h.kind = 2 ∧ h.int = 0 ∧ h.text.size ≤ 64) ∨ (h.kind = 3 ∧ h.text = ByteArray.empty ∧ (h.int = 0 ∨ h.int = 1))) := by
  simp only [simpleB, Bool.and_eq_true, Bool.or_eq_true, decide_eq_true_eq] at hs
  obtain ⟨⟨h1, h2⟩, (⟨h3, h4⟩ | ⟨⟨h3, h4⟩, h5⟩) | ⟨⟨h3, h4⟩, h5⟩⟩ := hs
  · exact ⟨h1, h2, .inl ⟨h3, h4⟩⟩
  · exact ⟨h1, h2, .inr (.inl ⟨h3, h4, h5⟩)⟩
  · exact ⟨h1, h2, .inr (.inr ⟨h3, h4, h5⟩)⟩
end Go.Proofs.Ytenfgahedbeekaa

