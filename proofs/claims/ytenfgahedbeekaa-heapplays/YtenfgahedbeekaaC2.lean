/- Numbers as values; states of numbers. -/
import Derived.Test.YtenfgahedbeekaaB2
namespace Go.Proofs.Ytenfgahedbeekaa
open Go.RowKit Go.Deep Go.Shelf
set_option linter.unusedVariables false
set_option linter.unusedSimpArgs false

def numH (n : Int) : Hd := ⟨1, n, ⟨#[]⟩, 0, none, 0, 0⟩
def numC (n : Int) : CT 1 := ((⟨1, n, ⟨#[]⟩, 0⟩ : C4), [])
theorem num_rd (w : World) (n : Int) (h0 : -9223372036854775808 ≤ n) (h1 : n ≤ 9223372036854775807) : RdC 1 w (numH n) (numC n) :=
  ⟨((numH n, []) : VT 1), rfl, ⟨⟨h0, h1, by show (-9223372036854775808 : Int) ≤ 1; omega, by show (1 : Int) ≤ 9223372036854775807; omega, by show (-9223372036854775808 : Int) ≤ 0; omega, by show (0 : Int) ≤ 9223372036854775807; omega, by show (⟨#[]⟩ : ByteArray).size ≤ _; decide, by show (0 : Nat) ≤ _; omega⟩, rfl, by show (0 : Nat) ≤ 1000; omega, fun j x hx => by simp at hx, fun u hu => by cases hu⟩, rfl⟩
theorem cmp_num (a b : Int) : cmpC 1 (numC a) (numC b) = ci a b := by
  show (if cC ⟨1, a, ⟨#[]⟩, 0⟩ ⟨1, b, ⟨#[]⟩, 0⟩ = 0 then cmpL (cmpC 0) [] [] else cC ⟨1, a, ⟨#[]⟩, 0⟩ ⟨1, b, ⟨#[]⟩, 0⟩) = ci a b
  have h1 : ci (1 : Int) 1 = 0 := ci_self 1
  have h2 : cS (⟨#[]⟩ : ByteArray) ⟨#[]⟩ = 0 := ord_cS.self _
  have h3 : ci (0 : Int) 0 = 0 := ci_self 0
  have e : cC ⟨1, a, ⟨#[]⟩, 0⟩ ⟨1, b, ⟨#[]⟩, 0⟩ = ci a b := by
    unfold cC
    simp only [orL, h1, h2, h3, if_true]
    by_cases h : ci a b = 0
    · rw [if_pos h, h]
    · rw [if_neg h]
  rw [e]
  by_cases h : ci a b = 0
  · rw [if_pos h, h]; rfl
  · rw [if_neg h]
theorem numC_inj {a b : Int} (h : numC a = numC b) : a = b := by
  have := congrArg (fun c : CT 1 => (c.1 : C4).int) h
  exact this
set_option maxHeartbeats 400000 in
theorem num_any (w : World) (n : Int) : Calls Try.prog 36 #[.int .i64 n] w fun e w' => e = .returned (.agg #[.int .i64 1, .int .i64 n, .string ⟨#[]⟩, .int .i64 0, .slice none 0 0]) ∧ Below w.heap.size w w' := by
  obtain ⟨W0, hW0⟩ : ∃ W0, W0 = w.alloc (.cells #[.int .i64 1, .int .i64 n, .string ⟨#[]⟩, .int .i64 0, .slice none 0 0] 31) := ⟨_, rfl⟩
  have h5 : W0.heap[w.heap.size]? = some (.cells #[.int .i64 1, .int .i64 n, .string ⟨#[]⟩, .int .i64 0, .slice none 0 0] 31 (0, 0)) := by rw [hW0]; exact heap_alloc_new w _
  have hb : Below w.heap.size w W0 := by rw [hW0]; exact (Below.refl _ w).alloc (Nat.le_refl _) _
  have q0 := cellOf h5 0
  have q1 := cellOf h5 1
  have q2 := cellOf h5 2
  have q3 := cellOf h5 3
  have q4 := cellOf h5 4
  simp only [List.getElem?_toArray, List.getElem?_cons_zero, List.getElem?_cons_succ] at q0 q1 q2 q3 q4
  go_enter Try.func36, Try.ntmps36
  go_wp2
  rw [← hW0]
  exact bodyPost_ret (v := .agg #[.int .i64 1, .int .i64 n, .string ⟨#[]⟩, .int .i64 0, .slice none 0 0]) (by simp [results, Try.results36, go_sem, q0, q1, q2, q3, q4]) rfl ⟨rfl, hb⟩
/- A number told. -/
theorem told_num {w' : World} {A : Nat → Prop} {t : VT 1} {n : Int} (h : RdP 1 w' A t) (e : ofT 1 t = numC n) : (hdT 1 t).kind = 1 ∧ (hdT 1 t).int = n ∧ (hdT 1 t).text = ⟨#[]⟩ ∧ (hdT 1 t).rc = 0 ∧ (hdT 1 t).n = 0 := by
  obtain ⟨⟨k, i, x, r, a, m, c⟩, us⟩ := t
  have e1 : (⟨k, i, x, r⟩ : C4) = ⟨1, n, ⟨#[]⟩, 0⟩ := congrArg Prod.fst e
  have e2 : us.map (ofT 0) = [] := congrArg Prod.snd e
  injection e1 with g1 g2 g3 g4
  have h2 : m = us.length := h.2.1
  exact ⟨g1, g2, g3, g4, by rw [show (hdT 1 ((⟨k, i, x, r, a, m, c⟩ : Hd), us)).n = m from rfl, h2, List.map_eq_nil_iff.1 e2]; rfl⟩
/- A state's map as it lies. -/
theorem StCR.at {k : Nat} {w : World} {a : Option Addr} {n : Nat} {S : List (RC k)} (h : StCR k w a n S) {i : Nat} {row : RC k} (hi : S[i]? = some row) : ∃ b off ra rn rc, a = some ⟨b, off, none⟩ ∧ w.cell? ⟨b, off + i, none⟩ = some (.slice ra rn rc) ∧ rn = row.length ∧ rn ≤ 1000 := by
  obtain ⟨ms, h1, h2⟩ := h
  rw [← h2, List.getElem?_map] at hi
  cases hp : ms[i]? with
  | none => rw [hp] at hi; cases hi
  | some p =>
    rw [hp] at hi
    obtain ⟨b, off, e, hc⟩ := h1.rd i p.1 (by rw [List.getElem?_map, hp]; rfl)
    have h3 := (h1.el p (List.mem_of_getElem? hp)).1
    refine ⟨b, off, p.1.a, p.1.n, p.1.cap, e, hc, ?_, h3.n2⟩
    have : row = rowC k p.2 := by simpa using hi.symm
    rw [this, h3.n1]
    simp [rowC]
theorem st_make {k : Nat} {w : World} {A : Nat → Prop} {g n : Nat} (h : w.heap[g]? = some (.cells (List.replicate n (.slice none 0 0)).toArray 70 (0, 0))) (hA : A g) (hn : n ≤ 1000) : StCP k w A (some ⟨g, 0, none⟩) n (List.replicate n []) := by
  refine ⟨List.replicate n ((⟨none, 0, 0⟩ : Sl), ([] : Rw k)), ⟨by simp, hn, ?_, ?_, ?_⟩, by simp [rowC]⟩
  · intro j m hm
    rw [List.map_replicate] at hm
    have hj : j < n := by
      have := (List.getElem?_eq_some_iff.1 hm).1
      simpa using this
    refine ⟨g, 0, rfl, ?_⟩
    rw [Nat.zero_add, cellOf h j]
    rw [List.getElem?_replicate, if_pos hj] at hm
    cases hm
    simp [hj, Sl.v]
  · intro x e _
    cases e
    exact hA
  · intro m hm
    rw [List.mem_replicate] at hm
    obtain ⟨_, rfl⟩ := hm
    exact ⟨⟨rfl, by show (0 : Nat) ≤ 1000; omega, fun j x hx => by simp at hx, fun x e ne => absurd rfl ne, fun p hp => by simp at hp⟩, Nat.le_refl _⟩
end Go.Proofs.Ytenfgahedbeekaa
