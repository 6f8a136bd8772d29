/- Events: what is written is read again; what is read has these bytes, and no others. -/
import Derived.Test.YtjfkcafocindjaaN2
import Derived.Test.YtjfkcafocindjaaH2
namespace Go.Proofs.Ytjfkcafocindjaa
open Go.RowKit Go.Deep
set_option linter.unusedVariables false
set_option linter.unusedSimpArgs false

def vlP (p : Hd × List Hd) : Vl := vlOf p.1 p.2
theorem goD_pes : ∀ (ps : List (Hd × List Hd)) (pre more : List Nat) (acc : List Vl), (∀ p ∈ ps, POk p) →
    goD valD (pre ++ (pes ps ++ more)) ps.length pre.length acc = some (acc ++ ps.map vlP, pre.length + (pes ps).length)
  | [], pre, more, acc, _ => by simp [goD, pes]
  | p :: r, pre, more, acc, hs => by
    have hp := hs p (by simp)
    simp only [List.length_cons, goD]
    rw [List.drop_left]
    have e : pes (p :: r) = pe p ++ pes r := rfl
    have hv := valD_encV hp.hin hp.n hp.fin hp.pl (pes r ++ more)
    have epe : encV p.1 p.2 = pe p := rfl
    rw [epe] at hv
    rw [e, List.append_assoc, hv]
    simp only
    have ih := goD_pes r (pre ++ pe p) more (acc ++ [vlP p]) (fun g hg => hs g (by simp [hg]))
    rw [List.length_append, List.append_assoc] at ih
    have e2 : vlOf p.1 p.2 = vlP p := rfl
    rw [e2, ih]
    simp
    omega
theorem rowD_pes {ps : List (Hd × List Hd)} (hs : ∀ p ∈ ps, POk p) (hn : ps.length ≤ 12) (more : List Nat) :
    rowD valD (enc ps.length ++ (pes ps ++ more)) = some (ps.map vlP, (enc ps.length ++ pes ps).length) := by
  unfold rowD
  rw [dec_enc _ _ (by omega)]
  simp only
  rw [if_neg (by omega), goD_pes ps (enc ps.length) more [] hs]
  simp
theorem evD_encE {s : ByteArray} {ps : List (Hd × List Hd)} (h : evB s ps = true) (hs : ∀ p ∈ ps, POk p) (more : List Nat) :
    evD (encE s ps ++ more) = some ((s, ps.map vlP), (encE s ps).length) := by
  simp only [evB, Bool.and_eq_true, decide_eq_true_eq] at h
  obtain ⟨⟨h1, h2⟩, h3, _⟩ := h
  unfold evD encE
  rw [List.append_assoc, List.append_assoc, textD_more64 s _ (by omega)]
  simp only
  rw [sb_length, if_neg (by omega), List.drop_left, rowD_pes hs h3]
  simp only [ofB_sb, List.length_append, List.append_assoc]

def hp (x : Vl) : Hd × List Hd := (hdOf x, x.fs)
theorem goD_backV {bs : List Nat} (hb : Byt bs) : ∀ (c i : Nat) (acc xs : List Vl) (k : Nat), i ≤ bs.length → goD valD bs c i acc = some (xs, k) →
    ∃ ys, xs = acc ++ ys ∧ ys.length = c ∧ (bs.drop i).take (k - i) = pes (ys.map hp) ∧ (∀ y ∈ ys, POk (hp y)) ∧ i ≤ k ∧ k ≤ bs.length
  | 0, i, acc, xs, k, hi, e => by
    simp only [goD] at e
    cases e
    exact ⟨[], by simp, rfl, by simp [pes], fun f hf => (by cases hf), Nat.le_refl _, hi⟩
  | c + 1, i, acc, xs, k, hi, e => by
    simp only [goD] at e
    split at e
    · cases e
    · rename_i x q hd
      have hq := valD_le (hb.drop i) hd
      rw [List.length_drop] at hq
      obtain ⟨b1, b2, b3, b4⟩ := valD_back (hb.drop i) hd
      obtain ⟨ys, e1, e2, e3, e4, e5, e6⟩ := goD_backV hb c (i + q) _ xs k (by omega) e
      refine ⟨x :: ys, by rw [e1]; simp, by simp [e2], ?_, ?_, by omega, e6⟩
      · have : pes ((x :: ys).map hp) = encV (hdOf x) x.fs ++ pes (ys.map hp) := rfl
        rw [this, ← b1, ← e3, ← List.drop_drop, show k - i = q + (k - (i + q)) from by omega]
        exact List.take_add
      · intro f hf
        rcases List.mem_cons.1 hf with rfl | hf
        · exact ⟨b3, rfl, b4, b2⟩
        · exact e4 f hf
theorem rowD_backV {bs : List Nat} (hb : Byt bs) {xs : List Vl} {k : Nat} (e : rowD valD bs = some (xs, k)) : bs.take k = enc xs.length ++ pes (xs.map hp) ∧ xs.length ≤ 12 ∧ (∀ y ∈ xs, POk (hp y)) ∧ k ≤ bs.length := by
  unfold rowD at e
  split at e
  · cases e
  · rename_i c i hd
    split at e
    · cases e
    · rename_i hc
      obtain ⟨d1, _, d3, _, _⟩ := dec_back hb hd
      obtain ⟨ys, e1, e2, e3, e4, e5, e6⟩ := goD_backV hb c i [] xs k d3 e
      simp only [List.nil_append] at e1
      subst e1
      refine ⟨?_, by omega, e4, e6⟩
      rw [e2, ← d1, ← e3]
      have : k = i + (k - i) := by omega
      conv => lhs; rw [this]
      exact List.take_add
theorem evD_back {bs : List Nat} (hb : Byt bs) {s : ByteArray} {xs : List Vl} {k : Nat} (e : evD bs = some ((s, xs), k)) : bs.take k = encE s (xs.map hp) ∧ evB s (xs.map hp) = true ∧ (∀ y ∈ xs, POk (hp y)) ∧ k ≤ bs.length ∧ s.size ≤ 20 := by
  unfold evD at e
  split at e
  · cases e
  · rename_i s' i ht
    split at e
    · cases e
    · rename_i hl
      split at e
      · cases e
      · rename_i xs' k' hr
        cases e
        obtain ⟨t1, t2, t3, t4⟩ := textD_back hb ht
        obtain ⟨r1, r2, r3, r4⟩ := rowD_backV (hb.drop i) hr
        rw [List.length_drop] at r4
        refine ⟨?_, ?_, r3, by omega, by rw [ofB_size]; omega⟩
        · unfold encE
          rw [List.length_map, ← t1, List.append_assoc, ← r1]
          exact List.take_add
        · simp only [evB, Bool.and_eq_true, decide_eq_true_eq, List.length_map, ofB_size]
          refine ⟨⟨by omega, by omega⟩, r2, ?_⟩
          rw [List.all_eq_true]
          intro p hp'
          simp only [List.mem_map] at hp'
          obtain ⟨x, hx, rfl⟩ := hp'
          exact (r3 x hx).pl

/- Heads that hold values: their bytes are the values'. -/
theorem rep_hp {w : World} {x : Vl} {h : Hd} (r : Rep w x h) (hp' : POk (hp x)) : POk (h, x.fs) ∧ pe (h, x.fs) = pe (hp x) := by
  obtain ⟨k1, k2, k3, k4, k5, k6⟩ := r
  have hi := hp'.hin
  simp only [hp] at hi
  have e : ∀ a c, encV (⟨x.kind, x.int, x.text, x.rc, a, x.fs.length, c⟩ : Hd) x.fs = encV (hdOf x) x.fs := fun a c => rfl
  have e2 : ∀ a c, plainB (⟨x.kind, x.int, x.text, x.rc, a, x.fs.length, c⟩ : Hd) x.fs = plainB (hdOf x) x.fs := fun a c => rfl
  obtain ⟨kind, int, text, rc, a, n, cap⟩ := h
  simp only at k1 k2 k3 k4 k5 k6
  subst k1 k2 k3 k4 k5
  refine ⟨⟨⟨hi.i0, hi.i1, hi.k0, hi.k1, hi.r0, hi.r1, hi.t, hi.n⟩, rfl, hp'.fin, (e2 a cap).trans hp'.pl⟩, e a cap⟩
theorem reps_hp {w : World} : ∀ (xs : List Vl) (hs : List Hd), Reps w xs hs → (∀ x ∈ xs, POk (hp x)) → ∀ a, VRd w a hs →
    ∃ ps : List (Hd × List Hd), ps.length = xs.length ∧ PRd w a ps ∧ pes ps = pes (xs.map hp) ∧ ps.all plB = true := by
  intro xs hs r hx a hv
  refine ⟨List.zipWith (fun h x => (h, x.fs)) hs xs, by simp [r.len], ?_, ?_, ?_⟩
  · have hfst : (List.zipWith (fun (h : Hd) (x : Vl) => (h, x.fs)) hs xs).map Prod.fst = hs := by
      have hl := r.len
      clear r hx hv
      induction hs generalizing xs with
      | nil => rfl
      | cons h t ih =>
        cases xs with
        | nil => simp at hl
        | cons x xs => simp only [List.zipWith_cons_cons, List.map_cons]; rw [ih xs (by simpa using hl)]
    have hmem : ∀ p ∈ List.zipWith (fun (h : Hd) (x : Vl) => (h, x.fs)) hs xs, ∃ x ∈ xs, Rep w x p.1 ∧ p.2 = x.fs := by
      intro p hp'
      obtain ⟨j, hj⟩ := List.getElem?_of_mem hp'
      rw [List.getElem?_zipWith] at hj
      cases h1 : hs[j]? with
      | none => rw [h1] at hj; simp at hj
      | some h =>
        cases h2 : xs[j]? with
        | none => rw [h1, h2] at hj; simp at hj
        | some x =>
          rw [h1, h2] at hj
          simp at hj
          subst hj
          exact ⟨x, List.mem_of_getElem? h2, r.each j x h h2 h1, rfl⟩
    refine ⟨by rw [hfst]; exact hv, ?_, ?_, ?_, ?_⟩
    · intro p hp'
      obtain ⟨x, h1, h2, h3⟩ := hmem p hp'
      exact (rep_hp h2 (hx x h1)).1.hin
    · intro p hp'
      obtain ⟨x, h1, h2, h3⟩ := hmem p hp'
      rw [h3]; exact h2.n
    · intro p hp'
      obtain ⟨x, h1, h2, h3⟩ := hmem p hp'
      rw [h3]; exact h2.fs
    · intro p hp'
      obtain ⟨x, h1, h2, h3⟩ := hmem p hp'
      rw [h3]; exact (hx x h1).fin
  · have hl := r.len
    have he : ∀ (j : Nat) (x : Vl) (h : Hd), xs[j]? = some x → hs[j]? = some h → pe (h, x.fs) = pe (hp x) := fun j x h h1 h2 => (rep_hp (r.each j x h h1 h2) (hx x (List.mem_of_getElem? h1))).2
    clear r hx hv
    induction hs generalizing xs with
    | nil => cases xs with | nil => rfl | cons x xs => simp at hl
    | cons h t ih =>
      cases xs with
      | nil => simp at hl
      | cons x xs =>
        have e1 := ih xs (by simpa using hl) (fun j y g h1 h2 => he (j + 1) y g (by simpa using h1) (by simpa using h2))
        have e2 := he 0 x h rfl rfl
        simp only [pes, List.zipWith_cons_cons, List.map_cons, List.flatMap_cons] at e1 ⊢
        rw [e1, e2]
  · rw [List.all_eq_true]
    intro p hp'
    obtain ⟨j, hj⟩ := List.getElem?_of_mem hp'
    rw [List.getElem?_zipWith] at hj
    cases h1 : hs[j]? with
    | none => rw [h1] at hj; simp at hj
    | some h =>
      cases h2 : xs[j]? with
      | none => rw [h1, h2] at hj; simp at hj
      | some x =>
        rw [h1, h2] at hj
        simp at hj
        subst hj
        exact (rep_hp (r.each j x h h2 h1) (hx x (List.mem_of_getElem? h2))).1.pl
end Go.Proofs.Ytjfkcafocindjaa
