/- What is read has these bytes, and no others. -/
import Derived.Test.YtjfkcafocindjaaF2
namespace Go.Proofs.Ytjfkcafocindjaa
open Go.RowKit Go.Deep
set_option linter.unusedVariables false
set_option linter.unusedSimpArgs false

theorem encS_flat (f : Hd) : encS (flatH f) = encS f := rfl
theorem encR_flat (fs : List Hd) : encR (fs.map flatH) = encR fs := by
  induction fs with
  | nil => rfl
  | cons f r ih => simp only [encR, List.map_cons, List.flatMap_cons] at ih ⊢; rw [ih, encS_flat]
theorem simpleB_flat {f : Hd} (h : simpleB f = true) : simpleB (flatH f) = true := by
  obtain ⟨h1, h2, h3⟩ := simpleB_cases h
  simp only [simpleB, flatH]
  rcases h3 with ⟨hk, ht⟩ | ⟨hk, hi, ht⟩ | ⟨hk, ht, hi⟩
  · simp [hk, ht]
  · simp [hk, hi, ht]
  · rcases hi with hi | hi <;> simp [hk, ht, hi]
theorem all_flat {fs : List Hd} (h : fs.all simpleB = true) : (fs.map flatH).all simpleB = true := by
  rw [List.all_eq_true] at h ⊢
  intro f hf
  simp only [List.mem_map] at hf
  obtain ⟨g, hg, rfl⟩ := hf
  exact simpleB_flat (h g hg)

/- A head that holds what was read of a plain value's bytes is plain, and has these bytes. -/
theorem rep_put {w : World} {h hh : Hd} {fs : List Hd} (hn : h.n = fs.length) (hp : plainB h fs = true) (r : Rep w (vlOf h fs) hh) : plainB hh (vlOf h fs).fs = true ∧ encV hh (vlOf h fs).fs = encV h fs := by
  obtain ⟨k1, k2, k3, k4, k5, k6⟩ := r
  simp only [vlOf] at k1 k2 k3 k4 k5 k6 ⊢
  by_cases hk : h.kind = 4
  · rw [if_pos hk] at k5 ⊢
    rw [plainB_rec hk] at hp
    simp only [Bool.and_eq_true, decide_eq_true_eq] at hp
    obtain ⟨⟨⟨⟨⟨h1, h2⟩, h3⟩, h4⟩, h5⟩, h6⟩ := hp
    have hk' : hh.kind = 4 := by rw [k1]; exact hk
    rw [List.length_map] at k5
    constructor
    · rw [plainB_rec hk']
      simp only [Bool.and_eq_true, decide_eq_true_eq]
      exact ⟨⟨⟨⟨⟨by rw [k2]; exact h1, by rw [k3]; exact h2⟩, by rw [k4]; exact h3⟩, by rw [k4]; exact h4⟩, by rw [k5, ← hn]; exact h5⟩, all_flat h6⟩
    · unfold encV
      rw [if_pos hk, if_pos hk', encR_flat, k4, k5, hn]
  · rw [if_neg hk] at k5 ⊢
    have hk' : ¬ hh.kind = 4 := by rw [k1]; exact hk
    unfold plainB at hp ⊢
    rw [if_neg hk] at hp
    rw [if_neg hk']
    obtain ⟨h1, h2, h3⟩ := simpleB_cases hp
    constructor
    · simp only [simpleB]
      simp only [List.length_nil] at k5
      rcases h3 with ⟨g1, g2⟩ | ⟨g1, g2, g3⟩ | ⟨g1, g2, g3⟩
      · simp [k1, k2, k3, k4, k5, h1, g1, g2]
      · simp [k1, k2, k3, k4, k5, h1, g1, g2, g3]
      · rcases g3 with g3 | g3 <;> simp [k1, k2, k3, k4, k5, h1, g1, g2, g3]
    · unfold encV
      rw [if_neg hk, if_neg hk']
      unfold encS
      rw [k1, k2, k3]

theorem textD_back {bs : List Nat} (hb : Byt bs) {s : List Nat} {k : Nat} (h : textD 64 bs = .ok (s, k)) : bs.take k = encT (ofB s) ∧ s.length ≤ 64 ∧ Byt s ∧ k ≤ bs.length := by
  have hle := textD_le hb h
  unfold textD at h
  split at h
  · cases h
  · rename_i n q hd
    split at h
    · cases h
    · split at h
      · cases h
      · rename_i h1 h2
        cases h
        obtain ⟨e1, _, e3, _, _⟩ := dec_back hb hd
        have hl : ((bs.drop q).take n).length = n := by simp; omega
        refine ⟨?_, hle.2.1, hle.2.2, hle.1⟩
        unfold encT
        rw [ofB_size, hl, sb_ofB hle.2.2, ← e1]
        exact List.take_add
theorem simpD_back {bs : List Nat} (hb : Byt bs) {h : Hd} {k : Nat} (e : simpD bs = some (h, k)) : bs.take k = encS h ∧ simpleB h = true ∧ h.In := by
  cases bs with
  | nil => cases e
  | cons c r =>
    have hr : Byt r := fun x hx => hb x (by simp [hx])
    simp only [simpD] at e
    split at e
    · rename_i hc
      split at e
      · cases e
      · rename_i n q hd
        cases e
        obtain ⟨e1, e2, _⟩ := dec_back hr hd
        have hu := unzz_in n e2
        refine ⟨?_, rfl, ⟨hu.1, hu.2, by simp [mkI], by simp [mkI], by simp [mkI], by simp [mkI], Nat.zero_le _, by simp [mkI]⟩⟩
        rw [Nat.add_comm, List.take_succ_cons, e1, hc]
        simp [encS, mkI, zz_unzz]
    · split at e
      · rename_i _ hc
        split at e
        · cases e
        · rename_i s q hd
          cases e
          obtain ⟨e1, e2, e3, e4⟩ := textD_back hr hd
          have hsz : (mkT (ofB s)).text.size ≤ 64 := by simp only [mkT]; rw [ofB_size]; exact e2
          refine ⟨?_, ?_, ⟨by simp [mkT], by simp [mkT], by simp [mkT], by simp [mkT], by simp [mkT], by simp [mkT], by omega, by simp [mkT]⟩⟩
          · rw [Nat.add_comm, List.take_succ_cons, e1, hc]
            simp [encS, mkT]
          · simp only [mkT] at hsz
            simp [simpleB, mkT, hsz]
      · split at e
        · rename_i _ _ hc
          split at e
          · cases e
          · rename_i x r'
            split at e
            · rename_i hx
              cases e
              refine ⟨?_, ?_, ⟨by simp [mkB], by simp [mkB]; omega, by simp [mkB], by simp [mkB], by simp [mkB], by simp [mkB], Nat.zero_le _, by simp [mkB]⟩⟩
              · simp [encS, mkB, hc]
              · have : x = 0 ∨ x = 1 := by omega
                rcases this with rfl | rfl <;> rfl
            · cases e
        · cases e

theorem goD_back {bs : List Nat} (hb : Byt bs) : ∀ (c i : Nat) (acc xs : List Hd) (k : Nat), i ≤ bs.length → goD simpD bs c i acc = some (xs, k) →
    ∃ ys, xs = acc ++ ys ∧ ys.length = c ∧ (bs.drop i).take (k - i) = encR ys ∧ ys.all simpleB = true ∧ (∀ f ∈ ys, f.In) ∧ i ≤ k ∧ k ≤ bs.length
  | 0, i, acc, xs, k, hi, e => by
    simp only [goD] at e
    cases e
    exact ⟨[], by simp, rfl, by simp [encR], rfl, fun f hf => (by cases hf), Nat.le_refl _, hi⟩
  | c + 1, i, acc, xs, k, hi, e => by
    simp only [goD] at e
    split at e
    · cases e
    · rename_i x q hd
      have hq := simpD_le (hb.drop i) hd
      rw [List.length_drop] at hq
      obtain ⟨b1, b2, b3⟩ := simpD_back (hb.drop i) hd
      obtain ⟨ys, e1, e2, e3, e4, e5, e6, e7⟩ := goD_back hb c (i + q) _ xs k (by omega) e
      refine ⟨x :: ys, by rw [e1]; simp, by simp [e2], ?_, by simp [b2, e4], ?_, by omega, e7⟩
      · have : encR (x :: ys) = encS x ++ encR ys := rfl
        rw [this, ← b1, ← e3, ← List.drop_drop, show k - i = q + (k - (i + q)) from by omega]
        exact List.take_add
      · intro f hf
        rcases List.mem_cons.1 hf with rfl | hf
        · exact b3
        · exact e5 f hf
theorem rowD_back {bs : List Nat} (hb : Byt bs) {fs : List Hd} {k : Nat} (e : rowD simpD bs = some (fs, k)) : bs.take k = enc fs.length ++ encR fs ∧ fs.length ≤ 12 ∧ fs.all simpleB = true ∧ (∀ f ∈ fs, f.In) ∧ k ≤ bs.length := by
  unfold rowD at e
  split at e
  · cases e
  · rename_i c i hd
    split at e
    · cases e
    · rename_i hc
      obtain ⟨d1, _, d3, _, _⟩ := dec_back hb hd
      obtain ⟨ys, e1, e2, e3, e4, e5, e6, e7⟩ := goD_back hb c i [] fs k d3 e
      simp only [List.nil_append] at e1
      subst e1
      refine ⟨?_, by omega, e4, e5, e7⟩
      rw [e2, ← d1, ← e3]
      have : k = i + (k - i) := by omega
      conv => lhs; rw [this]
      exact List.take_add

def hdOf (x : Vl) : Hd := ⟨x.kind, x.int, x.text, x.rc, none, x.fs.length, 0⟩
theorem valD_back {bs : List Nat} (hb : Byt bs) {x : Vl} {k : Nat} (e : valD bs = some (x, k)) : bs.take k = encV (hdOf x) x.fs ∧ plainB (hdOf x) x.fs = true ∧ (hdOf x).In ∧ (∀ f ∈ x.fs, f.In) := by
  cases bs with
  | nil => cases e
  | cons c r =>
    have hr : Byt r := fun x hx => hb x (by simp [hx])
    simp only [valD] at e
    split at e
    · rename_i hc
      split at e
      · cases e
      · rename_i q size hd
        split at e
        · cases e
        · rename_i hq
          split at e
          · cases e
          · rename_i fs k' hrd
            cases e
            obtain ⟨d1, _, d3, _, _⟩ := dec_back hr hd
            obtain ⟨r1, r2, r3, r4, r5⟩ := rowD_back (hr.drop size) hrd
            refine ⟨?_, ?_, ⟨by simp [hdOf], by simp [hdOf], by simp [hdOf], by simp [hdOf], by simp only [hdOf]; omega, by simp only [hdOf]; omega, Nat.zero_le _, by simp only [hdOf]; omega⟩, r4⟩
            · simp only [encV, hdOf, if_true, Int.toNat_natCast]
              rw [show 1 + size + k' = (size + k') + 1 from by omega, List.take_succ_cons, hc, ← r1, ← d1, List.take_add]
            · rw [plainB_rec rfl, Bool.and_eq_true, Bool.and_eq_true, Bool.and_eq_true, Bool.and_eq_true, Bool.and_eq_true]
              exact ⟨⟨⟨⟨⟨decide_eq_true rfl, decide_eq_true rfl⟩, decide_eq_true (by simp only [hdOf]; omega)⟩, decide_eq_true (by simp only [hdOf]; omega)⟩, decide_eq_true r2⟩, r3⟩
    · rename_i hc
      split at e
      · cases e
      · rename_i h k' hs
        cases e
        obtain ⟨b1, b2, b3⟩ := simpD_back hb hs
        have hk : ¬ h.kind = 4 := by
          obtain ⟨_, _, h3⟩ := simpleB_cases b2
          omega
        obtain ⟨c1, c2, c3⟩ := simpleB_cases b2
        refine ⟨?_, ?_, ⟨b3.i0, b3.i1, b3.k0, b3.k1, b3.r0, b3.r1, b3.t, by simp [hdOf, vl]⟩, fun f hf => (by cases hf)⟩
        · unfold encV
          rw [if_neg (by simpa [hdOf, vl] using hk), b1]
          rfl
        · unfold plainB
          rw [if_neg (by simpa [hdOf, vl] using hk)]
          have := b2
          simp only [simpleB, hdOf, vl, List.length_nil] at this ⊢
          rw [c2] at this
          exact this
end Go.Proofs.Ytjfkcafocindjaa
