/- code.reader: fail, readOne, count, integer, text, number, oneType. -/
import Derived.Test.YthnolocldeokeaaGreatJAO
namespace Go.Proofs.YthnolocldeokeaaGreat
open Go.RowKit Go.Deep Go.Shelf
set_option linter.unusedVariables false
set_option linter.unusedSimpArgs false
set_option maxRecDepth 100000
/- What a reader holds: the bytes that are left, or nothing once it has failed; its bytes lie below D. -/
structure Rst (w : World) (R D : Nat) (s : Option (List Nat)) : Prop where
  ex : ∃ (a : Option Addr) (n c : Nat), w.heap[R]? = some (.cells #[.slice a n c, .bool s.isNone] 83 (0, 0)) ∧ Rd w (.slice a n c) (s.getD []) ∧ (∀ k, (Value.slice a n c).ownBlock = some k → k < D ∧ k ≠ R) ∧ (s = none → a = none ∧ n = 0 ∧ c = 0)
  ln : (s.getD []).length ≤ 1000000000
  hR : R < D
  hD : D ≤ w.heap.size
theorem Rst.grown {w w' : World} {R D : Nat} {s : Option (List Nat)} {row : Option Nat} (h : Rst w R D s) (hg : w.grownBy w' row) (hr : ∀ r, row = some r → D ≤ r) : Rst w' R D s := by
  obtain ⟨⟨a, n, c, h1, h2, h3, h4⟩, h5, h6, h7⟩ := h
  have hk : ∀ k, k < D → w'.heap[k]? = w.heap[k]? := fun k hk => hg.block k (by omega) (fun e => by have := hr k e.symm; omega)
  exact ⟨⟨a, n, c, (hk R h6).trans h1, h2.same fun k e _ => hk k (h3 k e).1, h3, h4⟩, h5, h6, Nat.le_trans h7 hg.size⟩
theorem bgrown {w w' : World} (h : Below w.heap.size w w') (row : Option Nat) : w.grownBy w' row := ⟨h.os, h.tape, h.output, h.size, fun k hk _ => h.block k hk⟩
theorem Rst.below {w w' : World} {R D : Nat} {s : Option (List Nat)} (h : Rst w R D s) (k : Below w.heap.size w w') : Rst w' R D s := h.grown (bgrown k none) (fun r e => by cases e)
theorem grown_set (w : World) (R i : Nat) (v : Value) : w.grownBy (w.setCell ⟨R, i, none⟩ v) (some R) := ⟨rfl, rfl, rfl, by simp, fun k _ hne => Below.heap_setCell _ ⟨R, i, none⟩ _ _ (show k ≠ R from fun e => hne (by rw [e]))⟩
theorem gtrans {w w1 w2 : World} {row : Option Nat} (h : w.grownBy w1 row) (k : w1.grownBy w2 row) : w.grownBy w2 row := ⟨k.os.trans h.os, k.tape.trans h.tape, k.output.trans h.output, Nat.le_trans h.size k.size, fun j hj hne => (k.block j (by have := h.size; omega) hne).trans (h.block j hj hne)⟩
theorem gbelow {w w1 w2 : World} {row : Option Nat} (h : w.grownBy w1 row) (k : Below w1.heap.size w1 w2) : w.grownBy w2 row := gtrans h (bgrown k row)
/- What a reader's function answers. -/
def RdP (w : World) (R D : Nat) (v : Value) (s : Option (List Nat)) (e : Ending) (w' : World) : Prop := e = .returned v ∧ Rst w' R D s ∧ w.grownBy w' (some R)
set_option maxHeartbeats 1000000 in
theorem fail_any (w : World) (R D : Nat) (s : Option (List Nat)) (h : Rst w R D s) : Calls Tryz.prog 105 #[.pointer (some ⟨R, 0, none⟩)] w fun e w' => (∃ r, e = .returned r) ∧ Rst w' R D none ∧ w.grownBy w' (some R) := by
  obtain ⟨⟨a, n, c, h1, h2, h3, h4⟩, h5, h6, h7⟩ := h
  have c0 := cellOf h1 0
  have c1 := cellOf h1 1
  have f0 := freeOf h1 0
  have f1 := freeOf h1 1
  simp only [List.getElem?_toArray, List.getElem?_cons_zero, List.getElem?_cons_succ] at c0 c1
  have FIN : Hid (Rst ((w.setCell ⟨R, 0, none⟩ (.slice none 0 0)).setCell ⟨R, 1, none⟩ (.bool true)) R D none ∧ w.grownBy ((w.setCell ⟨R, 0, none⟩ (.slice none 0 0)).setCell ⟨R, 1, none⟩ (.bool true)) (some R)) := hid (by
    have k1 := heap_set_at h1 0 (.slice none 0 0)
    simp only [List.setIfInBounds_toArray, List.set_cons_zero, List.set_cons_succ] at k1
    have k2 := heap_set_at k1 1 (.bool true)
    simp only [List.setIfInBounds_toArray, List.set_cons_zero, List.set_cons_succ] at k2
    exact ⟨⟨⟨none, 0, 0, k2, Rd.nil _, (fun k e => by cases e), fun _ => ⟨rfl, rfl, rfl⟩⟩, by simp, h6, by simpa using h7⟩, gtrans (grown_set w R 0 _) (grown_set _ R 1 _)⟩)
  clear h1 h2 h3 h4 h5 h6 h7
  go_enter Tryz.func105, Tryz.ntmps105
  go_wp2
  exact ⟨rfl, .tuple #[], by simp [results, Tryz.results105, go_sem], ⟨_, rfl⟩, FIN.out⟩
theorem Rst.set {w : World} {R D : Nat} {bs : List Nat} {a a' : Option Addr} {n c n' c' k : Nat} (h1 : w.heap[R]? = some (.cells #[.slice a n c, .bool false] 83 (0, 0))) (hR : R < D) (hD : D ≤ w.heap.size) (hl : bs.length ≤ 1000000000) (h2 : Rd w (.slice a' n' c') (bs.drop k)) (h3 : ∀ g, (Value.slice a' n' c').ownBlock = some g → g < D ∧ g ≠ R) : Rst (w.setCell ⟨R, 0, none⟩ (.slice a' n' c')) R D (some (bs.drop k)) := by
  have k1 := heap_set_at h1 0 (.slice a' n' c')
  simp only [List.setIfInBounds_toArray, List.set_cons_zero, List.set_cons_succ] at k1
  exact ⟨⟨a', n', c', k1, h2.same fun g e _ => Below.heap_setCell _ ⟨R, 0, none⟩ _ _ (show g ≠ R from (h3 g e).2), h3, fun e => by cases e⟩, by simp; omega, hR, by simpa using hD⟩
theorem Rd.slA {w : World} {a : Option Addr} {k n : Nat} {bs : List Nat} (h : Rd w (.slice a n k) bs) : Rd w (.slice a 0 0) (bs.drop k) := by
  obtain ⟨a', _, e, hc, hb, _⟩ := h
  cases e
  rw [List.drop_of_length_le hc]
  exact ⟨a, 0, rfl, Nat.le_refl _, (fun x hx => by cases hx), fun j x h => by simp at h⟩
theorem Rd.slB {w : World} {a : Option Addr} {k cap n : Nat} {bs : List Nat} (h : Rd w (.slice a n cap) bs) (hk : k ≤ bs.length) (hc : ¬ cap = k) : Rd w (.slice (Option.map (fun x => x.add k) a) (n - k) (cap - k)) (bs.drop k) := by
  have := h.from k hk
  unfold sliced at this
  rw [if_neg hc, Nat.mul_one] at this
  exact this
theorem own_map {a : Option Addr} {n c n' c' k g : Nat} (h : (Value.slice (Option.map (fun x => x.add k) a) n' c').ownBlock = some g) : (Value.slice a n c).ownBlock = some g := by
  cases a with
  | none => cases h
  | some ad =>
    obtain ⟨b, off, sp⟩ := ad
    unfold Value.ownBlock at h ⊢
    simp only [Option.map_some] at h ⊢
    unfold Addr.add at h
    split at h <;> exact h
theorem text_err {bs : List Nat} {er : Nat} (h : textD 64 bs = .error er) : er = 20 ∨ er = 21 := by
  unfold textD at h
  split at h
  · cases h; exact .inl rfl
  · split at h
    · cases h; exact .inr rfl
    · split at h
      · cases h; exact .inl rfl
      · cases h
def rU (s : Option (List Nat)) : Nat × Option (List Nat) := match dec (s.getD []) with
  | none => (0, none)
  | some (m, k) => (m, some ((s.getD []).drop k))
def rI (s : Option (List Nat)) : Int × Option (List Nat) := match dec (s.getD []) with
  | none => (0, none)
  | some (m, k) => (unzz m, some ((s.getD []).drop k))
def rT (s : Option (List Nat)) : ByteArray × Option (List Nat) := match textD 64 (s.getD []) with
  | .error _ => (ByteArray.empty, none)
  | .ok (t, k) => (ofB t, some ((s.getD []).drop k))
theorem dec_none_state {s : Option (List Nat)} {m k : Nat} (h : dec (s.getD []) = some (m, k)) : s = some (s.getD []) := by
  cases s with
  | none => simp [dec, decAt] at h
  | some bs => rfl
theorem text_some_state {s : Option (List Nat)} {t : List Nat} {k : Nat} (h : textD 64 (s.getD []) = .ok (t, k)) : s = some (s.getD []) ∧ k ≤ (s.getD []).length := by
  unfold textD at h
  split at h
  · cases h
  · rename_i n k' hd
    refine ⟨dec_none_state hd, ?_⟩
    split at h
    · cases h
    · split at h
      · cases h
      · cases h; omega
set_option maxHeartbeats 2000000 in
theorem readOneU_any (w : World) (R D : Nat) (s : Option (List Nat)) (h : Rst w R D s) : Calls Tryz.prog 103 #[.pointer (some ⟨R, 0, none⟩), .func (.func 104) #[] #[]] w (RdP w R D (.int .u64 ((rU s).1 : Int)) (rU s).2) := by
  have KFl := hid (fail_any w R D s h)
  obtain ⟨⟨a, n, c, h1, h2, h3, h4⟩, h5, h6, h7⟩ := h
  have c0 := cellOf h1 0
  have f0 := freeOf h1 0
  simp only [List.getElem?_toArray, List.getElem?_cons_zero, List.getElem?_cons_succ] at c0
  have K := uint_any w (.slice a n c) (s.getD []) h2 (by omega)
  cases hd : dec (s.getD []) with
  | none =>
    rw [hd] at K
    simp only [uintV] at K
    have K := hid K
    have HR : Hid (rU s = (0, none)) := hid (by simp [rU, hd])
    rw [HR.out]
    clear h1 h2 h3 h4 h5 h6 h7 hd
    go_enter Tryz.func103, Tryz.ntmps103
    go_wp2_with (first
      | (go_at_call 104; (refine (Hid.out K).mono ?_; rintro e w1 ⟨rfl, rfl⟩))
      | (go_at_call 105; (refine (Hid.out KFl).mono ?_; rintro e w2 ⟨⟨r2, rfl⟩, hs2, hg2⟩; have HS := hid hs2; have HG := hid hg2; clear hs2 hg2)))
    go_ret
    exact ⟨rfl, HS.out, HG.out⟩
  | some mk =>
    obtain ⟨m, k⟩ := mk
    have hst := dec_none_state hd
    have hkb : k ≤ (s.getD []).length := by obtain ⟨_, _, _, _, hb, _⟩ := h2; exact (dec_back hb hd).2.2.1
    rw [hd] at K
    simp only [uintV] at K
    have K := hid K
    have hnl : n = (s.getD []).length := by obtain ⟨_, _, e, _⟩ := h2; cases e; rfl
    have hnc : n ≤ c := by obtain ⟨_, _, e, hq, _⟩ := h2; cases e; omega
    have hs0 : s.isNone = false := by rw [hst]; rfl
    rw [hs0] at h1
    have HR : Hid (rU s = (m, some ((s.getD []).drop k))) := hid (by simp [rU, hd])
    rw [HR.out]
    have kI : (k : Int) ≤ (n : Int) := by omega
    have k0 : (0 : Int) ≤ (k : Int) := by omega
    have nI : (n : Int) ≤ 1000000000 := by omega
    have ncI : (n : Int) ≤ (c : Int) := by omega
    by_cases hck : c = k
    · have FIN : Hid (Rst (w.setCell ⟨R, 0, none⟩ (.slice a 0 0)) R D (some ((s.getD []).drop k))) := hid (Rst.set h1 h6 h7 h5 (by rw [← hck]; exact Rd.slA h2) (fun g e => h3 g (by cases a with | none => cases e | some ad => exact e)))
      have hnk : n - k = 0 := by omega
      subst hck
      clear h1 h2 h3 h4 h5 h6 h7 hd hkb hnl hst hs0
      go_enter Tryz.func103, Tryz.ntmps103
      go_wp2_with (first
        | (go_at_call 104; (refine (Hid.out K).mono ?_; rintro e w1 ⟨rfl, rfl⟩)))
      go_ret
      exact ⟨rfl, FIN.out, grown_set _ _ _ _⟩
    · have FIN : Hid (Rst (w.setCell ⟨R, 0, none⟩ (.slice (Option.map (fun x => x.add k) a) (n - k) (c - k))) R D (some ((s.getD []).drop k))) := hid (Rst.set h1 h6 h7 h5 (Rd.slB h2 (by omega) hck) (fun g e => h3 g (own_map e)))
      have hckf : (c = k) = False := by simp [hck]
      clear h1 h2 h3 h4 h5 h6 h7 hd hkb hnl hst hs0
      go_enter Tryz.func103, Tryz.ntmps103
      go_wp2_with (first
        | (go_at_call 104; (refine (Hid.out K).mono ?_; rintro e w1 ⟨rfl, rfl⟩)))
      go_ret
      exact ⟨rfl, FIN.out, grown_set _ _ _ _⟩
set_option maxHeartbeats 2000000 in
theorem readOneI_any (w : World) (R D : Nat) (s : Option (List Nat)) (h : Rst w R D s) : Calls Tryz.prog 74 #[.pointer (some ⟨R, 0, none⟩), .func (.func 75) #[] #[]] w (RdP w R D (.int .i64 (rI s).1) (rI s).2) := by
  have KFl := hid (fail_any w R D s h)
  obtain ⟨⟨a, n, c, h1, h2, h3, h4⟩, h5, h6, h7⟩ := h
  have c0 := cellOf h1 0
  have f0 := freeOf h1 0
  simp only [List.getElem?_toArray, List.getElem?_cons_zero, List.getElem?_cons_succ] at c0
  have K := int_any w (.slice a n c) (s.getD []) h2 (by omega)
  cases hd : dec (s.getD []) with
  | none =>
    rw [hd] at K
    simp only [intV] at K
    have K := hid K
    have HR : Hid (rI s = (0, none)) := hid (by simp [rI, hd])
    rw [HR.out]
    clear h1 h2 h3 h4 h5 h6 h7 hd
    go_enter Tryz.func74, Tryz.ntmps74
    go_wp2_with (first
      | (go_at_call 75; (refine (Hid.out K).mono ?_; rintro e w1 ⟨rfl, rfl⟩))
      | (go_at_call 105; (refine (Hid.out KFl).mono ?_; rintro e w2 ⟨⟨r2, rfl⟩, hs2, hg2⟩; have HS := hid hs2; have HG := hid hg2; clear hs2 hg2)))
    go_ret
    exact ⟨rfl, HS.out, HG.out⟩
  | some mk =>
    obtain ⟨m, k⟩ := mk
    have hst := dec_none_state hd
    have hkb : k ≤ (s.getD []).length := by obtain ⟨_, _, _, _, hb, _⟩ := h2; exact (dec_back hb hd).2.2.1
    rw [hd] at K
    simp only [intV] at K
    have K := hid K
    have hnl : n = (s.getD []).length := by obtain ⟨_, _, e, _⟩ := h2; cases e; rfl
    have hnc : n ≤ c := by obtain ⟨_, _, e, hq, _⟩ := h2; cases e; omega
    have hs0 : s.isNone = false := by rw [hst]; rfl
    rw [hs0] at h1
    have HR : Hid (rI s = (unzz m, some ((s.getD []).drop k))) := hid (by simp [rI, hd])
    rw [HR.out]
    have kI : (k : Int) ≤ (n : Int) := by omega
    have k0 : (0 : Int) ≤ (k : Int) := by omega
    have nI : (n : Int) ≤ 1000000000 := by omega
    have ncI : (n : Int) ≤ (c : Int) := by omega
    by_cases hck : c = k
    · have FIN : Hid (Rst (w.setCell ⟨R, 0, none⟩ (.slice a 0 0)) R D (some ((s.getD []).drop k))) := hid (Rst.set h1 h6 h7 h5 (by rw [← hck]; exact Rd.slA h2) (fun g e => h3 g (by cases a with | none => cases e | some ad => exact e)))
      have hnk : n - k = 0 := by omega
      subst hck
      clear h1 h2 h3 h4 h5 h6 h7 hd hkb hnl hst hs0
      go_enter Tryz.func74, Tryz.ntmps74
      go_wp2_with (first
        | (go_at_call 75; (refine (Hid.out K).mono ?_; rintro e w1 ⟨rfl, rfl⟩)))
      go_ret
      exact ⟨rfl, FIN.out, grown_set _ _ _ _⟩
    · have FIN : Hid (Rst (w.setCell ⟨R, 0, none⟩ (.slice (Option.map (fun x => x.add k) a) (n - k) (c - k))) R D (some ((s.getD []).drop k))) := hid (Rst.set h1 h6 h7 h5 (Rd.slB h2 (by omega) hck) (fun g e => h3 g (own_map e)))
      have hckf : (c = k) = False := by simp [hck]
      clear h1 h2 h3 h4 h5 h6 h7 hd hkb hnl hst hs0
      go_enter Tryz.func74, Tryz.ntmps74
      go_wp2_with (first
        | (go_at_call 75; (refine (Hid.out K).mono ?_; rintro e w1 ⟨rfl, rfl⟩)))
      go_ret
      exact ⟨rfl, FIN.out, grown_set _ _ _ _⟩
set_option maxHeartbeats 2000000 in
theorem readOneT_any (w : World) (R D : Nat) (s : Option (List Nat)) (h : Rst w R D s) : Calls Tryz.prog 76 #[.pointer (some ⟨R, 0, none⟩), .func (.func 77) #[] #[]] w (RdP w R D (.string (rT s).1) (rT s).2) := by
  have KFl := hid (fail_any w R D s h)
  obtain ⟨⟨a, n, c, h1, h2, h3, h4⟩, h5, h6, h7⟩ := h
  have c0 := cellOf h1 0
  have f0 := freeOf h1 0
  simp only [List.getElem?_toArray, List.getElem?_cons_zero, List.getElem?_cons_succ] at c0
  have K := text_any w (.slice a n c) (s.getD []) h2 (by omega)
  cases hd : textD 64 (s.getD []) with
  | error er =>
    rw [hd] at K
    simp only [textV] at K
    have K := hid K
    have HR : Hid (rT s = (ByteArray.empty, none)) := hid (by simp [rT, hd])
    rw [HR.out]
    have her : ¬ (er : Int) = 0 := by have := text_err hd; omega
    have hez : ((er : Int) != 0) = true := by simp; omega
    clear h1 h2 h3 h4 h5 h6 h7 hd
    go_enter Tryz.func76, Tryz.ntmps76
    go_wp2_with (first
      | (go_at_call 77; (refine (Hid.out K).mono ?_; rintro e w1 ⟨rfl, rfl⟩))
      | (go_at_call 105; (refine (Hid.out KFl).mono ?_; rintro e w2 ⟨⟨r2, rfl⟩, hs2, hg2⟩; have HS := hid hs2; have HG := hid hg2; clear hs2 hg2)))
    go_ret
    exact ⟨rfl, HS.out, HG.out⟩
  | ok mk =>
    obtain ⟨m, k⟩ := mk
    obtain ⟨hst, hkb⟩ := text_some_state hd
    rw [hd] at K
    simp only [textV] at K
    have K := hid K
    have hnl : n = (s.getD []).length := by obtain ⟨_, _, e, _⟩ := h2; cases e; rfl
    have hnc : n ≤ c := by obtain ⟨_, _, e, hq, _⟩ := h2; cases e; omega
    have hs0 : s.isNone = false := by rw [hst]; rfl
    rw [hs0] at h1
    have HR : Hid (rT s = (ofB m, some ((s.getD []).drop k))) := hid (by simp [rT, hd])
    rw [HR.out]
    have kI : (k : Int) ≤ (n : Int) := by omega
    have k0 : (0 : Int) ≤ (k : Int) := by omega
    have nI : (n : Int) ≤ 1000000000 := by omega
    have ncI : (n : Int) ≤ (c : Int) := by omega
    by_cases hck : c = k
    · have FIN : Hid (Rst (w.setCell ⟨R, 0, none⟩ (.slice a 0 0)) R D (some ((s.getD []).drop k))) := hid (Rst.set h1 h6 h7 h5 (by rw [← hck]; exact Rd.slA h2) (fun g e => h3 g (by cases a with | none => cases e | some ad => exact e)))
      have hnk : n - k = 0 := by omega
      subst hck
      clear h1 h2 h3 h4 h5 h6 h7 hd hkb hnl hst hs0
      go_enter Tryz.func76, Tryz.ntmps76
      go_wp2_with (first
        | (go_at_call 77; (refine (Hid.out K).mono ?_; rintro e w1 ⟨rfl, rfl⟩)))
      go_ret
      exact ⟨rfl, FIN.out, grown_set _ _ _ _⟩
    · have FIN : Hid (Rst (w.setCell ⟨R, 0, none⟩ (.slice (Option.map (fun x => x.add k) a) (n - k) (c - k))) R D (some ((s.getD []).drop k))) := hid (Rst.set h1 h6 h7 h5 (Rd.slB h2 (by omega) hck) (fun g e => h3 g (own_map e)))
      have hckf : (c = k) = False := by simp [hck]
      clear h1 h2 h3 h4 h5 h6 h7 hd hkb hnl hst hs0
      go_enter Tryz.func76, Tryz.ntmps76
      go_wp2_with (first
        | (go_at_call 77; (refine (Hid.out K).mono ?_; rintro e w1 ⟨rfl, rfl⟩)))
      go_ret
      exact ⟨rfl, FIN.out, grown_set _ _ _ _⟩
end Go.Proofs.YthnolocldeokeaaGreat

namespace Go.Proofs.YthnolocldeokeaaGreat
open Go.RowKit Go.Deep Go.Shelf
set_option linter.unusedVariables false
set_option linter.unusedSimpArgs false
set_option maxRecDepth 100000
set_option maxHeartbeats 1000000 in
theorem integer_any (w : World) (R D : Nat) (s : Option (List Nat)) (h : Rst w R D s) : Calls Tryz.prog 43 #[.pointer (some ⟨R, 0, none⟩)] w (RdP w R D (.int .i64 (rI s).1) (rI s).2) := by
  have K := hid (readOneI_any w R D s h)
  clear h
  go_enter Tryz.func43, Tryz.ntmps43
  go_wp2_with (go_at_call 74; (refine (Hid.out K).mono ?_; rintro e w1 ⟨rfl, hs, hg⟩; have HS := hid hs; have HG := hid hg; clear hs hg))
  go_ret
  exact ⟨rfl, HS.out, HG.out⟩
set_option maxHeartbeats 1000000 in
theorem text_rd (w : World) (R D : Nat) (s : Option (List Nat)) (h : Rst w R D s) : Calls Tryz.prog 45 #[.pointer (some ⟨R, 0, none⟩)] w (RdP w R D (.string (rT s).1) (rT s).2) := by
  have K := hid (readOneT_any w R D s h)
  clear h
  go_enter Tryz.func45, Tryz.ntmps45
  go_wp2_with (go_at_call 76; (refine (Hid.out K).mono ?_; rintro e w1 ⟨rfl, hs, hg⟩; have HS := hid hs; have HG := hid hg; clear hs hg))
  go_ret
  exact ⟨rfl, HS.out, HG.out⟩
def rC (most : Nat) (s : Option (List Nat)) : Nat × Option (List Nat) := if most < (rU s).1 then (0, none) else rU s
def rN (s : Option (List Nat)) : Int × Option (List Nat) := if (rI s).1 < -1 ∨ 2000 < (rI s).1 then (0, none) else rI s
theorem rC_le (most : Nat) (s : Option (List Nat)) : (rC most s).1 ≤ most := by
  unfold rC; split
  · simp
  · omega
set_option maxHeartbeats 1000000 in
theorem count_any (w : World) (R D : Nat) (s : Option (List Nat)) (most : Nat) (h : Rst w R D s) : Calls Tryz.prog 71 #[.pointer (some ⟨R, 0, none⟩), .int .u64 (most : Int)] w (RdP w R D (.int .u64 ((rC most s).1 : Int)) (rC most s).2) := by
  have K := readOneU_any w R D s h
  obtain ⟨m, s1, hq⟩ : ∃ m s1, rU s = (m, s1) := ⟨_, _, rfl⟩
  have KFl := hid (fun (V : World) (hV : Rst V R D s1) => fail_any V R D s1 hV)
  simp only [rC, hq] at K ⊢
  have K := hid K
  clear h hq
  by_cases hm : most < m
  · have hmI : (most : Int) < (m : Int) := by omega
    rw [if_pos hm]
    go_enter Tryz.func71, Tryz.ntmps71
    go_wp2_with (first
      | (go_at_call 103; (refine (Hid.out K).mono ?_; rintro e w1 ⟨rfl, hs, hg⟩; have HG := hid hg; have KF1 := hid (KFl.out w1 hs); clear hs hg))
      | (go_at_call 105; (refine (Hid.out KF1).mono ?_; rintro e w2 ⟨⟨r2, rfl⟩, hs2, hg2⟩; have HS2 := hid hs2; have HG2 := hid (gtrans HG.out hg2); clear hs2 hg2)))
    go_ret
    exact ⟨rfl, HS2.out, HG2.out⟩
  · have hmI : ¬ (most : Int) < (m : Int) := by omega
    rw [if_neg hm]
    clear hm
    go_enter Tryz.func71, Tryz.ntmps71
    go_wp2_with (go_at_call 103; (refine (Hid.out K).mono ?_; rintro e w1 ⟨rfl, hs, hg⟩; have HS := hid hs; have HG := hid hg; clear hs hg))
    go_ret
    exact ⟨rfl, HS.out, HG.out⟩
set_option maxHeartbeats 1000000 in
theorem number_any (w : World) (R D : Nat) (s : Option (List Nat)) (h : Rst w R D s) : Calls Tryz.prog 78 #[.pointer (some ⟨R, 0, none⟩)] w (RdP w R D (.int .i64 (rN s).1) (rN s).2) := by
  have K := integer_any w R D s h
  obtain ⟨m, s1, hq⟩ : ∃ m s1, rI s = (m, s1) := ⟨_, _, rfl⟩
  have KFl := hid (fun (V : World) (hV : Rst V R D s1) => fail_any V R D s1 hV)
  simp only [rN, hq] at K ⊢
  have K := hid K
  clear h hq
  by_cases h1 : m < -1
  · rw [if_pos (.inl h1)]
    go_enter Tryz.func78, Tryz.ntmps78
    go_wp2_with (first
      | (go_at_call 43; (refine (Hid.out K).mono ?_; rintro e w1 ⟨rfl, hs, hg⟩; have HG := hid hg; have KF1 := hid (KFl.out w1 hs); clear hs hg))
      | (go_at_call 105; (refine (Hid.out KF1).mono ?_; rintro e w2 ⟨⟨r2, rfl⟩, hs2, hg2⟩; have HS2 := hid hs2; have HG2 := hid (gtrans HG.out hg2); clear hs2 hg2)))
    go_ret
    exact ⟨rfl, HS2.out, HG2.out⟩
  · by_cases h2 : 2000 < m
    · rw [if_pos (.inr h2)]
      go_enter Tryz.func78, Tryz.ntmps78
      go_wp2_with (first
        | (go_at_call 43; (refine (Hid.out K).mono ?_; rintro e w1 ⟨rfl, hs, hg⟩; have HG := hid hg; have KF1 := hid (KFl.out w1 hs); clear hs hg))
        | (go_at_call 105; (refine (Hid.out KF1).mono ?_; rintro e w2 ⟨⟨r2, rfl⟩, hs2, hg2⟩; have HS2 := hid hs2; have HG2 := hid (gtrans HG.out hg2); clear hs2 hg2)))
      go_ret
      exact ⟨rfl, HS2.out, HG2.out⟩
    · rw [if_neg (fun h => h.elim h1 h2)]
      go_enter Tryz.func78, Tryz.ntmps78
      go_wp2_with (go_at_call 43; (refine (Hid.out K).mono ?_; rintro e w1 ⟨rfl, hs, hg⟩; have HS := hid hs; have HG := hid hg; clear hs hg))
      go_ret
      exact ⟨rfl, HS.out, HG.out⟩
def rTy (s : Option (List Nat)) : TyP × Option (List Nat) := (((rN s).1, (rN (rN s).2).1), (rN (rN s).2).2)
theorem two_set {w : World} {b : Nat} {p0 p1 : Value} {t : TypeId} (h : w.heap[b]? = some (.cells #[p0, p1] t (0, 0))) (x0 x1 : Value) : ((w.setCell ⟨b, 0, none⟩ x0).setCell ⟨b, 1, none⟩ x1).heap[b]? = some (.cells #[x0, x1] t (0, 0)) := by
  have h0 := heap_set_at h 0 x0
  simp only [List.setIfInBounds_toArray, List.set_cons_zero, List.set_cons_succ] at h0
  have h1 := heap_set_at h0 1 x1
  simp only [List.setIfInBounds_toArray, List.set_cons_zero, List.set_cons_succ] at h1
  exact h1
/- A change of a block that is new does not count. -/
theorem grown_new {w w1 w2 : World} {R b : Nat} (h : w.grownBy w1 (some R)) (k : w1.grownBy w2 (some b)) (hb : w.heap.size ≤ b) : w.grownBy w2 (some R) := ⟨k.os.trans h.os, k.tape.trans h.tape, k.output.trans h.output, Nat.le_trans h.size k.size, fun j hj hne => (k.block j (by have := h.size; omega) (fun e => by cases e; omega)).trans (h.block j hj hne)⟩
set_option maxHeartbeats 2000000 in
theorem oneType_any (w : World) (R D : Nat) (s : Option (List Nat)) (h : Rst w R D s) : Calls Tryz.prog 73 #[.pointer (some ⟨R, 0, none⟩)] w (RdP w R D (.agg #[.int .i64 (rTy s).1.1, .int .i64 (rTy s).1.2]) (rTy s).2) := by
  obtain ⟨W0, hW0⟩ : ∃ W0, W0 = w.alloc (.cells #[.int .i64 0, .int .i64 0] 46) := ⟨_, rfl⟩
  have b0 : Below w.heap.size w W0 := by rw [hW0]; exact (Below.refl _ _).alloc (Nat.le_refl _) _
  have m0 : W0.heap[w.heap.size]? = some (.cells #[.int .i64 0, .int .i64 0] 46 (0, 0)) := by rw [hW0]; exact heap_alloc_new w _
  have K1 := number_any W0 R D s (h.below b0)
  have K2 := hid (fun (V : World) (hV : Rst V R D (rN s).2) => number_any V R D _ hV)
  have hRD := h.hR
  have hDw := h.hD
  have FIN : Hid (∀ (V : World) (x y : Int), Rst V R D (rTy s).2 → W0.grownBy V (some R) → V.cell? ⟨w.heap.size, 0, none⟩ = some (.int .i64 0) ∧ V.cell? ⟨w.heap.size, 1, none⟩ = some (.int .i64 0) ∧ V.frozen? ⟨w.heap.size, 0, none⟩ = false ∧ V.frozen? ⟨w.heap.size, 1, none⟩ = false ∧ ((V.setCell ⟨w.heap.size, 0, none⟩ (.int .i64 x)).setCell ⟨w.heap.size, 1, none⟩ (.int .i64 y)).heap[w.heap.size]? = some (.cells #[.int .i64 x, .int .i64 y] 46 (0, 0)) ∧ Rst ((V.setCell ⟨w.heap.size, 0, none⟩ (.int .i64 x)).setCell ⟨w.heap.size, 1, none⟩ (.int .i64 y)) R D (rTy s).2 ∧ w.grownBy ((V.setCell ⟨w.heap.size, 0, none⟩ (.int .i64 x)).setCell ⟨w.heap.size, 1, none⟩ (.int .i64 y)) (some R)) := hid (fun V x y hs hg => by
    have k0 := (hg.block _ (lt_of_heap m0) (fun e => by cases e; omega)).trans m0
    have g2 := gtrans (grown_set V w.heap.size 0 (.int .i64 x)) (grown_set (V.setCell ⟨w.heap.size, 0, none⟩ (.int .i64 x)) w.heap.size 1 (.int .i64 y))
    exact ⟨cellOf k0 0, cellOf k0 1, freeOf k0 0, freeOf k0 1, two_set k0 _ _, hs.grown g2 (fun r e => by cases e; omega), grown_new (gtrans (bgrown b0 (some R)) hg) g2 (Nat.le_refl _)⟩)
  have K1 := hid K1
  unfold rTy at FIN ⊢
  simp only at FIN ⊢
  generalize rN s = q at *
  obtain ⟨x, s1⟩ := q
  simp only at *
  generalize rN s1 = q2 at *
  obtain ⟨y, s2⟩ := q2
  simp only at *
  clear h b0 m0 hRD hDw
  go_enter Tryz.func73, Tryz.ntmps73
  go_upto_region 1 with fail
  rw [← hW0]
  clear hW0
  go_wp2_with (first
    | (have hno := hs1; (go_at_call 78; (refine (Hid.out K2').mono ?_; rintro e w2 ⟨rfl, hs, hg⟩; obtain ⟨c0, c1, f0, f1, c2, c3, c4⟩ := FIN.out w2 x y hs (gtrans HG1.out hg); have C2 := hid c2; have C3 := hid c3; have C4 := hid c4; clear hs hg c2 c3 c4)))
    | (go_at_call 78; (refine (Hid.out K1).mono ?_; rintro e w1 ⟨rfl, hs, hg⟩; have HG1 := hid hg; have K2' := hid (K2.out w1 hs); have hs1 := True.intro; clear hs hg)))
  have q0 := cellOf C2.out 0
  have q1 := cellOf C2.out 1
  simp only [List.getElem?_toArray, List.getElem?_cons_zero, List.getElem?_cons_succ] at q0 q1
  refine bodyPost_ret (v := .agg #[.int .i64 x, .int .i64 y]) (by simp [results, Tryz.results73, go_sem, q0, q1]) rfl ⟨rfl, C3.out, C4.out⟩
end Go.Proofs.YthnolocldeokeaaGreat

namespace Go.Proofs.YthnolocldeokeaaGreat
open Go.RowKit Go.Deep Go.Shelf
set_option linter.unusedVariables false
set_option linter.unusedSimpArgs false
set_option maxRecDepth 100000
def rLn {α : Type} (one : Option (List Nat) → α × Option (List Nat)) : Nat → Option (List Nat) → List α × Option (List Nat)
  | 0, s => ([], s)
  | n + 1, s => match rLn one n s with
    | (xs, some bs) => (match one (some bs) with
      | (x, some bs') => (xs ++ [x], some bs')
      | (_, none) => ([], none))
    | (_, none) => ([], none)
def rL {α : Type} (one : Option (List Nat) → α × Option (List Nat)) (most : Nat) (s : Option (List Nat)) : List α × Option (List Nat) := rLn one (rC most s).1 (rC most s).2
theorem rLn_len {α : Type} {one : Option (List Nat) → α × Option (List Nat)} : ∀ (n : Nat) (s : Option (List Nat)), (rLn one n s).1.length ≤ n
  | 0, s => by simp [rLn]
  | n + 1, s => by
    have h := rLn_len (one := one) n s
    unfold rLn
    split
    · rename_i xs bs e
      rw [e] at h
      split
      · simp; exact h
      · simp
    · simp
theorem rLn_more {α : Type} {one : Option (List Nat) → α × Option (List Nat)} {n : Nat} {s : Option (List Nat)} (h : (rLn one n s).2 = none) : ∀ m, n < m → rLn one m s = ([], none) := by
  intro m hm
  obtain ⟨d, rfl⟩ : ∃ d, m = n + 1 + d := ⟨m - n - 1, by omega⟩
  clear hm
  have h1 : rLn one (n + 1) s = ([], none) := by
    rw [rLn]
    split
    · rename_i e; rw [e] at h; cases h
    · rfl
  induction d with
  | zero => exact h1
  | succ d ih =>
    rw [show n + 1 + (d + 1) = (n + 1 + d) + 1 from by omega, rLn, ih]
theorem rC_some (most : Nat) (s : Option (List Nat)) (h : 0 < (rC most s).1) : (rC most s).2 ≠ none := by
  unfold rC at h ⊢
  split
  · rename_i hm; rw [if_pos hm] at h; simp at h
  · rename_i hm
    rw [if_neg hm] at h
    unfold rU at h ⊢
    split
    · rename_i hd; rw [hd] at h; simp at h
    · simp
/- What a reader of a list answers. -/
def LsP (E : TypeId) (k : Nat) (w : World) (R D : Nat) (rows : List (List Value)) (s : Option (List Nat)) (e : Ending) (w' : World) : Prop := ∃ v, e = .returned v ∧ KR E k w' w.heap.size v rows ∧ Rst w' R D s ∧ w.grownBy w' (some R)
theorem KR.grownR {E : TypeId} {k : Nat} {w w' : World} {B R : Nat} {v : Value} {l : List (List Value)} (h : KR E k w B v l) (hg : w.grownBy w' (some R)) (hR : R < B) : KR E k w' B v l := h.keep fun g e => hg.block g (h.own e).2 (fun e2 => by cases e2; have := (h.own e).1; omega)
theorem grown_own {E : TypeId} {k : Nat} {w w1 w2 : World} {R : Nat} {v : Value} {l : List (List Value)} (h : w.grownBy w1 (some R)) (kr : KR E k w1 w.heap.size v l) (g : w1.grownBy w2 v.ownBlock) : w.grownBy w2 (some R) := ⟨g.os.trans h.os, g.tape.trans h.tape, g.output.trans h.output, Nat.le_trans h.size g.size, fun j hj hne => (g.block j (by have := h.size; omega) (fun e => by have := (kr.own e.symm).1; omega)).trans (h.block j hj hne)⟩
theorem rLn_stop {α : Type} {one : Option (List Nat) → α × Option (List Nat)} {n : Nat} {s : Option (List Nat)} (h : rLn one n s = ([], none)) : ∀ d, rLn one (n + d) s = ([], none)
  | 0 => h
  | d + 1 => by
    have ih := rLn_stop h d
    rw [show n + (d + 1) = (n + d) + 1 from by omega, rLn, ih]
theorem rLn_step {α : Type} {one : Option (List Nat) → α × Option (List Nat)} {n : Nat} {s : Option (List Nat)} {xs : List α} {bs bs2 : List Nat} {x : α} (h : rLn one n s = (xs, some bs)) (k : one (some bs) = (x, some bs2)) : rLn one (n + 1) s = (xs ++ [x], some bs2) := by
  rw [rLn, h]; simp only; rw [k]
theorem rLn_fail {α : Type} {one : Option (List Nat) → α × Option (List Nat)} {n : Nat} {s : Option (List Nat)} {xs : List α} {bs : List Nat} {x : α} (h : rLn one n s = (xs, some bs)) (k : one (some bs) = (x, none)) : rLn one (n + 1) s = ([], none) := by
  rw [rLn, h]; simp only; rw [k]
theorem rk_tyc (t : TyP) : Rk 2 [tyc t] := rk_ty [t]
theorem rk_inc (x : Int) : Rk 1 [inc x] := rk_in [x]
set_option maxHeartbeats 4000000 in
theorem rdTypes_any (w : World) (R D : Nat) (s : Option (List Nat)) (most : Nat) (rd : Option (List Nat) → TyP × Option (List Nat)) (h : Rst w R D s) (hm : most ≤ 100000)
    (one : ∀ (V : World) (t : Option (List Nat)), Rst V R D t → Calls Tryz.prog 73 #[.pointer (some ⟨R, 0, none⟩)] V (RdP V R D (.agg #[.int .i64 (rd t).1.1, .int .i64 (rd t).1.2]) (rd t).2)) :
    Calls Tryz.prog 72 #[.pointer (some ⟨R, 0, none⟩), .int .u64 (most : Int), .func (.func 73) #[.pointer (some ⟨R, 0, none⟩)] #[]] w (LsP 46 2 w R D ((rL rd most s).1.map tyc) (rL rd most s).2) := by
  have K0 := count_any w R D s most h
  have hle := rC_le most s
  have hso := rC_some most s
  obtain ⟨n, s1, hq⟩ : ∃ n s1, rC most s = (n, s1) := ⟨_, _, rfl⟩
  simp only [rL, hq] at K0 hle hso ⊢
  have K0 := hid K0
  have HSO := hid hso
  have ONE := hid one
  have hRD : R < D := h.hR
  have hDw : D ≤ w.heap.size := h.hD
  have nI : (n : Int) ≤ 100000 := by omega
  have FL : Hid (∀ (V : World) (t : Option (List Nat)), Rst V R D t → V.cell? ⟨R, 1, none⟩ = some (.bool t.isNone)) := hid (fun V t hV => by
    obtain ⟨⟨a, n, c, h1, _⟩, _⟩ := hV
    exact cellOf h1 1)
  clear h hq one hso
  go_enter Tryz.func72, Tryz.ntmps72
  go_wp2_with (go_at_call 71; (refine (Hid.out K0).mono ?_; rintro e w0 ⟨rfl, hs, hg⟩; have HS0 := hid hs; have HG0 := hid hg; clear hs hg))
  clear K0
  go_loopg [7, 12] n (fun g v x wr => ∃ j : Nat, j + g = n ∧ x = .int .u64 (j : Int) ∧ KR 46 2 wr w.heap.size v ((rLn rd j s1).1.map tyc) ∧ Rst wr R D (rLn rd j s1).2 ∧ ((rLn rd j s1).2 ≠ none ∨ n = 0) ∧ w.grownBy wr (some R))
  case atStart => exact ⟨0, by omega, rfl, KR.nil _ _ _ _, HS0.out, (Nat.eq_zero_or_pos n).elim .inr (fun h => .inl (HSO.out h)), HG0.out⟩
  case round =>
    obtain ⟨j, hj, rfl, hk, hs, hn, hg⟩ := hrel
    obtain ⟨v, hv⟩ : ∃ v, v = u7 := ⟨_, rfl⟩
    subst hv
    cases gk with
    | zero =>
      have hjn : j = n := by omega
      subst hjn
      have HK := hid hk
      have HS := hid hs
      have HG := hid hg
      clear hk hs hg hn
      go_wp2
      go_ret
      exact ⟨_, rfl, HK.out, HS.out, HG.out⟩
    | succ g =>
      have hnn : (rLn rd j s1).2 ≠ none := hn.resolve_right (by omega)
      obtain ⟨xs, st, hx⟩ : ∃ xs st, rLn rd j s1 = (xs, st) := ⟨_, _, rfl⟩
      have hlx := rLn_len (one := rd) j s1
      rw [hx] at hk hnn hlx hs
      simp only at hk hnn hlx hs
      obtain ⟨bs, rfl⟩ : ∃ bs, st = some bs := Option.ne_none_iff_exists'.1 hnn
      have K1 := ONE.out wr (some bs) hs
      obtain ⟨xx, s2, hy⟩ : ∃ xx s2, rd (some bs) = (xx, s2) := ⟨_, _, rfl⟩
      have hjI : (j : Int) < (n : Int) := by omega
      have hj0 : (0 : Int) ≤ (j : Int) := by omega
      have hlm : (xs.map tyc).length ≤ 1000000 := by rw [List.length_map]; omega
      have HG := hid hg
      have HK := hid hk
      rw [hy] at K1
      obtain ⟨t1, t2⟩ := xx
      simp only at K1
      have K1 := hid K1
      have HX := hid hx
      have HY := hid hy
      have HJ := hid hj
      clear hk hs hn hg hnn hlx hx hy
      go_upto_region 5 with (go_at_call 73; (refine (Hid.out K1).mono ?_; rintro e w1 ⟨rfl, hs1, hg1⟩; have HS1 := hid hs1; have HG1 := hid hg1; clear hs1 hg1))
      obtain ⟨A, hA⟩ : ∃ A, A = w1.alloc (.cells #[.int .i64 t1, .int .i64 t2] 46) := ⟨_, rfl⟩
      obtain ⟨Y, hY⟩ : ∃ Y, Y = w1.heap.size := ⟨_, rfl⟩
      have bA : Below w1.heap.size w1 A := by rw [hA]; exact (Below.refl _ _).alloc (Nat.le_refl _) _
      have mY : A.heap[Y]? = some (.cells #[.int .i64 t1, .int .i64 t2] 46 (0, 0)) := by rw [hA, hY]; exact heap_alloc_new w1 _
      rw [← hA, ← hY]
      clear hA hY
      have y0 := cellOf mY 0
      have y1 := cellOf mY 1
      simp only [List.getElem?_toArray, List.getElem?_cons_zero, List.getElem?_cons_succ] at y0 y1
      clear mY
      have SA := hid (HS1.out.below bA)
      have GA := hid (gbelow (gtrans HG.out HG1.out) bA)
      have KA := hid ((HK.out.grownR HG1.out (by omega)).below (Nat.le_refl _) bA)
      have c1 := FL.out A _ SA.out
      clear bA
      cases s2 with
      | none =>
        simp only [Option.isNone_none] at c1
        go_wp2
        go_ret
        have e1 : rLn rd n s1 = ([], none) := by
          have := rLn_stop (rLn_fail HX.out HY.out) g
          rw [show j + 1 + g = n from by have := HJ.out; omega] at this; exact this
        rw [e1]
        exact ⟨_, rfl, KR.nil _ _ _ _, SA.out, GA.out⟩
      | some bs2 =>
        simp only [Option.isNone_some] at c1
        have BA : Hid (Below A.heap.size A (A.alloc (.cells #[.int .i64 t1, .int .i64 t2] 46))) := hid ((Below.refl _ A).alloc (Nat.le_refl _) _)
        have hwA : w.heap.size ≤ (A.alloc (.cells #[.int .i64 t1, .int .i64 t2] 46)).heap.size := by rw [World.size_alloc]; have := GA.out.size; omega
        go_wp2_with (at_builtin; refine wpList_appK Tryz.underlying47 infoT rfl (by decide) (by decide) (A.alloc (.cells #[.int .i64 t1, .int .i64 t2] 46)) rfl _ _ rfl _ (.slice (some ⟨A.heap.size, 0, none⟩) 1 1) (by rfl) (by rfl) w.heap.size (xs.map tyc) (KA.out.below (Nat.le_refl _) BA.out) (some ⟨A.heap.size, 0, none⟩) 1 1 rfl [tyc ((t1, t2))] rfl (crd_one 46 A (tyc ((t1, t2))) 2 rfl) (rk_tyc _) (fun e => by cases e) hlm (by omega) hwA ?_; intro v2 w2 h1 h2 h3; have H1 := hid h1; have H2 := hid h2; clear h1 h2 h3)
        go_roundg g
        case measure => omega
        have hA2 := gbelow GA.out BA.out
        have kr2 := KA.out.below (Nat.le_refl _) BA.out
        exact ⟨j + 1, by omega, by go_num, by rw [rLn_step HX.out HY.out, List.map_append]; exact H1.out, by rw [rLn_step HX.out HY.out]; exact (SA.out.below BA.out).grown H2.out (fun r e => by have := (kr2.own e).1; omega), by rw [rLn_step HX.out HY.out]; exact .inl (by simp), grown_own hA2 kr2 H2.out⟩
set_option maxHeartbeats 4000000 in
theorem rdTexts_any (w : World) (R D : Nat) (s : Option (List Nat)) (most : Nat) (rd : Option (List Nat) → ByteArray × Option (List Nat)) (h : Rst w R D s) (hm : most ≤ 100000)
    (one : ∀ (V : World) (t : Option (List Nat)), Rst V R D t → Calls Tryz.prog 45 #[.pointer (some ⟨R, 0, none⟩)] V (RdP V R D (.string (rd t).1) (rd t).2)) :
    Calls Tryz.prog 44 #[.pointer (some ⟨R, 0, none⟩), .int .u64 (most : Int), .func (.func 45) #[.pointer (some ⟨R, 0, none⟩)] #[]] w (LsP 9 1 w R D ((rL rd most s).1.map stc) (rL rd most s).2) := by
  have K0 := count_any w R D s most h
  have hle := rC_le most s
  have hso := rC_some most s
  obtain ⟨n, s1, hq⟩ : ∃ n s1, rC most s = (n, s1) := ⟨_, _, rfl⟩
  simp only [rL, hq] at K0 hle hso ⊢
  have K0 := hid K0
  have HSO := hid hso
  have ONE := hid one
  have hRD : R < D := h.hR
  have hDw : D ≤ w.heap.size := h.hD
  have nI : (n : Int) ≤ 100000 := by omega
  have FL : Hid (∀ (V : World) (t : Option (List Nat)), Rst V R D t → V.cell? ⟨R, 1, none⟩ = some (.bool t.isNone)) := hid (fun V t hV => by
    obtain ⟨⟨a, n, c, h1, _⟩, _⟩ := hV
    exact cellOf h1 1)
  clear h hq one hso
  go_enter Tryz.func44, Tryz.ntmps44
  go_wp2_with (go_at_call 71; (refine (Hid.out K0).mono ?_; rintro e w0 ⟨rfl, hs, hg⟩; have HS0 := hid hs; have HG0 := hid hg; clear hs hg))
  clear K0
  go_loopg [7, 12] n (fun g v x wr => ∃ j : Nat, j + g = n ∧ x = .int .u64 (j : Int) ∧ KR 9 1 wr w.heap.size v ((rLn rd j s1).1.map stc) ∧ Rst wr R D (rLn rd j s1).2 ∧ ((rLn rd j s1).2 ≠ none ∨ n = 0) ∧ w.grownBy wr (some R))
  case atStart => exact ⟨0, by omega, rfl, KR.nil _ _ _ _, HS0.out, (Nat.eq_zero_or_pos n).elim .inr (fun h => .inl (HSO.out h)), HG0.out⟩
  case round =>
    obtain ⟨j, hj, rfl, hk, hs, hn, hg⟩ := hrel
    obtain ⟨v, hv⟩ : ∃ v, v = u7 := ⟨_, rfl⟩
    subst hv
    cases gk with
    | zero =>
      have hjn : j = n := by omega
      subst hjn
      have HK := hid hk
      have HS := hid hs
      have HG := hid hg
      clear hk hs hg hn
      go_wp2
      go_ret
      exact ⟨_, rfl, HK.out, HS.out, HG.out⟩
    | succ g =>
      have hnn : (rLn rd j s1).2 ≠ none := hn.resolve_right (by omega)
      obtain ⟨xs, st, hx⟩ : ∃ xs st, rLn rd j s1 = (xs, st) := ⟨_, _, rfl⟩
      have hlx := rLn_len (one := rd) j s1
      rw [hx] at hk hnn hlx hs
      simp only at hk hnn hlx hs
      obtain ⟨bs, rfl⟩ : ∃ bs, st = some bs := Option.ne_none_iff_exists'.1 hnn
      have K1 := ONE.out wr (some bs) hs
      obtain ⟨xx, s2, hy⟩ : ∃ xx s2, rd (some bs) = (xx, s2) := ⟨_, _, rfl⟩
      have hjI : (j : Int) < (n : Int) := by omega
      have hj0 : (0 : Int) ≤ (j : Int) := by omega
      have hlm : (xs.map stc).length ≤ 1000000 := by rw [List.length_map]; omega
      have HG := hid hg
      have HK := hid hk
      rw [hy] at K1
      simp only at K1
      have K1 := hid K1
      have HX := hid hx
      have HY := hid hy
      have HJ := hid hj
      clear hk hs hn hg hnn hlx hx hy
      go_upto_region 5 with (go_at_call 45; (refine (Hid.out K1).mono ?_; rintro e w1 ⟨rfl, hs1, hg1⟩; have HS1 := hid hs1; have HG1 := hid hg1; clear hs1 hg1))
      obtain ⟨A, hA⟩ : ∃ A, A = w1 := ⟨_, rfl⟩
      have bA : Below w1.heap.size w1 A := by rw [hA]; exact Below.refl _ _
      rw [← hA]
      clear hA
      have SA := hid (HS1.out.below bA)
      have GA := hid (gbelow (gtrans HG.out HG1.out) bA)
      have KA := hid ((HK.out.grownR HG1.out (by omega)).below (Nat.le_refl _) bA)
      have c1 := FL.out A _ SA.out
      clear bA
      cases s2 with
      | none =>
        simp only [Option.isNone_none] at c1
        go_wp2
        go_ret
        have e1 : rLn rd n s1 = ([], none) := by
          have := rLn_stop (rLn_fail HX.out HY.out) g
          rw [show j + 1 + g = n from by have := HJ.out; omega] at this; exact this
        rw [e1]
        exact ⟨_, rfl, KR.nil _ _ _ _, SA.out, GA.out⟩
      | some bs2 =>
        simp only [Option.isNone_some] at c1
        have BA : Hid (Below A.heap.size A (A.alloc (.cells #[.string xx] 9))) := hid ((Below.refl _ A).alloc (Nat.le_refl _) _)
        have hwA : w.heap.size ≤ (A.alloc (.cells #[.string xx] 9)).heap.size := by rw [World.size_alloc]; have := GA.out.size; omega
        go_wp2_with (at_builtin; refine wpList_appK Tryz.underlying28 infoS rfl (by decide) (by decide) (A.alloc (.cells #[.string xx] 9)) rfl _ _ rfl _ (.slice (some ⟨A.heap.size, 0, none⟩) 1 1) (by rfl) (by rfl) w.heap.size (xs.map stc) (KA.out.below (Nat.le_refl _) BA.out) (some ⟨A.heap.size, 0, none⟩) 1 1 rfl [stc (xx)] rfl (crd_one 9 A (stc (xx)) 1 rfl) (rk_st _) (fun e => by cases e) hlm (by omega) hwA ?_; intro v2 w2 h1 h2 h3; have H1 := hid h1; have H2 := hid h2; clear h1 h2 h3)
        go_roundg g
        case measure => omega
        have hA2 := gbelow GA.out BA.out
        have kr2 := KA.out.below (Nat.le_refl _) BA.out
        exact ⟨j + 1, by omega, by go_num, by rw [rLn_step HX.out HY.out, List.map_append]; exact H1.out, by rw [rLn_step HX.out HY.out]; exact (SA.out.below BA.out).grown H2.out (fun r e => by have := (kr2.own e).1; omega), by rw [rLn_step HX.out HY.out]; exact .inl (by simp), grown_own hA2 kr2 H2.out⟩
set_option maxHeartbeats 4000000 in
theorem rdInts_any (w : World) (R D : Nat) (s : Option (List Nat)) (most : Nat) (rd : Option (List Nat) → Int × Option (List Nat)) (h : Rst w R D s) (hm : most ≤ 100000)
    (one : ∀ (V : World) (t : Option (List Nat)), Rst V R D t → Calls Tryz.prog 43 #[.pointer (some ⟨R, 0, none⟩)] V (RdP V R D (.int .i64 (rd t).1) (rd t).2)) :
    Calls Tryz.prog 42 #[.pointer (some ⟨R, 0, none⟩), .int .u64 (most : Int), .func (.func 43) #[.pointer (some ⟨R, 0, none⟩)] #[]] w (LsP 2 1 w R D ((rL rd most s).1.map inc) (rL rd most s).2) := by
  have K0 := count_any w R D s most h
  have hle := rC_le most s
  have hso := rC_some most s
  obtain ⟨n, s1, hq⟩ : ∃ n s1, rC most s = (n, s1) := ⟨_, _, rfl⟩
  simp only [rL, hq] at K0 hle hso ⊢
  have K0 := hid K0
  have HSO := hid hso
  have ONE := hid one
  have hRD : R < D := h.hR
  have hDw : D ≤ w.heap.size := h.hD
  have nI : (n : Int) ≤ 100000 := by omega
  have FL : Hid (∀ (V : World) (t : Option (List Nat)), Rst V R D t → V.cell? ⟨R, 1, none⟩ = some (.bool t.isNone)) := hid (fun V t hV => by
    obtain ⟨⟨a, n, c, h1, _⟩, _⟩ := hV
    exact cellOf h1 1)
  clear h hq one hso
  go_enter Tryz.func42, Tryz.ntmps42
  go_wp2_with (go_at_call 71; (refine (Hid.out K0).mono ?_; rintro e w0 ⟨rfl, hs, hg⟩; have HS0 := hid hs; have HG0 := hid hg; clear hs hg))
  clear K0
  go_loopg [7, 12] n (fun g v x wr => ∃ j : Nat, j + g = n ∧ x = .int .u64 (j : Int) ∧ KR 2 1 wr w.heap.size v ((rLn rd j s1).1.map inc) ∧ Rst wr R D (rLn rd j s1).2 ∧ ((rLn rd j s1).2 ≠ none ∨ n = 0) ∧ w.grownBy wr (some R))
  case atStart => exact ⟨0, by omega, rfl, KR.nil _ _ _ _, HS0.out, (Nat.eq_zero_or_pos n).elim .inr (fun h => .inl (HSO.out h)), HG0.out⟩
  case round =>
    obtain ⟨j, hj, rfl, hk, hs, hn, hg⟩ := hrel
    obtain ⟨v, hv⟩ : ∃ v, v = u7 := ⟨_, rfl⟩
    subst hv
    cases gk with
    | zero =>
      have hjn : j = n := by omega
      subst hjn
      have HK := hid hk
      have HS := hid hs
      have HG := hid hg
      clear hk hs hg hn
      go_wp2
      go_ret
      exact ⟨_, rfl, HK.out, HS.out, HG.out⟩
    | succ g =>
      have hnn : (rLn rd j s1).2 ≠ none := hn.resolve_right (by omega)
      obtain ⟨xs, st, hx⟩ : ∃ xs st, rLn rd j s1 = (xs, st) := ⟨_, _, rfl⟩
      have hlx := rLn_len (one := rd) j s1
      rw [hx] at hk hnn hlx hs
      simp only at hk hnn hlx hs
      obtain ⟨bs, rfl⟩ : ∃ bs, st = some bs := Option.ne_none_iff_exists'.1 hnn
      have K1 := ONE.out wr (some bs) hs
      obtain ⟨xx, s2, hy⟩ : ∃ xx s2, rd (some bs) = (xx, s2) := ⟨_, _, rfl⟩
      have hjI : (j : Int) < (n : Int) := by omega
      have hj0 : (0 : Int) ≤ (j : Int) := by omega
      have hlm : (xs.map inc).length ≤ 1000000 := by rw [List.length_map]; omega
      have HG := hid hg
      have HK := hid hk
      rw [hy] at K1
      simp only at K1
      have K1 := hid K1
      have HX := hid hx
      have HY := hid hy
      have HJ := hid hj
      clear hk hs hn hg hnn hlx hx hy
      go_upto_region 5 with (go_at_call 43; (refine (Hid.out K1).mono ?_; rintro e w1 ⟨rfl, hs1, hg1⟩; have HS1 := hid hs1; have HG1 := hid hg1; clear hs1 hg1))
      obtain ⟨A, hA⟩ : ∃ A, A = w1 := ⟨_, rfl⟩
      have bA : Below w1.heap.size w1 A := by rw [hA]; exact Below.refl _ _
      rw [← hA]
      clear hA
      have SA := hid (HS1.out.below bA)
      have GA := hid (gbelow (gtrans HG.out HG1.out) bA)
      have KA := hid ((HK.out.grownR HG1.out (by omega)).below (Nat.le_refl _) bA)
      have c1 := FL.out A _ SA.out
      clear bA
      cases s2 with
      | none =>
        simp only [Option.isNone_none] at c1
        go_wp2
        go_ret
        have e1 : rLn rd n s1 = ([], none) := by
          have := rLn_stop (rLn_fail HX.out HY.out) g
          rw [show j + 1 + g = n from by have := HJ.out; omega] at this; exact this
        rw [e1]
        exact ⟨_, rfl, KR.nil _ _ _ _, SA.out, GA.out⟩
      | some bs2 =>
        simp only [Option.isNone_some] at c1
        have BA : Hid (Below A.heap.size A (A.alloc (.cells #[.int .i64 xx] 2))) := hid ((Below.refl _ A).alloc (Nat.le_refl _) _)
        have hwA : w.heap.size ≤ (A.alloc (.cells #[.int .i64 xx] 2)).heap.size := by rw [World.size_alloc]; have := GA.out.size; omega
        go_wp2_with (at_builtin; refine wpList_appK Tryz.underlying27 infoI rfl (by decide) (by decide) (A.alloc (.cells #[.int .i64 xx] 2)) rfl _ _ rfl _ (.slice (some ⟨A.heap.size, 0, none⟩) 1 1) (by rfl) (by rfl) w.heap.size (xs.map inc) (KA.out.below (Nat.le_refl _) BA.out) (some ⟨A.heap.size, 0, none⟩) 1 1 rfl [inc (xx)] rfl (crd_one 2 A (inc (xx)) 1 rfl) (rk_inc _) (fun e => by cases e) hlm (by omega) hwA ?_; intro v2 w2 h1 h2 h3; have H1 := hid h1; have H2 := hid h2; clear h1 h2 h3)
        go_roundg g
        case measure => omega
        have hA2 := gbelow GA.out BA.out
        have kr2 := KA.out.below (Nat.le_refl _) BA.out
        exact ⟨j + 1, by omega, by go_num, by rw [rLn_step HX.out HY.out, List.map_append]; exact H1.out, by rw [rLn_step HX.out HY.out]; exact (SA.out.below BA.out).grown H2.out (fun r e => by have := (kr2.own e).1; omega), by rw [rLn_step HX.out HY.out]; exact .inl (by simp), grown_own hA2 kr2 H2.out⟩
set_option maxHeartbeats 4000000 in
theorem rdMaps_any (w : World) (R D : Nat) (s : Option (List Nat)) (most : Nat) (rd : Option (List Nat) → Mp × Option (List Nat)) (h : Rst w R D s) (hm : most ≤ 100000)
    (one : ∀ (V : World) (t : Option (List Nat)), Rst V R D t → Calls Tryz.prog 39 #[.pointer (some ⟨R, 0, none⟩)] V (RdP V R D (.agg #[.string (rd t).1.name, .int .i64 (rd t).1.key.1, .int .i64 (rd t).1.key.2, .int .i64 (rd t).1.val.1, .int .i64 (rd t).1.val.2]) (rd t).2)) :
    Calls Tryz.prog 38 #[.pointer (some ⟨R, 0, none⟩), .int .u64 (most : Int), .func (.func 39) #[.pointer (some ⟨R, 0, none⟩)] #[]] w (LsP 67 5 w R D ((rL rd most s).1.map Mp.cs) (rL rd most s).2) := by
  have K0 := count_any w R D s most h
  have hle := rC_le most s
  have hso := rC_some most s
  obtain ⟨n, s1, hq⟩ : ∃ n s1, rC most s = (n, s1) := ⟨_, _, rfl⟩
  simp only [rL, hq] at K0 hle hso ⊢
  have K0 := hid K0
  have HSO := hid hso
  have ONE := hid one
  have hRD : R < D := h.hR
  have hDw : D ≤ w.heap.size := h.hD
  have nI : (n : Int) ≤ 100000 := by omega
  have FL : Hid (∀ (V : World) (t : Option (List Nat)), Rst V R D t → V.cell? ⟨R, 1, none⟩ = some (.bool t.isNone)) := hid (fun V t hV => by
    obtain ⟨⟨a, n, c, h1, _⟩, _⟩ := hV
    exact cellOf h1 1)
  clear h hq one hso
  go_enter Tryz.func38, Tryz.ntmps38
  go_wp2_with (go_at_call 71; (refine (Hid.out K0).mono ?_; rintro e w0 ⟨rfl, hs, hg⟩; have HS0 := hid hs; have HG0 := hid hg; clear hs hg))
  clear K0
  go_loopg [7, 12] n (fun g v x wr => ∃ j : Nat, j + g = n ∧ x = .int .u64 (j : Int) ∧ KR 67 5 wr w.heap.size v ((rLn rd j s1).1.map Mp.cs) ∧ Rst wr R D (rLn rd j s1).2 ∧ ((rLn rd j s1).2 ≠ none ∨ n = 0) ∧ w.grownBy wr (some R))
  case atStart => exact ⟨0, by omega, rfl, KR.nil _ _ _ _, HS0.out, (Nat.eq_zero_or_pos n).elim .inr (fun h => .inl (HSO.out h)), HG0.out⟩
  case round =>
    obtain ⟨j, hj, rfl, hk, hs, hn, hg⟩ := hrel
    obtain ⟨v, hv⟩ : ∃ v, v = u7 := ⟨_, rfl⟩
    subst hv
    cases gk with
    | zero =>
      have hjn : j = n := by omega
      subst hjn
      have HK := hid hk
      have HS := hid hs
      have HG := hid hg
      clear hk hs hg hn
      go_wp2
      go_ret
      exact ⟨_, rfl, HK.out, HS.out, HG.out⟩
    | succ g =>
      have hnn : (rLn rd j s1).2 ≠ none := hn.resolve_right (by omega)
      obtain ⟨xs, st, hx⟩ : ∃ xs st, rLn rd j s1 = (xs, st) := ⟨_, _, rfl⟩
      have hlx := rLn_len (one := rd) j s1
      rw [hx] at hk hnn hlx hs
      simp only at hk hnn hlx hs
      obtain ⟨bs, rfl⟩ : ∃ bs, st = some bs := Option.ne_none_iff_exists'.1 hnn
      have K1 := ONE.out wr (some bs) hs
      obtain ⟨xx, s2, hy⟩ : ∃ xx s2, rd (some bs) = (xx, s2) := ⟨_, _, rfl⟩
      have hjI : (j : Int) < (n : Int) := by omega
      have hj0 : (0 : Int) ≤ (j : Int) := by omega
      have hlm : (xs.map Mp.cs).length ≤ 1000000 := by rw [List.length_map]; omega
      have HG := hid hg
      have HK := hid hk
      rw [hy] at K1
      obtain ⟨nm, ⟨k1, k2⟩, ⟨v1, v2⟩⟩ := xx
      simp only at K1
      have K1 := hid K1
      have HX := hid hx
      have HY := hid hy
      have HJ := hid hj
      clear hk hs hn hg hnn hlx hx hy
      go_upto_region 5 with (go_at_call 39; (refine (Hid.out K1).mono ?_; rintro e w1 ⟨rfl, hs1, hg1⟩; have HS1 := hid hs1; have HG1 := hid hg1; clear hs1 hg1))
      obtain ⟨A, hA⟩ : ∃ A, A = w1.alloc (.cells #[.string nm, .int .i64 k1, .int .i64 k2, .int .i64 v1, .int .i64 v2] 67) := ⟨_, rfl⟩
      obtain ⟨Y, hY⟩ : ∃ Y, Y = w1.heap.size := ⟨_, rfl⟩
      have bA : Below w1.heap.size w1 A := by rw [hA]; exact (Below.refl _ _).alloc (Nat.le_refl _) _
      have mY : A.heap[Y]? = some (.cells #[.string nm, .int .i64 k1, .int .i64 k2, .int .i64 v1, .int .i64 v2] 67 (0, 0)) := by rw [hA, hY]; exact heap_alloc_new w1 _
      rw [← hA, ← hY]
      clear hA hY
      have y0 := cellOf mY 0
      have y1 := cellOf mY 1
      have y2 := cellOf mY 2
      have y3 := cellOf mY 3
      have y4 := cellOf mY 4
      simp only [List.getElem?_toArray, List.getElem?_cons_zero, List.getElem?_cons_succ] at y0 y1 y2 y3 y4
      clear mY
      have SA := hid (HS1.out.below bA)
      have GA := hid (gbelow (gtrans HG.out HG1.out) bA)
      have KA := hid ((HK.out.grownR HG1.out (by omega)).below (Nat.le_refl _) bA)
      have c1 := FL.out A _ SA.out
      clear bA
      cases s2 with
      | none =>
        simp only [Option.isNone_none] at c1
        go_wp2
        go_ret
        have e1 : rLn rd n s1 = ([], none) := by
          have := rLn_stop (rLn_fail HX.out HY.out) g
          rw [show j + 1 + g = n from by have := HJ.out; omega] at this; exact this
        rw [e1]
        exact ⟨_, rfl, KR.nil _ _ _ _, SA.out, GA.out⟩
      | some bs2 =>
        simp only [Option.isNone_some] at c1
        have BA : Hid (Below A.heap.size A (A.alloc (.cells #[.string nm, .int .i64 k1, .int .i64 k2, .int .i64 v1, .int .i64 v2] 67))) := hid ((Below.refl _ A).alloc (Nat.le_refl _) _)
        have hwA : w.heap.size ≤ (A.alloc (.cells #[.string nm, .int .i64 k1, .int .i64 k2, .int .i64 v1, .int .i64 v2] 67)).heap.size := by rw [World.size_alloc]; have := GA.out.size; omega
        go_wp2_with (at_builtin; refine wpList_appK Tryz.underlying23 infoM rfl (by decide) (by decide) (A.alloc (.cells #[.string nm, .int .i64 k1, .int .i64 k2, .int .i64 v1, .int .i64 v2] 67)) rfl _ _ rfl _ (.slice (some ⟨A.heap.size, 0, none⟩) 1 1) (by rfl) (by rfl) w.heap.size (xs.map Mp.cs) (KA.out.below (Nat.le_refl _) BA.out) (some ⟨A.heap.size, 0, none⟩) 1 1 rfl [Mp.cs (⟨nm, (k1, k2), (v1, v2)⟩ : Mp)] rfl (crd_one 67 A (Mp.cs (⟨nm, (k1, k2), (v1, v2)⟩ : Mp)) 5 rfl) (rk_mp _) (fun e => by cases e) hlm (by omega) hwA ?_; intro v2 w2 h1 h2 h3; have H1 := hid h1; have H2 := hid h2; clear h1 h2 h3)
        go_roundg g
        case measure => omega
        have hA2 := gbelow GA.out BA.out
        have kr2 := KA.out.below (Nat.le_refl _) BA.out
        exact ⟨j + 1, by omega, by go_num, by rw [rLn_step HX.out HY.out, List.map_append]; exact H1.out, by rw [rLn_step HX.out HY.out]; exact (SA.out.below BA.out).grown H2.out (fun r e => by have := (kr2.own e).1; omega), by rw [rLn_step HX.out HY.out]; exact .inl (by simp), grown_own hA2 kr2 H2.out⟩
end Go.Proofs.YthnolocldeokeaaGreat

