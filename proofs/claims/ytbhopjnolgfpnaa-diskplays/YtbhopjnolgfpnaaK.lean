/- What the statement's own lists say of the disk, and how each step of a round carries it on. -/
import Derived.Test.YtbhopjnolgfpnaaJ
namespace Go.Proofs.Ytbhopjnolgfpnaa
open Go.RowKit Go.Deep
set_option linter.unusedVariables false
set_option linter.unusedSimpArgs false

def RowsOf (W : World) (vals : List Value) (S : List ByteArray) : Prop :=
  vals.length = S.length ∧ ∀ (i : Nat) (s : ByteArray), S[i]? = some s → ∃ b ns, vals[i]? = some (.slice (some ⟨b, 0, none⟩) 256 256) ∧ By W b 256 ns ∧ mkStr ns = s
def NowIs (W : World) (bw : Nat) (S : List ByteArray) : Prop := ∃ vals : List Value, W.heap[bw]? = some (.cells vals.toArray 30 (0, 0)) ∧ RowsOf W vals S
def MomIs (W : World) (bw : Nat) (v : Value) (S : List ByteArray) : Prop :=
  ∃ g cap vals, v = .slice (some ⟨g, 0, none⟩) S.length cap ∧ g ≠ bw ∧ W.ownsRow 0 30 1 (.slice (some ⟨g, 0, none⟩) S.length cap) S.length vals ∧ RowsOf W vals S
def Moms (W : World) (N0 bw : Nat) (vm : Value) (F : List ByteArray) (R : List (Nat × ByteArray)) : Prop :=
  ∃ ms, W.ownsRow N0 29 1 vm (R.length + 1) ms ∧ ∀ m, m ≤ R.length → ∃ v, ms[m]? = some v ∧ MomIs W bw v (replay F (R.take m))

theorem RowsOf.kept {W W' : World} {vals : List Value} {S : List ByteArray} (h : RowsOf W vals S) (hk : ∀ (j : Nat) (c : Array Value) (f : Nat × Nat), W.heap[j]? = some (.cells c 5 f) → W'.heap[j]? = W.heap[j]?) : RowsOf W' vals S := by
  refine ⟨h.1, fun i s hs => ?_⟩
  obtain ⟨b, ns, h1, h2, h3⟩ := h.2 i s hs
  refine ⟨b, ns, h1, h2.kept ?_, h3⟩
  obtain ⟨_, c, f, hb, _⟩ := h2
  exact hk b c f hb
theorem NowIs.kept {W W' : World} {bw : Nat} {S : List ByteArray} (h : NowIs W bw S) (hw : W'.heap[bw]? = W.heap[bw]?) (hk : ∀ (j : Nat) (c : Array Value) (f : Nat × Nat), W.heap[j]? = some (.cells c 5 f) → W'.heap[j]? = W.heap[j]?) : NowIs W' bw S := by
  obtain ⟨vals, h1, h2⟩ := h
  exact ⟨vals, by rw [hw, h1], h2.kept hk⟩
theorem MomIs.kept {W W' : World} {bw : Nat} {v : Value} {S : List ByteArray} (h : MomIs W bw v S) (hk : ∀ (j : Nat) (c : Array Value) (f : Nat × Nat), W.heap[j]? = some (.cells c 5 f) → W'.heap[j]? = W.heap[j]?)
    (hg : ∀ (j : Nat) (c : Array Value) (f : Nat × Nat), j ≠ bw → W.heap[j]? = some (.cells c 30 f) → W'.heap[j]? = W.heap[j]?) : MomIs W' bw v S := by
  obtain ⟨g, cap, vals, h1, h2, h3, h4⟩ := h
  refine ⟨g, cap, vals, h1, h2, ownsRow_same h3 (fun k e => ?_), h4.kept hk⟩
  cases e
  obtain ⟨cur, hc, _⟩ := ownsRow_block h3
  exact hg g cur (0, 0) h2 hc
theorem Moms.kept {W W' : World} {N0 bw : Nat} {vm : Value} {F : List ByteArray} {R : List (Nat × ByteArray)} (h : Moms W N0 bw vm F R) (hk : ∀ (j : Nat) (c : Array Value) (f : Nat × Nat), W.heap[j]? = some (.cells c 5 f) → W'.heap[j]? = W.heap[j]?)
    (hg : ∀ (j : Nat) (c : Array Value) (f : Nat × Nat), j ≠ bw → W.heap[j]? = some (.cells c 30 f) → W'.heap[j]? = W.heap[j]?)
    (hm : ∀ (j : Nat) (c : Array Value) (f : Nat × Nat), W.heap[j]? = some (.cells c 29 f) → W'.heap[j]? = W.heap[j]?) : Moms W' N0 bw vm F R := by
  obtain ⟨ms, h1, h2⟩ := h
  refine ⟨ms, ownsRow_same h1 (fun k e => ?_), fun m hm' => ?_⟩
  · rcases h1.2 with ⟨rfl, _⟩ | ⟨g, cap, cur, rfl, _, hh, _⟩
    · cases e
    · cases e; exact hm _ _ _ hh
  · obtain ⟨v, h3, h4⟩ := h2 m hm'
    exact ⟨v, h3, h4.kept hk hg⟩

structure LI (w0 : World) (N0 bd bf cf bn cn bw : Nat) (F : List ByteArray) (Rd Rn Rm : List (Nat × ByteArray)) (dl : Int) (vm : Value) (W : World) : Prop where
  below : Below N0 w0 W
  disk : ∃ vr, Disk W bd bf cf bn cn vr F (replay F Rd) Rd dl ∧ ∀ g, vr.ownBlock = some g → N0 ≤ g
  now : NowIs W bw (replay F Rn)
  moms : Moms W N0 bw vm F Rm
  hN : N0 ≤ w0.heap.size
  hbd : N0 ≤ bd
  hbn : N0 ≤ bn
  hbw : N0 ≤ bw

variable {w0 : World} {N0 bd bf cf bn cn bw : Nat} {F : List ByteArray} {Rd Rn Rm : List (Nat × ByteArray)} {dl : Int} {vm : Value} {W W' : World}

theorem LI.lt (h : LI w0 N0 bd bf cf bn cn bw F Rd Rn Rm dl vm W) : bw < W.heap.size := by
  obtain ⟨vals, h1, _⟩ := h.now
  exact (Array.getElem?_eq_some_iff.1 h1).1

/- New blocks, and nothing old has turned. -/
theorem LI.step (h : LI w0 N0 bd bf cf bn cn bw F Rd Rn Rm dl vm W) (hb : Below W.heap.size W W') : LI w0 N0 bd bf cf bn cn bw F Rd Rn Rm dl vm W' := by
  have k : ∀ (j : Nat) (o : Obj), W.heap[j]? = some o → W'.heap[j]? = W.heap[j]? := fun j o ho => hb.block j (Array.getElem?_eq_some_iff.1 ho).1
  obtain ⟨vr, h1, h2⟩ := h.disk
  exact ⟨h.below.trans (hb.mono (Nat.le_trans h.hN h.below.size)), ⟨vr, h1.below hb, h2⟩, h.now.kept (hb.block _ h.lt) (fun j c f => k j _), h.moms.kept (fun j c f => k j _) (fun j c f _ => k j _) (fun j c f => k j _), h.hN, h.hbd, h.hbn, h.hbw⟩

theorem LI.setLeft (h : LI w0 N0 bd bf cf bn cn bw F Rd Rn Rm dl vm W) (l : Int) : LI w0 N0 bd bf cf bn cn bw F Rd Rn Rm l vm (W.setCell ⟨bd, 3, none⟩ (.int .i64 l)) := by
  obtain ⟨vr, h1, h2⟩ := h.disk
  have hd := h1.dk
  unfold Dk at hd
  have e : ∀ j, j ≠ bd → (W.setCell ⟨bd, 3, none⟩ (.int .i64 l)).heap[j]? = W.heap[j]? := fun j hj => Below.heap_setCell _ _ _ _ hj
  have k : ∀ (j : Nat) (c : Array Value) (t : TypeId) (f : Nat × Nat), t ≠ 50 → W.heap[j]? = some (.cells c t f) → (W.setCell ⟨bd, 3, none⟩ (.int .i64 l)).heap[j]? = W.heap[j]? := fun j c t f ht hj =>
    e j (by rintro rfl; rw [hd] at hj; cases hj; exact ht rfl)
  obtain ⟨vals, hn, _⟩ := h.now
  exact ⟨h.below.setCell h.hbd _, ⟨vr, h1.setLeft l, h2⟩, h.now.kept (k _ _ _ _ (by decide) hn) (fun j c f => k j c 5 f (by decide)), h.moms.kept (fun j c f => k j c 5 f (by decide)) (fun j c f _ => k j c 30 f (by decide)) (fun j c f => k j c 29 f (by decide)), h.hN, h.hbd, h.hbn, h.hbw⟩

/- A write that was done. -/
theorem LI.written (h : LI w0 N0 bd bf cf bn cn bw F Rd Rn Rm dl vm W) {vr vr' : Value} {N N' : List ByteArray} {Rd' : List (Nat × ByteArray)} {dl' : Int} (h1 : Disk W bd bf cf bn cn vr F N Rd dl) (hv : ∀ g, vr.ownBlock = some g → N0 ≤ g)
    (h2 : Disk W' bd bf cf bn cn vr' F N' Rd' dl') (hN' : N' = replay F Rd') (hv' : vr'.ownBlock = vr.ownBlock ∨ ∃ g, vr'.ownBlock = some g ∧ W.heap.size ≤ g)
    (hf : ∀ j, j < W.heap.size → j ≠ bd → j ≠ bn → some j ≠ vr.ownBlock → W'.heap[j]? = W.heap[j]?) (hz : Below 0 W W') : LI w0 N0 bd bf cf bn cn bw F Rd' Rn Rm dl' vm W' := by
  have hd := h1.dk
  unfold Dk at hd
  obtain ⟨cn1, hn1, _⟩ := ownsRow_block h1.n
  have hs := h.below.size
  have hN0 := h.hN
  have k : ∀ (j : Nat) (c : Array Value) (t : TypeId) (f : Nat × Nat), t ≠ 50 → t ≠ 9 → t ≠ 47 → W.heap[j]? = some (.cells c t f) → W'.heap[j]? = W.heap[j]? := fun j c t f ht1 ht2 ht3 hj => by
    refine hf j (Array.getElem?_eq_some_iff.1 hj).1 ?_ ?_ ?_
    · rintro rfl; rw [hd] at hj; cases hj; exact ht1 rfl
    · rintro rfl; rw [hn1] at hj; cases hj; exact ht2 rfl
    · intro e
      rcases h1.r.2 with ⟨rfl, _⟩ | ⟨g, cp, cur, rfl, _, hh, _⟩
      · cases e
      · cases e; rw [hh] at hj; cases hj; exact ht3 rfl
  obtain ⟨vals, hn, _⟩ := h.now
  subst hN'
  refine ⟨h.below.trans (below_of_far hz hf (by omega) h.hbd h.hbn hv), ⟨vr', h2, fun g e => ?_⟩, h.now.kept (k _ _ _ _ (by decide) (by decide) (by decide) hn) (fun j c f => k j c 5 f (by decide) (by decide) (by decide)), h.moms.kept (fun j c f => k j c 5 f (by decide) (by decide) (by decide)) (fun j c f _ => k j c 30 f (by decide) (by decide) (by decide)) (fun j c f => k j c 29 f (by decide) (by decide) (by decide)), h.hN, h.hbd, h.hbn, h.hbw⟩
  rcases hv' with hv' | ⟨g', hv', hg'⟩
  · exact hv g (by rw [← hv']; exact e)
  · rw [hv'] at e; cases e; omega

/- now[k] = a row of bytes. -/
theorem LI.stored (h : LI w0 N0 bd bf cf bn cn bw F Rd Rn Rm dl vm W) {k b : Nat} {ns : List Int} (hb : By W b 256 ns) : LI w0 N0 bd bf cf bn cn bw F Rd (Rn ++ [(k, mkStr ns)]) Rm dl vm (W.setCell ⟨bw, k, none⟩ (.slice (some ⟨b, 0, none⟩) 256 256)) := by
  obtain ⟨vals, hn, hr⟩ := h.now
  obtain ⟨vr, h1, h2⟩ := h.disk
  have hd := h1.dk
  unfold Dk at hd
  obtain ⟨cn1, hn1, _⟩ := ownsRow_block h1.n
  obtain ⟨cf1, hf1, _⟩ := ownsRow_block h1.f
  have e : ∀ j, j ≠ bw → (W.setCell ⟨bw, k, none⟩ (.slice (some ⟨b, 0, none⟩) 256 256)).heap[j]? = W.heap[j]? := fun j hj => Below.heap_setCell _ _ _ _ hj
  have q : ∀ (j : Nat) (c : Array Value) (t : TypeId) (f : Nat × Nat), t ≠ 30 → W.heap[j]? = some (.cells c t f) → (W.setCell ⟨bw, k, none⟩ (.slice (some ⟨b, 0, none⟩) 256 256)).heap[j]? = W.heap[j]? := fun j c t f ht hj =>
    e j (by rintro rfl; rw [hn] at hj; cases hj; exact ht rfl)
  refine ⟨h.below.setCell h.hbw _, ⟨vr, h1.kept (q _ _ _ _ (by decide) hd) (q _ _ _ _ (by decide) hf1) (q _ _ _ _ (by decide) hn1) (fun g e' => ?_), h2⟩, ?_, h.moms.kept (fun j c f => q j c 5 f (by decide)) (fun j c f hj _ => e j hj) (fun j c f => q j c 29 f (by decide)), h.hN, h.hbd, h.hbn, h.hbw⟩
  · rcases h1.r.2 with ⟨rfl, _⟩ | ⟨g, cp, cur, rfl, _, hh, _⟩
    · cases e'
    · cases e'; exact q _ _ _ _ (by decide) hh
  · refine ⟨vals.set k (.slice (some ⟨b, 0, none⟩) 256 256), ?_, ?_, ?_⟩
    · rw [heap_setCell_at hn]; simp
    · rw [replay_snoc]; simpa using hr.1
    · intro i s hs
      rw [replay_snoc] at hs
      have hr' := hr.kept (W' := W.setCell ⟨bw, k, none⟩ (.slice (some ⟨b, 0, none⟩) 256 256)) (fun j c f => q j c 5 f (by decide))
      by_cases ei : k = i
      · subst ei
        have hkl : k < (replay F Rn).length := by have := (List.getElem?_eq_some_iff.1 hs).1; simpa using this
        rw [List.getElem?_set_self hkl] at hs
        cases hs
        refine ⟨b, ns, ?_, hb.kept ?_, rfl⟩
        · rw [List.getElem?_set_self (by rw [hr.1]; exact hkl)]
        · obtain ⟨_, c, f, hbb, _⟩ := hb
          exact q b c 5 f (by decide) hbb
      · rw [List.getElem?_set_ne ei] at hs ⊢
        exact hr'.2 i s hs

/- The moments, with one more. -/
theorem LI.noted (h : LI w0 N0 bd bf cf bn cn bw F Rd Rn Rm dl vm W) {v vm' : Value} {p : Nat × ByteArray} (hv : MomIs W bw v (replay F (Rm ++ [p]))) {ms : List Value} (hms : W.ownsRow N0 29 1 vm (Rm.length + 1) ms) (hmm : ∀ m, m ≤ Rm.length → ∃ v, ms[m]? = some v ∧ MomIs W bw v (replay F (Rm.take m)))
    (ho : W'.ownsRow N0 29 1 vm' (Rm.length + 1 + 1) (ms ++ [v])) (hg : W.grownBy W' vm.ownBlock) : LI w0 N0 bd bf cf bn cn bw F Rd Rn (Rm ++ [p]) dl vm' W' := by
  obtain ⟨vals, hn, hr⟩ := h.now
  obtain ⟨vr, h1, h2⟩ := h.disk
  have hd := h1.dk
  unfold Dk at hd
  obtain ⟨cn1, hn1, _⟩ := ownsRow_block h1.n
  obtain ⟨cf1, hf1, _⟩ := ownsRow_block h1.f
  have hs := h.below.size
  have hN0 := h.hN
  have q : ∀ (j : Nat) (c : Array Value) (t : TypeId) (f : Nat × Nat), t ≠ 29 → W.heap[j]? = some (.cells c t f) → W'.heap[j]? = W.heap[j]? := fun j c t f ht hj =>
    hg.block j (Array.getElem?_eq_some_iff.1 hj).1 (fun e => by
      rcases hms.2 with ⟨rfl, _⟩ | ⟨g, cp, cur, rfl, _, hh, _⟩
      · cases e
      · cases e; rw [hh] at hj; cases hj; exact ht rfl)
  refine ⟨h.below.grown hg (by omega) (fun k e => (hms.lt k e).1), ⟨vr, h1.kept (q _ _ _ _ (by decide) hd) (q _ _ _ _ (by decide) hf1) (q _ _ _ _ (by decide) hn1) (fun g e' => ?_), h2⟩, h.now.kept (q _ _ _ _ (by decide) hn) (fun j c f => q j c 5 f (by decide)), ?_, h.hN, h.hbd, h.hbn, h.hbw⟩
  · rcases h1.r.2 with ⟨rfl, _⟩ | ⟨g, cp, cur, rfl, _, hh, _⟩
    · cases e'
    · cases e'; exact q _ _ _ _ (by decide) hh
  · refine ⟨ms ++ [v], by simpa using ho, fun m hm => ?_⟩
    have hml : ms.length = Rm.length + 1 := by have := hms.1; omega
    have keep : ∀ {u : Value} {S : List ByteArray}, MomIs W bw u S → MomIs W' bw u S := fun hu => hu.kept (fun j c f => q j c 5 f (by decide)) (fun j c f _ => q j c 30 f (by decide))
    rw [List.length_append] at hm
    simp at hm
    by_cases e : m = Rm.length + 1
    · subst e
      refine ⟨v, by rw [← hml]; simp, ?_⟩
      rw [List.take_of_length_le (by simp)]
      exact keep hv
    · obtain ⟨u, h3, h4⟩ := hmm m (by omega)
      refine ⟨u, by rw [List.getElem?_append_left (by omega)]; exact h3, ?_⟩
      rw [List.take_append_of_le_length (by omega)]
      exact keep h4
end Go.Proofs.Ytbhopjnolgfpnaa
