/- blocksAt, At. -/
import Derived.Test.YtbhopjnolgfpnaaH
import Derived.Scope
namespace Go.Proofs.Ytbhopjnolgfpnaa
open Go.RowKit Go.Deep Go.Shelf
set_option linter.unusedVariables false
set_option linter.unusedSimpArgs false
attribute [local go_sem] Oper.semAt_some

def replay (F : List ByteArray) (R : List (Nat × ByteArray)) : List ByteArray := R.foldl (fun b p => b.set p.1 p.2) F
theorem replay_length (F : List ByteArray) (R : List (Nat × ByteArray)) : (replay F R).length = F.length := by
  unfold replay
  induction R generalizing F with
  | nil => rfl
  | cons p R ih => rw [List.foldl_cons, ih]; simp
theorem replay_snoc (F : List ByteArray) (R : List (Nat × ByteArray)) (p : Nat × ByteArray) : replay F (R ++ [p]) = (replay F R).set p.1 p.2 := by simp [replay]

theorem wpIn_scope_wide {P : Program} {n : Nat} {c : Code} {Q : Exit → Act → World → Prop} {a : Act} {w : World} (h : c.wpIn Fence.wide n P (Exit.noGoto Q) a w) : (Code.scope c).wpIn Fence.wide n P Q a w :=
  wpIn_wide.2 (wp_scope_straight ((wpIn_wide (n := n)).1 h))

def WrIn {L : Nat} (F : List ByteArray) (pre : List (Wr L)) : List ByteArray := replay F (pre.map (fun x => x.1.2))
theorem WrIn_snoc {L : Nat} (F : List ByteArray) (pre : List (Wr L)) (x : Wr L) : WrIn F (pre ++ [x]) = (WrIn F pre).set x.1.2.1 x.1.2.2 := by simp [WrIn, replay_snoc]

theorem ownsRow_own {β : Type} (g n cap : Nat) (f : β → List Value) : Own (fun s W => W.ownsRow 0 9 1 (.slice (some ⟨g, 0, none⟩) n cap) n (f s)) := fun s X Y row hs hg hrow =>
  hs.kept hg (.inr (fun e => by
    obtain ⟨cur, hc, _⟩ := ownsRow_block hs
    obtain ⟨o, ho, hno⟩ := hrow g (by rw [← e]; rfl)
    rw [hc] at ho; cases ho; cases hno))

/- What holds between two rounds: the boxes of n and blocks, the blocks, and all that lay there ahead of the call. -/
def RI (w : World) (B0 B2 g cap m : Nat) (F : List ByteArray) (L : Nat) (pre : List (Wr L)) (W : World) : Prop :=
  ((Boxed W B0 3 (.int .i64 (m : Int)) ∧ Boxed W B2 43 (.slice (some ⟨g, 0, none⟩) L cap)) ∧ W.ownsRow 0 9 1 (.slice (some ⟨g, 0, none⟩) L cap) L (strs (WrIn F pre))) ∧ (∀ x, x ∈ pre → x.1.1 ≠ m) ∧ Below w.heap.size w W
theorem RI_own (w : World) (B0 B2 g cap m : Nat) (F : List ByteArray) (L : Nat) {B : Nat} (hB : w.heap.size ≤ B) : OwnFrom B (RI w B0 B2 g cap m F L) := by
  unfold RI
  exact OwnFrom.and (OwnFrom.and (OwnFrom.and (Own.from (boxed_own _ _ (fun _ => _)) _) (Own.from (boxed_own _ _ (fun _ => _)) _)) (Own.from (ownsRow_own _ _ _ (fun pre : List (Wr L) => strs (WrIn F pre))) _)) (OwnFrom.and (ownFrom_pure _ (fun pre : List (Wr L) => ∀ x, x ∈ pre → x.1.1 ≠ m)) (ownFrom_below (Nat.le_refl _) hB))

theorem RI_step {w : World} {B0 B2 g cap m : Nat} {F : List ByteArray} {L : Nat} {pre : List (Wr L)} {W : World} (h : RI w B0 B2 g cap m F L pre W) (x : Wr L) (hx : x.1.1 ≠ m) (hg : w.heap.size ≤ g) :
    RI w B0 B2 g cap m F L (pre ++ [x]) (W.setCell ⟨g, x.1.2.1, none⟩ (.string x.1.2.2)) := by
  obtain ⟨⟨⟨i0, i2⟩, io⟩, ix, iB⟩ := h
  obtain ⟨cur, hc1, hc2, hc3, hc4, hc5⟩ := ownsRow_block io
  have hpl := x.2
  have hl := io.1
  refine ⟨⟨⟨?_, ?_⟩, ?_⟩, ?_, iB.setCell hg _⟩
  · unfold Boxed at i0 ⊢
    rw [Below.heap_setCell _ _ _ _ (by rintro rfl; rw [hc1] at i0; cases i0)]; exact i0
  · unfold Boxed at i2 ⊢
    rw [Below.heap_setCell _ _ _ _ (by rintro rfl; rw [hc1] at i2; cases i2)]; exact i2
  · refine ownsRow_of_block (by rw [strs_length, WrIn_snoc, List.length_set]; rw [strs_length] at hl; exact hl) (Nat.zero_le _) (heap_setCell_at hc1 _ _) hc2 hc3 (by simpa using hc4) ?_
    rw [Nat.mul_one] at hc5 ⊢
    rw [Array.toList_setIfInBounds, List.take_set, hc5, WrIn_snoc]
    simp [strs, List.map_set]
  · intro y hy
    rw [List.mem_append] at hy
    rcases hy with hy | hy
    · exact ix y hy
    · simp at hy; subst hy; exact hx

theorem upto_map {R : List (Nat × ByteArray)} {L : Nat} (hR : ∀ p, p ∈ R → p.1 < L) (hL : 0 < L) (k : Nat) (hk : k ≤ R.length) : (upto (elemAt hR hL) k).map (fun x => x.1.2) = R.take k := by
  apply List.ext_getElem
  · simp [upto, hk]
  · intro i h1 h2
    simp [upto] at h1
    have : i < R.length := by omega
    simp [upto, elemAt, rowAt, this]

theorem upto_first {R : List (Nat × ByteArray)} {L : Nat} (hR : ∀ p, p ∈ R → p.1 < L) (hL : 0 < L) (k m : Nat) (hk : k ≤ R.length) (q : List (Wr L)) (x : Wr L) (he : upto (elemAt hR hL) k = q ++ [x]) (hx : x.1.1 = m) : q.map (fun x => x.1.2) = R.take m := by
  cases k with
  | zero => simp [upto] at he
  | succ j =>
    rw [upto_succ] at he
    obtain ⟨h1, h2⟩ := List.append_inj' he rfl
    simp at h2
    have : j = m := by rw [← hx, ← h2]; rfl
    subst this
    rw [← h1]
    exact upto_map hR hL j (by omega)

theorem upto_none {R : List (Nat × ByteArray)} {L : Nat} (hR : ∀ p, p ∈ R → p.1 < L) (hL : 0 < L) (m : Nat) (hm : m ≤ R.length) (hx : ∀ x, x ∈ upto (elemAt hR hL) R.length → x.1.1 ≠ m) : m = R.length := by
  by_cases e : m < R.length
  · exact absurd rfl (hx (elemAt hR hL m) (by simp only [upto, List.mem_map, List.mem_range]; exact ⟨m, e, rfl⟩))
  · omega

theorem Disk.fcells {w : World} {bd bf cf bn cn vr F N R left} (h : Disk w bd bf cf bn cn vr F N R left) : w.cell? ⟨bd, 0, none⟩ = some (.slice (some ⟨bf, 0, none⟩) F.length cf) := h.dk.c0

set_option maxRecDepth 100000 in
set_option maxHeartbeats 1000000 in
theorem blocksAt_any (w : World) {bd bf cf bn cn : Nat} {vr : Value} {F N : List ByteArray} {R : List (Nat × ByteArray)} {left : Int} (h : Disk w bd bf cf bn cn vr F N R left) (m : Nat) (hm : m ≤ R.length) (hR : R.length ≤ 1000) :
    Calls Try.prog 19 #[.pointer (some ⟨bd, 0, none⟩), .int .i64 (m : Int)] w fun e w' => ∃ g cap, e = .returned (.slice (some ⟨g, 0, none⟩) F.length cap) ∧ w.heap.size ≤ g ∧
      w'.ownsRow 0 9 1 (.slice (some ⟨g, 0, none⟩) F.length cap) F.length (strs (replay F (R.take m))) ∧ Below w.heap.size w w' := by
  have hbd : bd < w.heap.size := (Array.getElem?_eq_some_iff.1 h.dk).1
  have hbd' : ¬ bd = w.heap.size := by omega
  have c0 := h.dk.c0
  have c0' : (w.alloc (.cells #[.int .i64 (m : Int)] 3)).cell? ⟨bd, 0, none⟩ = some (.slice (some ⟨bf, 0, none⟩) F.length cf) := by rw [World.cell?_of_block (w := w) (Below.heap_alloc w _ _ hbd)]; exact c0
  have hro : Fence.wide.round = none := rfl
  refine (callsIn_wide (n := 6)).1 ?_
  refine callsIn_of_wp_marks Try.func19 rfl trivial ?_ hro
  simp only [Try.ntmps19, List.size_toArray, List.length_cons, List.length_nil, Nat.reduceAdd, Nat.reduceSub, Array.replicate_succ, Array.replicate_zero, List.push_toArray, List.append_toArray, List.nil_append, List.cons_append]
  gi_wp2
  refine wpIn_scope_wide ?_
  gi_wp2_with (refine ⟨trivial, ?_⟩; gi_at_call 20; refine (callsIn_wide.2 (clone_any _ _ _ _ F rfl (h.f.alloc _) h.pos h.small)).mono ?_; rintro e w1 ⟨g, cap, rfl, hg, hown, hB⟩)
  refine wpIn_label ?_
  gi_wp2_with (refine ⟨trivial, ?_⟩; gi_at_call 22; refine (written_in _ _ trivial hro _ _).mono ?_; rintro e w2 ⟨rfl, rfl⟩)
  simp only [World.size_alloc] at hg hown hB
  obtain ⟨W0, hW0⟩ : ∃ W0, (w1.alloc (.cells #[.slice (some ⟨g, 0, none⟩) F.length cap] 43)).alloc (.cells #[.pointer (some ⟨bd, 0, none⟩)] 24) = W0 := ⟨_, rfl⟩
  have hsz : W0.heap.size = w1.heap.size + 2 := by rw [← hW0]; simp
  have hs1 := hB.size
  simp only [World.size_alloc] at hs1
  have hB1 : Below w1.heap.size w1 W0 := by rw [← hW0]; exact ((Below.refl _ _).alloc (Nat.le_refl _) _).alloc (by simp) _
  have hBw : Below w.heap.size w W0 := (((Below.refl w.heap.size w).alloc (Nat.le_refl _) _).trans (hB.mono (by omega))).trans (hB1.mono (by omega))
  have b0 : Boxed W0 w.heap.size 3 (.int .i64 (m : Int)) := by
    unfold Boxed
    rw [hB1.block _ (by omega), hB.block _ (by omega)]
    exact heap_alloc_new w _
  have b2 : Boxed W0 w1.heap.size 43 (.slice (some ⟨g, 0, none⟩) F.length cap) := by
    unfold Boxed
    rw [← hW0, Below.heap_alloc _ _ _ (by simp)]
    exact heap_alloc_new w1 _
  have b3 : W0.cell? ⟨w1.heap.size + 1, 0, none⟩ = some (.pointer (some ⟨bd, 0, none⟩)) := by
    have := heap_alloc_new (w1.alloc (.cells #[.slice (some ⟨g, 0, none⟩) F.length cap] 43)) (.cells #[.pointer (some ⟨bd, 0, none⟩)] 24)
    rw [World.size_alloc, hW0] at this
    rw [cellOf this]; rfl
  have hgl : g < w1.heap.size := (hown.lt g rfl).2
  have how0 : W0.ownsRow 0 9 1 (.slice (some ⟨g, 0, none⟩) F.length cap) F.length (strs (WrIn (L := F.length) F [])) :=
    ownsRow_same (ownsRow_base hown (Nat.zero_le _)) (fun k e => by cases e; exact hB1.block _ hgl)
  have hD := h.below hBw
  have hseq := written_stops Fence.wide 5 trivial hro (by omega) (w1.heap.size + 1) w.heap.size bd vr R F.length h.rin h.pos hR W0 (by omega) hBw.size b3 (by omega) hD.dk.c2 hD.r (fun k e => (h.r.lt k e).2)
  rw [hW0]
  clear hW0 c0 c0' hown hB hD
  refine wpIn_rangeFunc_ownH hro (by omega) (gf := 25) (lb := #[.pointer (some ⟨w1.heap.size + 1, 0, none⟩)]) rfl trivial (enters_of Try.func25 (by kernel_rfl) rfl) hseq belowK_t (belowK_b hBw.size) (Below.refl _ _) (fun _ => rfl)
    (RI w w.heap.size w1.heap.size g cap m F F.length)
    (fun c pre W => c = .exit 0 ∧ ∃ q x, pre = q ++ [x] ∧ x.1.1 = m ∧ RI w w.heap.size w1.heap.size g cap m F F.length q W)
    (RI_own _ _ _ _ _ _ _ _ hBw.size)
    (fun c s A B row hs hg hr => by
      obtain ⟨h1, q, x, h2, h3, h4⟩ := hs
      exact ⟨h1, q, x, h2, h3, RI_own _ _ _ _ _ _ _ _ hBw.size _ _ _ _ h4 hg hr⟩)
    ⟨⟨⟨b0, b2⟩, how0⟩, by simp, hBw⟩
    (fun x a' W => ∃ Bx, W.heap[Bx]? = some (.cells #[.int .i64 (x.1.2.1 : Int), .string x.1.2.2] 47 (0, 0)) ∧ a' = { tmps := #[.pointer (some ⟨bd, 0, none⟩), .int .i64 (m : Int), undef, .pointer (some ⟨w.heap.size, 0, none⟩), .slice none 0 0, .pointer (some ⟨w1.heap.size, 0, none⟩), .int .i64 (x.1.1 : Int), .pointer (some ⟨Bx, 0, none⟩), .pointer (some ⟨bd, 0, none⟩), .pointer (some ⟨bd, 0, none⟩), .pointer (some ⟨bd, 0, none⟩), .slice (some ⟨bf, 0, none⟩) F.length cf, .slice (some ⟨g, 0, none⟩) F.length cap, .pointer (some ⟨bd, 0, none⟩), .func (.func 25) #[] #[.pointer (some ⟨w1.heap.size + 1, 0, none⟩)], .int .i64 (x.1.1 : Int), .agg #[.int .i64 (x.1.2.1 : Int), .string x.1.2.2], undef, undef, undef, undef, undef, undef, undef, undef, undef, undef], defers := [] })
    (fun x a' u A B row hs hg hr => by
      obtain ⟨Bx, h2, h3⟩ := hs
      refine ⟨Bx, ?_, h3⟩
      rw [hg.block Bx (Array.getElem?_eq_some_iff.1 h2).1 (fun e => by
        obtain ⟨_, o, ho, hc⟩ := hr Bx e.symm
        rw [h2] at ho; cases ho; cases hc)]
      exact h2)
    ?assign ?body ?done ?stop
  case assign =>
    rintro l pre x W K hi hK
    simp only [encW]
    gi_wp2
    exact hK _ _ ((KeepsOthers.alloc _ _).from _) ((Below.refl _ W).alloc hi.2.2.size _) ((RI_own _ _ _ _ _ _ _ _ hBw.size).alloc _ hi) ⟨W.heap.size, heap_alloc_new W _, rfl⟩
  case body =>
    rintro l pre x a' W hl ⟨r, hr⟩ hi ⟨Bx, hbx, rfl⟩ hlt
    have hi' := hi
    obtain ⟨⟨⟨i0, i2⟩, io⟩, ix, iB⟩ := hi
    have e0 := i0.cell
    have e2 := i2.cell
    have x0 : W.cell? ⟨Bx, 0, none⟩ = some (.int .i64 (x.1.2.1 : Int)) := by rw [cellOf hbx]; rfl
    have x1 : W.cell? ⟨Bx, 1, none⟩ = some (.string x.1.2.2) := by rw [cellOf hbx]; rfl
    have hpl := x.2
    obtain ⟨cur, hc1, hc2, hc3, hc4, hc5⟩ := ownsRow_block io
    have hcu : ∃ u, W.cell? ⟨g, x.1.2.1, none⟩ = some u := ⟨cur[x.1.2.1]'(by omega), by rw [cellOf hc1, Array.getElem?_eq_getElem]⟩
    obtain ⟨u, hu⟩ := hcu
    have hfu := freeOf hc1 x.1.2.1
    have Hio := hid (And.intro io (And.intro hc1 (And.intro hc2 (And.intro hc3 (And.intro hc4 (And.intro hc5 (And.intro hi' (And.intro ix (And.intro iB (And.intro i0 i2))))))))))
    clear io hc1 hc2 hc3 hc4 hc5 hi' ix iB i0 i2 hr hseq b0 b2 b3 how0
    by_cases hxm : x.1.1 = m
    · have ht : (((x.1.1 : Nat) : Int) == (m : Int)) = true := by simp [hxm]
      have Hxm := hid hxm
      clear hxm
      gi_wp2
      obtain ⟨_, _, _, _, _, _, hi', _⟩ := Hio.out
      exact ⟨KeepsFrom.refl _ _, rfl, pre, x, rfl, Hxm.out, hi'⟩
    · have ht : (((x.1.1 : Nat) : Int) == (m : Int)) = false := by simp; omega
      have Hxm := hid hxm
      clear hxm
      gi_wp2
      obtain ⟨_, _, _, _, _, _, hi', _⟩ := Hio.out
      exact ⟨(KeepsOthers.setCell _ _ _).from _, (Below.refl _ W).setCell (p := ⟨g, x.1.2.1, none⟩) (by show _ ≤ g; omega) _, RI_step hi' x Hxm.out (by omega)⟩
  case done =>
    rintro D ys W hD rfl hI hK
    have e2 := hI.1.1.2.cell
    have hme := upto_none h.rin h.pos m hm hI.2.1
    have Hme := hid hme
    clear hme
    gi_wp2
    have hI' := (RI_own w w.heap.size w1.heap.size g cap m F F.length hBw.size).putObj (.deferred none) hI hD hK rfl
    refine ⟨by simp, .inl ⟨_, _, rfl, run_takeDeferred hK, ?_⟩⟩
    refine ⟨_, results_tmp rfl _ _ _, g, cap, rfl, by omega, ?_, hI'.2.2⟩
    have hw := hI'.1.2
    unfold WrIn at hw
    rw [upto_map h.rin h.pos _ (Nat.le_refl _)] at hw
    rw [Hme.out]
    exact hw
  case stop =>
    rintro D c pre W hD ⟨k, hk, rfl⟩ ⟨rfl, q, x, hq, hxm, hI⟩ hK
    have e2 := hI.1.1.2.cell
    have Hq := hid (And.intro hq hxm)
    clear hq hxm
    gi_wp2
    have hI' := (RI_own w w.heap.size w1.heap.size g cap m F F.length hBw.size).putObj (.deferred none) hI hD hK rfl
    refine ⟨by simp, .inl ⟨_, _, rfl, run_takeDeferred hK, ?_⟩⟩
    refine ⟨_, results_tmp rfl _ _ _, g, cap, rfl, by omega, ?_, hI'.2.2⟩
    have hw := hI'.1.2
    unfold WrIn at hw
    rw [upto_first h.rin h.pos k m hk q x Hq.out.1 Hq.out.2] at hw
    exact hw

set_option maxHeartbeats 400000 in
theorem at_no (w : World) {bd bf cf bn cn : Nat} {vr : Value} {F N : List ByteArray} {R : List (Nat × ByteArray)} {left : Int} (h : Disk w bd bf cf bn cn vr F N R left) (i : Int) (hi : i < 0 ∨ (R.length : Int) < i) :
    Calls Try.prog 15 #[.pointer (some ⟨bd, 0, none⟩), .int .i64 i] w fun e w' => e = .returned (.tuple #[.pointer none, .int .i64 11]) ∧ w' = w := by
  obtain ⟨ar, cr, rfl⟩ : ∃ ar cr, vr = .slice ar R.length cr := by
    rcases h.r.2 with ⟨rfl, e⟩ | ⟨g, c, cur, rfl, _⟩
    · exact ⟨none, 0, by rw [e]⟩
    · exact ⟨_, _, rfl⟩
  have hw := hid (writes_any w bd _ _ _ _ _ _ h.dk)
  clear h
  rcases hi with hi | hi
  · go_enter Try.func15, Try.ntmps15
    go_wp2_with (go_at_call 13; refine (Hid.out hw).mono ?_; rintro e w' ⟨rfl, rfl⟩)
    go_ret2
    exact ⟨rfl, rfl⟩
  · have hi' : ¬ i < 0 := by omega
    go_enter Try.func15, Try.ntmps15
    go_wp2_with (go_at_call 13; refine (Hid.out hw).mono ?_; rintro e w' ⟨rfl, rfl⟩)
    go_ret2
    exact ⟨rfl, rfl⟩

set_option maxHeartbeats 400000 in
theorem at_yes (w : World) {bd bf cf bn cn : Nat} {vr : Value} {F N : List ByteArray} {R : List (Nat × ByteArray)} {left : Int} (h : Disk w bd bf cf bn cn vr F N R left) (m : Nat) (hm : m ≤ R.length) (hR : R.length ≤ 1000) :
    Calls Try.prog 15 #[.pointer (some ⟨bd, 0, none⟩), .int .i64 (m : Int)] w fun e w' => ∃ bd' bf' cf' bn' cn', e = .returned (.tuple #[.pointer (some ⟨bd', 0, none⟩), .int .i64 0]) ∧ w.heap.size ≤ bd' ∧ w.heap.size ≤ bn' ∧ w.heap.size ≤ bf' ∧
      Disk w' bd' bf' cf' bn' cn' (.slice none 0 0) (replay F (R.take m)) (replay F (R.take m)) [] (-1) ∧ Below w.heap.size w w' := by
  obtain ⟨ar, cr, rfl⟩ : ∃ ar cr, vr = .slice ar R.length cr := by
    rcases h.r.2 with ⟨rfl, e⟩ | ⟨g, c, cur, rfl, _⟩
    · exact ⟨none, 0, by rw [e]⟩
    · exact ⟨_, _, rfl⟩
  have hw := hid (writes_any w bd _ _ _ _ _ _ h.dk)
  have hb := hid (blocksAt_any w h m hm hR)
  have hpos := h.pos
  have hsm := h.small
  clear h
  go_enter Try.func15, Try.ntmps15
  go_wp2_with (first | (go_at_call 13; refine (Hid.out hw).mono ?_; rintro e w' ⟨rfl, rfl⟩) | (go_at_call 19; refine (Hid.out hb).mono ?_; rintro e w1 ⟨g, cap, rfl, hg, hown, hB⟩))
  refine (holding_any _ g F.length cap (replay F (R.take m)) (replay_length _ _) hown hpos hsm).mono ?_
  rintro e w2 ⟨bd', bn', cn', rfl, h1, h2, hD, hB2⟩
  clear hown hb hw
  go_wp2
  go_ret2
  have := hB.size
  exact ⟨bd', g, cap, bn', cn', rfl, by omega, by omega, by omega, hD, hB.trans (hB2.mono hB.size)⟩
end Go.Proofs.Ytbhopjnolgfpnaa
