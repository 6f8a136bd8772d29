/- tree.mayBe. -/
import Derived.Test.YtdfambocenohgaaGreatDoorJAI
import Derived.Lib.UnsafeStr
import Derived.Lib.Builder
import Derived.Lib.AppendIntMem
namespace Go.Proofs.YtdfambocenohgaaGreatDoor
open Go.RowKit Go.Deep
set_option linter.unusedVariables false
set_option linter.unusedSimpArgs false
attribute [local go_sem] Oper.semAt_some

theorem keep_cells {W W' : World} {row : Option Nat} {B b : Nat} {c : Array Value} {t : TypeId} (hs : W.heap[b]? = some (.cells c t (0, 0))) (hg : W.grownBy W' row) (hr : ∀ r, row = some r → B ≤ r ∧ ∃ o : Obj, W.heap[r]? = some o ∧ o.isCells = false) : W'.heap[b]? = some (.cells c t (0, 0)) := by
  rw [hg.block b (Array.getElem?_eq_some_iff.1 hs).1 (fun e => by
    obtain ⟨_, o, ho, hc⟩ := hr b e.symm
    rw [hs] at ho; cases ho; cases hc)]
  exact hs
theorem keepsFrom_below {B : Nat} {W W' : World} (k : Below W.heap.size W W') : KeepsFrom B W W' := ⟨k.size, fun j o _ hj _ => (k.block j (Array.getElem?_eq_some_iff.1 hj).1).trans hj⟩
theorem set_cells {W : World} {b : Nat} {v0 : Value} {t : TypeId} (h : W.heap[b]? = some (.cells #[v0] t (0, 0))) (v : Value) : (W.setCell ⟨b, 0, none⟩ v).heap[b]? = some (.cells #[v] t (0, 0)) := by
  simp [World.setCell, Array.getElem?_modify, h]
/- Between two rounds: all were right so far. -/
def MI (w : World) (ps : List Part) (pre : List (Fin ps.length)) (W : World) : Prop :=
  W.heap[w.heap.size]? = some (.cells #[.bool false] 4 (0, 0)) ∧ (∀ x ∈ pre, rightP ps[x] = true) ∧ Below w.heap.size w W ∧ w.heap.size + 2 ≤ W.heap.size
theorem MI_own (w : World) (ps : List Part) {B : Nat} (hB : w.heap.size ≤ B) : OwnFrom B (MI w ps) := fun s A A' row hs hg hr =>
  ⟨keep_cells hs.1 hg hr, hs.2.1, ownFrom_below (β := Unit) (Nat.le_refl _) hB () A A' row hs.2.2.1 hg hr, Nat.le_trans hs.2.2.2 hg.size⟩
theorem MI.below {w W W' : World} {ps : List Part} {pre : List (Fin ps.length)} (h : MI w ps pre W) (k : Below W.heap.size W W') : MI w ps pre W' := by
  have hl : ∀ {b : Nat} {o : Obj}, W.heap[b]? = some o → W'.heap[b]? = some o := fun e => (k.block _ (Array.getElem?_eq_some_iff.1 e).1).trans e
  exact ⟨hl h.1, h.2.1, h.2.2.1.trans (k.mono h.2.2.1.size), Nat.le_trans h.2.2.2 k.size⟩
theorem MI.snoc {w W : World} {ps : List Part} {pre : List (Fin ps.length)} {x : Fin ps.length} (h : MI w ps pre W) (hx : rightP ps[x] = true) : MI w ps (pre ++ [x]) W := ⟨h.1, fun y hy => by
  rcases List.mem_append.1 hy with hy | hy
  · exact h.2.1 y hy
  · simp at hy; subst hy; exact hx, h.2.2⟩
def MZ (w : World) (ps : List Part) (c : Code) (pre : List (Fin ps.length)) (W : World) : Prop :=
  c = .ret ∧ ps.all rightP = false ∧ W.heap[w.heap.size]? = some (.cells #[.bool false] 4 (0, 0)) ∧ Below w.heap.size w W
theorem MZ_own (w : World) (ps : List Part) (c : Code) {B : Nat} (hB : w.heap.size ≤ B) : OwnFrom B (MZ w ps c) := fun s A A' row hs hg hr =>
  ⟨hs.1, hs.2.1, keep_cells hs.2.2.1 hg hr, ownFrom_below (β := Unit) (Nat.le_refl _) hB () A A' row hs.2.2.2 hg hr⟩
set_option maxRecDepth 100000 in
set_option maxHeartbeats 1000000 in
theorem mayBe_any (w : World) (root : Part) (ps : List Part) (h : Whole w root ps) (hok : ∀ p ∈ ps, PartOk p) (hm : MX w) :
    Calls Tryz.prog 31 #[labP root] w fun e w' => e = .returned (.bool (ps.all rightP)) ∧ Below w.heap.size w w' := by
  have hro : Fence.wide.round = none := rfl
  have KC : Hid (∀ (x : Fin ps.length) (w1 : World), Below w.heap.size w w1 → Calls Tryz.prog 56 #[labP ps[x]] w1 fun e w' => e = .returned (.bool (rightP ps[x])) ∧ Below w1.heap.size w1 w') := hid (fun x w1 hb => by
    have hx : ps[x] ∈ ps := List.getElem_mem _
    have hd : PRds w1 ps[x] := by
      have := h.rd _ hx
      generalize ps[x] = p at *
      rcases p with (q | q) | (q | q)
      · exact THr.below this (Nat.le_refl _) hb
      · exact DHr.below this (Nat.le_refl _) hb
      · exact SHr.below this (Nat.le_refl _) hb
      · exact EHr.below this (Nat.le_refl _) hb
    exact isRight_any w1 _ hd (hok _ hx) (hm.below hm.lt hb))
  obtain ⟨W0, hW0⟩ : ∃ W0, W0 = w.alloc (.cells #[.bool false] 4) := ⟨_, rfl⟩
  obtain ⟨W1, hW1⟩ : ∃ W1, W1 = W0.alloc (.cells #[labP root] 20) := ⟨_, rfl⟩
  have hz0 : W0.heap.size = w.heap.size + 1 := by rw [hW0]; simp
  have hz1 : W1.heap.size = w.heap.size + 1 + 1 := by rw [hW1]; simp; omega
  have n0 : W1.heap[w.heap.size]? = some (.cells #[.bool false] 4 (0, 0)) := by rw [hW1]; exact (Below.heap_alloc _ _ _ (by omega)).trans (by rw [hW0]; exact heap_alloc_new _ _)
  have n1 : W1.heap[w.heap.size + 1]? = some (.cells #[labP root] 20 (0, 0)) := by
    have := heap_alloc_new W0 (.cells #[labP root] 20)
    rw [hz0, ← hW1] at this
    exact this
  have hb1 : Below w.heap.size w W1 := by rw [hW1, hW0]; exact ((Below.refl _ w).alloc (Nat.le_refl _) _).alloc (by simp) _
  have hseq := parts_stops h 5 (w.heap.size + 1) W1 hb1 n1
  have h70 : MI w ps [] W1 := ⟨n0, by simp, hb1, by omega⟩
  have hC : w.heap.size ≤ W1.heap.size := by omega
  clear n0 n1 hb1 hm hok h
  refine (callsIn_wide (n := 6)).1 ?_
  refine callsIn_of_wp_marks Tryz.func31 rfl trivial ?_ hro
  simp only [Tryz.ntmps31, List.size_toArray, List.length_cons, List.length_nil, Nat.reduceAdd, Nat.reduceSub, Array.replicate_succ, Array.replicate_zero, List.push_toArray, List.append_toArray, List.nil_append, List.cons_append]
  gi_wp2_with (refine ⟨trivial, ?_⟩; gi_at_call 38; refine (parts_in _ _ trivial hro _ _).mono ?_; rintro e w7 ⟨rfl, rfl⟩)
  rw [← hW0]
  try simp only [hz0]
  rw [← hW1]
  clear hW0 hW1
  refine wpIn_rangeFunc_ownH hro (by omega) (gf := 61) (lb := #[.pointer (some ⟨w.heap.size + 1, 0, none⟩)]) rfl trivial (enters_of Tryz.func61 (by kernel_rfl) rfl) hseq belowK_t (belowK_b (by omega)) (Below.refl _ _) (fun _ => rfl)
      (MI w ps) (MZ w ps) (MI_own w ps hC) (fun c => MZ_own w ps c hC)
      h70
      (fun (x : Fin ps.length) (a' : Act) (W : World) => a' = { tmps := #[labP root, undef, .pointer (some ⟨w.heap.size, 0, none⟩), labP ps[x], labP root, .func (.func 61) #[] #[.pointer (some ⟨w.heap.size + 1, 0, none⟩)], labP ps[x], undef, undef, undef], defers := [] })
      (fun x a' u A B rw' hs hg hr => hs)
      ?assign ?body ?done ?stop
  case assign =>
    rintro ll pre x W K hi hK
    simp only [encP] at hK ⊢
    generalize labP ps[x] = lp at *
    gi_wp2
    exact hK _ _ (keepsFrom_below (Below.refl _ _)) (Below.refl _ _) hi rfl
  case body =>
    rintro ll pre x a' W hll ⟨rr, hrr⟩ hi rfl hlt
    have HI := hid hi
    have K1 := hid (KC.out x W hi.2.2.1)
    have c0 := cellT hi.1 0
    simp only [List.getElem?_toArray, List.getElem?_cons_zero] at c0
    have HS := hid (show ps[x] ∈ ps from List.getElem_mem _)
    clear hseq hi h70
    cases hq : rightP ps[x] with
    | true =>
      rw [hq] at K1
      have HQ := hid hq
      clear hq
      generalize labP ps[x] = lp at *
      gi_wp2_with (refine ⟨trivial, ?_⟩; gi_at_call 56; refine (CallsIn.inRound ll (callsIn_wide.2 (Hid.out K1))).mono ?_; rintro e w8 ⟨rfl, hb8⟩)
      exact ⟨keepsFrom_below hb8, hb8.mono (by have := HI.out.2.2.2; omega), (HI.out.below hb8).snoc HQ.out⟩
    | false =>
      rw [hq] at K1
      have HQ := hid hq
      clear hq
      have HF : Hid (ps.all rightP = false) := hid (by rw [List.all_eq_false]; exact ⟨ps[x], HS.out, by rw [HQ.out]; decide⟩)
      generalize labP ps[x] = lp at *
      gi_wp2_with (refine ⟨trivial, ?_⟩; gi_at_call 56; refine (CallsIn.inRound ll (callsIn_wide.2 (Hid.out K1))).mono ?_; rintro e w8 ⟨rfl, hb8⟩; have hbx := (HI.out.below hb8).1; have y0 := cellT hbx 0; have y1 := freeT hbx 0; simp only [List.getElem?_toArray, List.getElem?_cons_zero] at y0; have HX := hid hbx; have HB8 := hid hb8; clear hbx hb8)
      refine ⟨(keepsFrom_below HB8.out).trans ((KeepsOthers.setCell _ _ _).from _), rfl, HF.out, set_cells HX.out _, ?_⟩
      exact ((HI.out.below HB8.out).2.2.1).setCell (p := ⟨w.heap.size, 0, none⟩) (Nat.le_refl _) _
  case done =>
    rintro D' ys W hD rfl hI hK
    have HT : Hid (ps.all rightP = true) := hid (by
      rw [List.all_eq_true]
      intro p hp
      obtain ⟨k, hk, e⟩ := List.getElem_of_mem hp
      have := hI.2.1 ⟨k, hk⟩ (List.mem_finRange _)
      rw [← e]; exact this)
    have y0 := cellT hI.1 0
    have y1 := freeT hI.1 0
    simp only [List.getElem?_toArray, List.getElem?_cons_zero] at y0
    have HI := hid hI
    have HK := hid hK
    clear hseq hI hK h70
    gi_wp2
    obtain ⟨Wf, hWf⟩ : ∃ Wf, Wf = W.setCell ⟨w.heap.size, 0, none⟩ (.bool true) := ⟨_, rfl⟩
    rw [← hWf]
    have k2 : Wf.heap[w.heap.size]? = some (.cells #[.bool true] 4 (0, 0)) := by rw [hWf]; exact set_cells HI.out.1 _
    have kD : Wf.heap[D']? = some (.deferred (some [])) := by
      rw [hWf]; exact (Below.heap_setCell _ _ _ _ (by show D' ≠ w.heap.size; omega)).trans HK.out
    have kB : Below w.heap.size w Wf := by rw [hWf]; exact HI.out.2.2.1.setCell (p := ⟨w.heap.size, 0, none⟩) (Nat.le_refl _) _
    have h9 := keep_cells (B := 0) k2 (grownBy_putObj' _ D' (.deferred none)) (fun r e => by cases e; exact ⟨Nat.zero_le _, _, kD, rfl⟩)
    have h10 : Below w.heap.size w (Wf.putObj D' (.deferred none)) := ownFrom_below (β := Unit) (Nat.le_refl _) (Nat.le_refl _) () _ _ _ kB (grownBy_putObj' _ D' (.deferred none)) (fun r e => by cases e; exact ⟨by omega, _, kD, rfl⟩)
    have r0 := cellT h9 0
    simp only [List.getElem?_toArray, List.getElem?_cons_zero] at r0
    refine ⟨by simp, .inl ⟨_, _, rfl, run_takeDeferred kD, ?_⟩⟩
    refine ⟨.bool true, by simp [results, Tryz.results31, go_sem, r0], ?_⟩
    rw [HT.out]
    exact ⟨rfl, h10⟩
  case stop =>
    rintro D' c pre W hD hp ⟨rfl, hF, hbx, hbw⟩ hK
    have h9 := keep_cells (B := 0) hbx (grownBy_putObj' _ D' (.deferred none)) (fun r e => by cases e; exact ⟨Nat.zero_le _, _, hK, rfl⟩)
    have h10 : Below w.heap.size w (W.putObj D' (.deferred none)) := ownFrom_below (β := Unit) (Nat.le_refl _) (Nat.le_refl _) () _ _ _ hbw (grownBy_putObj' _ D' (.deferred none)) (fun r e => by cases e; exact ⟨by omega, _, hK, rfl⟩)
    have r0 := cellT h9 0
    simp only [List.getElem?_toArray, List.getElem?_cons_zero] at r0
    clear hseq h70
    gi_wp2
    refine ⟨by simp, .inl ⟨_, _, rfl, run_takeDeferred hK, ?_⟩⟩
    refine ⟨.bool false, by simp [results, Tryz.results31, go_sem, r0], ?_⟩
    rw [hF]
    exact ⟨rfl, h10⟩
end Go.Proofs.YtdfambocenohgaaGreatDoor

namespace Go.Proofs.YtdfambocenohgaaGreatDoor
open Go.RowKit Go.Deep
set_option linter.unusedVariables false
set_option linter.unusedSimpArgs false
attribute [local go_sem] Oper.semAt_some

def TH.cs (h : TH) : Array Value := #[.slice h.ra h.rn h.rc, .slice h.ma h.mn h.mc, .slice h.fa h.fn h.fc, .slice h.ea h.en h.ec]
/- A tree that is handed over: its rows, wherever it lies. -/
structure TVs (k : Nat) (w : World) (t : TT k) : Prop where
  rs : DLs k w wRec t.h.ra t.h.rn t.rs
  ms : DLs k w wMap t.h.ma t.h.mn t.ms
  fs : DLs k w wFn t.h.fa t.h.fn t.fs
  es : DLs k w wOn t.h.ea t.h.en t.es
  rb : t.h.rn ≤ 1000000
  mb : t.h.mn ≤ 1000000
  fb : t.h.fn ≤ 1000000
  eb : t.h.en ≤ 1000000
theorem TVs.below {k : Nat} {w w' : World} {t : TT k} {B : Nat} (d : TVs k w t) (hB : w.heap.size ≤ B) (h : Below B w w') : TVs k w' t := ⟨d.rs.below hB h, d.ms.below hB h, d.fs.below hB h, d.es.below hB h, d.rb, d.mb, d.fb, d.eb⟩
def TT.atB {k : Nat} (t : TT k) (M : Nat) : TT k := { t with h := { t.h with b := M, o := 0 } }
theorem TVs.box {k : Nat} {W : World} {t : TT k} {M : Nat} (d : TVs k W t) (hb : W.heap[M]? = some (.cells t.h.cs 24 (0, 0))) : TRds k W (t.atB M) := by
  have c := cellT hb
  exact ⟨⟨c 0, c 1, c 2, c 3, d.rb, d.mb, d.fb, d.eb⟩, d.rs, d.ms, d.fs, d.es⟩
/- The parts, whatever the tree's own place. -/
def inT {k : Nat} (t : TT k) : List Part := t.rs.flatMap ptD ++ (t.ms.flatMap ptD ++ (t.fs.flatMap ptD ++ t.es.flatMap ptD))
theorem ptT_at {k : Nat} (t : TT k) (M : Nat) : ptT (t.atB M) = .inl (.inl { t.h with b := M, o := 0 }) :: inT t := rfl
theorem sort_rows {k : Nat} {w : World} {s : ByteArray} {a : Option Addr} {n : Nat} {ts : List (DT k)} (d : DLs k w s a n ts) (hs : s = wRec ∨ s = wMap ∨ s = wFn ∨ s = wOn) : ∀ p ∈ ts.flatMap ptD, PartOk p := by
  intro p hp
  obtain ⟨u, hu, hp⟩ := List.mem_flatMap.1 hp
  rcases List.mem_cons.1 hp with rfl | hp
  · show SortOk u.1
    unfold SortOk
    rw [d.s u hu]; exact hs
  · obtain ⟨v, hv, hp⟩ := List.mem_flatMap.1 hp
    have : ∀ (k : Nat) (t : ST k), ∀ p ∈ ptS k t, PartOk p := by
      have hE : ∀ (k : Nat) (t : ET k), ∀ p ∈ ptE k t, PartOk p := by
        intro k
        induction k with
        | zero => intro t; exact Empty.elim t
        | succ k ih =>
          intro t p hp
          rcases List.mem_cons.1 hp with rfl | hp
          · trivial
          · obtain ⟨u, hu, hp⟩ := List.mem_flatMap.1 hp
            exact ih u p hp
      intro k
      induction k with
      | zero => intro t; exact Empty.elim t
      | succ k ih =>
        intro t p hp
        rcases List.mem_cons.1 hp with rfl | hp
        · trivial
        · rcases List.mem_append.1 hp with hp | hp
          · obtain ⟨u, hu, hp⟩ := List.mem_flatMap.1 hp
            exact hE k u p hp
          · rcases List.mem_append.1 hp with hp | hp
            · obtain ⟨u, hu, hp⟩ := List.mem_flatMap.1 hp
              exact ih u p hp
            · obtain ⟨u, hu, hp⟩ := List.mem_flatMap.1 hp
              exact ih u p hp
    exact this k v p hp
theorem inT_ok {k : Nat} {w : World} {t : TT k} (d : TVs k w t) : ∀ p ∈ inT t, PartOk p := by
  intro p hp
  rcases List.mem_append.1 hp with hp | hp
  · exact sort_rows d.rs (.inl rfl) p hp
  · rcases List.mem_append.1 hp with hp | hp
    · exact sort_rows d.ms (.inr (.inl rfl)) p hp
    · rcases List.mem_append.1 hp with hp | hp
      · exact sort_rows d.fs (.inr (.inr (.inl rfl))) p hp
      · exact sort_rows d.es (.inr (.inr (.inr rfl))) p hp
theorem ptT_ok {k : Nat} {w : World} {t : TT k} (d : TVs k w t) (M : Nat) : ∀ p ∈ ptT (t.atB M), PartOk p := by
  intro p hp
  rw [ptT_at] at hp
  rcases List.mem_cons.1 hp with rfl | hp
  · trivial
  · exact inT_ok d p hp
def okT {k : Nat} (t : TT k) : Bool := rightT t.h && (inT t).all rightP
theorem okT_at {k : Nat} (t : TT k) (M : Nat) : (ptT (t.atB M)).all rightP = okT t := rfl
set_option maxRecDepth 100000 in
theorem isTree_any (k : Nat) (w : World) (t : TT k) (d : TVs k w t) (hm : MX w) : Calls Tryz.prog 13 #[.agg t.h.cs] w fun e w' => e = .returned (.bool (okT t)) ∧ Below w.heap.size w w' := by
  obtain ⟨W, hW⟩ : ∃ W, W = w.alloc (.cells t.h.cs 24) := ⟨_, rfl⟩
  have hbw : Below w.heap.size w W := by rw [hW]; exact (Below.refl _ w).alloc (Nat.le_refl _) _
  have hb : W.heap[w.heap.size]? = some (.cells t.h.cs 24 (0, 0)) := by rw [hW]; exact heap_alloc_new _ _
  have dW := d.below (Nat.le_refl _) hbw
  have K := hid (mayBe_any W _ _ (whole_tree (dW.box hb)) (ptT_ok dW _) (hm.below hm.lt hbw))
  rw [okT_at] at K
  have HW := hid hbw
  simp only [TT.atB, labP] at K
  simp only [TH.cs] at hW ⊢
  generalize okT t = r at *
  clear d hm hbw hb dW
  go_enter Tryz.func13, Tryz.ntmps13
  go_wp2_with (go_at_call 31; (rw [← hW]; refine (Hid.out K).mono ?_; rintro e w1 ⟨rfl, hb1⟩; have HB := hid (HW.out.trans (hb1.mono HW.out.size)); clear hb1 hW))
  go_ret
  exact ⟨rfl, HB.out⟩
/- How many statements and expressions. -/
def cnt (ps : List Part) : Nat := (ps.filter szP).length
def SI (w : World) (ps : List Part) (pre : List (Fin ps.length)) (W : World) : Prop :=
  W.heap[w.heap.size + 1]? = some (.cells #[.int .i64 (cnt (pre.map fun x => ps[x]) : Nat)] 3 (0, 0)) ∧ Below w.heap.size w W ∧ w.heap.size + 3 ≤ W.heap.size
theorem SI_own (w : World) (ps : List Part) {B : Nat} (hB : w.heap.size ≤ B) : OwnFrom B (SI w ps) := fun s A A' row hs hg hr =>
  ⟨keep_cells hs.1 hg hr, ownFrom_below (β := Unit) (Nat.le_refl _) hB () A A' row hs.2.1 hg hr, Nat.le_trans hs.2.2 hg.size⟩
def SZ (ps : List Part) (c : Code) (pre : List (Fin ps.length)) (W : World) : Prop := False
theorem cnt_snoc (l : List Part) (p : Part) : cnt (l ++ [p]) = cnt l + (if szP p = true then 1 else 0) := by
  unfold cnt
  rw [List.filter_append, List.length_append]
  cases h : szP p <;> simp [h]
theorem map_fin (ps : List Part) : (List.finRange ps.length).map (fun x => ps[x]) = ps := by
  apply List.ext_getElem?
  intro i
  simp only [List.getElem?_map]
  by_cases h : i < ps.length
  · rw [List.getElem?_eq_getElem (by simpa using h), List.getElem?_eq_getElem h]; simp
  · rw [List.getElem?_eq_none (by simpa using h), List.getElem?_eq_none (by omega)]; rfl
set_option maxRecDepth 100000 in
set_option maxHeartbeats 1000000 in
theorem size_any (k : Nat) (w : World) (t : TT k) (d : TVs k w t) (hn : (inT t).length ≤ 1000000000) : Calls Tryz.prog 17 #[.agg t.h.cs] w fun e w' => e = .returned (.int .i64 (cnt (inT t) : Nat)) ∧ Below w.heap.size w w' := by
  have hro : Fence.wide.round = none := rfl
  obtain ⟨Wa, hWa⟩ : ∃ Wa, Wa = w.alloc (.cells t.h.cs 24) := ⟨_, rfl⟩
  obtain ⟨W0, hW0⟩ : ∃ W0, W0 = Wa.alloc (.cells #[.int .i64 0] 3) := ⟨_, rfl⟩
  have hza : Wa.heap.size = w.heap.size + 1 := by rw [hWa]; simp
  have hz0 : W0.heap.size = w.heap.size + 1 + 1 := by rw [hW0]; simp; omega
  have na : Wa.heap[w.heap.size]? = some (.cells t.h.cs 24 (0, 0)) := by rw [hWa]; exact heap_alloc_new _ _
  have n0 : W0.heap[w.heap.size]? = some (.cells t.h.cs 24 (0, 0)) := by rw [hW0]; exact (Below.heap_alloc _ _ _ (by omega)).trans na
  have n1 : W0.heap[w.heap.size + 1]? = some (.cells #[.int .i64 0] 3 (0, 0)) := by
    have := heap_alloc_new Wa (.cells #[.int .i64 0] 3)
    rw [hza, ← hW0] at this
    exact this
  have hba : Below w.heap.size w Wa := by rw [hWa]; exact (Below.refl _ w).alloc (Nat.le_refl _) _
  have hb0 : Below w.heap.size w W0 := by rw [hW0]; exact hba.alloc (by omega) _
  have hwh := whole_tree ((d.below (Nat.le_refl _) hba).box na)
  rw [ptT_at] at hwh
  obtain ⟨ps, hps⟩ : ∃ ps : List Part, ps = .inl (.inl { t.h with b := w.heap.size, o := 0 }) :: inT t := ⟨_, rfl⟩
  rw [← hps] at hwh
  have hcn : cnt (inT t) = cnt ps := by rw [hps]; rfl
  have hlen : ps.length ≤ 1000000001 := by rw [hps]; simp; omega
  rw [hcn]
  obtain ⟨W1, hW1⟩ : ∃ W1, W1 = W0.alloc (.cells #[labP (.inl (.inl { t.h with b := w.heap.size, o := 0 }))] 20) := ⟨_, rfl⟩
  have hz1 : W1.heap.size = w.heap.size + 1 + 1 + 1 := by rw [hW1]; simp; omega
  have hb1 : Below w.heap.size w W1 := by rw [hW1]; exact hb0.alloc (by omega) _
  have hb01 : Below Wa.heap.size Wa W1 := by rw [hW1, hW0]; exact ((Below.refl _ _).alloc (Nat.le_refl _) _).alloc (by simp) _
  have hb02 : Below W0.heap.size W0 W1 := by rw [hW1]; exact (Below.refl _ _).alloc (Nat.le_refl _) _
  have n2 : W1.heap[w.heap.size + 1 + 1]? = some (.cells #[labP (.inl (.inl { t.h with b := w.heap.size, o := 0 }))] 20 (0, 0)) := by
    have := heap_alloc_new W0 (.cells #[labP (.inl (.inl { t.h with b := w.heap.size, o := 0 }))] 20)
    rw [hz0, ← hW1] at this
    exact this
  have n3 : W1.heap[w.heap.size + 1]? = some (.cells #[.int .i64 0] 3 (0, 0)) := (hb02.block _ (by omega)).trans n1
  have hseq := parts_stops hwh 5 (w.heap.size + 1 + 1) W1 hb01 n2
  have h70 : SI w ps [] W1 := ⟨n3, hb1, by omega⟩
  have hC : w.heap.size ≤ W1.heap.size := by omega
  simp only [TH.cs] at hWa ⊢
  simp only [labP] at hW1
  clear n0 n1 n2 n3 na hb1 hb0 hba d hwh hps hcn hn hb01 hb02
  refine (callsIn_wide (n := 6)).1 ?_
  refine callsIn_of_wp_marks Tryz.func17 rfl trivial ?_ hro
  simp only [Tryz.ntmps17, List.size_toArray, List.length_cons, List.length_nil, Nat.reduceAdd, Nat.reduceSub, Array.replicate_succ, Array.replicate_zero, List.push_toArray, List.append_toArray, List.nil_append, List.cons_append]
  gi_wp2_with (refine ⟨trivial, ?_⟩; gi_at_call 38; refine (parts_in _ _ trivial hro (.inl (.inl { t.h with b := w.heap.size, o := 0 })) _).mono ?_; simp only [labP]; rintro e w7 ⟨rfl, rfl⟩)
  rw [← hWa, ← hW0]
  try simp only [hza, hz0]
  rw [← hW1]
  clear hWa hW0 hW1
  generalize Value.agg #[.slice t.h.ra t.h.rn t.h.rc, .slice t.h.ma t.h.mn t.h.mc, .slice t.h.fa t.h.fn t.h.fc, .slice t.h.ea t.h.en t.h.ec] = tv at *
  refine wpIn_rangeFunc_ownH hro (by omega) (gf := 61) (lb := #[.pointer (some ⟨w.heap.size + 1 + 1, 0, none⟩)]) rfl trivial (enters_of Tryz.func61 (by kernel_rfl) rfl) hseq belowK_t (belowK_b (by omega)) (Below.refl _ _) (fun _ => rfl)
      (SI w ps) (SZ ps) (SI_own w ps hC) (fun c s A A' row hs hg hr => hs)
      h70
      (fun (x : Fin ps.length) (a' : Act) (W : World) => a' = { tmps := #[tv, .pointer (some ⟨w.heap.size, 0, none⟩), .int .i64 0, .pointer (some ⟨w.heap.size + 1, 0, none⟩), labP ps[x], .iface 58 (.pointer (some ⟨w.heap.size, 0, none⟩)), .func (.func 61) #[] #[.pointer (some ⟨w.heap.size + 1 + 1, 0, none⟩)], labP ps[x], undef, undef, undef, undef, undef], defers := [] })
      (fun x a' u A B rw' hs hg hr => hs)
      ?assign ?body ?done ?stop
  case assign =>
    rintro ll pre x W K hi hK
    simp only [encP] at hK ⊢
    generalize labP ps[x] = lp at *
    gi_wp2
    exact hK _ _ (keepsFrom_below (Below.refl _ _)) (Below.refl _ _) hi rfl
  case body =>
    rintro ll pre x a' W hll ⟨rr, hrr⟩ hi rfl hlt
    have HI := hid hi
    have K1 := hid (hasSize_any W ps[x])
    have c0 := cellT hi.1 0
    have f0 := freeT hi.1 0
    simp only [List.getElem?_toArray, List.getElem?_cons_zero] at c0
    have hcl : cnt (pre.map fun x => ps[x]) ≤ 1000000001 := by
      unfold cnt
      have h1 := List.length_filter_le szP (pre.map fun x => ps[x])
      rw [List.length_map] at h1
      omega
    have HC := hid (cnt_snoc (pre.map fun x => ps[x]) ps[x])
    obtain ⟨N, hN⟩ : ∃ N, N = cnt (pre.map fun x => ps[x]) := ⟨_, rfl⟩
    rw [← hN] at c0 hcl HC
    have HN := hid hN
    have hNI : (N : Int) ≤ 1000000001 := by omega
    have HM : Hid ((pre ++ [x]).map (fun x => ps[x]) = pre.map (fun x => ps[x]) ++ [ps[x]]) := hid (by simp)
    clear hseq hi h70 hcl hN
    cases hq : szP ps[x] with
    | true =>
      rw [hq] at K1 HC
      clear hq
      generalize labP ps[x] = lp at *
      gi_wp2_with (refine ⟨trivial, ?_⟩; gi_at_call 39; refine (CallsIn.inRound ll (callsIn_wide.2 (Hid.out K1))).mono ?_; rintro e w8 ⟨rfl, rfl⟩)
      refine ⟨(KeepsOthers.setCell _ _ _).from _, (Below.refl _ _).setCell (p := ⟨w.heap.size + 1, 0, none⟩) (by show _ ≤ w.heap.size + 1; omega) _, ?_, HI.out.2.1.setCell (p := ⟨w.heap.size + 1, 0, none⟩) (by show _ ≤ w.heap.size + 1; omega) _, by simp [World.setCell]; exact HI.out.2.2⟩
      rw [HM.out, HC.out]
      refine (set_cells HI.out.1 _).trans ?_
      simp
    | false =>
      rw [hq] at K1 HC
      clear hq
      generalize labP ps[x] = lp at *
      gi_wp2_with (refine ⟨trivial, ?_⟩; gi_at_call 39; refine (CallsIn.inRound ll (callsIn_wide.2 (Hid.out K1))).mono ?_; rintro e w8 ⟨rfl, rfl⟩)
      refine ⟨keepsFrom_below (Below.refl _ _), Below.refl _ _, ?_, HI.out.2⟩
      rw [HM.out, HC.out, HN.out]
      simpa using HI.out.1
  case done =>
    rintro D' ys W hD rfl hI hK
    have h1 := hI.1
    rw [map_fin] at h1
    have y0 := cellT h1 0
    simp only [List.getElem?_toArray, List.getElem?_cons_zero] at y0
    have HI := hid hI
    have HK := hid hK
    obtain ⟨N, hN⟩ : ∃ N, N = cnt ps := ⟨_, rfl⟩
    rw [← hN] at y0
    have HN := hid hN
    have h10 : Below w.heap.size w (W.putObj D' (.deferred none)) := ownFrom_below (β := Unit) (Nat.le_refl _) (Nat.le_refl _) () _ _ _ hI.2.1 (grownBy_putObj' _ D' (.deferred none)) (fun r e => by cases e; exact ⟨by omega, _, hK, rfl⟩)
    have H10 := hid h10
    clear hseq hI hK h70 h10 h1 hN
    gi_wp2
    refine ⟨by simp, .inl ⟨_, _, rfl, run_takeDeferred HK.out, ?_⟩⟩
    exact ⟨.int .i64 (N : Int), by simp [results, Tryz.results17, go_sem], by rw [HN.out], H10.out⟩
  case stop =>
    rintro D' c pre W hD hp hF hK
    exact hF.elim
end Go.Proofs.YtdfambocenohgaaGreatDoor

namespace Go.Proofs.YtdfambocenohgaaGreatDoor
open Go.RowKit Go.Deep
set_option linter.unusedVariables false
set_option linter.unusedSimpArgs false

theorem lies63 : liesAt Tryz.prog Tryz.prog.depth 63 (4 / Tryz.prog.cellsOf 63) 0 61 1 = true := by kernel_rfl
theorem info61 : (Tryz.prog.info? 61).map (fun i => i.size) = some 2 := by kernel_rfl
set_option maxRecDepth 100000 in
theorem copy_none (w : World) (b : Nat) (v o m : Value) (h : w.heap[b]? = some (.cells #[.pointer none, v, o, m] 63 (0, 0))) : Calls Tryz.prog 129 #[.pointer (some ⟨b, 0, none⟩)] w fun e w' => e = .returned (.tuple #[]) ∧ w' = w.setCell ⟨b, 0, none⟩ (.pointer (some ⟨b, 0, none⟩)) := by
  have c0 := cellT h 0
  have f0 := freeT h 0
  have hsh : w.shape? b = some (63, 4) := by simp [World.shape?, h]
  obtain ⟨j, hj, hjs⟩ := Option.map_eq_some_iff.1 info61
  simp only [List.getElem?_toArray, List.getElem?_cons_zero] at c0
  go_enter Tryz.func129, Tryz.ntmps129
  go_wp2
  rw [Lib.run_to_unsafe w ⟨b, 0, none⟩ Tryz.underlying59 Tryz.underlying172 hj (by rw [hjs]; decide) hsh (Nat.zero_lt_succ 3)]
  simp only [Result.andThen]
  rw [Oper.upon_value]
  go_wp2
  rw [run_callFunc_extern Tryz.func138 (by kernel_rfl) (by kernel_rfl) (by kernel_rfl) (e := Extern.AbiNoEscape.same) (by kernel_rfl)]
  rw [Lib.run_noEscape]
  simp only [Result.andThen]
  rw [Oper.upon_value]
  go_wp2
  rw [Lib.run_from_unsafe w ⟨b, 0, none⟩ Tryz.underlying172 Tryz.underlying59 hj hsh lies63]
  simp only [Result.andThen]
  rw [Oper.upon_value]
  go_wp2
  go_end0
  exact ⟨rfl, rfl⟩
set_option maxRecDepth 100000 in
theorem copy_self (w : World) (b : Nat) (v o m : Value) (h : w.heap[b]? = some (.cells #[.pointer (some ⟨b, 0, none⟩), v, o, m] 63 (0, 0))) : Calls Tryz.prog 129 #[.pointer (some ⟨b, 0, none⟩)] w fun e w' => e = .returned (.tuple #[]) ∧ w' = w := by
  have c0 := cellT h 0
  obtain ⟨j, hj, hjs⟩ := Option.map_eq_some_iff.1 info61
  simp only [List.getElem?_toArray, List.getElem?_cons_zero] at c0
  go_enter Tryz.func129, Tryz.ntmps129
  go_wp2
  rw [Lib.run_neq_ptr_same w _ Tryz.underlying59 hj]
  go_wp2
  go_end0
  exact ⟨rfl, rfl⟩
/- Rows of bytes. -/
def BRow (w : World) (B : Nat) (v : Value) (l : List UInt8) : Prop := w.ownsRow B 5 1 v l.length (Lib.byteCells l)
theorem BRow.nil (w : World) (B : Nat) : BRow w B (.slice none 0 0) [] := World.ownsRow_nil w B 5 1
theorem BRow.own {w : World} {B : Nat} {v : Value} {l : List UInt8} (h : BRow w B v l) : ∀ k, v.ownBlock = some k → B ≤ k ∧ k < w.heap.size := World.ownsRow.lt h
theorem BRow.same {w w' : World} {B : Nat} {v : Value} {l : List UInt8} (h : BRow w B v l) (e : ∀ g, v.ownBlock = some g → w'.heap[g]? = w.heap[g]?) : BRow w' B v l := by
  refine ⟨h.1, ?_⟩
  rcases h.2 with hn | ⟨g, cap, cur, rfl, hb, hgg, rest⟩
  · exact .inl hn
  · exact .inr ⟨g, cap, cur, rfl, hb, (e g rfl).trans hgg, rest⟩
theorem BRow.cells {w : World} {B : Nat} {v : Value} {l : List UInt8} (h : BRow w B v l) {g : Nat} (e : v.ownBlock = some g) : ∃ cur, w.heap[g]? = some (.cells cur 5 (0, 0)) := by
  rcases h.2 with ⟨rfl, _⟩ | ⟨g', cap, cur, rfl, hb, hgg, rest⟩
  · cases e
  · cases e; exact ⟨_, hgg⟩
theorem BRow.form {w : World} {B : Nat} {v : Value} {l : List UInt8} (h : BRow w B v l) : ∃ a cap, v = .slice a l.length cap := by
  rcases h.2 with ⟨rfl, hn⟩ | ⟨g, cap, cur, rfl, hb, hgg, hc, rest⟩
  · exact ⟨none, 0, by rw [hn]⟩
  · exact ⟨_, _, rfl⟩
theorem info5 : (Tryz.prog.info? 5).map (fun i => (i.zero, i.size, i.bytes)) = some (some (.int .u8 0), 1, 1) := by kernel_rfl
theorem run_appS (w : World) (ty : TypeId) (B : Nat) (v : Value) (l : List UInt8) (s : ByteArray) (h : BRow w B v l) (hB : B ≤ w.heap.size) (hl : l.length ≤ 1099511627776) (hl2 : s.size ≤ 1099511627776) :
    ∃ v' w', (Builtin.append_ #[44, 9] ty #[v, .string s]).run Tryz.prog w = .ok v' w' ∧ BRow w' B v' (l ++ s.data.toList) ∧ w.grownBy w' v.ownBlock := by
  obtain ⟨i0, hi, hz⟩ := Option.map_eq_some_iff.1 info5
  simp only [Prod.mk.injEq] at hz
  obtain ⟨hz0, hz1, hz2⟩ := hz
  obtain ⟨v', w', hrun, hown, hg, hiff⟩ := Lib.run_append_own_string (P := Tryz.prog) w B 44 9 ty 5 i0 Tryz.underlying44 Tryz.underlying9 hi hz0 hz1 hz2 v l.length (Lib.byteCells l) h s (by unfold maxLen; omega) (by omega) hB
  refine ⟨v', w', hrun, ?_, hg⟩
  unfold BRow
  have e1 : (l ++ s.data.toList).length = l.length + s.size := by rw [List.length_append, Lib.size_eq]
  have e2 : Lib.byteCells (l ++ s.data.toList) = Lib.byteCells l ++ Lib.strCells s := by rw [Lib.strCells_eq]; simp [Lib.byteCells]
  rw [e1, e2]
  exact hown
theorem wpList_appS {ops : Array Oper} {rest : List Oper} {o : Oper} {a : Act} {Q : Exit → Act → World → Prop} (w : World) (hgd : o.guard = none) (sl x : Operand)
    (ho : o.op = .call { callee := .builtin .append, args := #[sl, x], argTypes := #[44, 9] }) (v : Value) (s : ByteArray) (hs : a.eval sl = v) (hx : a.eval x = .string s)
    (B : Nat) (l : List UInt8) (h : BRow w B v l) (hB : B ≤ w.heap.size) (hl : l.length ≤ 1099511627776) (hl2 : s.size ≤ 1099511627776)
    (k : ∀ v' w', BRow w' B v' (l ++ s.data.toList) → w.grownBy w' v.ownBlock → wpList Tryz.prog ops Q rest (a.put o.dst v') w') :
    wpList Tryz.prog ops Q (o :: rest) a w := by
  refine wpList_plain hgd fun K hK => ?_
  obtain ⟨v', w', hr, h2, h3⟩ := run_appS w o.type B v l s h hB hl hl2
  unfold Oper.wp execOp
  simp only [ho, resolve, invoke, builtin, Sem.run_bind, Sem.run_pure, Result.andThen_ok, List.map_toArray, List.map_cons, List.map_nil, hs, hx, hr]
  exact hK _ _ (k v' w' h2 h3)
/- The printer at block b: what is written, what is open, the most. -/
structure Prn (w : World) (B b : Nat) (l : List UInt8) (op mo : Nat) : Prop where
  ge : B ≤ b
  ex : ∃ p v, (p = .pointer none ∨ p = .pointer (some ⟨b, 0, none⟩)) ∧ w.heap[b]? = some (.cells #[p, v, .int .i64 (op : Int), .int .i64 (mo : Int)] 63 (0, 0)) ∧ BRow w B v l
/- What a writing call leaves as it is: all that is no row of bytes, but for the printer. -/
def Kpt (B b : Nat) (w w' : World) : Prop := Below B w w' ∧ ∀ (k : Nat) (c : Array Value) (t : TypeId), k ≠ b → t ≠ 5 → w.heap[k]? = some (.cells c t (0, 0)) → w'.heap[k]? = some (.cells c t (0, 0))
theorem Kpt.refl (B b : Nat) (w : World) : Kpt B b w w := ⟨Below.refl _ _, fun _ _ _ _ _ h => h⟩
theorem Kpt.trans {B b : Nat} {x y z : World} (h : Kpt B b x y) (k : Kpt B b y z) : Kpt B b x z := ⟨h.1.trans k.1, fun n c t h1 h2 h3 => k.2 n c t h1 h2 (h.2 n c t h1 h2 h3)⟩
theorem Kpt.below {B b : Nat} {x y : World} (h : Below x.heap.size x y) (hB : B ≤ x.heap.size) : Kpt B b x y := ⟨h.mono hB, fun n c t _ _ h3 => (h.block n (Array.getElem?_eq_some_iff.1 h3).1).trans h3⟩
theorem Prn.below {w w' : World} {B b : Nat} {l : List UInt8} {op mo : Nat} (h : Prn w B b l op mo) (k : Below w.heap.size w w') : Prn w' B b l op mo := by
  obtain ⟨hge, p, v, hp, hb, hr⟩ := h
  exact ⟨hge, p, v, hp, (k.block _ (Array.getElem?_eq_some_iff.1 hb).1).trans hb, hr.same fun g e => k.block g (hr.own g e).2⟩
theorem Prn.lt {w : World} {B b : Nat} {l : List UInt8} {op mo : Nat} (h : Prn w B b l op mo) : b < w.heap.size := by
  obtain ⟨hge, p, v, hp, hb, hr⟩ := h
  exact (Array.getElem?_eq_some_iff.1 hb).1
theorem row_ne {w : World} {B b : Nat} {c : Array Value} {v : Value} {l : List UInt8} (hb : w.heap[b]? = some (.cells c 63 (0, 0))) (hr : BRow w B v l) : ∀ g, v.ownBlock = some g → g ≠ b := by
  rintro g e rfl
  obtain ⟨cur, hc⟩ := hr.cells e
  rw [hb] at hc; cases hc
theorem four_set {w : World} {b : Nat} {c : Array Value} {t : TypeId} {f : Nat × Nat} (h : w.heap[b]? = some (.cells c t f)) (i : Nat) (u : Value) : (w.setCell ⟨b, i, none⟩ u).heap[b]? = some (.cells (c.setIfInBounds i u) t f) := by
  simp [World.setCell, Array.getElem?_modify, h]
theorem Prn.kept {w : World} {B b : Nat} {p v o m : Value} {l : List UInt8} (hge : B ≤ b) (hb : w.heap[b]? = some (.cells #[p, v, o, m] 63 (0, 0))) (i : Nat) (u : Value) : Kpt B b w (w.setCell ⟨b, i, none⟩ u) :=
  ⟨(Below.refl B w).setCell (p := ⟨b, i, none⟩) hge _, fun k c t h1 _ h3 => (Below.heap_setCell _ _ _ _ h1).trans h3⟩
theorem BRow.setB {w : World} {B b : Nat} {c : Array Value} {v : Value} {l : List UInt8} (hb : w.heap[b]? = some (.cells c 63 (0, 0))) (hr : BRow w B v l) (i : Nat) (u : Value) : BRow (w.setCell ⟨b, i, none⟩ u) B v l :=
  hr.same fun g e => Below.heap_setCell _ _ _ _ (row_ne hb hr g e)
theorem copy_any (w : World) (B b : Nat) (p v o m : Value) (l : List UInt8) (hge : B ≤ b) (hp : p = .pointer none ∨ p = .pointer (some ⟨b, 0, none⟩)) (hb : w.heap[b]? = some (.cells #[p, v, o, m] 63 (0, 0))) (hr : BRow w B v l) :
    Calls Tryz.prog 129 #[.pointer (some ⟨b, 0, none⟩)] w fun e w' => e = .returned (.tuple #[]) ∧ w'.heap[b]? = some (.cells #[.pointer (some ⟨b, 0, none⟩), v, o, m] 63 (0, 0)) ∧ BRow w' B v l ∧ Kpt B b w w' ∧ w.heap.size ≤ w'.heap.size := by
  rcases hp with rfl | rfl
  · refine (copy_none w b v o m hb).mono ?_
    rintro e w' ⟨rfl, rfl⟩
    exact ⟨rfl, four_set hb 0 _, hr.setB hb 0 _, Prn.kept (l := l) hge hb 0 _, by simp [World.setCell]⟩
  · refine (copy_self w b v o m hb).mono ?_
    rintro e w' ⟨rfl, rfl⟩
    exact ⟨rfl, hb, hr, Kpt.refl _ _ _, Nat.le_refl _⟩
set_option maxRecDepth 100000 in
theorem ws_any (w : World) (B b : Nat) (l : List UInt8) (op mo : Nat) (h : Prn w B b l op mo) (s : ByteArray) (hB : B ≤ w.heap.size) (hl : l.length + s.size ≤ 1000000000) :
    Calls Tryz.prog 122 #[.pointer (some ⟨b, 0, none⟩), .string s] w fun e w' => e = .returned (.tuple #[.int .i64 s.size, .nilIface]) ∧ Prn w' B b (l ++ s.data.toList) op mo ∧ Kpt B b w w' := by
  obtain ⟨hge, p, v, hp, hb, hr⟩ := h
  have K := hid (copy_any w B b p v _ _ l hge hp hb hr)
  have hs9 : (s.size : Int) ≤ 1000000000 := by omega
  have HL := hid hl
  obtain ⟨a, cap, rfl⟩ := hr.form
  clear hr hb hp
  go_enter Tryz.func122, Tryz.ntmps122
  go_wp2_with (first
    | (go_at_call 129; (refine (Hid.out K).mono ?_; rintro e w1 ⟨rfl, hb1, hr1, hk1, hs1⟩; have c1 := cellT hb1 1; simp only [List.getElem?_toArray, List.getElem?_cons_zero, List.getElem?_cons_succ] at c1; have HR := hid hr1; have HB := hid hb1; have HK := hid hk1; have HS := hid hs1; clear hr1 hb1 hk1 hs1))
    | (at_builtin; refine wpList_appS _ rfl _ _ rfl _ _ (by rfl) (by rfl) B l HR.out (Nat.le_trans hB HS.out) (by omega) (by omega) ?_; intro v2 w2 hr2 hg2; have hb2 : w2.heap[b]? = _ := (hg2.block b (Array.getElem?_eq_some_iff.1 HB.out).1 (fun e => row_ne HB.out HR.out b e.symm rfl)).trans HB.out; have d1 := cellT hb2 1; have f1 := freeT hb2 1; simp only [List.getElem?_toArray, List.getElem?_cons_zero, List.getElem?_cons_succ] at d1; obtain ⟨a2, cap2, rfl⟩ := hr2.form; have HR2 := hid hr2; have HG2 := hid hg2; have HB2 := hid hb2; clear hr2 hg2 hb2))
  refine bodyPost_ret (v := .tuple #[.int .i64 s.size, .nilIface]) (by simp [results, Tryz.results122, go_sem]) rfl ?_
  have e1 : (l ++ s.data.toList).length = l.length + s.size := by rw [List.length_append, Lib.size_eq]
  rw [← e1]
  refine ⟨rfl, ⟨hge, _, _, .inr rfl, four_set HB2.out 1 _, HR2.out.setB HB2.out 1 _⟩, HK.out.trans (Kpt.trans (y := w2) ⟨?_, ?_⟩ (Prn.kept (l := l) hge HB2.out 1 _))⟩
  · exact (Below.refl B w1).grown HG2.out (Nat.le_trans hB HS.out) (fun k e => (HR.out.own k e).1)
  · intro k c t h1 h2 h3
    refine (HG2.out.block k (Array.getElem?_eq_some_iff.1 h3).1 (fun e => ?_)).trans h3
    obtain ⟨cur, hc⟩ := HR.out.cells e.symm
    rw [h3] at hc; cases hc; exact h2 rfl
def catL (ts : List ByteArray) : List UInt8 := ts.flatMap fun t => t.data.toList
theorem catL_take {ts : List ByteArray} {i : Nat} {t : ByteArray} (h : ts[i]? = some t) : catL (ts.take (i + 1)) = catL (ts.take i) ++ t.data.toList := by
  unfold catL
  rw [List.take_add_one, h, List.flatMap_append]; simp
theorem catL_le {ts : List ByteArray} (i : Nat) : (catL (ts.take i)).length ≤ (catL ts).length := by
  have : catL ts = catL (ts.take i) ++ catL (ts.drop i) := by unfold catL; rw [← List.flatMap_append, List.take_append_drop]
  rw [this, List.length_append]; omega
set_option maxRecDepth 100000 in
set_option maxHeartbeats 1000000 in
theorem write_any (w : World) (B b : Nat) (l : List UInt8) (op mo : Nat) (h : Prn w B b l op mo) (X n cap : Nat) (ts : List ByteArray) (hX : X ≠ b) (hx : w.heap[X]? = some (.cells (ts.map Value.string).toArray 9 (0, 0))) (hn : n = ts.length) (hn1 : n ≤ 100) (hB : B ≤ w.heap.size) (hl : l.length + (catL ts).length ≤ 1000000000) :
    Calls Tryz.prog 99 #[.pointer (some ⟨b, 0, none⟩), .slice (some ⟨X, 0, none⟩) n cap] w fun e w' => e = .returned (.tuple #[]) ∧ Prn w' B b (l ++ catL ts) op mo ∧ Kpt B b w w' := by
  have hnI : (n : Int) ≤ 100 := by omega
  have HP := hid h
  have HXb := hid hx
  have HN := hid hn
  have HL := hid hl
  clear h hx hn hl
  go_enter Tryz.func99, Tryz.ntmps99
  go_wp2
  go_loopg [8] n (fun g x wr => ∃ i : Nat, i + g = n ∧ x = .int .i64 (i : Int) ∧ Prn wr B b (l ++ catL (ts.take i)) op mo ∧ Kpt B b w wr)
  case atStart => exact ⟨0, by omega, rfl, by simpa [catL] using HP.out, Kpt.refl _ _ _⟩
  case round =>
    obtain ⟨i, hi, rfl, hp, hk⟩ := hrel
    cases gk with
    | zero =>
      have hin : i = n := by omega
      subst hin
      clear hi
      go_wp2
      go_end0
      rw [HN.out, List.take_of_length_le (Nat.le_refl _)] at hp
      exact ⟨rfl, hp, hk⟩
    | succ g =>
      have hil : (i : Int) < (n : Int) := by omega
      have hi0 : (0 : Int) ≤ (i : Int) := by omega
      obtain ⟨t, ht⟩ : ∃ t, ts[i]? = some t := ⟨ts[i]'(by rw [← HN.out]; omega), List.getElem?_eq_getElem _⟩
      have hc := cellT (hk.2 X _ 9 hX (by decide) HXb.out) i
      have hc2 : wr.cell? ⟨X, i, none⟩ = some (.string t) := by rw [hc]; simp [ht]
      have hlen : (l ++ catL (ts.take i)).length + t.size ≤ 1000000000 := by
        have h1 := catL_le (ts := ts) (i + 1)
        rw [catL_take ht, List.length_append, ← Lib.size_eq] at h1
        have := HL.out
        rw [List.length_append]; omega
      have K := hid (ws_any wr B b _ op mo hp t (Nat.le_trans hB hk.1.size) hlen)
      have HK := hid hk
      have HT := hid (catL_take ht)
      have Hi := hid hi
      clear hp hk hc ht hlen hi
      go_wp2_with (go_at_call 122; (refine (Hid.out K).mono ?_; rintro e w1 ⟨rfl, hp1, hk1⟩))
      go_roundg g
      case measure => omega
      case rel => exact ⟨i + 1, by have := Hi.out; omega, by go_num, by rw [HT.out, ← List.append_assoc]; exact hp1, HK.out.trans hk1⟩
end Go.Proofs.YtdfambocenohgaaGreatDoor

namespace Go.Proofs.YtdfambocenohgaaGreatDoor
open Go.RowKit Go.Deep
set_option linter.unusedVariables false
set_option linter.unusedSimpArgs false

theorem max2_run (t : TypeId) (ts : Array TypeId) (a b : Nat) (w : World) : (Builtin.max_ ts t #[.int .i64 (a : Int), .int .i64 (b : Int)]).run Tryz.prog w = .ok (.int .i64 ((max a b : Nat) : Int)) w := by
  simp [Builtin.max_, List.foldlM, max2_nat]
/- What a printing call leaves: m more bytes, so many open, the most. -/
def PrP (w : World) (B b : Nat) (m : List UInt8) (op mo : Nat) (e : Ending) (w' : World) : Prop := e = .returned (.tuple #[]) ∧ Prn w' B b m op mo ∧ Kpt B b w w'
theorem Prn.num {w : World} {B b : Nat} {l : List UInt8} {op mo : Nat} (h : Prn w B b l op mo) (op' : Nat) : Prn (w.setCell ⟨b, 2, none⟩ (.int .i64 (op' : Int))) B b l op' mo ∧ Kpt B b w (w.setCell ⟨b, 2, none⟩ (.int .i64 (op' : Int))) := by
  obtain ⟨hge, p, v, hp, hb, hr⟩ := h
  exact ⟨⟨hge, p, v, hp, four_set hb 2 _, hr.setB hb 2 _⟩, Prn.kept (l := l) hge hb 2 _⟩
theorem Prn.most {w : World} {B b : Nat} {l : List UInt8} {op mo : Nat} (h : Prn w B b l op mo) (mo' : Nat) : Prn (w.setCell ⟨b, 3, none⟩ (.int .i64 (mo' : Int))) B b l op mo' ∧ Kpt B b w (w.setCell ⟨b, 3, none⟩ (.int .i64 (mo' : Int))) := by
  obtain ⟨hge, p, v, hp, hb, hr⟩ := h
  exact ⟨⟨hge, p, v, hp, four_set hb 3 _, hr.setB hb 3 _⟩, Prn.kept (l := l) hge hb 3 _⟩
theorem Prn.cells {w : World} {B b : Nat} {l : List UInt8} {op mo : Nat} (h : Prn w B b l op mo) : (w.cell? ⟨b, 2, none⟩ = some (.int .i64 (op : Int)) ∧ w.cell? ⟨b, 3, none⟩ = some (.int .i64 (mo : Int))) ∧ (w.frozen? ⟨b, 2, none⟩ = false ∧ w.frozen? ⟨b, 3, none⟩ = false) := by
  obtain ⟨hge, p, v, hp, hb, hr⟩ := h
  exact ⟨⟨cellT hb 2, cellT hb 3⟩, freeT hb 2, freeT hb 3⟩
theorem Prn.drew {w : World} {B b : Nat} {l : List UInt8} {op mo : Nat} (h : Prn w B b l op mo) : Prn w.drew B b l op mo := ⟨h.ge, h.ex⟩
set_option maxRecDepth 100000 in
set_option maxHeartbeats 1000000 in
theorem enter_any (w : World) (B b : Nat) (l : List UInt8) (op mo : Nat) (h : Prn w B b l op mo) (ho : op ≤ 1000000000) (hmo : mo ≤ 1000000000) (X n cap : Nat) (ts : List ByteArray) (hX : X ≠ b) (hx : w.heap[X]? = some (.cells (ts.map Value.string).toArray 9 (0, 0))) (hn : n = ts.length) (hn1 : n ≤ 100) (hB : B ≤ w.heap.size) (hl : l.length + (catL ts).length ≤ 1000000000) :
    Calls Tryz.prog 106 #[.pointer (some ⟨b, 0, none⟩), .slice (some ⟨X, 0, none⟩) n cap] w (PrP w B b (l ++ catL ts) (op + 1) (max mo (op + 1))) := by
  have K := hid (write_any w B b l op mo h X n cap ts hX hx hn hn1 hB hl)
  have hoI : (op : Int) ≤ 1000000000 := by omega
  obtain ⟨O, hO⟩ : ∃ O, O = op + 1 := ⟨_, rfl⟩
  obtain ⟨M, hM⟩ : ∃ M, M = max mo O := ⟨_, rfl⟩
  rw [← hO, ← hM]
  have KM : ∀ (t : TypeId) (ts : Array TypeId) (w : World), (Builtin.max_ ts t #[.int .i64 (mo : Int), .int .i64 (O : Int)]).run Tryz.prog w = .ok (.int .i64 (M : Int)) w := fun t ts w => by rw [hM]; exact max2_run t ts mo O w
  have HO := hid hO
  clear h hx hl hn hM hO
  go_enter Tryz.func106, Tryz.ntmps106
  go_upto_region 2 with (go_at_call 99; (refine (Hid.out K).mono ?_; rintro e w1 ⟨rfl, hp1, hk1⟩; have hcc := hp1.cells; obtain ⟨⟨c2, c3⟩, f2, f3⟩ := hcc; have HP := hid hp1; have HK := hid hk1; clear hp1 hk1))
  obtain ⟨hp2, hk2⟩ := HP.out.num O
  obtain ⟨W, hW⟩ : ∃ W, W = w1.setCell ⟨b, 2, none⟩ (.int .i64 (O : Int)) := ⟨_, rfl⟩
  have hWr : ∀ x : Int, x = (O : Int) → w1.setCell ⟨b, 2, none⟩ (.int .i64 x) = W := fun x e => by rw [hW, e]
  rw [hWr _ (by have := HO.out; omega)]
  rw [← hW] at hp2 hk2
  obtain ⟨⟨d2, d3⟩, g2, g3⟩ := hp2.cells
  have HP2 := hid hp2
  have HK2 := hid (HK.out.trans hk2)
  have D2 := hid ((HP2.out.drew).most M).1.cells.1.1
  clear hp2 hk2 hW hWr c2 c3 f2 f3 HP HK
  refine wp_region_held_drew (S := fun W' => W'.cell? ⟨b, 2, none⟩ = some (.int .i64 (O : Int))) (by kernel_rfl) d2 (fun hHeld => ?_)
  refine wpAnyH_take (i := 0) (oi := ({ dst := some 14, op := Go.Op.move (Go.Operand.tmp 0), type := 55, pos := "print.go:48", after := #[], guard := none } : Oper)) (v := .pointer (some ⟨b, 0, none⟩)) rfl (by kernel_rfl) (by kernel_rfl) (by kernel_rfl) (fun _ _ _ h => h) (Or.inl ⟨by rfl, ?_⟩) (by assumption) ?_
  · intro w hSw; (try dsimp only at hSw); go_simp
  try simp only [Act.put, List.setIfInBounds_toArray, List.set_cons_zero, List.set_cons_succ]
  refine wpAnyH_take (i := 1) (oi := ({ dst := some 15, op := Go.Op.move (Go.Operand.tmp 0), type := 55, pos := "print.go:48", after := #[], guard := none } : Oper)) (v := .pointer (some ⟨b, 0, none⟩)) rfl (by kernel_rfl) (by kernel_rfl) (by kernel_rfl) (fun _ _ _ h => h) (Or.inl ⟨by rfl, ?_⟩) (by assumption) ?_
  · intro w hSw; (try dsimp only at hSw); go_simp
  try simp only [Act.put, List.setIfInBounds_toArray, List.set_cons_zero, List.set_cons_succ]
  refine wpAnyH_take (i := 2) (oi := ({ dst := some 16, op := Go.Op.nilCheck (Go.Operand.tmp 15), type := 0, pos := "print.go:48", after := #[{ on := 1, ground := Go.Ground.data }], guard := none } : Oper)) (v := .pointer (some ⟨b, 0, none⟩)) rfl (by kernel_rfl) (by kernel_rfl) (by kernel_rfl) (fun _ _ _ h => h) (Or.inl ⟨by rfl, ?_⟩) (by assumption) ?_
  · intro w hSw; (try dsimp only at hSw); go_simp
  try simp only [Act.put, List.setIfInBounds_toArray, List.set_cons_zero, List.set_cons_succ]
  refine wpAnyH_take (i := 3) (oi := ({ dst := some 17, op := Go.Op.fieldAddr 63 (Go.Operand.tmp 16) 2, type := 0, pos := "print.go:48", after := #[{ on := 2, ground := Go.Ground.data }], guard := none } : Oper)) (v := .pointer (some ⟨b, 3, none⟩)) rfl (by kernel_rfl) (by kernel_rfl) (by kernel_rfl) (fun _ _ _ h => h) (Or.inl ⟨by rfl, ?_⟩) (by assumption) ?_
  · intro w hSw; (try dsimp only at hSw); go_simp
  try simp only [Act.put, List.setIfInBounds_toArray, List.set_cons_zero, List.set_cons_succ]
  refine wpAnyH_take (i := 5) (oi := ({ dst := some 19, op := Go.Op.move (Go.Operand.tmp 0), type := 55, pos := "print.go:48", after := #[], guard := none } : Oper)) (v := .pointer (some ⟨b, 0, none⟩)) rfl (by kernel_rfl) (by kernel_rfl) (by kernel_rfl) (fun _ _ _ h => h) (Or.inl ⟨by rfl, ?_⟩) (by assumption) ?_
  · intro w hSw; (try dsimp only at hSw); go_simp
  try simp only [Act.put, List.setIfInBounds_toArray, List.set_cons_zero, List.set_cons_succ]
  refine wpAnyH_take (i := 6) (oi := ({ dst := some 20, op := Go.Op.nilCheck (Go.Operand.tmp 19), type := 0, pos := "print.go:48", after := #[{ on := 5, ground := Go.Ground.data }], guard := none } : Oper)) (v := .pointer (some ⟨b, 0, none⟩)) rfl (by kernel_rfl) (by kernel_rfl) (by kernel_rfl) (fun _ _ _ h => h) (Or.inl ⟨by rfl, ?_⟩) (by assumption) ?_
  · intro w hSw; (try dsimp only at hSw); go_simp
  try simp only [Act.put, List.setIfInBounds_toArray, List.set_cons_zero, List.set_cons_succ]
  refine wpAnyH_take (i := 7) (oi := ({ dst := some 21, op := Go.Op.fieldAddr 63 (Go.Operand.tmp 20) 1, type := 0, pos := "print.go:48", after := #[{ on := 6, ground := Go.Ground.data }], guard := none } : Oper)) (v := .pointer (some ⟨b, 2, none⟩)) rfl (by kernel_rfl) (by kernel_rfl) (by kernel_rfl) (fun _ _ _ h => h) (Or.inl ⟨by rfl, ?_⟩) (by assumption) ?_
  · intro w hSw; (try dsimp only at hSw); go_simp
  try simp only [Act.put, List.setIfInBounds_toArray, List.set_cons_zero, List.set_cons_succ]
  refine wpAnyH_take (i := 8) (oi := ({ dst := some 22, op := Go.Op.load 3 (Go.Operand.tmp 21), type := 3, pos := "print.go:48", after := #[{ on := 7, ground := Go.Ground.data }], guard := none } : Oper)) (v := .int .i64 (O : Int)) rfl (by kernel_rfl) (by kernel_rfl) (by kernel_rfl) (fun _ _ _ h => h) (Or.inl ⟨by rfl, ?_⟩) (by assumption) ?_
  · intro w hSw; (try dsimp only at hSw); go_simp
  try simp only [Act.put, List.setIfInBounds_toArray, List.set_cons_zero, List.set_cons_succ]
  refine wpAnyH_ready (rs := [4]) (by kernel_rfl) (by simp) ?_
  refine AllReadyH.cons (o := ({ dst := some 18, op := Go.Op.load 3 (Go.Operand.tmp 17), type := 3, pos := "print.go:48", after := #[{ on := 3, ground := Go.Ground.data }], guard := none } : Oper)) rfl (fun K hK => ?_) AllReadyH.nil
  go_simp
  refine hK.out _ _ d2 (fun hHeldN => ?_)
  clear hK K hHeld
  have hHeld := hHeldN
  clear hHeldN
  try simp only [Act.put, List.setIfInBounds_toArray, List.set_cons_zero, List.set_cons_succ]
  refine wpAnyH_take (i := 9) (oi := ({ dst := some 23, op := Go.Op.call { callee := Go.Callee.builtin Go.Builtin.max, args := #[Go.Operand.tmp 18, Go.Operand.tmp 22], argTypes := #[3, 3] }, type := 3, pos := "print.go:48", after := #[{ on := 4, ground := Go.Ground.data }, { on := 8, ground := Go.Ground.data }], guard := none } : Oper)) (v := .int .i64 (M : Int)) rfl (by kernel_rfl) (by kernel_rfl) (by kernel_rfl) (fun _ _ _ h => h) (Or.inl ⟨by rfl, ?_⟩) (by assumption) ?_
  · intro w hSw; (try dsimp only at hSw); go_simp
  try simp only [Act.put, List.setIfInBounds_toArray, List.set_cons_zero, List.set_cons_succ]
  refine wpAnyH_take (i := 10) (oi := ({ dst := some 24, op := Go.Op.nilCheck (Go.Operand.tmp 14), type := 0, pos := "print.go:48", after := #[{ on := 0, ground := Go.Ground.data }, { on := 0, ground := Go.Ground.phase }, { on := 1, ground := Go.Ground.phase }, { on := 2, ground := Go.Ground.phase }, { on := 3, ground := Go.Ground.phase }, { on := 4, ground := Go.Ground.phase }, { on := 5, ground := Go.Ground.phase }, { on := 6, ground := Go.Ground.phase }, { on := 7, ground := Go.Ground.phase }, { on := 8, ground := Go.Ground.phase }, { on := 9, ground := Go.Ground.phase }], guard := none } : Oper)) (v := .pointer (some ⟨b, 0, none⟩)) rfl (by kernel_rfl) (by kernel_rfl) (by kernel_rfl) (fun _ _ _ h => h) (Or.inl ⟨by rfl, ?_⟩) (by assumption) ?_
  · intro w hSw; (try dsimp only at hSw); go_simp
  try simp only [Act.put, List.setIfInBounds_toArray, List.set_cons_zero, List.set_cons_succ]
  refine wpAnyH_take (i := 11) (oi := ({ dst := some 25, op := Go.Op.fieldAddr 63 (Go.Operand.tmp 24) 2, type := 0, pos := "print.go:48", after := #[{ on := 10, ground := Go.Ground.data }, { on := 0, ground := Go.Ground.phase }, { on := 1, ground := Go.Ground.phase }, { on := 2, ground := Go.Ground.phase }, { on := 3, ground := Go.Ground.phase }, { on := 4, ground := Go.Ground.phase }, { on := 5, ground := Go.Ground.phase }, { on := 6, ground := Go.Ground.phase }, { on := 7, ground := Go.Ground.phase }, { on := 8, ground := Go.Ground.phase }, { on := 9, ground := Go.Ground.phase }], guard := none } : Oper)) (v := .pointer (some ⟨b, 3, none⟩)) rfl (by kernel_rfl) (by kernel_rfl) (by kernel_rfl) (fun _ _ _ h => h) (Or.inl ⟨by rfl, ?_⟩) (by assumption) ?_
  · intro w hSw; (try dsimp only at hSw); go_simp
  try simp only [Act.put, List.setIfInBounds_toArray, List.set_cons_zero, List.set_cons_succ]
  refine wpAnyH_ready (rs := [12]) (by kernel_rfl) (by simp) ?_
  refine AllReadyH.cons (o := ({ dst := none, op := Go.Op.store 3 (Go.Operand.tmp 25) (Go.Operand.tmp 23), type := 0, pos := "print.go:48", after := #[{ on := 11, ground := Go.Ground.data }, { on := 9, ground := Go.Ground.data }, { on := 0, ground := Go.Ground.phase }, { on := 1, ground := Go.Ground.phase }, { on := 2, ground := Go.Ground.phase }, { on := 3, ground := Go.Ground.phase }, { on := 4, ground := Go.Ground.phase }, { on := 5, ground := Go.Ground.phase }, { on := 6, ground := Go.Ground.phase }, { on := 7, ground := Go.Ground.phase }, { on := 8, ground := Go.Ground.phase }, { on := 9, ground := Go.Ground.phase }], guard := none } : Oper)) rfl (fun K hK => ?_) AllReadyH.nil
  go_simp
  refine hK.out _ _ D2.out (fun hHeldN => ?_)
  clear hK K hHeld
  have hHeld := hHeldN
  clear hHeldN
  try simp only [Act.put, List.setIfInBounds_toArray, List.set_cons_zero, List.set_cons_succ]
  refine wpAnyH_done (by kernel_rfl) ?_ _
  go_wp2
  go_end0
  exact ⟨rfl, ((HP2.out).most M).1.drew, HK2.out.trans (((HP2.out).most M).2.trans (Kpt.below ((Below.refl _ _).drew) (by simp [World.setCell]; exact Nat.le_trans hB HK2.out.1.size)))⟩
end Go.Proofs.YtdfambocenohgaaGreatDoor

namespace Go.Proofs.YtdfambocenohgaaGreatDoor
open Go.RowKit Go.Deep
set_option linter.unusedVariables false
set_option linter.unusedSimpArgs false

theorem PrP.of {w W : World} {B b : Nat} {m : List UInt8} {op mo : Nat} {e : Ending} {w' : World} (hB : B ≤ w.heap.size) (hb : Below w.heap.size w W) (h : PrP W B b m op mo e w') : PrP w B b m op mo e w' := ⟨h.1, h.2.1, (Kpt.below hb hB).trans h.2.2⟩
theorem write_new (w : World) (B b : Nat) (l : List UInt8) (op mo : Nat) (h : Prn w B b l op mo) (ts : List ByteArray) (n : Nat) (hn : n = ts.length) (hn1 : n ≤ 100) (hB : B ≤ w.heap.size) (hl : l.length + (catL ts).length ≤ 1000000000) :
    Calls Tryz.prog 99 #[.pointer (some ⟨b, 0, none⟩), .slice (some ⟨w.heap.size, 0, none⟩) n n] (w.alloc (.cells (ts.map Value.string).toArray 9)) (PrP w B b (l ++ catL ts) op mo) := by
  have hb := (Below.refl w.heap.size w).alloc (Nat.le_refl _) (.cells (ts.map Value.string).toArray 9)
  have hlt := h.lt
  refine (write_any _ B b l op mo (h.below hb) w.heap.size n n ts (by omega) (heap_alloc_new _ _) hn hn1 (Nat.le_trans hB hb.size) hl).mono ?_
  intro e w' h'
  exact PrP.of hB hb h'
theorem enter_new (w : World) (B b : Nat) (l : List UInt8) (op mo : Nat) (h : Prn w B b l op mo) (ho : op ≤ 1000000000) (hmo : mo ≤ 1000000000) (ts : List ByteArray) (n : Nat) (hn : n = ts.length) (hn1 : n ≤ 100) (hB : B ≤ w.heap.size) (hl : l.length + (catL ts).length ≤ 1000000000) :
    Calls Tryz.prog 106 #[.pointer (some ⟨b, 0, none⟩), .slice (some ⟨w.heap.size, 0, none⟩) n n] (w.alloc (.cells (ts.map Value.string).toArray 9)) (PrP w B b (l ++ catL ts) (op + 1) (max mo (op + 1))) := by
  have hb := (Below.refl w.heap.size w).alloc (Nat.le_refl _) (.cells (ts.map Value.string).toArray 9)
  have hlt := h.lt
  refine (enter_any _ B b l op mo (h.below hb) ho hmo w.heap.size n n ts (by omega) (heap_alloc_new _ _) hn hn1 (Nat.le_trans hB hb.size) hl).mono ?_
  intro e w' h'
  exact PrP.of hB hb h'
set_option maxRecDepth 100000 in
theorem leave_any (w : World) (B b : Nat) (l : List UInt8) (op mo : Nat) (h : Prn w B b l (op + 1) mo) (ho : op ≤ 1000000000) (s : ByteArray) (hB : B ≤ w.heap.size) (hl : l.length + s.size ≤ 1000000000) :
    Calls Tryz.prog 108 #[.pointer (some ⟨b, 0, none⟩), .string s] w (PrP w B b (l ++ s.data.toList) op mo) := by
  have hc1 : catL [s] = s.data.toList := by simp [catL]
  have K := hid (write_new w B b l (op + 1) mo h [s] 1 rfl (by omega) hB (by rw [hc1, ← Lib.size_eq]; exact hl))
  rw [hc1] at K
  simp only [List.map_cons, List.map_nil] at K
  obtain ⟨O, hO⟩ : ∃ O, O = op + 1 := ⟨_, rfl⟩
  rw [← hO] at K
  have hOI : (O : Int) ≤ 1000000001 := by omega
  have hO1 : (1 : Int) ≤ (O : Int) := by omega
  have HO := hid hO
  clear h hO
  go_enter Tryz.func108, Tryz.ntmps108
  go_wp2_with (go_at_call 99; (refine (Hid.out K).mono ?_; rintro e w1 ⟨rfl, hp1, hk1⟩; have hcc := hp1.cells; obtain ⟨⟨c2, c3⟩, f2, f3⟩ := hcc; have HP := hid hp1; have HK := hid hk1; clear hp1 hk1 c3 f3))
  go_end0
  have hn := HP.out.num op
  have e1 : ((O : Int) - 1) = (op : Int) := by have := HO.out; omega
  rw [e1]
  exact ⟨rfl, hn.1, HK.out.trans hn.2⟩
def commaB (i : Nat) : List UInt8 := if i = 0 then [] else [44, 32]
set_option maxRecDepth 100000 in
theorem comma_any (w : World) (B b : Nat) (l : List UInt8) (op mo : Nat) (h : Prn w B b l op mo) (i : Nat) (hi : i ≤ 1000000) (hB : B ≤ w.heap.size) (hl : l.length + 2 ≤ 1000000000) :
    Calls Tryz.prog 107 #[.pointer (some ⟨b, 0, none⟩), .int .i64 (i : Int)] w (PrP w B b (l ++ commaB i) op mo) := by
  have hc1 : catL [⟨#[44, 32]⟩] = [44, 32] := by simp [catL]
  have K := hid (write_new w B b l op mo h [⟨#[44, 32]⟩] 1 rfl (by omega) hB (by rw [hc1]; exact hl))
  rw [hc1] at K
  simp only [List.map_cons, List.map_nil] at K
  have HP := hid h
  clear h
  by_cases h0 : i = 0
  · subst h0
    go_enter Tryz.func107, Tryz.ntmps107
    go_wp2
    go_end0
    exact ⟨rfl, by simpa [commaB] using HP.out, Kpt.refl _ _ _⟩
  · have h0' : (0 : Int) < (i : Int) := by omega
    have e : commaB i = [44, 32] := by unfold commaB; rw [if_neg h0]
    rw [e]
    clear e
    go_enter Tryz.func107, Tryz.ntmps107
    go_wp2_with (go_at_call 99; (refine (Hid.out K).mono ?_; rintro e w1 ⟨rfl, hp1, hk1⟩))
    go_end0
    exact ⟨rfl, hp1, hk1⟩
/- Is an argument written in brackets? -/
def brk (e a : EH) : Bool :=
  if a.kind = 6 then true else
  if a.kind = 5 then decide (a.op = 18) || decide (a.op = 19) else
  if a.kind = 1 then decide (a.int < 0) || decide (e.op = 18) else
  if a.kind = 10 ∨ a.kind = 12 then decide (e.kind = 7) else false
set_option maxRecDepth 100000 in
set_option maxHeartbeats 1000000 in
theorem brk_any (w : World) (e a : EH) (de : EHr w e) (da : EHr w a) : Calls Tryz.prog 126 #[.pointer (some ⟨e.b, e.o, none⟩), .pointer (some ⟨a.b, a.o, none⟩)] w fun r w' => r = .returned (.bool (brk e a)) ∧ w' = w := by
  have c0 := da.c0
  have c1 := da.c1
  have c2 := da.c2
  have e0 := de.c0
  have e1 := de.c1
  clear de da
  unfold brk
  by_cases k6 : a.kind = 6
  · go_enter Tryz.func126, Tryz.ntmps126
    go_wp2
    go_ret
    exact ⟨by simp [k6], rfl⟩
  · by_cases k5 : a.kind = 5
    · by_cases h1 : a.op = 18
      · go_enter Tryz.func126, Tryz.ntmps126
        go_wp2
        go_ret
        exact ⟨by simp [k5, h1], rfl⟩
      · go_enter Tryz.func126, Tryz.ntmps126
        go_wp2
        go_ret
        exact ⟨ret_bool (by simp [k5, h1]), rfl⟩
    · by_cases k1 : a.kind = 1
      · by_cases h1 : a.int < 0
        · go_enter Tryz.func126, Tryz.ntmps126
          go_wp2
          go_ret
          exact ⟨by simp [k1, h1], rfl⟩
        · go_enter Tryz.func126, Tryz.ntmps126
          go_wp2
          go_ret
          exact ⟨ret_bool (by simp [k1]; omega), rfl⟩
      · by_cases k10 : a.kind = 10
        · go_enter Tryz.func126, Tryz.ntmps126
          go_wp2
          go_ret
          exact ⟨ret_bool (by simp [k10]), rfl⟩
        · by_cases k12 : a.kind = 12
          · go_enter Tryz.func126, Tryz.ntmps126
            go_wp2
            go_ret
            exact ⟨ret_bool (by simp [k12]), rfl⟩
          · go_enter Tryz.func126, Tryz.ntmps126
            go_wp2
            go_ret
            exact ⟨by simp [k6, k5, k1, k10, k12], rfl⟩
end Go.Proofs.YtdfambocenohgaaGreatDoor

