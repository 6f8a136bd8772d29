/- Fn. -/
import Derived.Test.YtkkcbabhccfllaaJAB
import Derived.Sort.CutIn
namespace Go.Proofs.Ytkkcbabhccfllaa
open Go.RowKit Go.Deep Go.Shelf
set_option linter.unusedVariables false
set_option linter.unusedSimpArgs false
def FnP (w : World) (regs : Int) (bs : List Blk) (bad : Int) (e : Ending) (w' : World) : Prop := Below w.heap.size w w' ∧
  ((isG bs = true ∧ ∃ v, e = .returned (.tuple #[.agg #[.int .i64 regs, v], .int .i64 0]) ∧ OpR w' w.heap.size v (layB bs)) ∨
   (isG bs = false ∧ e = .returned (.tuple #[.agg #[.int .i64 0, .slice none 0 0], .int .i64 bad])))
def two (w : World) (b : Nat) (x y : Value) : World := (w.setCell ⟨b, 0, none⟩ x).setCell ⟨b, 1, none⟩ y
theorem two_new {w : World} {b : Nat} {p q : Value} {t : TypeId} (h : w.heap[b]? = some (.cells #[p, q] t (0, 0))) (x y : Value) : (two w b x y).heap[b]? = some (.cells #[x, y] t (0, 0)) := heap_set_at (heap_set_at h 0 x) 1 y
theorem two_below {B : Nat} {w0 w : World} (hb : Below B w0 w) {b : Nat} (hB : B ≤ b) (x y : Value) : Below B w0 (two w b x y) := by
  unfold two
  exact (hb.setCell hB _).setCell hB _
theorem two_heap (w : World) (b : Nat) (x y : Value) {k : Nat} (hk : k ≠ b) : (two w b x y).heap[k]? = w.heap[k]? := by
  unfold two
  rw [Below.heap_setCell _ _ _ _ hk, Below.heap_setCell _ _ _ _ hk]
set_option maxRecDepth 100000 in
set_option maxHeartbeats 1000000 in
theorem fn_any (w : World) (regs : Int) (a : Option Addr) (n c : Nat) (bs : List Blk) (hn : n = bs.length) (hnb : n ≤ 10000) (hr : BRd w a bs) (hnl : ∀ b ∈ bs, b.oa = none → b.oc = 0) (hT : (layA 0 bs).length ≤ 100000) : Calls Try.prog 8 #[.agg #[.int .i64 regs, .slice a n c]] w (FnP w regs bs 100) := by
  obtain ⟨X, hX⟩ : ∃ X, X = w.heap.size := ⟨_, rfl⟩
  obtain ⟨W0, hW0⟩ : ∃ W0, W0 = (w.alloc (.cells #[.int .i64 regs, .slice a n c] 24)).alloc (.cells #[.int .i64 0, .slice none 0 0] 29) := ⟨_, rfl⟩
  have bw0 : Below w.heap.size w W0 := by rw [hW0]; exact ((Below.refl _ _).alloc (Nat.le_refl _) _).alloc (by simp) _
  have z0 : W0.heap.size = X + 1 + 1 := by rw [hW0, hX]; simp
  have m0 : W0.heap[X]? = some (.cells #[.int .i64 regs, .slice a n c] 24 (0, 0)) := by rw [hW0, hX, Below.heap_alloc _ _ _ (by simp)]; exact heap_alloc_new _ _
  have m1 : W0.heap[X + 1]? = some (.cells #[.int .i64 0, .slice none 0 0] 29 (0, 0)) := by
    have := heap_alloc_new (w.alloc (.cells #[.int .i64 regs, .slice a n c] 24)) (.cells #[.int .i64 0, .slice none 0 0] 29)
    rw [World.size_alloc] at this
    rw [hW0, hX]; exact this
  have K1 := hid (isGraph_any W0 regs a n c bs hn (by omega) (hr.below bw0))
  have MB := hid (fun (v : World) (hv : Below W0.heap.size W0 v) => (⟨(hv.block X (by omega)).trans m0, (hv.block (X + 1) (by omega)).trans m1⟩ : v.heap[X]? = some (.cells #[.int .i64 regs, .slice a n c] 24 (0, 0)) ∧ v.heap[X + 1]? = some (.cells #[.int .i64 0, .slice none 0 0] 29 (0, 0))))
  have BW := hid (fun (v : World) (hv : Below W0.heap.size W0 v) => bw0.trans (hv.mono bw0.size))
  have x0 := cellOf m0 0
  have x1 := cellOf m0 1
  simp only [List.getElem?_toArray, List.getElem?_cons_zero, List.getElem?_cons_succ] at x0 x1
  have HX := hid hX
  have Z0 := hid z0
  cases hok : isG bs with
  | false =>
    rw [hok] at K1
    have HO := hid hok
    clear m0 m1 bw0 hr hn hok hnl hT z0
    go_enter Try.func8, Try.ntmps8
    go_upto_region 1 with fail
    rw [← hX, ← hW0]
    clear hW0 hX
    go_wp2_with (first | (go_at_call 15; (refine (Hid.out K1).mono ?_; rintro e w1 ⟨rfl, hb1⟩; have HM1 := hid (MB.out w1 hb1); have HB1 := hid hb1; have y0 := cellOf HM1.out.2 0; have y1 := cellOf HM1.out.2 1; have f0 := freeOf HM1.out.2 0; have f1 := freeOf HM1.out.2 1; simp only [List.getElem?_toArray, List.getElem?_cons_zero, List.getElem?_cons_succ] at y0 y1; clear hb1 x0 x1)))
    have h3 := two_new HM1.out.2 (.int .i64 0) (.slice none 0 0)
    have hbb := two_below (BW.out w1 HB1.out) (b := X + 1) (by have := HX.out; omega) (.int .i64 0) (.slice none 0 0)
    have q0 := cellOf h3 0
    have q1 := cellOf h3 1
    simp only [two, List.getElem?_toArray, List.getElem?_cons_zero, List.getElem?_cons_succ] at q0 q1 hbb
    refine bodyPost_ret (v := .tuple #[.agg #[.int .i64 0, .slice none 0 0], .int .i64 100]) (by simp [results, Try.results8, go_sem, q0, q1]) rfl ⟨hbb, .inr ⟨HO.out, rfl⟩⟩
  | true =>
    rw [hok] at K1
    have K2 := hid (fun (v : World) (hv : Below W0.heap.size W0 v) => laid_any v a n c bs hn hnb ((hr.below bw0).below hv) hnl hok hT)
    have HO := hid hok
    clear m0 m1 bw0 hr hn hok hnl hT z0
    go_enter Try.func8, Try.ntmps8
    go_upto_region 1 with fail
    rw [← hX, ← hW0]
    clear hW0 hX
    go_wp2_with (first | (go_at_call 15; (refine (Hid.out K1).mono ?_; rintro e w1 ⟨rfl, hb1⟩; have HM1 := hid (MB.out w1 hb1); have HB1 := hid hb1; have y0 := cellOf HM1.out.1 0; have y1 := cellOf HM1.out.1 1; simp only [List.getElem?_toArray, List.getElem?_cons_zero, List.getElem?_cons_succ] at y0 y1; clear hb1 x0 x1)))
    have S2 := hid (fun (v : World) (hv : Below W0.heap.size W0 v) => (⟨cellOf (MB.out v hv).1 0, cellOf (MB.out v hv).1 1⟩ : v.cell? ⟨X, 0, none⟩ = some (.int .i64 regs) ∧ v.cell? ⟨X, 1, none⟩ = some (.slice a n c)))
    have K2' := hid (K2.out w1.drew (HB1.out.trans (((Below.refl _ w1).drew).mono HB1.out.size)))
    go_region_held3 (fun v => v.cell? ⟨X, 0, none⟩ = some (.int .i64 regs) ∧ v.cell? ⟨X, 1, none⟩ = some (.slice a n c)) (first | exact s3 | exact s2 | go_keep) ((first
      | (go_at_call 16; (refine (Hid.out K2').mono ?_; rintro e w2 ⟨v2, rfl, ho2, hb2'⟩; have hb2 := HB1.out.trans ((((Below.refl _ w1).drew).trans hb2').mono HB1.out.size); have s2 := S2.out w2 hb2; have p0 := cellOf (MB.out w2 hb2).2 0; have p1 := cellOf (MB.out w2 hb2).2 1; have f0 := freeOf (MB.out w2 hb2).2 0; have f1 := freeOf (MB.out w2 hb2).2 1; simp only [List.getElem?_toArray, List.getElem?_cons_zero, List.getElem?_cons_succ] at p0 p1; obtain ⟨a2, m2, c2, rfl, Hm2, _, _⟩ := ho2.rdm; have s3 : (two w2 (X + 1) (.int .i64 regs) (.slice a2 m2 c2)).cell? ⟨X, 0, none⟩ = some (.int .i64 regs) ∧ (two w2 (X + 1) (.int .i64 regs) (.slice a2 m2 c2)).cell? ⟨X, 1, none⟩ = some (.slice a n c) := ⟨(cellOf ((two_heap w2 (X + 1) _ _ (by omega)).trans (MB.out w2 hb2).1) 0), (cellOf ((two_heap w2 (X + 1) _ _ (by omega)).trans (MB.out w2 hb2).1) 1)⟩; simp only [two] at s3))))
    have h3 := two_new (MB.out w2 hb2).2 (.int .i64 regs) (.slice a2 m2 c2)
    have hbb := two_below (BW.out w2 hb2) (b := X + 1) (by have := HX.out; omega) (.int .i64 regs) (.slice a2 m2 c2)
    have hoo : OpR (two w2 (X + 1) (.int .i64 regs) (.slice a2 m2 c2)) w.heap.size (.slice a2 m2 c2) (layB bs) := (ho2.lower (show w.heap.size ≤ w1.heap.size from (BW.out w1 HB1.out).size)).keep fun g e => two_heap _ _ _ _ (by have h1 : w1.heap.size ≤ g := (ho2.own e).1; have := HB1.out.size; have := Z0.out; omega)
    have q0 := cellOf h3 0
    have q1 := cellOf h3 1
    simp only [two, List.getElem?_toArray, List.getElem?_cons_zero, List.getElem?_cons_succ] at q0 q1 hbb hoo
    have HBB := hid hbb
    have HOO := hid hoo
    clear s2 s3 hb2 hb2' ho2 p0 p1 f0 f1 h3 hbb hoo
    go_wp2
    refine bodyPost_ret (v := .tuple #[.agg #[.int .i64 regs, .slice a2 m2 c2], .int .i64 0]) (by simp [results, Try.results8, go_sem, q0, q1]) rfl ⟨HBB.out, .inl ⟨HO.out, _, rfl, HOO.out⟩⟩
end Go.Proofs.Ytkkcbabhccfllaa

namespace Go.Proofs.Ytkkcbabhccfllaa
open Go.RowKit Go.Deep Go.Shelf
set_option linter.unusedVariables false
set_option linter.unusedSimpArgs false
/- What is held of a function that is ranged over: whatever it writes lies in blocks that were laid since it was called. -/
def SeqW {α : Type} (F : Fence) (n : Nat) (g : Nat) (lb : Array Value) (encs : α → Array Value) (Kp : World → World → Prop) (S Sp : List α → Prop) (N : Nat) (w : World) : Prop :=
  ∀ (l : Nat) (J Jx : List α → World → Prop) (W : World), Below w.heap.size w W → w.heap.size ≤ W.heap.size → (∀ s A A' row, J s A → A.grownBy A' row → (∀ r, row = some r → W.heap.size ≤ r) → J s A') →
    (∀ pre x W1, J pre W1 → pre.length < N → YieldAt F (n - 1) Try.prog l (encs x) W1 fun e W' => (e = .returned (.bool true) ∧ J (pre ++ [x]) W' ∧ Kp W1 W') ∨ (e = .returned (.bool false) ∧ Jx (pre ++ [x]) W')) → J [] W →
    CallsIn F n Try.prog g (#[.func (.yield l) #[] #[]] ++ lb) W fun e W' => (∃ v, e = .returned v) ∧ ((∃ xs, S xs ∧ J xs W') ∨ ∃ pre, Sp pre ∧ Jx pre W')
/- How a round may end: it goes on, or the loop is left by the exit q; the two blocks at D are as they were. -/
def rdPost {α : Type} (D q : Nat) (Kp : World → World → Prop) (I Ix : List α → World → Prop) (xs : List α) (W : World) : Exit → Act → World → Prop
  | .normal, _, W' => (W'.heap[D]? = W.heap[D]? ∧ W'.heap[D + 1]? = W.heap[D + 1]?) ∧ Kp W W' ∧ I xs W'
  | .exit id, _, W' => id = q ∧ (W'.heap[D]? = W.heap[D]? ∧ W'.heap[D + 1]? = W.heap[D + 1]?) ∧ Ix xs W'
  | _, _, _ => False
theorem range_own {α : Type} {n q gf : Nat} {g : Operand} {p : Tmp} {assign body : Code} {Q : Exit → Act → World → Prop} {a : Act} {w : World} {lb : Array Value} (h1 : 1 ≤ n)
    (hg : a.eval g = .func (.func gf) #[] lb) (eg : ∀ args w, (callFunc gf args).run Try.prog w = .ok (.enter gf args) w)
    {enc : α → Value} {Kp : World → World → Prop} {S Sp : List α → Prop} {N : Nat} (hseq : SeqW Fence.wide (n - 1) gf lb (fun x => #[enc x]) Kp S Sp N w)
    (hKt : ∀ {A B C : World}, Kp A B → Kp B C → Kp A C) (hKb : ∀ (W : World) (l : Nat) (o o' : Obj), w.heap.size ≤ l → W.heap[l]? = some o → o.isCells = false → o.isWalk = false → Kp W (W.putObj l o'))
    (I Ix : List α → World → Prop) (h0 : I [] w)
    (hI : ∀ s A A' row, I s A → A.grownBy A' row → (∀ r, row = some r → w.heap.size ≤ r) → I s A')
    (hIx : ∀ s A A' row, Ix s A → A.grownBy A' row → (∀ r, row = some r → w.heap.size ≤ r) → Ix s A')
    (aft : α → Act)
    (hassign : ∀ (l : Nat) (x : α) (W : World) (K : Act → World → Prop), K (aft x) W → assign.wpIn (Fence.wide.inRound l) (n - 1 - 1) Try.prog (Exit.then K (fun _ _ _ => False)) { tmps := a.tmps.setIfInBounds p (enc x), defers := [] } W)
    (hbody : ∀ (l : Nat) (pre : List α) (x : α) (W : World), w.heap.size + 2 ≤ W.heap.size → I pre W → pre.length < N → body.wpIn (Fence.wide.inRound l) (n - 1 - 1) Try.prog (rdPost w.heap.size q Kp I Ix (pre ++ [x]) W) (aft x) W)
    (hdone : ∀ (xs : List α) (W : World), S xs → I xs W → W.heap[w.heap.size]? = some (.deferred (some [])) → Q .normal { a with defers := { target := .collected w.heap.size, args := #[] } :: a.defers } W)
    (hstop : ∀ (pre : List α) (W : World), Sp pre → Ix pre W → W.heap[w.heap.size]? = some (.deferred (some [])) → Q (.exit q) { a with defers := { target := .collected w.heap.size, args := #[] } :: a.defers } W) :
    (Code.rangeFunc g #[p] assign body).wpIn Fence.wide n Try.prog Q a w := by
  refine wpIn_rangeFunc fun fn hfn => ?_
  obtain ⟨R, hR⟩ : ∃ R : LoopState → Option Code → Loop, R = fun st pe => { state := st, pending := pe, fn := fn, tmps := a.tmps, params := #[p], assign := assign, body := body, defers := w.heap.size } := ⟨_, rfl⟩
  obtain ⟨V, hV⟩ : ∃ V, V = (w.alloc (.deferred (some []))).alloc (.loop (R .ready none)) := ⟨_, rfl⟩
  have bV : Below w.heap.size w V := by rw [hV]; exact ((Below.refl _ _).alloc (Nat.le_refl _) _).alloc (by rw [World.size_alloc]; omega) _
  have zV : V.heap.size = w.heap.size + 2 := by rw [hV]; simp
  have gV : w.grownBy V none := below_grown bV
  have lV : V.heap[w.heap.size + 1]? = some (.loop (R .ready none)) := by
    have := heap_alloc_new (w.alloc (.deferred (some []))) (.loop (R .ready none))
    rw [World.size_alloc] at this
    rw [hV]; exact this
  have dV : V.heap[w.heap.size]? = some (.deferred (some [])) := by
    rw [hV, Below.heap_alloc _ _ _ (by simp)]; exact heap_alloc_new w _
  have step : ∀ (X : World) (o : Obj), X.grownBy (X.putObj (w.heap.size + 1) o) (some (w.heap.size + 1)) := fun X o => grownBy_putObj' X _ o
  have up : ∀ r, some (w.heap.size + 1) = some r → w.heap.size ≤ r := fun r e => by cases e; omega
  refine ⟨w.heap.size + 1, [{ target := .collected w.heap.size, args := #[] }], V, { target := .fn (.func gf) lb, args := #[.func (.yield (w.heap.size + 1)) #[] #[]] }, V, gf, #[.func (.yield (w.heap.size + 1)) #[] #[]] ++ lb, V, ?_, ?_, fun _ _ => trivial, ?_, fun _ => h1, ?_⟩
  · rw [hV, hR]; exact run_enterLoop_outer fn a.tmps #[p] assign body
  · simp only [resolve, hg]; simp [go_sem]
  · simp [invoke, go_sem, eg]
  refine (hseq (w.heap.size + 1) (fun s X => I s X ∧ X.heap[w.heap.size]? = some (.deferred (some [])) ∧ X.heap[w.heap.size + 1]? = some (.loop (R .ready none))) (fun s X => Ix s X ∧ X.heap[w.heap.size]? = some (.deferred (some [])) ∧ X.heap[w.heap.size + 1]? = some (.loop (R .done (some (.exit q))))) V bV bV.size ?_ ?_ ⟨hI _ _ _ none h0 gV (fun r e => by cases e), dV, lV⟩).mono ?_
  · rintro s A A' row ⟨i1, i2, i3⟩ hgr hr
    have hk : ∀ j, j < w.heap.size + 2 → j < A.heap.size → A'.heap[j]? = A.heap[j]? := fun j hj hl => hgr.block j hl (fun e => by have := hr j e.symm; omega)
    exact ⟨hI _ _ _ row i1 hgr (fun r e => by have := hr r e; omega), (hk _ (by omega) (lt_of_heap i2)).trans i2, (hk _ (by omega) (lt_of_heap i3)).trans i3⟩
  · rintro pre x X ⟨i1, i2, i3⟩ hlen
    have hlt := lt_of_heap i3
    have hy := run_yield (P := Try.prog) (args := #[enc x]) i3 (by rw [hR]; rfl)
    rw [hR] at hy
    refine ⟨fn, _, assign, body, hy, roundIn_of_wpIn hfn ?_⟩
    have et : (#[p].zip #[enc x]).foldl (fun (tmps : Array Value) (y : Tmp × Value) => match y with | (t, b) => tmps.setIfInBounds t b) a.tmps = a.tmps.setIfInBounds p (enc x) := by simp
    show Code.wpIn _ _ _ _ _ { tmps := (#[p].zip #[enc x]).foldl (fun (tmps : Array Value) (y : Tmp × Value) => match y with | (t, b) => tmps.setIfInBounds t b) a.tmps, defers := [] } X
    rw [et]
    refine hassign _ x X _ ?_
    refine ⟨_, run_beginRound i3 (by rw [hR]), ?_⟩
    obtain ⟨Y, hY⟩ : ∃ Y, Y = X.putObj (w.heap.size + 1) (.loop { R .ready none with state := .busy }) := ⟨_, rfl⟩
    have yl : Y.heap[w.heap.size + 1]? = some (.loop { R .ready none with state := .busy }) := by rw [hY]; exact World.putObj_heap_same hlt
    have yd : Y.heap[w.heap.size]? = some (.deferred (some [])) := by rw [hY]; exact (World.putObj_heap_other (by omega)).trans i2
    have yi : I pre Y := by rw [hY]; exact hI _ _ _ _ i1 (step X _) up
    have yk : Kp X Y := by rw [hY]; exact hKb _ _ _ _ (by omega) i3 rfl rfl
    rw [← hY]
    refine wpIn_mono (hbody _ pre x Y (lt_of_heap yl) yi hlen) ?_
    have fin : ∀ (jump : Option Code) (Z : World), Z.heap[w.heap.size]? = Y.heap[w.heap.size]? ∧ Z.heap[w.heap.size + 1]? = Y.heap[w.heap.size + 1]? →
        (Instr.endRound (w.heap.size + 1) jump).run Try.prog Z = .ok (.bool jump.isNone) (Z.putObj (w.heap.size + 1) (.loop (R (if jump.isNone then .ready else .done) jump))) ∧
        (Z.putObj (w.heap.size + 1) (.loop (R (if jump.isNone then .ready else .done) jump))).heap[w.heap.size]? = some (.deferred (some [])) ∧
        (Z.putObj (w.heap.size + 1) (.loop (R (if jump.isNone then .ready else .done) jump))).heap[w.heap.size + 1]? = some (.loop (R (if jump.isNone then .ready else .done) jump)) ∧ Kp Z (Z.putObj (w.heap.size + 1) (.loop (R (if jump.isNone then .ready else .done) jump))) := fun jump Z hz => by
      have z2 := hz.2.trans yl
      have hrun := run_endRound (P := Try.prog) jump z2
      refine ⟨?_, (World.putObj_heap_other (by omega)).trans (hz.1.trans yd), World.putObj_heap_same (lt_of_heap z2), hKb _ _ _ _ (by omega) z2 rfl rfl⟩
      rw [hR] at hrun ⊢
      exact hrun
    intro e b Z hp
    cases e with
    | normal =>
      obtain ⟨hz, hk, hi⟩ := hp
      obtain ⟨hr, f1, f2, f3⟩ := fin none Z hz
      exact ⟨_, _, hr, .inl ⟨rfl, ⟨hI _ _ _ _ hi (step Z _) up, f1, f2⟩, hKt (hKt yk hk) f3⟩⟩
    | exit id =>
      obtain ⟨rfl, hz, hi⟩ := hp
      obtain ⟨hr, f1, f2, f3⟩ := fin (some (.exit id)) Z hz
      exact ⟨_, _, hr, .inr ⟨rfl, hIx _ _ _ _ hi (step Z _) up, f1, f2⟩⟩
    | ret => exact hp.elim
    | goto t => exact hp.elim
    | panic c => exact hp.elim
    | outgrown => exact hp.elim
  · rintro e Z ⟨⟨v, rfl⟩, (⟨xs, hS, i1, i2, i3⟩ | ⟨pre, hS, i1, i2, i3⟩)⟩
    · refine ⟨none, _, by have := run_endLoop (P := Try.prog) i3 (by rw [hR]; simp); rw [hR] at this; exact this, ?_⟩
      exact hdone xs _ hS (hI _ _ _ _ i1 (step Z _) up) ((World.putObj_heap_other (by omega)).trans i2)
    · refine ⟨some (.exit q), _, by have := run_endLoop (P := Try.prog) i3 (by rw [hR]; simp); rw [hR] at this; exact this, ?_⟩
      exact wpIn_exit (hstop pre _ hS (hIx _ _ _ _ i1 (step Z _) up) ((World.putObj_heap_other (by omega)).trans i2))
end Go.Proofs.Ytkkcbabhccfllaa

namespace Go.Proofs.Ytkkcbabhccfllaa
open Go.RowKit Go.Deep Go.Shelf
set_option linter.unusedVariables false
set_option linter.unusedSimpArgs false
attribute [local go_sem] Oper.semAt_some
theorem noGoto_ret20 {Q : Exit → Act → World → Prop} {a : Act} {w : World} (h : Q .ret a w) : Exit.noGoto Q .ret a w := h
theorem noGoto_nor20 {Q : Exit → Act → World → Prop} {a : Act} {w : World} (h : Q .normal a w) : Exit.noGoto Q .normal a w := h
/- What the ways tell. -/
def Ways20 (w0 : World) (cnt Fb : Nat) (ways : Nat → List Nat) : Prop := ∀ (W : World) (i : Nat), Below w0.heap.size w0 W → i < cnt → Calls Try.prog 20 #[.int .i64 (i : Int), .pointer (some ⟨Fb, 0, none⟩)] W fun e W' => ∃ a c, e = .returned (.slice a (ways i).length c) ∧ GRow W' W.heap.size a (ways i).length c (ofN (ways i)) ∧ Below W.heap.size W W'

set_option maxRecDepth 100000 in
set_option maxHeartbeats 2000000 in
theorem walk20_in (w0 : World) (cnt Fb : Nat) (ways : Nat → List Nat) (h0 : 0 < cnt) (hcn : cnt ≤ 10000) (hwl : ∀ i, (ways i).length ≤ 2) (hwt : ∀ i, i < cnt → ∀ t ∈ ways i, t < cnt) (hW : Ways20 w0 cnt Fb ways) (n : Nat) (hn : 1 ≤ n) (l C1 C2 L T : Nat)
    (d1 : C1 ≠ L) (d2 : C1 ≠ T) (d3 : C2 ≠ L) (d4 : C2 ≠ T)
    (J Jx : List (Fin cnt) → World → Prop)
    (hY : ∀ pre x W, J pre W → pre.length < cnt → YieldAt Fence.wide (n - 1) Try.prog l (encF x) W fun e W' =>
      (e = .returned (.bool true) ∧ J (pre ++ [x]) W' ∧ KW w0.heap.size L T W W') ∨ (e = .returned (.bool false) ∧ Jx (pre ++ [x]) W'))
    (W : World) (hb : Below w0.heap.size w0 W) (hC1 : W.heap[C1]? = some (.cells #[.int .i64 (cnt : Int)] 3 (0, 0))) (hC2 : W.heap[C2]? = some (.cells #[.func (.func 20) #[] #[.pointer (some ⟨Fb, 0, none⟩)]] 54 (0, 0))) (hL : L < W.heap.size) (hT : T < W.heap.size)
    (hJa : ∀ s A A' row, J s A → A.grownBy A' row → (∀ r, row = some r → W.heap.size ≤ r) → J s A') (hJ0 : J [] W) :
    CallsIn Fence.wide n Try.prog 33 #[.func (.yield l) #[] #[], .pointer (some ⟨C1, 0, none⟩), .pointer (some ⟨C2, 0, none⟩)] W fun e W' => (∃ v, e = .returned v) ∧
      ((∃ ys : List (Fin cnt), (∀ x : Nat, x ∈ vals ys ↔ Rch ways x) ∧ J ys W') ∨ (∃ pre : List (Fin cnt), ((vals pre).Nodup ∧ ∀ x ∈ vals pre, Rch ways x) ∧ Jx pre W')) := by
  refine callsIn_of_wp Try.func33 rfl trivial ?_ rfl
  simp only [Try.ntmps33, List.size_toArray, List.length_cons, List.length_nil, Nat.reduceAdd, Nat.reduceSub, Array.replicate_succ, Array.replicate_zero, List.push_toArray, List.append_toArray, List.nil_append, List.cons_append]
  have hcI : (cnt : Int) ≤ 10000 := by omega
  have hcI0 : (0 : Int) < (cnt : Int) := by omega
  have HY := hid hY
  have HJa := hid hJa
  obtain ⟨fn', tmps, assign, body, hy, hRd⟩ := HY.out [] ⟨0, h0⟩ W hJ0 h0
  have hRd' : RoundIn Fence.wide (n - 1) Try.prog l fn' tmps assign body W (fun e W' => ∃ b : Bool, e = .returned (.bool b) ∧ ((b = true → J ([] ++ [⟨0, h0⟩]) W' ∧ KW w0.heap.size L T W W') ∧ (b = false → Jx ([] ++ [⟨0, h0⟩]) W'))) := by
    refine hRd.mono ?_
    rintro e W' (⟨rfl, h1, h2⟩ | ⟨rfl, h1⟩)
    · exact ⟨true, rfl, ⟨fun _ => ⟨h1, h2⟩, fun h => (by cases h)⟩⟩
    · exact ⟨false, rfl, ⟨fun h => (by cases h), fun _ => h1⟩⟩
  clear hRd
  have HRd := hid hRd'
  rw [show encF (⟨0, h0⟩ : Fin cnt) = #[.int .i64 0] from rfl] at hy
  have HC1 := hid hC1
  have HC2 := hid hC2
  have HB := hid hb
  have HW := hid hW
  have HJ0 := hid hJ0
  clear hRd' hY hJa hC1 hC2 hb hW hJ0
  refine wpIn_scope_wide ?_
  gi_wp2
  refine (Hid.out HRd).mono ?_
  rintro e W1 ⟨bb, rfl, hor⟩
  cases bb with
  | false =>
    have hor' := hor.2 rfl
    gi_wp2
    refine noGoto_ret20 ?_
    refine bodyPost_ret (results_none rfl _ _ _) rfl ?_
    exact ⟨⟨_, rfl⟩, .inr ⟨_, ⟨by simp [vals], fun x hx => by simp [vals] at hx; subst hx; exact .zero⟩, hor'⟩⟩
  | true =>
    have hor' := hor.1 rfl
    have HJ1 := hid hor'.1
    have HK1 := hid hor'.2
    have k1 := HK1.out.2 _ _ _ _ d1 d2 HC1.out
    have k2 := HK1.out.2 _ _ _ _ d3 d4 HC2.out
    have e1 := cellOf k1 0
    have e2 := cellOf k2 0
    have hl1 := lt_of_heap k1
    have hl2 := lt_of_heap k2
    have hz1 : W.heap.size ≤ W1.heap.size := HK1.out.1.size
    obtain ⟨SB, hSB⟩ : ∃ SB, SB = W1.heap.size := ⟨_, rfl⟩
    have mkB := run_mkB W1 cnt (by omega)
    have mk0 : (mk cnt [])[0]? = some (.bool false) := by rw [mk_get h0]; simp
    obtain ⟨Ws, hWs⟩ : ∃ Ws, Ws = (W1.alloc (.cells ((mk cnt []).setIfInBounds 0 (.bool true)) 4)).alloc (.cells #[.int .i64 0] 3) := ⟨_, rfl⟩
    have bs : Below W1.heap.size W1 Ws := by rw [hWs]; exact ((Below.refl _ _).alloc (Nat.le_refl _) _).alloc (by rw [World.size_alloc]; omega) _
    have zs : Ws.heap.size = SB + 2 := by rw [hWs, hSB]; simp
    have ms : Ws.heap[SB]? = some (.cells (mk cnt [0]) 4 (0, 0)) := by
      have := heap_alloc_new W1 (.cells ((mk cnt []).setIfInBounds 0 (.bool true)) 4)
      rw [hWs, hSB, Below.heap_alloc _ _ _ (by simp), this, mk_snoc [] h0]
      rfl
    have mo : Ws.heap[SB + 1]? = some (.cells #[.int .i64 0] 3 (0, 0)) := by
      have := heap_alloc_new (W1.alloc (.cells ((mk cnt []).setIfInBounds 0 (.bool true)) 4)) (.cells #[.int .i64 0] 3)
      rw [World.size_alloc] at this
      rw [hWs, hSB]; exact this
    have HK : Hid (WkR w0 C1 C2 SB cnt (.func (.func 20) #[] #[.pointer (some ⟨Fb, 0, none⟩)]) [0] Ws) := hid ⟨(HB.out.trans HK1.out.1).trans (bs.mono (by have := HB.out.size; omega)), (bs.block _ hl1).trans k1, (bs.block _ hl2).trans k2, ms⟩
    have HG : Hid (GRow Ws (SB + 1) (some ⟨SB + 1, 0, none⟩) 1 1 (ofN [0])) := hid ⟨rfl, Nat.le_refl _, fun x ex => by cases ex; exact ⟨_, rfl, by omega, by omega⟩, fun _ => ⟨_, _, rfl, mo, Nat.le_refl _, rfl⟩⟩
    have HJ : Hid (J [⟨0, h0⟩] Ws) := hid (HJa.out _ _ _ none HJ1.out (below_grown bs) (by simp))
    have hC1s : C1 < SB := by omega
    have hC2s : C2 < SB := by omega
    have hLs : L < SB := by omega
    have hTs : T < SB := by omega
    have hSw : W.heap.size ≤ SB := by omega
    have hS0 : w0.heap.size ≤ SB := by have := HB.out.size; omega
    have HSB := hid hSB
    clear hor hor' HRd hy bs zs ms mo k1 k2 HJ0 hl1 hl2 hz1
    gi_wp2
    refine wpIn_label ?_
    rw [← hSB, ← hWs]
    clear mkB hWs e1 e2 mk0 HSB hSB HC1 HC2 HJ1 HK1
    gi_wp2
    gi_loopg [5] (2 * (cnt - 1) + 1) (fun g x wr => ∃ (pre : List (Fin cnt)) (op : List Nat) (a : Option Addr) (m c : Nat), x = .slice a m c ∧ m = op.length ∧ 2 * (cnt - pre.length) + op.length = g ∧ pre.length ≤ cnt ∧ op.length ≤ pre.length ∧ GRow wr (SB + 1) a m c (ofN op) ∧ WkR w0 C1 C2 SB cnt (.func (.func 20) #[] #[.pointer (some ⟨Fb, 0, none⟩)]) (vals pre) wr ∧ J pre wr ∧ Good cnt ways (vals pre) op)
    case atStart => exact ⟨[⟨0, h0⟩], [0], _, _, _, rfl, rfl, by simp, h0, Nat.le_refl _, HG.out, HK.out, HJ.out, Good.start h0⟩
    case round =>
      obtain ⟨pre, op, a, m, c, rfl, hm, hg, hpc, hop, hGr, hWk, hJr, hGd⟩ := hrel
      rcases List.eq_nil_or_concat op with rfl | ⟨op', fr, rfl⟩
      · have hm0 : m = 0 := hm
        subst hm0
        have HJ2 := hid hJr
        have HG2 := hid hGd
        clear hGr hWk hJr hGd HG HK HJ hg hm
        gi_wp2
        refine noGoto_nor20 ?_
        go_end0
        exact ⟨⟨_, rfl⟩, .inl ⟨pre, HG2.out.fin, HJ2.out⟩⟩
      · rw [List.concat_eq_append] at hg hop hGd hm hGr
        obtain ⟨k, hk⟩ : ∃ k, k = op'.length := ⟨_, rfl⟩
        have hm1 : m = k + 1 := by rw [hm, hk]; simp
        subst hm1
        have hfr : fr < cnt := hGd.lt _ (hGd.o _ (by simp))
        obtain ⟨g5, rfl, hBg, hcell, _⟩ := hGr.cell (j := k) (x := (fr : Int)) (by rw [ofN_snoc, hk, ← ofN_len]; simp)
        have e2 := cellOf hWk.c2 0
        simp only [List.getElem?_toArray, List.getElem?_cons_zero] at e2
        have hkI : ((k + 1 : Nat) : Int) - 1 = (k : Int) := by omega
        have hkI0 : (0 : Int) ≤ (k : Int) := by omega
        have hkI1 : (k : Int) < 10000 := by simp at hop; omega
        have hGc := hGr
        rw [ofN_snoc] at hGc
        have HGr := hid hGc.cut
        have hcap := hGr.nc
        have hgl := lt_of_heap hWk.s
        have hSr : W.heap.size ≤ wr.heap.size := by omega
        have K9 := hid (HW.out wr fr hWk.b hfr)
        have HWk := hid hWk
        have HJr := hid hJr
        have HGd := hid hGd.pop
        have Hg := hid hg
        have Hop := hid hop
        have Hk := hid hk
        clear hGr hGc hWk hJr hGd HG HK HJ hm hg hop hk
        gi_wp2_with (refine ⟨trivial, ?_⟩; gi_at_call 20; refine (callsIn_wide.2 (Hid.out K9)).mono ?_; rintro e w1 ⟨ra, rc, rfl, hrr, hb1⟩; have HRR := hid hrr; have HB1 := hid hb1; clear hrr hb1)
        obtain ⟨q, hq⟩ : ∃ q, q = (ways fr).length := ⟨_, rfl⟩
        have hqI : (q : Int) ≤ 2 := by have := hwl fr; omega
        have HRq : Hid (GRow w1 wr.heap.size ra q rc (ofN (ways fr))) := hid (by rw [hq]; exact HRR.out)
        rw [← hq]
        have Hq := hid hq
        have HWk1 := hid (HWk.out.below HB1.out)
        have HGr1 := hid (HGr.out.below (Nat.le_refl _) HB1.out)
        have HJr1 := hid (HJa.out _ _ _ none HJr.out (below_grown HB1.out) (by simp))
        have HGr0 := HGr
        clear hq HRR e2 hcell K9 HWk HGr HJr
        obtain ⟨gk0, hgk0⟩ : ∃ x, x = gk := ⟨_, rfl⟩
        obtain ⟨r0, hr0⟩ : ∃ x, x = wr.heap.size := ⟨_, rfl⟩
        rw [← hr0] at HRq hgl
        rw [← hgk0] at Hg
        gi_loopg [5, 35] q (fun g x y wr2 => ∃ (j : Nat) (pre2 : List (Fin cnt)) (op2 : List Nat) (a2 : Option Addr) (m5 c5 : Nat), y = .int .i64 (j : Int) ∧ j + g = q ∧ x = .slice a2 m5 c5 ∧ m5 = op2.length ∧ 2 * (cnt - pre2.length) + op2.length + 1 ≤ gk0 ∧ pre2.length ≤ cnt ∧ op2.length + 1 ≤ pre2.length ∧ (∀ x y : Addr, a2 = some x → ra = some y → x.block ≠ y.block) ∧ GRow wr2 (SB + 1) a2 m5 c5 (ofN op2) ∧ GRow wr2 r0 ra q rc (ofN (ways fr)) ∧ WkR w0 C1 C2 SB cnt (.func (.func 20) #[] #[.pointer (some ⟨Fb, 0, none⟩)]) (vals pre2) wr2 ∧ J pre2 wr2 ∧ Goin cnt ways fr j (vals pre2) op2)
        case atStart => exact ⟨0, pre, op', _, _, _, rfl, by omega, rfl, Hk.out, by have := Hg.out; simp at this; omega, hpc, by have := Hop.out; simpa using this, fun x y ex ey => by obtain ⟨g1, e1, h1, h2⟩ := HGr0.out.at' x ex; obtain ⟨g2, e2, h3, h4⟩ := HRq.out.at' y ey; subst e1; subst e2; show g1 ≠ g2; omega, HGr1.out, HRq.out, HWk1.out, HJr1.out, HGd.out⟩
        case round =>
          obtain ⟨j, pre2, op2, a2, m5, c5, rfl, hj, rfl, hm5, hg2, hpc2, hop2, hdj, hGr2, hRq2, hWk2, hJr2, hGd2⟩ := hrel
          cases gk with
          | zero =>
            have hjq : j = q := by omega
            subst hjq
            have HG3 : Hid (Good cnt ways (vals pre2) op2) := hid (by have := hGd2; rw [Hq.out] at this; exact this.done)
            have HGr3 := hid hGr2
            have HWk3 := hid hWk2
            have HJ3 := hid hJr2
            have HM5 := hid hm5
            have Hgk := hid hgk0
            clear hGr2 hWk2 hJr2 hGd2 hm5 hgk0 hr0 hRq2 HWk1 HGr1 HJr1 HRq HGd Hq Hk
            gi_wp2
            gi_roundg (2 * (cnt - pre2.length) + op2.length)
            case measure => have := Hgk.out; omega
            exact ⟨pre2, op2, _, _, _, rfl, HM5.out, rfl, hpc2, by omega, HGr3.out, HWk3.out, HJ3.out, HG3.out⟩
          | succ g =>
            obtain ⟨t, ht⟩ : ∃ t, (ways fr)[j]? = some t := ⟨(ways fr)[j]'(by have := Hq.out; omega), List.getElem?_eq_getElem _⟩
            have htc : t < cnt := hwt fr hfr t (List.mem_of_getElem? ht)
            obtain ⟨g6, rfl, hB6, hc6, _⟩ := hRq2.cell (ofN_get ht)
            have hj0 : (0 : Int) ≤ (j : Int) := by omega
            have hj1 : (j : Int) < (q : Int) := by omega
            have ht0 : (0 : Int) ≤ (t : Int) := by omega
            have ht1 : (t : Int) < (cnt : Int) := by omega
            have hsc := cellOf hWk2.s t
            rw [mk_get htc] at hsc
            have Hm5 := hid hm5
            have Ht := hid ht
            have Hgk := hid hgk0
            by_cases hin : t ∈ vals pre2
            · rw [decide_eq_true hin] at hsc
              have HGr3 := hid hGr2
              have HWk3 := hid hWk2
              have HJ3 := hid hJr2
              have HRq3 := hid hRq2
              have HG3 := hid (hGd2.skip ht hin)
              clear hGr2 hWk2 hJr2 hGd2 hm5 hgk0 hr0 hRq2 HWk1 HGr1 HJr1 HRq HGd Hk ht
              gi_wp2
              gi_roundg g
              case measure => omega
              exact ⟨j + 1, pre2, op2, _, _, _, by go_num, by omega, rfl, Hm5.out, hg2, hpc2, hop2, hdj, HGr3.out, HRq3.out, HWk3.out, HJ3.out, HG3.out⟩
            · rw [decide_eq_false hin] at hsc
              have hroom : pre2.length < cnt := by have := hGd2.room hin htc; rw [vals_len] at this; exact this
              obtain ⟨fn2, tmps2, assign2, body2, hy2, hRd2⟩ := HY.out pre2 ⟨t, htc⟩ _ hJr2 hroom
              have hRd3 : RoundIn Fence.wide (n - 1) Try.prog l fn2 tmps2 assign2 body2 wr (fun e W' => ∃ b : Bool, e = .returned (.bool b) ∧ ((b = true → J (pre2 ++ [⟨t, htc⟩]) W' ∧ KW w0.heap.size L T wr W') ∧ (b = false → Jx (pre2 ++ [⟨t, htc⟩]) W'))) := by
                refine hRd2.mono ?_
                rintro e W' (⟨rfl, h1, h2⟩ | ⟨rfl, h1⟩)
                · exact ⟨true, rfl, ⟨fun _ => ⟨h1, h2⟩, fun h => (by cases h)⟩⟩
                · exact ⟨false, rfl, ⟨fun h => (by cases h), fun _ => h1⟩⟩
              rw [show encF (⟨t, htc⟩ : Fin cnt) = #[.int .i64 (t : Int)] from rfl] at hy2
              have HRd3 := hid hRd3
              have HGr3 := hid hGr2
              have HWk3 := hid hWk2
              have HJ3 := hid hJr2
              have HRq3 := hid hRq2
              have HG3 := hid (hGd2.take ht hin htc)
              have Hr0 : Hid (SB < r0) := hid hgl
              clear hGr2 hWk2 hJr2 hGd2 hm5 hgk0 hr0 hRq2 HWk1 HGr1 HJr1 HRq HGd Hk ht hRd2 hRd3
              gi_wp2
              refine (Hid.out HRd3).mono ?_
              rintro e W3 ⟨bb, rfl, hor⟩
              cases bb with
              | false =>
                have hor' := hor.2 rfl
                gi_wp2
                refine noGoto_nor20 ?_
                go_end0
                exact ⟨⟨_, rfl⟩, .inr ⟨_, ⟨by rw [vals_snoc]; exact HG3.out.nod, fun x hx => by rw [vals_snoc] at hx; exact HG3.out.rch x hx⟩, hor'⟩⟩
              | true =>
                have hor' := hor.1 rfl
                have HJ4 := hid hor'.1
                have hk4 := hor'.2
                have HWk4 := hid (HWk3.out.kw hk4 d1 d2 d3 d4 (by omega) (by omega))
                have HGr4 := hid (HGr3.out.kw hk4 (by omega) (by omega))
                have HRq4 := hid (HRq3.out.kw hk4 (by omega) (by omega))
                have hsc4 := cellOf HWk4.out.s t
                rw [mk_get htc, decide_eq_false hin] at hsc4
                have hsf4 := freeOf HWk4.out.s t
                have hSl := lt_of_heap HWk4.out.s
                have HWk5 := hid (HWk4.out.set (x := t) htc (by omega) (by omega) hS0)
                obtain ⟨W4, hW4⟩ : ∃ W4, W4 = W3.setCell ⟨SB, t, none⟩ (.bool true) := ⟨_, rfl⟩
                rw [← hW4] at HWk5
                have hz4 : W4.heap.size = W3.heap.size := by rw [hW4]; simp [World.setCell]
                have hkp : ∀ b, b ≠ SB → W4.heap[b]? = W3.heap[b]? := fun b hb => by rw [hW4]; exact Below.heap_setCell _ _ _ _ hb
                have HGr5 : Hid (GRow W4 (SB + 1) a2 m5 c5 (ofN op2)) := hid (HGr4.out.keep (by omega) (fun x ex => by obtain ⟨g', rfl, h1, h2⟩ := HGr4.out.at' x ex; exact hkp g' (by omega)))
                have HRq5 : Hid (GRow W4 r0 (some ⟨g6, 0, none⟩) q rc (ofN (ways fr))) := hid (HRq4.out.keep (by omega) (fun x ex => by obtain ⟨g', rfl, h1, h2⟩ := HRq4.out.at' x ex; exact hkp g' (by show g' ≠ SB; omega)))
                have HJ5 : Hid (J (pre2 ++ [⟨t, htc⟩]) W4) := hid (HJa.out _ _ _ (some SB) HJ4.out (by rw [hW4]; exact ⟨rfl, rfl, rfl, by simp [World.setCell], fun i hi hne => Below.heap_setCell _ _ _ _ (fun e => hne (by rw [e]))⟩) (fun b e => by cases e; exact hSw))
                have hm5b : m5 ≤ 1000000 := by have := Hm5.out; omega
                have hS5 : SB + 1 ≤ W4.heap.size := by omega
                clear hor hor' hk4 hy2 hsc hc6 hz4 hkp
                gi_upto_region 13 with fail
                rw [← hW4]
                clear hW4 hsc4 hsf4
                gi_wp2_with (gi_at_builtin; refine wpListIn_app1 W4 rfl _ _ rfl a2 m5 c5 (t : Int) (by rfl) (by rfl) (SB + 1) (ofN op2) HGr5.out hm5b hS5 ?_; intro a5 c6 W5 hg5 hgw5; have HG5 := hid hg5; have HW5 := hid hgw5; clear hg5 hgw5)
                obtain ⟨⟨row, hgr, hrow⟩, hnew⟩ := HW5.out
                have hrb : ∀ b, row = some b → SB + 1 ≤ b ∧ b ≠ g6 := fun b e => by
                  obtain ⟨x, ex, rfl⟩ := hrow b e
                  obtain ⟨g', rfl, h1, h2⟩ := HGr5.out.at' x ex
                  exact ⟨h1, hdj _ _ ex rfl⟩
                have hg6 : g6 < W4.heap.size := by
                  obtain ⟨g', e, h1, h2⟩ := HRq5.out.at' _ rfl
                  cases e; exact h2
                have ba : Below W4.heap.size W4 (W4.alloc (.cells #[.int .i64 (t : Int)] 3)) := (Below.refl _ _).alloc (Nat.le_refl _) _
                gi_roundg g
                case measure => omega
                refine ⟨j + 1, pre2 ++ [⟨t, htc⟩], op2 ++ [t], a5, m5 + 1, c6, by go_num, by omega, rfl, by rw [List.length_append, Hm5.out]; rfl, by simp only [List.length_append, List.length_cons, List.length_nil]; omega, by simp only [List.length_append, List.length_cons, List.length_nil]; omega, by simp only [List.length_append, List.length_cons, List.length_nil]; omega, ?_, by rw [ofN_snoc]; exact HG5.out, ?_, ?_, ?_, by rw [vals_snoc]; exact HG3.out⟩
                · intro x y ex ey
                  cases ey
                  rcases hnew with h | ⟨g', h, hg'⟩
                  · exact hdj x _ (h.symm.trans ex) rfl
                  · rw [ex] at h; cases h; show g' ≠ g6; rw [World.size_alloc] at hg'; omega
                · exact (HRq5.out.below (Nat.le_refl _) ba).keep hgr.size (fun x ex => by
                    cases ex
                    exact hgr.block g6 (by rw [World.size_alloc]; omega) (fun e => (hrb g6 e.symm).2 rfl))
                · rw [vals_snoc]
                  exact (HWk5.out.below ba).grown hgr (fun b e => by have := (hrb b e).1; exact ⟨by omega, by omega, by omega, by omega⟩)
                · exact HJa.out _ _ _ row (HJa.out _ _ _ none HJ5.out (below_grown ba) (fun r e => by cases e)) hgr (fun b e => by have := (hrb b e).1; omega)
end Go.Proofs.Ytkkcbabhccfllaa

namespace Go.Proofs.Ytkkcbabhccfllaa
open Go.RowKit Go.Deep Go.Shelf
set_option linter.unusedVariables false
set_option linter.unusedSimpArgs false
attribute [local go_sem] Oper.semAt_some
/- Between two rounds of met: the marks, the box of their row, how many are left. -/
structure MI20 (w : World) (cnt : Nat) (pre : List (Fin cnt)) (W : World) : Prop where
  r : W.heap[w.heap.size]? = some (.cells (mk cnt (vals pre)) 4 (0, 0))
  b : W.heap[w.heap.size + 1]? = some (.cells #[.slice (some ⟨w.heap.size, 0, none⟩) cnt cnt] 37 (0, 0))
  t : W.heap[w.heap.size + 1 + 1]? = some (.cells #[.int .i64 ((cnt : Int) - (pre.length : Int))] 3 (0, 0))
  bl : Below w.heap.size w W
theorem MI20.grown {w : World} {cnt : Nat} {pre : List (Fin cnt)} {A A' : World} {row : Option Nat} (h : MI20 w cnt pre A) (k : A.grownBy A' row) (hr : ∀ r, row = some r → w.heap.size + 3 ≤ r) : MI20 w cnt pre A' := by
  have hb : ∀ j, j < A.heap.size → j < w.heap.size + 3 → A'.heap[j]? = A.heap[j]? := fun j hj hn => k.block j hj (fun e => by have := hr j e.symm; omega)
  refine ⟨(hb _ (lt_of_heap h.r) (by omega)).trans h.r, (hb _ (lt_of_heap h.b) (by omega)).trans h.b, (hb _ (lt_of_heap h.t) (by omega)).trans h.t, ⟨k.os.trans h.bl.os, k.tape.trans h.bl.tape, k.output.trans h.bl.output, Nat.le_trans h.bl.size k.size, fun j hj => ?_⟩⟩
  exact (hb j (Nat.lt_of_lt_of_le hj h.bl.size) (by omega)).trans (h.bl.block j hj)
theorem seq20 (w0 : World) (cnt Fb : Nat) (ways : Nat → List Nat) (h0 : 0 < cnt) (hcn : cnt ≤ 10000) (hwl : ∀ i, (ways i).length ≤ 2) (hwt : ∀ i, i < cnt → ∀ t ∈ ways i, t < cnt) (hW : Ways20 w0 cnt Fb ways) (n : Nat) (hn : 1 ≤ n) (C1 C2 L T : Nat) (d1 : C1 ≠ L) (d2 : C1 ≠ T) (d3 : C2 ≠ L) (d4 : C2 ≠ T) (w : World)
    (hb : Below w0.heap.size w0 w) (hC1 : w.heap[C1]? = some (.cells #[.int .i64 (cnt : Int)] 3 (0, 0))) (hC2 : w.heap[C2]? = some (.cells #[.func (.func 20) #[] #[.pointer (some ⟨Fb, 0, none⟩)]] 54 (0, 0))) (hL : L < w.heap.size) (hT : T < w.heap.size) :
    SeqW Fence.wide n 33 #[.pointer (some ⟨C1, 0, none⟩), .pointer (some ⟨C2, 0, none⟩)] (fun x : Fin cnt => #[.int .i64 (x.val : Int)]) (KW w0.heap.size L T) (fun ys => ∀ x : Nat, x ∈ vals ys ↔ Rch ways x) (fun pre => (vals pre).Nodup ∧ ∀ x ∈ vals pre, Rch ways x) cnt w := fun l J Jx W hW1 hz hJa hY hJ0 =>
  walk20_in w0 cnt Fb ways h0 hcn hwl hwt hW n hn l C1 C2 L T d1 d2 d3 d4 J Jx hY W (hb.trans (hW1.mono hb.size)) ((hW1.block C1 (lt_of_heap hC1)).trans hC1) ((hW1.block C2 (lt_of_heap hC2)).trans hC2) (by omega) (by omega) hJa hJ0
theorem make20 (F : Fence) (n : Nat) (h31 : F.fn 31) (hro : F.round = none) (cnt : Nat) (Fb : Nat) (w : World) :
    CallsIn F n Try.prog 31 #[.int .i64 (cnt : Int), .func (.func 20) #[] #[.pointer (some ⟨Fb, 0, none⟩)]] w fun e w' => e = .returned (.func (.func 33) #[] #[.pointer (some ⟨w.heap.size, 0, none⟩), .pointer (some ⟨w.heap.size + 1, 0, none⟩)]) ∧ w' = (w.alloc (.cells #[.int .i64 (cnt : Int)] 3)).alloc (.cells #[.func (.func 20) #[] #[.pointer (some ⟨Fb, 0, none⟩)]] 54) := by
  refine callsIn_of_wp Try.func31 rfl h31 ?_ hro
  simp only [Try.ntmps31, List.size_toArray, List.length_cons, List.length_nil, Nat.reduceAdd, Nat.reduceSub, Array.replicate_succ, Array.replicate_zero, List.push_toArray, List.append_toArray, List.nil_append, List.cons_append]
  gi_wp2
  go_ret
  exact ⟨rfl, rfl⟩
set_option maxRecDepth 100000 in
set_option maxHeartbeats 2000000 in
theorem met20_any (w : World) (cnt Fb : Nat) (ways : Nat → List Nat) (h0 : 0 < cnt) (hcn : cnt ≤ 10000) (hwl : ∀ i, (ways i).length ≤ 2) (hwt : ∀ i, i < cnt → ∀ t ∈ ways i, t < cnt) (hW : Ways20 w cnt Fb ways) :
    Calls Try.prog 19 #[.int .i64 (cnt : Int), .func (.func 20) #[] #[.pointer (some ⟨Fb, 0, none⟩)]] w fun e w' => e = .returned (.slice (some ⟨w.heap.size, 0, none⟩) cnt cnt) ∧ (∃ P : List Nat, w'.heap[w.heap.size]? = some (.cells (mk cnt P) 4 (0, 0)) ∧ ∀ x, x < cnt → (x ∈ P ↔ Rch ways x)) ∧ Below w.heap.size w w' := by
  have hro : Fence.wide.round = none := rfl
  have mkB := run_mkB w cnt (by omega)
  obtain ⟨X, hX⟩ : ∃ X, X = w.heap.size := ⟨_, rfl⟩
  obtain ⟨W2, hW2⟩ : ∃ W2, W2 = ((w.alloc (.cells (mk cnt []) 4)).alloc (.cells #[.slice (some ⟨w.heap.size, 0, none⟩) cnt cnt] 37)).alloc (.cells #[.int .i64 (cnt : Int)] 3) := ⟨_, rfl⟩
  obtain ⟨W4, hW4⟩ : ∃ W4, W4 = (W2.alloc (.cells #[.int .i64 (cnt : Int)] 3)).alloc (.cells #[.func (.func 20) #[] #[.pointer (some ⟨Fb, 0, none⟩)]] 54) := ⟨_, rfl⟩
  have hcI : (cnt : Int) ≤ 10000 := by omega
  have hcI0 : (0 : Int) < (cnt : Int) := by omega
  have e0 := heap_alloc_new w (.cells (mk cnt []) 4)
  have e1 := heap_alloc_new (w.alloc (.cells (mk cnt []) 4)) (.cells #[.slice (some ⟨w.heap.size, 0, none⟩) cnt cnt] 37)
  have e2 := heap_alloc_new ((w.alloc (.cells (mk cnt []) 4)).alloc (.cells #[.slice (some ⟨w.heap.size, 0, none⟩) cnt cnt] 37)) (.cells #[.int .i64 (cnt : Int)] 3)
  have e3 := heap_alloc_new W2 (.cells #[.int .i64 (cnt : Int)] 3)
  have e4 := heap_alloc_new (W2.alloc (.cells #[.int .i64 (cnt : Int)] 3)) (.cells #[.func (.func 20) #[] #[.pointer (some ⟨Fb, 0, none⟩)]] 54)
  have z2 : W2.heap.size = w.heap.size + 1 + 1 + 1 := by rw [hW2]; simp
  have z4 : W4.heap.size = w.heap.size + 1 + 1 + 1 + 1 + 1 := by rw [hW4]; simp [z2]
  simp only [World.size_alloc] at e1 e2 e4
  have b2 : Below w.heap.size w W2 := by rw [hW2]; exact (((Below.refl _ w).alloc (Nat.le_refl _) _).alloc (by simp) _).alloc (by simp; omega) _
  have b4 : Below W2.heap.size W2 W4 := by rw [hW4]; exact ((Below.refl _ W2).alloc (Nat.le_refl _) _).alloc (by simp) _
  have q0 : W2.heap[w.heap.size]? = some (.cells (mk cnt []) 4 (0, 0)) := by rw [hW2, Below.heap_alloc _ _ _ (by simp; omega), Below.heap_alloc _ _ _ (by simp)]; exact e0
  have q1 : W2.heap[w.heap.size + 1]? = some (.cells #[.slice (some ⟨w.heap.size, 0, none⟩) cnt cnt] 37 (0, 0)) := by rw [hW2, Below.heap_alloc _ _ _ (by simp)]; exact e1
  have q2 : W2.heap[w.heap.size + 1 + 1]? = some (.cells #[.int .i64 (cnt : Int)] 3 (0, 0)) := by rw [hW2]; exact e2
  have q3 : W4.heap[W2.heap.size]? = some (.cells #[.int .i64 (cnt : Int)] 3 (0, 0)) := by rw [hW4, Below.heap_alloc _ _ _ (by simp)]; exact e3
  have q4 : W4.heap[W2.heap.size + 1]? = some (.cells #[.func (.func 20) #[] #[.pointer (some ⟨Fb, 0, none⟩)]] 54 (0, 0)) := by rw [hW4]; exact e4
  have bw4 : Below w.heap.size w W4 := b2.trans (b4.mono b2.size)
  have hI0 : MI20 w cnt [] W4 := ⟨(b4.block _ (by omega)).trans q0, (b4.block _ (by omega)).trans q1, (b4.block _ (by omega)).trans (by rw [q2]; simp), bw4⟩
  rw [z2] at q3 q4
  have hseq := seq20 w cnt Fb ways h0 hcn hwl hwt hW 5 (by omega) (w.heap.size + 1 + 1 + 1) (w.heap.size + 1 + 1 + 1 + 1) w.heap.size (w.heap.size + 1 + 1) (by omega) (by omega) (by omega) (by omega) W4 bw4 q3 q4 (by omega) (by omega)
  clear e0 e1 e2 e3 e4 b2 b4 q0 q1 q2 q3 q4 bw4 hW
  refine (callsIn_wide (n := 6)).1 ?_
  refine callsIn_of_wp_marks Try.func19 rfl trivial ?_ hro
  simp only [Try.ntmps19, List.size_toArray, List.length_cons, List.length_nil, Nat.reduceAdd, Nat.reduceSub, Array.replicate_succ, Array.replicate_zero, List.push_toArray, List.append_toArray, List.nil_append, List.cons_append]
  gi_upto_region 3 with fail
  rw [← hW2]
  clear hW2 mkB hX
  gi_wp2_with (refine ⟨trivial, ?_⟩; gi_at_call 31; refine (make20 _ _ trivial hro _ _ _).mono ?_; rintro e w7 ⟨rfl, rfl⟩)
  rw [← hW4]
  clear hW4 z2
  refine range_own (q := 0) (gf := 33) (lb := #[.pointer (some ⟨w.heap.size + 1 + 1 + 1, 0, none⟩), .pointer (some ⟨w.heap.size + 1 + 1 + 1 + 1, 0, none⟩)]) (by omega) rfl (enters_of Try.func33 (by kernel_rfl) rfl) hseq KW_t (KW_b (by omega)) (MI20 w cnt) (fun pre W => MI20 w cnt pre W ∧ pre.length = cnt) hI0
    (fun s A A' row h k hr => h.grown k (fun r e => by have := hr r e; omega)) (fun s A A' row h k hr => ⟨h.1.grown k (fun r e => by have := hr r e; omega), h.2⟩)
    (fun x : Fin cnt => { tmps := #[.int .i64 (cnt : Int), .func (.func 20) #[] #[.pointer (some ⟨Fb, 0, none⟩)], undef, undef, .slice none 0 0, .pointer (some ⟨w.heap.size + 1, 0, none⟩), .pointer (some ⟨w.heap.size + 1 + 1, 0, none⟩), .int .i64 (x.val : Int), .int .i64 (cnt : Int), .slice (some ⟨w.heap.size, 0, none⟩) cnt cnt, .int .i64 (cnt : Int), .int .i64 (cnt : Int), .func (.func 20) #[] #[.pointer (some ⟨Fb, 0, none⟩)], .func (.func 33) #[] #[.pointer (some ⟨w.heap.size + 1 + 1 + 1, 0, none⟩), .pointer (some ⟨w.heap.size + 1 + 1 + 1 + 1, 0, none⟩)], .int .i64 (x.val : Int), undef, undef, undef, undef, undef, undef, undef, undef], defers := [] }) ?assign ?body ?done ?stop
  case assign =>
    intro l x W K hK
    simp only [List.setIfInBounds_toArray, List.set_cons_succ, List.set_cons_zero]
    gi_wp2
    exact hK
  case body =>
    intro l pre x W hz hi hlt
    have hx := x.isLt
    have c0 := cellOf hi.r x.val
    rw [mk_get hx] at c0
    have f0 := freeOf hi.r x.val
    have c1 := cellOf hi.b 0
    have c2 := cellOf hi.t 0
    have f2 := freeOf hi.t 0
    simp only [List.getElem?_toArray, List.getElem?_cons_zero] at c1 c2
    have HI := hid hi
    have hl0 := lt_of_heap hi.r
    have hl2 := lt_of_heap hi.t
    obtain ⟨u, hu⟩ : ∃ u : Nat, pre.length + u + 1 = cnt := ⟨cnt - pre.length - 1, by omega⟩
    have hcu : (cnt : Int) - (pre.length : Int) = (u : Int) + 1 := by omega
    rw [hcu] at c2
    have huI : (u : Int) ≤ 10000 := by omega
    have huI0 : (0 : Int) ≤ (u : Int) := by omega
    have hxI : (x.val : Int) < (cnt : Int) := by omega
    have hxI0 : (0 : Int) ≤ (x.val : Int) := by omega
    have Hu := hid hu
    have Hcu := hid hcu
    obtain ⟨xv, hxv⟩ : ∃ xv, xv = x.val := ⟨_, rfl⟩
    have Hxv := hid hxv
    rw [← hxv] at c0 f0 hxI hxI0 hx
    simp only [← hxv]
    have h5 : ∀ (W5 : World), W5 = (W.setCell ⟨w.heap.size, xv, none⟩ (.bool true)).setCell ⟨w.heap.size + 1 + 1, 0, none⟩ (.int .i64 (u : Int)) → (W5.heap[W4.heap.size]? = W.heap[W4.heap.size]? ∧ W5.heap[W4.heap.size + 1]? = W.heap[W4.heap.size + 1]?) ∧ KW w.heap.size w.heap.size (w.heap.size + 1 + 1) W W5 ∧ MI20 w cnt (pre ++ [x]) W5 := by
      intro W5 e5
      have k5 : ∀ b, b ≠ w.heap.size → b ≠ w.heap.size + 1 + 1 → W5.heap[b]? = W.heap[b]? := fun b h1 h2 => by
        rw [e5]; exact (Below.heap_setCell _ _ _ _ h2).trans (Below.heap_setCell _ _ _ _ h1)
      have bl5 : Below w.heap.size W W5 := by
        rw [e5]; exact ((Below.refl _ W).setCell (p := ⟨w.heap.size, xv, none⟩) (Nat.le_refl _) _).setCell (p := ⟨w.heap.size + 1 + 1, 0, none⟩) (by show w.heap.size ≤ w.heap.size + 1 + 1; omega) _
      refine ⟨⟨k5 _ (by omega) (by omega), k5 _ (by omega) (by omega)⟩, ⟨bl5, fun b c t f h1 h2 h3 => (k5 b h1 h2).trans h3⟩, ⟨?_, (k5 _ (by omega) (by omega)).trans HI.out.b, ?_, HI.out.bl.trans bl5⟩⟩
      · rw [e5, Below.heap_setCell _ _ _ _ (by show w.heap.size ≠ w.heap.size + 1 + 1; omega), heap_set_at HI.out.r, vals_snoc, ← Hxv.out, mk_snoc _ hx]
      · have ht : (W.setCell ⟨w.heap.size, xv, none⟩ (.bool true)).heap[w.heap.size + 1 + 1]? = some (.cells #[.int .i64 ((cnt : Int) - (pre.length : Int))] 3 (0, 0)) := (Below.heap_setCell _ _ _ _ (by show w.heap.size + 1 + 1 ≠ w.heap.size; omega)).trans HI.out.t
        rw [e5, heap_set_at ht]
        have : ((cnt : Int) - ((pre ++ [x]).length : Int)) = (u : Int) := by rw [List.length_append]; simp; omega
        rw [this]; rfl
    have H5 := hid h5
    clear hseq hi h5 hI0 hu hcu hxv
    by_cases hu0 : u = 0
    · have hub : ((u : Int) == 0) = true := by subst hu0; rfl
      subst hu0
      gi_wp2
      exact ⟨rfl, (H5.out _ rfl).1, (H5.out _ rfl).2.2, by have := Hu.out; rw [List.length_append]; simp; omega⟩
    · have hub : ((u : Int) == 0) = false := by simp; omega
      gi_wp2
      exact H5.out _ rfl
  case done =>
    intro xs W hS hi hK
    have HS := hid hS
    clear hS
    have HK := hid hK
    have HI := hid hi
    have c1 := cellOf hi.b 0
    simp only [List.getElem?_toArray, List.getElem?_cons_zero] at c1
    clear hseq hi hK hI0
    gi_wp2
    have kD := HK.out
    have hmi : MI20 w cnt xs (W.putObj W4.heap.size (.deferred none)) := HI.out.grown (grownBy_putObj' _ _ _) (fun r e => by cases e; omega)
    refine ⟨by simp, .inl ⟨_, _, rfl, run_takeDeferred kD, ?_⟩⟩
    refine ⟨.slice (some ⟨w.heap.size, 0, none⟩) cnt cnt, by simp [results, Try.results19, go_sem], ?_⟩
    exact ⟨rfl, ⟨vals xs, hmi.r, fun x hx => HS.out x⟩, hmi.bl⟩
  case stop =>
    intro xs W hS hi hK
    obtain ⟨hi, hlen⟩ := hi
    have hall : ∀ x, x < cnt → x ∈ vals xs := fun x hx => by
      refine Classical.byContradiction fun hn => ?_
      have := nodup_le cnt (x :: vals xs) (List.nodup_cons.2 ⟨hn, hS.1⟩) (fun y hy => by
        rcases List.mem_cons.1 hy with rfl | hy
        · exact hx
        · obtain ⟨z, _, rfl⟩ := List.mem_map.1 hy
          exact z.isLt)
      rw [List.length_cons, vals_len] at this
      omega
    have HS : Hid (∀ x, x < cnt → (x ∈ vals xs ↔ Rch ways x)) := hid fun x hx => ⟨hS.2 x, fun _ => hall x hx⟩
    clear hS hall hlen
    have HK := hid hK
    have HI := hid hi
    have c1 := cellOf hi.b 0
    simp only [List.getElem?_toArray, List.getElem?_cons_zero] at c1
    clear hseq hi hK hI0
    gi_wp2
    have kD := HK.out
    have hmi : MI20 w cnt xs (W.putObj W4.heap.size (.deferred none)) := HI.out.grown (grownBy_putObj' _ _ _) (fun r e => by cases e; omega)
    refine ⟨by simp, .inl ⟨_, _, rfl, run_takeDeferred kD, ?_⟩⟩
    refine ⟨.slice (some ⟨w.heap.size, 0, none⟩) cnt cnt, by simp [results, Try.results19, go_sem], ?_⟩
    exact ⟨rfl, ⟨vals xs, hmi.r, fun x hx => HS.out x hx⟩, hmi.bl⟩
end Go.Proofs.Ytkkcbabhccfllaa

namespace Go.Proofs.Ytkkcbabhccfllaa
open Go.RowKit Go.Deep Go.Shelf
set_option linter.unusedVariables false
set_option linter.unusedSimpArgs false
def blkW (bs : List Blk) (i : Nat) : List Nat := match bs[i]? with
  | some b => (tgE b.en b.tt b.el).map Int.toNat
  | none => []
theorem blkW_len (bs : List Blk) (i : Nat) : (blkW bs i).length ≤ 2 := by
  unfold blkW
  split
  · rw [List.length_map]; exact tgE_len _ _ _
  · simp
theorem isG_at {bs : List Blk} (h : isG bs = true) {i : Nat} {o : Blk} (ho : bs[i]? = some o) : okBk bs.length o = true := by
  unfold isG at h
  simp only [Bool.and_eq_true] at h
  exact List.all_eq_true.1 h.2 o (List.mem_of_getElem? ho)
theorem tg_in {n : Nat} {o : Blk} (h : okBk n o = true) : ∀ x ∈ tgE o.en o.tt o.el, 0 ≤ x ∧ x < (n : Int) := by
  intro x hx
  unfold okBk at h
  simp only [Bool.and_eq_true] at h
  have := List.all_eq_true.1 h.1.2 x hx
  simpa using this
theorem blkW_lt {bs : List Blk} (h : isG bs = true) : ∀ i, i < bs.length → ∀ t ∈ blkW bs i, t < bs.length := by
  intro i hi t ht
  unfold blkW at ht
  rw [List.getElem?_eq_getElem hi] at ht
  simp only [List.mem_map] at ht
  obtain ⟨x, hx, rfl⟩ := ht
  have := tg_in (isG_at h (List.getElem?_eq_getElem hi)) x hx
  omega
theorem blkW_ofN {bs : List Blk} (h : isG bs = true) {i : Nat} {o : Blk} (ho : bs[i]? = some o) : ofN (blkW bs i) = tgE o.en o.tt o.el ∧ (blkW bs i).length = (tgE o.en o.tt o.el).length := by
  unfold blkW
  rw [ho]
  exact ⟨ofN_toNat _ (fun x hx => (tg_in (isG_at h ho) x hx).1), by simp⟩
set_option maxHeartbeats 1000000 in
theorem bways_at (W : World) (Fb : Nat) (a : Option Addr) (n c i : Nat) (oa : Option Addr) (on oc : Nat) (en ba tt el : Int) (L : List Nat) (b off : Nat) (ea : a = some ⟨b, off, none⟩) (hi : i < n) (hnb : n ≤ 1000000) (c1 : W.cell? ⟨Fb, 1, none⟩ = some (.slice a n c))
    (e0 : W.cell? ⟨b, off + i * 5, none⟩ = some (.slice oa on oc)) (e1 : W.cell? ⟨b, off + i * 5 + 1, none⟩ = some (.int .i64 en)) (e2 : W.cell? ⟨b, off + i * 5 + 2, none⟩ = some (.int .i64 ba)) (e3 : W.cell? ⟨b, off + i * 5 + 3, none⟩ = some (.int .i64 tt)) (e4 : W.cell? ⟨b, off + i * 5 + 4, none⟩ = some (.int .i64 el))
    (K : Calls Try.prog 21 #[.agg #[.slice oa on oc, .int .i64 en, .int .i64 ba, .int .i64 tt, .int .i64 el]] W fun e w' => ∃ a' c', e = .returned (.slice a' L.length c') ∧ GRow w' W.heap.size a' L.length c' (ofN L) ∧ Below W.heap.size W w') :
    Calls Try.prog 20 #[.int .i64 (i : Int), .pointer (some ⟨Fb, 0, none⟩)] W fun e W' => ∃ a' c', e = .returned (.slice a' L.length c') ∧ GRow W' W.heap.size a' L.length c' (ofN L) ∧ Below W.heap.size W W' := by
  subst ea
  have HK := hid K
  have hiI : (i : Int) < (n : Int) := by omega
  have hi0 : (0 : Int) ≤ (i : Int) := by omega
  have hnI : (n : Int) ≤ 1000000 := by omega
  clear K
  go_enter Try.func20, Try.ntmps20
  go_wp2_with (go_at_call 21; (refine (Hid.out HK).mono ?_; rintro e w1 ⟨a', c', rfl, hg, hb1⟩; have HG := hid hg; have HB := hid hb1; clear hg hb1))
  go_ret
  exact ⟨a', c', rfl, HG.out, HB.out⟩
theorem ways20 (w0 : World) (Fb : Nat) (regs : Int) (a : Option Addr) (n c : Nat) (bs : List Blk) (hbox : w0.heap[Fb]? = some (.cells #[.int .i64 regs, .slice a n c] 24 (0, 0))) (hn : n = bs.length) (hnb : n ≤ 1000000) (hr : BRd w0 a bs) (hok : isG bs = true) : Ways20 w0 bs.length Fb (blkW bs) := fun W i hb hi => by
  have ho : bs[i]? = some bs[i] := List.getElem?_eq_getElem hi
  obtain ⟨b, off, ea, hc⟩ := (hr.below hb).c i _ ho
  have K := targets_any W bs[i].oa bs[i].on bs[i].oc bs[i].en bs[i].a bs[i].tt bs[i].el
  obtain ⟨e1, e2⟩ := blkW_ofN hok ho
  rw [← e2, ← e1] at K
  exact bways_at W Fb a n c i _ _ _ _ _ _ _ (blkW bs i) b off ea (by omega) hnb (cellOf ((hb.block Fb (lt_of_heap hbox)).trans hbox) 1) (hc 0 (by omega)) (hc 1 (by omega)) (hc 2 (by omega)) (hc 3 (by omega)) (hc 4 (by omega)) K
/- What Reached tells. -/
def GrP (w : World) (bs : List Blk) (n : Nat) (bad : Int) (e : Ending) (w' : World) : Prop := Below w.heap.size w w' ∧
  ((isG bs = true ∧ ∃ (P : List Nat) (b : Nat), e = .returned (.tuple #[.slice (some ⟨b, 0, none⟩) n n, .int .i64 0]) ∧ w.heap.size ≤ b ∧ w'.heap[b]? = some (.cells (mk n P) 4 (0, 0)) ∧ ∀ x, x < n → (x ∈ P ↔ Rch (blkW bs) x)) ∨
   (isG bs = false ∧ e = .returned (.tuple #[.slice none 0 0, .int .i64 bad])))
set_option maxRecDepth 100000 in
set_option maxHeartbeats 1000000 in
theorem reached_any (w : World) (regs : Int) (a : Option Addr) (n c : Nat) (bs : List Blk) (hn : n = bs.length) (hnb : n ≤ 10000) (hr : BRd w a bs) : Calls Try.prog 10 #[.agg #[.int .i64 regs, .slice a n c]] w (GrP w bs n 100) := by
  obtain ⟨W0, hW0⟩ : ∃ W0, W0 = w.alloc (.cells #[.int .i64 regs, .slice a n c] 24) := ⟨_, rfl⟩
  have bw0 : Below w.heap.size w W0 := by rw [hW0]; exact (Below.refl _ _).alloc (Nat.le_refl _) _
  have m0 : W0.heap[w.heap.size]? = some (.cells #[.int .i64 regs, .slice a n c] 24 (0, 0)) := by rw [hW0]; exact heap_alloc_new _ _
  have hnI : (n : Int) ≤ 10000 := by omega
  have K1 := hid (isGraph_any W0 regs a n c bs hn (by omega) (hr.below bw0))
  have CB := hid (fun (v : World) (hv : Below W0.heap.size W0 v) => (⟨cellOf ((hv.block w.heap.size (lt_of_heap m0)).trans m0) 0, cellOf ((hv.block w.heap.size (lt_of_heap m0)).trans m0) 1⟩ : v.cell? ⟨w.heap.size, 0, none⟩ = some (.int .i64 regs) ∧ v.cell? ⟨w.heap.size, 1, none⟩ = some (.slice a n c)))
  have BW := hid (fun (v : World) (hv : Below W0.heap.size W0 v) => bw0.trans (hv.mono bw0.size))
  obtain ⟨x0, x1⟩ := CB.out W0 (Below.refl _ _)
  cases hok : isG bs with
  | false =>
    rw [hok] at K1
    have HO := hid hok
    clear m0 bw0 hr hn hok
    go_enter Try.func10, Try.ntmps10
    go_upto_region 1 with fail
    rw [← hW0]
    clear hW0
    go_wp2_with (first | (go_at_call 15; (refine (Hid.out K1).mono ?_; rintro e w1 ⟨rfl, hb1⟩; have HB1 := hid (BW.out w1 hb1); clear hb1 x0 x1)))
    go_ret2
    exact ⟨HB1.out, .inr ⟨HO.out, rfl⟩⟩
  | true =>
    rw [hok] at K1
    have hn0 : 0 < bs.length := by unfold isG at hok; simp at hok; omega
    have K2 := hid (fun (v : World) (hv : Below W0.heap.size W0 v) => met20_any v bs.length w.heap.size (blkW bs) hn0 (by omega) (blkW_len bs) (blkW_lt hok) (ways20 v w.heap.size regs a n c bs ((hv.block w.heap.size (lt_of_heap m0)).trans m0) hn (by omega) ((hr.below bw0).below hv) hok))
    rw [← hn] at K2
    have HO := hid hok
    clear m0 bw0 hr hn hok hn0
    go_enter Try.func10, Try.ntmps10
    go_upto_region 1 with fail
    rw [← hW0]
    clear hW0
    go_wp2_with (first | (go_at_call 15; (refine (Hid.out K1).mono ?_; rintro e w1 ⟨rfl, hb1⟩; obtain ⟨y0, y1⟩ := CB.out w1 hb1; have HB1 := hid hb1; have K2' := hid (K2.out w1 hb1); clear hb1 x0 x1)) | (go_at_call 19; (refine (Hid.out K2').mono ?_; rintro e w2 ⟨rfl, ⟨P, hm2, hP⟩, hb2⟩; have HM2 := hid hm2; have HP2 := hid hP; have HB2 := hid hb2; clear hm2 hP hb2)))
    go_ret2
    have b1 := BW.out w1 HB1.out
    exact ⟨b1.trans (HB2.out.mono b1.size), .inl ⟨HO.out, P, w1.heap.size, rfl, b1.size, HM2.out, HP2.out⟩⟩
end Go.Proofs.Ytkkcbabhccfllaa

