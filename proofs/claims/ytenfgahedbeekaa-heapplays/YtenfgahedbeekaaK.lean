/- heap.copyOf: a value that holds the same, in memory of its own. -/
import Derived.Test.YtenfgahedbeekaaJ
namespace Go.Proofs.Ytenfgahedbeekaa
open Go.RowKit Go.Deep Go.Shelf
set_option linter.unusedVariables false
set_option linter.unusedSimpArgs false

theorem five_new {W : World} {g : Nat} {a0 a1 a2 a3 a4 : Value} (h : W.heap[g]? = some (.cells #[a0, a1, a2, a3, a4] 31 (0, 0))) (x : Hd) : (five W g 0 x).heap[g]? = some (.cells #[.int .i64 x.kind, .int .i64 x.int, .string x.text, .int .i64 x.rc, .slice x.a x.n x.cap] 31 (0, 0)) := by
  have h1 := heap_set_at (heap_set_at (heap_set_at (heap_set_at (heap_set_at h 0 (.int .i64 x.kind)) 1 (.int .i64 x.int)) 2 (.string x.text)) 3 (.int .i64 x.rc)) 4 (.slice x.a x.n x.cap)
  exact h1
/- A tree of values whose rows lie in blocks of A. -/
def RdP : (k : Nat) → World → (Nat → Prop) → VT k → Prop
  | 0, _, _, _ => False
  | k + 1, w, A, t => t.1.In ∧ t.1.n = t.2.length ∧ t.1.n ≤ 1000 ∧ VRd w t.1.a (t.2.map (hdT k)) ∧ (∀ x : Addr, t.1.a = some x → t.2 ≠ [] → A x.block) ∧ ∀ u ∈ t.2, RdP k w A u
theorem RdP.rds : ∀ (k : Nat) {w : World} {A : Nat → Prop} {t : VT k}, RdP k w A t → Rds k w t
  | 0, _, _, _, h => h.elim
  | k + 1, w, A, t, h => ⟨h.1, h.2.1, h.2.2.1, h.2.2.2.1, fun u hu => RdP.rds k (h.2.2.2.2.2 u hu)⟩
theorem RdP.imp : ∀ (k : Nat) {w : World} {A B : Nat → Prop} {t : VT k}, RdP k w A t → (∀ b, A b → B b) → RdP k w B t
  | 0, _, _, _, _, h, _ => h.elim
  | k + 1, w, A, B, t, h, i => ⟨h.1, h.2.1, h.2.2.1, h.2.2.2.1, fun x e ne => i _ (h.2.2.2.2.1 x e ne), fun u hu => RdP.imp k (h.2.2.2.2.2 u hu) i⟩
theorem VRd.keep {w w' : World} {a : Option Addr} {hs : List Hd} (h : VRd w a hs) (e : ∀ x : Addr, a = some x → hs ≠ [] → w'.heap[x.block]? = w.heap[x.block]?) : VRd w' a hs := by
  intro j x hx
  obtain ⟨b, off, rfl, hc⟩ := h j x hx
  refine ⟨b, off, rfl, fun i hi => ?_⟩
  rw [← hc i hi]
  exact World.cell?_of_block (a := ⟨b, off + j * 5 + i, none⟩) (show w'.heap[b]? = w.heap[b]? from e ⟨b, off, none⟩ rfl (fun h0 => by rw [h0] at hx; simp at hx))
theorem RdP.keep : ∀ (k : Nat) {w w' : World} {A : Nat → Prop} {t : VT k}, RdP k w A t → (∀ b, A b → w'.heap[b]? = w.heap[b]?) → RdP k w' A t
  | 0, _, _, _, _, h, _ => h.elim
  | k + 1, w, w', A, t, h, e => ⟨h.1, h.2.1, h.2.2.1, h.2.2.2.1.keep (fun x ex ne => e _ (h.2.2.2.2.1 x ex (fun h0 => ne (by rw [h0]; rfl)))), h.2.2.2.2.1, fun u hu => RdP.keep k (h.2.2.2.2.2 u hu) e⟩

/- What stands at the head of a round. -/
structure CpL (k : Nat) (w wr : World) (h : Hd) (us : List (VT k)) (i : Nat) (fa : Option Addr) (fn fc : Nat) (vs : List (VT k)) : Prop where
  bel : Below w.heap.size w wr
  b1 : wr.heap[w.heap.size]? = some (.cells #[.int .i64 h.kind, .int .i64 h.int, .string h.text, .int .i64 h.rc, .slice h.a h.n h.cap] 31 (0, 0))
  b2 : wr.heap[w.heap.size + 1]? = some (.cells #[.int .i64 0, .int .i64 0, .string ⟨#[]⟩, .int .i64 0, .slice none 0 0] 31 (0, 0))
  row : VRow wr (w.heap.size + 2) (.slice fa fn fc) (vs.map (hdT k))
  rd : ∀ v ∈ vs, RdP k wr (fun b => w.heap.size + 2 ≤ b ∧ b < wr.heap.size ∧ (Value.slice fa fn fc).ownBlock ≠ some b) v
  same : vs.map (ofT k) = (us.take i).map (ofT k)
theorem CpL.sz {k : Nat} {w wr : World} {h : Hd} {us : List (VT k)} {i : Nat} {fa : Option Addr} {fn fc : Nat} {vs : List (VT k)} (c : CpL k w wr h us i fa fn fc vs) : w.heap.size + 2 ≤ wr.heap.size := (Array.getElem?_eq_some_iff.1 c.b2).1
/- One more: a copy made (wr to w9), a box (w9.alloc), the row grown (to w10). -/
theorem CpL.more {k : Nat} {w wr w9 w10 : World} {h : Hd} {us : List (VT k)} {i : Nat} {fa : Option Addr} {fn fc : Nat} {vs : List (VT k)} {v2 : Value} {u v : VT k} {o o2 : Obj} (c : CpL k w wr h us i fa fn fc vs) (hu : us[i]? = some u)
    (h9 : Below (wr.alloc o).heap.size (wr.alloc o) w9) (hv : RdP k w9 (fun b => (wr.alloc o).heap.size ≤ b ∧ b < w9.heap.size) v) (he : ofT k v = ofT k u)
    (hr : VRow w10 (w.heap.size + 2) v2 (vs.map (hdT k) ++ [hdT k v])) (hg : Grw (w9.alloc o2) (.slice fa fn fc) w10 v2) :
    ∃ fa2 fn2 fc2, v2 = .slice fa2 fn2 fc2 ∧ CpL k w w10 h us (i + 1) fa2 fn2 fc2 (vs ++ [v]) := by
  obtain ⟨fa2, fc2, e, _⟩ := hr.form
  have hsz := c.sz
  have hA : Below wr.heap.size wr (w9.alloc o2) := by
    have h1 : Below wr.heap.size wr (wr.alloc o) := (Below.refl _ wr).alloc (Nat.le_refl _) _
    have h2 := h1.trans (h9.mono h1.size)
    exact h2.alloc h2.size _
  have own : ∀ b, (Value.slice fa fn fc).ownBlock = some b → w.heap.size + 2 ≤ b ∧ b < wr.heap.size := fun b e => c.row.own b e
  have blk : ∀ b, b < wr.heap.size → (Value.slice fa fn fc).ownBlock ≠ some b → w10.heap[b]? = wr.heap[b]? := fun b hb hne => (hg.1.block b (Nat.lt_of_lt_of_le hb hA.size) (fun e => hne e.symm)).trans (hA.block b hb)
  have own2 : ∀ b, v2.ownBlock = some b → (Value.slice fa fn fc).ownBlock = some b ∨ (w9.alloc o2).heap.size ≤ b := fun b e => by
    rcases hg.2 with h1 | ⟨g, h1, h2⟩
    · exact .inl (h1 ▸ e)
    · rw [h1] at e; cases e; exact .inr h2
  have s10 : wr.heap.size ≤ w10.heap.size := Nat.le_trans hA.size hg.1.size
  have s9 : (wr.alloc o).heap.size ≤ w9.heap.size := h9.size
  have sA : (w9.alloc o2).heap.size = w9.heap.size + 1 := by simp
  have sB : (wr.alloc o).heap.size = wr.heap.size + 1 := by simp
  have s11 : (w9.alloc o2).heap.size ≤ w10.heap.size := hg.1.size
  subst e
  refine ⟨fa2, _, fc2, rfl, ⟨?_, ?_, ?_, ?_, ?_, ?_⟩⟩
  · refine ⟨(hg.1.os.trans hA.os).trans c.bel.os, (hg.1.tape.trans hA.tape).trans c.bel.tape, (hg.1.output.trans hA.output).trans c.bel.output, Nat.le_trans c.bel.size s10, fun j hj => ?_⟩
    exact (blk j (by omega) (fun e => by have := (own j e).1; omega)).trans (c.bel.block j hj)
  · exact (blk _ (by omega) (fun e => by have := (own _ e).1; omega)).trans c.b1
  · exact (blk _ (by omega) (fun e => by have := (own _ e).1; omega)).trans c.b2
  · rw [List.map_append]; exact hr
  · intro x hx
    rcases List.mem_append.1 hx with hx | hx
    · have h1 := (c.rd x hx).keep k (w' := w10) (fun b hb => blk b hb.2.1 hb.2.2)
      refine h1.imp k (fun b hb => ⟨hb.1, by omega, fun e => ?_⟩)
      rcases own2 b e with h | h
      · exact hb.2.2 h
      · omega
    · obtain rfl : x = v := by simpa using hx
      have h1 := hv.keep k (w' := w10) (fun b hb => (hg.1.block b (by omega) (fun e => by have := (own b e.symm).2; omega)).trans (Below.heap_alloc _ _ _ hb.2))
      refine h1.imp k (fun b hb => ⟨by omega, by omega, fun e => ?_⟩)
      rcases own2 b e with h | h
      · have := (own b h).2; omega
      · omega
  · rw [List.map_append, c.same, List.take_add_one, hu]
    simp [he]
theorem wpList_appV {ops : Array Oper} {rest : List Oper} {o : Oper} {a : Act} {Q : Exit → Act → World → Prop} (w : World) (hgd : o.guard = none) (sl x : Operand)
    (ho : o.op = .call { callee := .builtin .append, args := #[sl, x], argTypes := #[29, 29] }) (v : Value) (h : Hd) (hs : a.eval sl = v) (hx : a.eval x = .slice (some ⟨w.heap.size, 0, none⟩) 1 1)
    (B : Nat) (ss : List Hd) (hr : VRow w B v ss) (hB : B ≤ w.heap.size) (hl : ss.length ≤ 1000000)
    (k : ∀ v' w', VRow w' B v' (ss ++ [h]) → Grw (w.alloc (.cells #[.int .i64 h.kind, .int .i64 h.int, .string h.text, .int .i64 h.rc, .slice h.a h.n h.cap] 31)) v w' v' → wpList Try.prog ops Q rest (a.put o.dst v') w') :
    wpList Try.prog ops Q (o :: rest) a (w.alloc (.cells #[.int .i64 h.kind, .int .i64 h.int, .string h.text, .int .i64 h.rc, .slice h.a h.n h.cap] 31)) := by
  refine wpList_plain hgd fun K hK => ?_
  have hr' : VRow (w.alloc (.cells #[.int .i64 h.kind, .int .i64 h.int, .string h.text, .int .i64 h.rc, .slice h.a h.n h.cap] 31)) B v ss := hr.below (Nat.le_refl _) ((Below.refl _ w).alloc (Nat.le_refl _) _)
  obtain ⟨v', w', hrun, h2, h3⟩ := run_appV _ o.type B v ss h w.heap.size hr' (heap_alloc_new w _) (by simp; omega) hl
  unfold Oper.wp execOp
  simp only [ho, resolve, invoke, builtin, Sem.run_bind, Sem.run_pure, Result.andThen_ok, List.map_toArray, List.map_cons, List.map_nil, hs, hx, hrun]
  exact hK _ _ (k v' w' h2 h3)

def CpP (k : Nat) (w : World) (t : VT k) (e : Ending) (w' : World) : Prop := ∃ t' : VT k, e = .returned (hdT k t').v ∧ Below w.heap.size w w' ∧ RdP k w' (fun b => w.heap.size ≤ b ∧ b < w'.heap.size) t' ∧ ofT k t' = ofT k t
set_option maxRecDepth 100000 in
set_option maxHeartbeats 2000000 in
theorem copy_step (k : Nat) (ih : ∀ (w : World) (t : VT k), Rds k w t → Calls Try.prog 46 #[(hdT k t).v] w (CpP k w t)) (w : World) (t : VT (k + 1)) (ht : Rds (k + 1) w t) :
    Calls Try.prog 46 #[(hdT (k + 1) t).v] w (CpP (k + 1) w t) := by
  obtain ⟨⟨kind, int, text, rc, a, n, cap⟩, us⟩ := t
  obtain ⟨hin, hn, hle, hv, hu⟩ := ht
  have IH := hid ih
  have Hin := hid hin
  have Hn : Hid (n = us.length) := hid hn
  have HV := hid hv
  have HU := hid hu
  have hle' : n ≤ 1000 := hle
  have hle2 : (n : Int) ≤ 1000 := by omega
  have hn0 : (0 : Int) ≤ (n : Int) := by omega
  clear ih hin hn hv hu hle
  show Calls Try.prog 46 #[(⟨kind, int, text, rc, a, n, cap⟩ : Hd).v] w _
  simp only [Hd.v]
  obtain ⟨W0, hW0⟩ : ∃ W0, W0 = (w.alloc (.cells #[.int .i64 kind, .int .i64 int, .string text, .int .i64 rc, .slice a n cap] 31)).alloc (.cells #[.int .i64 0, .int .i64 0, .string ⟨#[]⟩, .int .i64 0, .slice none 0 0] 31) := ⟨_, rfl⟩
  have c0 : CpL k w W0 ⟨kind, int, text, rc, a, n, cap⟩ us 0 none 0 0 [] := by
    refine ⟨by rw [hW0]; exact ((Below.refl _ w).alloc (Nat.le_refl _) _).alloc (by simp) _, ?_, ?_, by simpa using VRow.nil _ _, fun v hv => by simp at hv, rfl⟩
    · rw [hW0]; exact (Below.heap_alloc _ _ _ (by simp)).trans (heap_alloc_new w _)
    · have := heap_alloc_new (w.alloc (.cells #[.int .i64 kind, .int .i64 int, .string text, .int .i64 rc, .slice a n cap] 31)) (.cells #[.int .i64 0, .int .i64 0, .string ⟨#[]⟩, .int .i64 0, .slice none 0 0] 31)
      rw [World.size_alloc] at this
      rw [hW0]; exact this
  have C0 := hid c0
  have g4 : W0.cell? ⟨w.heap.size, 4, none⟩ = some (.slice a n cap) := cellOf c0.b1 4
  clear c0
  go_enter Try.func46, Try.ntmps46
  go_wp2
  rw [← hW0]
  clear hW0
  go_loopg [3, 9] n (fun g fv ii wr => ∃ i : Nat, i + g = n ∧ ii = .int .i64 (i : Int) ∧ ∃ fa fn fc vs, fv = .slice fa fn fc ∧ CpL k w wr ⟨kind, int, text, rc, a, n, cap⟩ us i fa fn fc vs)
  case atStart => exact ⟨0, by omega, rfl, none, 0, 0, [], rfl, C0.out⟩
  case round =>
    obtain ⟨i, hi', rfl, fa, fn, fc, vs, rfl, hc⟩ := hrel
    have HC := hid hc
    cases gk with
    | zero =>
      have hin2 : i = n := by omega
      subst hin2
      have k0 := cellOf hc.b1 0
      have k1 := cellOf hc.b1 1
      have k2 := cellOf hc.b1 2
      have k3 := cellOf hc.b1 3
      have k4 := cellOf hc.b1 4
      have m4 := freeOf hc.b1 4
      have e0 := cellOf hc.b2 0
      have e1 := cellOf hc.b2 1
      have e2 := cellOf hc.b2 2
      have e3 := cellOf hc.b2 3
      have e4 := cellOf hc.b2 4
      have f0 := freeOf hc.b2 0
      have f1 := freeOf hc.b2 1
      have f2 := freeOf hc.b2 2
      have f3 := freeOf hc.b2 3
      have f4 := freeOf hc.b2 4
      simp only [List.getElem?_toArray, List.getElem?_cons_zero, List.getElem?_cons_succ] at k0 k1 k2 k3 k4 e0 e1 e2 e3 e4
      clear hi' hc g4
      go_wp2
      have hb2 : (wr.setCell ⟨w.heap.size, 4, none⟩ (.slice fa fn fc)).heap[w.heap.size + 1]? = some (.cells #[.int .i64 0, .int .i64 0, .string ⟨#[]⟩, .int .i64 0, .slice none 0 0] 31 (0, 0)) := (Below.heap_setCell _ _ _ _ (by show w.heap.size + 1 ≠ w.heap.size; omega)).trans HC.out.b2
      have hbl : Below w.heap.size w (wr.setCell ⟨w.heap.size, 4, none⟩ (.slice fa fn fc)) := HC.out.bel.setCell (Nat.le_refl _) _
      have hkp : ∀ b, w.heap.size + 2 ≤ b → (five (wr.setCell ⟨w.heap.size, 4, none⟩ (.slice fa fn fc)) (w.heap.size + 1) 0 ⟨kind, int, text, rc, fa, fn, fc⟩).heap[b]? = wr.heap[b]? := fun b hb => (five_heap _ _ _ _ (by omega)).trans (Below.heap_setCell _ _ _ _ (by show b ≠ w.heap.size; omega))
      have h5 := five_new hb2 ⟨kind, int, text, rc, fa, fn, fc⟩
      have hb5 := five_below hbl (b := w.heap.size + 1) (o := 0) (by omega) ⟨kind, int, text, rc, fa, fn, fc⟩
      have hs5 : wr.heap.size ≤ (five (wr.setCell ⟨w.heap.size, 4, none⟩ (.slice fa fn fc)) (w.heap.size + 1) 0 ⟨kind, int, text, rc, fa, fn, fc⟩).heap.size := by simp [five, World.setCell]
      change bodyPost _ _ _ _ _ (five (wr.setCell ⟨w.heap.size, 4, none⟩ (.slice fa fn fc)) (w.heap.size + 1) 0 ⟨kind, int, text, rc, fa, fn, fc⟩)
      generalize five (wr.setCell ⟨w.heap.size, 4, none⟩ (.slice fa fn fc)) (w.heap.size + 1) 0 ⟨kind, int, text, rc, fa, fn, fc⟩ = W5 at *
      have q0 := cellOf h5 0
      have q1 := cellOf h5 1
      have q2 := cellOf h5 2
      have q3 := cellOf h5 3
      have q4 := cellOf h5 4
      simp only [List.getElem?_toArray, List.getElem?_cons_zero, List.getElem?_cons_succ] at q0 q1 q2 q3 q4
      have hlen : vs.length = i := by
        have := congrArg List.length HC.out.same
        rw [List.length_map, List.length_map, List.length_take, ← Hn.out] at this
        omega
      have hfn : fn = vs.length := by
        obtain ⟨a9, c9, e9, _⟩ := HC.out.row.form
        cases e9; simp
      have hta : us.take i = us := List.take_of_length_le (by rw [← Hn.out]; exact Nat.le_refl _)
      have row5 := HC.out.row.same (w' := W5) (fun q e => hkp q (HC.out.row.own q e).1)
      refine bodyPost_ret (v := .agg #[.int .i64 kind, .int .i64 int, .string text, .int .i64 rc, .slice fa fn fc]) (by simp [results, Try.results46, go_sem, q0, q1, q2, q3, q4]) rfl ⟨mkV k ⟨kind, int, text, rc, fa, fn, fc⟩ vs, rfl, hb5, ?_, ?_⟩
      · refine ⟨⟨Hin.out.i0, Hin.out.i1, Hin.out.k0, Hin.out.k1, Hin.out.r0, Hin.out.r1, Hin.out.t, by show fn ≤ _; omega⟩, hfn, by show fn ≤ _; omega, row5.rd, ?_, ?_⟩
        · intro x ex ne
          have hrow := HC.out.row.srow (by intro h0; exact ne (List.map_eq_nil_iff.1 h0))
          obtain ⟨g, cap', e', _, hg, _⟩ := hrow
          have ex' : fa = some x := ex
          cases e'
          cases ex'
          have := HC.out.row.own g rfl
          exact ⟨by show w.heap.size ≤ g; omega, by show g < _; omega⟩
        · intro v hv
          exact ((HC.out.rd v hv).keep k (fun b hb => hkp b hb.1)).imp k (fun b hb => ⟨by omega, by omega⟩)
      · show (ofH ⟨kind, int, text, rc, fa, fn, fc⟩, vs.map (ofT k)) = (ofH ⟨kind, int, text, rc, a, i, cap⟩, us.map (ofT k))
        rw [HC.out.same, hta]; rfl
    | succ gi =>
      have hlt0 : i < n := by omega
      have hlt : (i : Int) < (n : Int) := by omega
      have hi00 : (0 : Int) ≤ (i : Int) := by omega
      obtain ⟨u, hu⟩ : ∃ u, us[i]? = some u := ⟨us[i]'(by rw [← Hn.out]; exact hlt0), List.getElem?_eq_getElem _⟩
      obtain ⟨b, off, ea, dh⟩ := (HV.out.below (Nat.le_refl _) hc.bel) i (hdT k u) (by rw [List.getElem?_map, hu]; rfl)
      have ea' : a = some ⟨b, off, none⟩ := ea
      subst ea'
      have hru := Rds.below k (HU.out u (List.mem_of_getElem? hu)) (Nat.le_refl _) hc.bel
      have d0 := dh 0 (by omega)
      have d1 := dh 1 (by omega)
      have d2 := dh 2 (by omega)
      have d3 := dh 3 (by omega)
      have d4 := dh 4 (by omega)
      simp only [Hd.cs, List.getElem?_cons_zero, List.getElem?_cons_succ, Nat.add_zero] at d0 d1 d2 d3 d4
      have C46 := hid (fun o => IH.out (wr.alloc o) u (Rds.below k hru (Nat.le_refl _) ((Below.refl _ wr).alloc (Nat.le_refl _) o)))
      generalize hdT k u = hd0 at *
      obtain ⟨yk, yi, yt, yr, ya, yn, yc⟩ := hd0
      simp only [Hd.v] at C46 d0 d1 d2 d3 d4
      have Hu := hid hu
      have Hi := hid hi'
      have hlv : (vs.map (hdT k)).length ≤ 1000000 := by
        have := congrArg List.length hc.same
        rw [List.length_map, List.length_map, List.length_take] at this
        rw [List.length_map]; omega
      have Hlv := hid hlv
      clear hc dh hu hru hlv hi' g4 ea HV HU IH
      go_wp2_with (first
        | (go_at_call 46; (refine (C46.out _).mono ?_; rintro e w9 ⟨v, rfl, hb9, hrv, hev⟩; simp only [Hd.v]; have Hb9 := hid hb9; have Hrv := hid hrv; have Hev := hid hev; clear hb9 hrv hev))
        | (at_builtin; refine wpList_appV w9 rfl _ _ rfl _ (hdT k v) (by rfl) (by rfl) (w.heap.size + 2) (vs.map (hdT k)) ((HC.out.row.below (Nat.le_refl _) ((Below.refl _ wr).alloc (Nat.le_refl _) _)).below (Nat.le_refl _) Hb9.out) (Nat.le_trans HC.out.sz (by have := Hb9.out.size; simp at this; omega)) Hlv.out ?_; intro v4 w4 hr4 hg4; obtain ⟨fa2, fn2, fc2, rfl, hc2⟩ := HC.out.more Hu.out Hb9.out Hrv.out Hev.out hr4 hg4; have HC2 := hid hc2; clear hc2 hr4 hg4))
      go_roundg gi
      case measure => omega
      case rel => exact ⟨i + 1, by have := Hi.out; omega, by go_num, fa2, fn2, fc2, _, rfl, HC2.out⟩
theorem copy_any : ∀ (k : Nat) (w : World) (t : VT k), Rds k w t → Calls Try.prog 46 #[(hdT k t).v] w (CpP k w t)
  | 0, _, _, h => h.elim
  | k + 1, w, t, h => copy_step k (copy_any k) w t h
end Go.Proofs.Ytenfgahedbeekaa
