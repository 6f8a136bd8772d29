/- heap.copyOf: a value that holds the same, in memory of its own. -/
import Derived.Test.YtenfgahedbeekaaJAB
namespace Go.Proofs.Ytenfgahedbeekaa
open Go.RowKit Go.Deep Go.Shelf
set_option linter.unusedVariables false
set_option linter.unusedSimpArgs false

theorem five_new {W : World} {g : Nat} {a0 a1 a2 a3 a4 : Value} (h : W.heap[g]? = some (.cells #[a0, a1, a2, a3, a4] 31 (0, 0))) (x : Hd) : (five W g 0 x).heap[g]? = some (.cells #[.int .i64 x.kind, .int .i64 x.int, .string x.text, .int .i64 x.rc, .slice x.a x.n x.cap] 31 (0, 0)) := by
  have h1 := heap_set_at (heap_set_at (heap_set_at (heap_set_at (heap_set_at h 0 (.int .i64 x.kind)) 1 (.int .i64 x.int)) 2 (.string x.text)) 3 (.int .i64 x.rc)) 4 (.slice x.a x.n x.cap)
  exact h1
/- A tree of values whose rows lie in blocks of A. -/
def RdP : (k : Nat) → World → (Nat → Prop) → VT k → Prop
  | 0, _, _, _ => False
  | k + 1, w, A, t => t.1.In ∧ t.1.n = t.2.length ∧ t.1.n ≤ 1000 ∧ VRd w t.1.a (t.2.map (hdT k)) ∧ (∀ x : Addr, t.1.a = some x → t.2 ≠ [] → A x.block) ∧ ∀ u ∈ t.2, RdP k w A u
theorem RdP.rds : ∀ (k : Nat) {w : World} {A : Nat → Prop} {t : VT k}, RdP k w A t → Rds k w t
  | 0, _, _, _, h => h.elim
  | k + 1, w, A, t, h => ⟨h.1, h.2.1, h.2.2.1, h.2.2.2.1, fun u hu => RdP.rds k (h.2.2.2.2.2 u hu)⟩
theorem RdP.imp : ∀ (k : Nat) {w : World} {A B : Nat → Prop} {t : VT k}, RdP k w A t → (∀ b, A b → B b) → RdP k w B t
  | 0, _, _, _, _, h, _ => h.elim
  | k + 1, w, A, B, t, h, i => ⟨h.1, h.2.1, h.2.2.1, h.2.2.2.1, fun x e ne => i _ (h.2.2.2.2.1 x e ne), fun u hu => RdP.imp k (h.2.2.2.2.2 u hu) i⟩
theorem VRd.keep {w w' : World} {a : Option Addr} {hs : List Hd} (h : VRd w a hs) (e : ∀ x : Addr, a = some x → hs ≠ [] → w'.heap[x.block]? = w.heap[x.block]?) : VRd w' a hs := by
  intro j x hx
  obtain ⟨b, off, rfl, hc⟩ := h j x hx
  refine ⟨b, off, rfl, fun i hi => ?_⟩
  rw [← hc i hi]
  exact World.cell?_of_block (a := ⟨b, off + j * 5 + i, none⟩) (show w'.heap[b]? = w.heap[b]? from e ⟨b, off, none⟩ rfl (fun h0 => by rw [h0] at hx; simp at hx))
theorem RdP.keep : ∀ (k : Nat) {w w' : World} {A : Nat → Prop} {t : VT k}, RdP k w A t → (∀ b, A b → w'.heap[b]? = w.heap[b]?) → RdP k w' A t
  | 0, _, _, _, _, h, _ => h.elim
  | k + 1, w, w', A, t, h, e => ⟨h.1, h.2.1, h.2.2.1, h.2.2.2.1.keep (fun x ex ne => e _ (h.2.2.2.2.1 x ex (fun h0 => ne (by rw [h0]; rfl)))), h.2.2.2.2.1, fun u hu => RdP.keep k (h.2.2.2.2.2 u hu) e⟩

/- What stands at the head of a round. -/
structure CpL (k : Nat) (w wr : World) (h : Hd) (us : List (VT k)) (i : Nat) (fa : Option Addr) (fn fc : Nat) (vs : List (VT k)) : Prop where
  bel : Below w.heap.size w wr
  b1 : wr.heap[w.heap.size]? = some (.cells #[.int .i64 h.kind, .int .i64 h.int, .string h.text, .int .i64 h.rc, .slice h.a h.n h.cap] 31 (0, 0))
  b2 : wr.heap[w.heap.size + 1]? = some (.cells #[.int .i64 0, .int .i64 0, .string ⟨#[]⟩, .int .i64 0, .slice none 0 0] 31 (0, 0))
  row : VRow wr (w.heap.size + 2) (.slice fa fn fc) (vs.map (hdT k))
  rd : ∀ v ∈ vs, RdP k wr (fun b => w.heap.size + 2 ≤ b ∧ b < wr.heap.size ∧ (Value.slice fa fn fc).ownBlock ≠ some b) v
  same : vs.map (ofT k) = (us.take i).map (ofT k)
theorem CpL.sz {k : Nat} {w wr : World} {h : Hd} {us : List (VT k)} {i : Nat} {fa : Option Addr} {fn fc : Nat} {vs : List (VT k)} (c : CpL k w wr h us i fa fn fc vs) : w.heap.size + 2 ≤ wr.heap.size := (Array.getElem?_eq_some_iff.1 c.b2).1
/- One more: a copy made (wr to w9), a box (w9.alloc), the row grown (to w10). -/
theorem CpL.more {k : Nat} {w wr w9 w10 : World} {h : Hd} {us : List (VT k)} {i : Nat} {fa : Option Addr} {fn fc : Nat} {vs : List (VT k)} {v2 : Value} {u v : VT k} {o o2 : Obj} (c : CpL k w wr h us i fa fn fc vs) (hu : us[i]? = some u)
    (h9 : Below (wr.alloc o).heap.size (wr.alloc o) w9) (hv : RdP k w9 (fun b => (wr.alloc o).heap.size ≤ b ∧ b < w9.heap.size) v) (he : ofT k v = ofT k u)
    (hr : VRow w10 (w.heap.size + 2) v2 (vs.map (hdT k) ++ [hdT k v])) (hg : Grw (w9.alloc o2) (.slice fa fn fc) w10 v2) :
    ∃ fa2 fn2 fc2, v2 = .slice fa2 fn2 fc2 ∧ CpL k w w10 h us (i + 1) fa2 fn2 fc2 (vs ++ [v]) := by
  obtain ⟨fa2, fc2, e, _⟩ := hr.form
  have hsz := c.sz
  have hA : Below wr.heap.size wr (w9.alloc o2) := by
    have h1 : Below wr.heap.size wr (wr.alloc o) := (Below.refl _ wr).alloc (Nat.le_refl _) _
    have h2 := h1.trans (h9.mono h1.size)
    exact h2.alloc h2.size _
  have own : ∀ b, (Value.slice fa fn fc).ownBlock = some b → w.heap.size + 2 ≤ b ∧ b < wr.heap.size := fun b e => c.row.own b e
  have blk : ∀ b, b < wr.heap.size → (Value.slice fa fn fc).ownBlock ≠ some b → w10.heap[b]? = wr.heap[b]? := fun b hb hne => (hg.1.block b (Nat.lt_of_lt_of_le hb hA.size) (fun e => hne e.symm)).trans (hA.block b hb)
  have own2 : ∀ b, v2.ownBlock = some b → (Value.slice fa fn fc).ownBlock = some b ∨ (w9.alloc o2).heap.size ≤ b := fun b e => by
    rcases hg.2 with h1 | ⟨g, h1, h2⟩
    · exact .inl (h1 ▸ e)
    · rw [h1] at e; cases e; exact .inr h2
  have s10 : wr.heap.size ≤ w10.heap.size := Nat.le_trans hA.size hg.1.size
  have s9 : (wr.alloc o).heap.size ≤ w9.heap.size := h9.size
  have sA : (w9.alloc o2).heap.size = w9.heap.size + 1 := by simp
  have sB : (wr.alloc o).heap.size = wr.heap.size + 1 := by simp
  have s11 : (w9.alloc o2).heap.size ≤ w10.heap.size := hg.1.size
  subst e
  refine ⟨fa2, _, fc2, rfl, ⟨?_, ?_, ?_, ?_, ?_, ?_⟩⟩
  · refine ⟨(hg.1.os.trans hA.os).trans c.bel.os, (hg.1.tape.trans hA.tape).trans c.bel.tape, (hg.1.output.trans hA.output).trans c.bel.output, Nat.le_trans c.bel.size s10, fun j hj => ?_⟩
    exact (blk j (by omega) (fun e => by have := (own j e).1; omega)).trans (c.bel.block j hj)
  · exact (blk _ (by omega) (fun e => by have := (own _ e).1; omega)).trans c.b1
  · exact (blk _ (by omega) (fun e => by have := (own _ e).1; omega)).trans c.b2
  · rw [List.map_append]; exact hr
  · intro x hx
    rcases List.mem_append.1 hx with hx | hx
    · have h1 := (c.rd x hx).keep k (w' := w10) (fun b hb => blk b hb.2.1 hb.2.2)
      refine h1.imp k (fun b hb => ⟨hb.1, by omega, fun e => ?_⟩)
      rcases own2 b e with h | h
      · exact hb.2.2 h
      · omega
    · obtain rfl : x = v := by simpa using hx
      have h1 := hv.keep k (w' := w10) (fun b hb => (hg.1.block b (by omega) (fun e => by have := (own b e.symm).2; omega)).trans (Below.heap_alloc _ _ _ hb.2))
      refine h1.imp k (fun b hb => ⟨by omega, by omega, fun e => ?_⟩)
      rcases own2 b e with h | h
      · have := (own b h).2; omega
      · omega
  · rw [List.map_append, c.same, List.take_add_one, hu]
    simp [he]
theorem wpList_appV {ops : Array Oper} {rest : List Oper} {o : Oper} {a : Act} {Q : Exit → Act → World → Prop} (w : World) (hgd : o.guard = none) (sl x : Operand)
    (ho : o.op = .call { callee := .builtin .append, args := #[sl, x], argTypes := #[29, 29] }) (v : Value) (h : Hd) (hs : a.eval sl = v) (hx : a.eval x = .slice (some ⟨w.heap.size, 0, none⟩) 1 1)
    (B : Nat) (ss : List Hd) (hr : VRow w B v ss) (hB : B ≤ w.heap.size) (hl : ss.length ≤ 1000000)
    (k : ∀ v' w', VRow w' B v' (ss ++ [h]) → Grw (w.alloc (.cells #[.int .i64 h.kind, .int .i64 h.int, .string h.text, .int .i64 h.rc, .slice h.a h.n h.cap] 31)) v w' v' → wpList Try.prog ops Q rest (a.put o.dst v') w') :
    wpList Try.prog ops Q (o :: rest) a (w.alloc (.cells #[.int .i64 h.kind, .int .i64 h.int, .string h.text, .int .i64 h.rc, .slice h.a h.n h.cap] 31)) := by
  refine wpList_plain hgd fun K hK => ?_
  have hr' : VRow (w.alloc (.cells #[.int .i64 h.kind, .int .i64 h.int, .string h.text, .int .i64 h.rc, .slice h.a h.n h.cap] 31)) B v ss := hr.below (Nat.le_refl _) ((Below.refl _ w).alloc (Nat.le_refl _) _)
  obtain ⟨v', w', hrun, h2, h3⟩ := run_appV _ o.type B v ss h w.heap.size hr' (heap_alloc_new w _) (by simp; omega) hl
  unfold Oper.wp execOp
  simp only [ho, resolve, invoke, builtin, Sem.run_bind, Sem.run_pure, Result.andThen_ok, List.map_toArray, List.map_cons, List.map_nil, hs, hx, hrun]
  exact hK _ _ (k v' w' h2 h3)

def CpP (k : Nat) (w : World) (t : VT k) (e : Ending) (w' : World) : Prop := ∃ t' : VT k, e = .returned (hdT k t').v ∧ Below w.heap.size w w' ∧ RdP k w' (fun b => w.heap.size ≤ b ∧ b < w'.heap.size) t' ∧ ofT k t' = ofT k t
set_option maxRecDepth 100000 in
set_option maxHeartbeats 2000000 in
theorem copy_step (k : Nat) (ih : ∀ (w : World) (t : VT k), Rds k w t → Calls Try.prog 46 #[(hdT k t).v] w (CpP k w t)) (w : World) (t : VT (k + 1)) (ht : Rds (k + 1) w t) :
    Calls Try.prog 46 #[(hdT (k + 1) t).v] w (CpP (k + 1) w t) := by
  obtain ⟨⟨kind, int, text, rc, a, n, cap⟩, us⟩ := t
  obtain ⟨hin, hn, hle, hv, hu⟩ := ht
  have IH := hid ih
  have Hin := hid hin
  have Hn : Hid (n = us.length) := hid hn
  have HV := hid hv
  have HU := hid hu
  have hle' : n ≤ 1000 := hle
  have hle2 : (n : Int) ≤ 1000 := by omega
  have hn0 : (0 : Int) ≤ (n : Int) := by omega
  clear ih hin hn hv hu hle
  show Calls Try.prog 46 #[(⟨kind, int, text, rc, a, n, cap⟩ : Hd).v] w _
  simp only [Hd.v]
  obtain ⟨W0, hW0⟩ : ∃ W0, W0 = (w.alloc (.cells #[.int .i64 kind, .int .i64 int, .string text, .int .i64 rc, .slice a n cap] 31)).alloc (.cells #[.int .i64 0, .int .i64 0, .string ⟨#[]⟩, .int .i64 0, .slice none 0 0] 31) := ⟨_, rfl⟩
  have c0 : CpL k w W0 ⟨kind, int, text, rc, a, n, cap⟩ us 0 none 0 0 [] := by
    refine ⟨by rw [hW0]; exact ((Below.refl _ w).alloc (Nat.le_refl _) _).alloc (by simp) _, ?_, ?_, by simpa using VRow.nil _ _, fun v hv => by simp at hv, rfl⟩
    · rw [hW0]; exact (Below.heap_alloc _ _ _ (by simp)).trans (heap_alloc_new w _)
    · have := heap_alloc_new (w.alloc (.cells #[.int .i64 kind, .int .i64 int, .string text, .int .i64 rc, .slice a n cap] 31)) (.cells #[.int .i64 0, .int .i64 0, .string ⟨#[]⟩, .int .i64 0, .slice none 0 0] 31)
      rw [World.size_alloc] at this
      rw [hW0]; exact this
  have C0 := hid c0
  have g4 : W0.cell? ⟨w.heap.size, 4, none⟩ = some (.slice a n cap) := cellOf c0.b1 4
  clear c0
  go_enter Try.func46, Try.ntmps46
  go_wp2
  rw [← hW0]
  clear hW0
  go_loopg [3, 9] n (fun g fv ii wr => ∃ i : Nat, i + g = n ∧ ii = .int .i64 (i : Int) ∧ ∃ fa fn fc vs, fv = .slice fa fn fc ∧ CpL k w wr ⟨kind, int, text, rc, a, n, cap⟩ us i fa fn fc vs)
  case atStart => exact ⟨0, by omega, rfl, none, 0, 0, [], rfl, C0.out⟩
  case round =>
    obtain ⟨i, hi', rfl, fa, fn, fc, vs, rfl, hc⟩ := hrel
    have HC := hid hc
    cases gk with
    | zero =>
      have hin2 : i = n := by omega
      subst hin2
      have k0 := cellOf hc.b1 0
      have k1 := cellOf hc.b1 1
      have k2 := cellOf hc.b1 2
      have k3 := cellOf hc.b1 3
      have k4 := cellOf hc.b1 4
      have m4 := freeOf hc.b1 4
      have e0 := cellOf hc.b2 0
      have e1 := cellOf hc.b2 1
      have e2 := cellOf hc.b2 2
      have e3 := cellOf hc.b2 3
      have e4 := cellOf hc.b2 4
      have f0 := freeOf hc.b2 0
      have f1 := freeOf hc.b2 1
      have f2 := freeOf hc.b2 2
      have f3 := freeOf hc.b2 3
      have f4 := freeOf hc.b2 4
      simp only [List.getElem?_toArray, List.getElem?_cons_zero, List.getElem?_cons_succ] at k0 k1 k2 k3 k4 e0 e1 e2 e3 e4
      clear hi' hc g4
      go_wp2
      have hb2 : (wr.setCell ⟨w.heap.size, 4, none⟩ (.slice fa fn fc)).heap[w.heap.size + 1]? = some (.cells #[.int .i64 0, .int .i64 0, .string ⟨#[]⟩, .int .i64 0, .slice none 0 0] 31 (0, 0)) := (Below.heap_setCell _ _ _ _ (by show w.heap.size + 1 ≠ w.heap.size; omega)).trans HC.out.b2
      have hbl : Below w.heap.size w (wr.setCell ⟨w.heap.size, 4, none⟩ (.slice fa fn fc)) := HC.out.bel.setCell (Nat.le_refl _) _
      have hkp : ∀ b, w.heap.size + 2 ≤ b → (five (wr.setCell ⟨w.heap.size, 4, none⟩ (.slice fa fn fc)) (w.heap.size + 1) 0 ⟨kind, int, text, rc, fa, fn, fc⟩).heap[b]? = wr.heap[b]? := fun b hb => (five_heap _ _ _ _ (by omega)).trans (Below.heap_setCell _ _ _ _ (by show b ≠ w.heap.size; omega))
      have h5 := five_new hb2 ⟨kind, int, text, rc, fa, fn, fc⟩
      have hb5 := five_below hbl (b := w.heap.size + 1) (o := 0) (by omega) ⟨kind, int, text, rc, fa, fn, fc⟩
      have hs5 : wr.heap.size ≤ (five (wr.setCell ⟨w.heap.size, 4, none⟩ (.slice fa fn fc)) (w.heap.size + 1) 0 ⟨kind, int, text, rc, fa, fn, fc⟩).heap.size := by simp [five, World.setCell]
      change bodyPost _ _ _ _ _ (five (wr.setCell ⟨w.heap.size, 4, none⟩ (.slice fa fn fc)) (w.heap.size + 1) 0 ⟨kind, int, text, rc, fa, fn, fc⟩)
      generalize five (wr.setCell ⟨w.heap.size, 4, none⟩ (.slice fa fn fc)) (w.heap.size + 1) 0 ⟨kind, int, text, rc, fa, fn, fc⟩ = W5 at *
      have q0 := cellOf h5 0
      have q1 := cellOf h5 1
      have q2 := cellOf h5 2
      have q3 := cellOf h5 3
      have q4 := cellOf h5 4
      simp only [List.getElem?_toArray, List.getElem?_cons_zero, List.getElem?_cons_succ] at q0 q1 q2 q3 q4
      have hlen : vs.length = i := by
        have := congrArg List.length HC.out.same
        rw [List.length_map, List.length_map, List.length_take, ← Hn.out] at this
        omega
      have hfn : fn = vs.length := by
        obtain ⟨a9, c9, e9, _⟩ := HC.out.row.form
        cases e9; simp
      have hta : us.take i = us := List.take_of_length_le (by rw [← Hn.out]; exact Nat.le_refl _)
      have row5 := HC.out.row.same (w' := W5) (fun q e => hkp q (HC.out.row.own q e).1)
      refine bodyPost_ret (v := .agg #[.int .i64 kind, .int .i64 int, .string text, .int .i64 rc, .slice fa fn fc]) (by simp [results, Try.results46, go_sem, q0, q1, q2, q3, q4]) rfl ⟨mkV k ⟨kind, int, text, rc, fa, fn, fc⟩ vs, rfl, hb5, ?_, ?_⟩
      · refine ⟨⟨Hin.out.i0, Hin.out.i1, Hin.out.k0, Hin.out.k1, Hin.out.r0, Hin.out.r1, Hin.out.t, by show fn ≤ _; omega⟩, hfn, by show fn ≤ _; omega, row5.rd, ?_, ?_⟩
        · intro x ex ne
          have hrow := HC.out.row.srow (by intro h0; exact ne (List.map_eq_nil_iff.1 h0))
          obtain ⟨g, cap', e', _, hg, _⟩ := hrow
          have ex' : fa = some x := ex
          cases e'
          cases ex'
          have := HC.out.row.own g rfl
          exact ⟨by show w.heap.size ≤ g; omega, by show g < _; omega⟩
        · intro v hv
          exact ((HC.out.rd v hv).keep k (fun b hb => hkp b hb.1)).imp k (fun b hb => ⟨by omega, by omega⟩)
      · show (ofH ⟨kind, int, text, rc, fa, fn, fc⟩, vs.map (ofT k)) = (ofH ⟨kind, int, text, rc, a, i, cap⟩, us.map (ofT k))
        rw [HC.out.same, hta]; rfl
    | succ gi =>
      have hlt0 : i < n := by omega
      have hlt : (i : Int) < (n : Int) := by omega
      have hi00 : (0 : Int) ≤ (i : Int) := by omega
      obtain ⟨u, hu⟩ : ∃ u, us[i]? = some u := ⟨us[i]'(by rw [← Hn.out]; exact hlt0), List.getElem?_eq_getElem _⟩
      obtain ⟨b, off, ea, dh⟩ := (HV.out.below (Nat.le_refl _) hc.bel) i (hdT k u) (by rw [List.getElem?_map, hu]; rfl)
      have ea' : a = some ⟨b, off, none⟩ := ea
      subst ea'
      have hru := Rds.below k (HU.out u (List.mem_of_getElem? hu)) (Nat.le_refl _) hc.bel
      have d0 := dh 0 (by omega)
      have d1 := dh 1 (by omega)
      have d2 := dh 2 (by omega)
      have d3 := dh 3 (by omega)
      have d4 := dh 4 (by omega)
      simp only [Hd.cs, List.getElem?_cons_zero, List.getElem?_cons_succ, Nat.add_zero] at d0 d1 d2 d3 d4
      have C46 := hid (fun o => IH.out (wr.alloc o) u (Rds.below k hru (Nat.le_refl _) ((Below.refl _ wr).alloc (Nat.le_refl _) o)))
      generalize hdT k u = hd0 at *
      obtain ⟨yk, yi, yt, yr, ya, yn, yc⟩ := hd0
      simp only [Hd.v] at C46 d0 d1 d2 d3 d4
      have Hu := hid hu
      have Hi := hid hi'
      have hlv : (vs.map (hdT k)).length ≤ 1000000 := by
        have := congrArg List.length hc.same
        rw [List.length_map, List.length_map, List.length_take] at this
        rw [List.length_map]; omega
      have Hlv := hid hlv
      clear hc dh hu hru hlv hi' g4 ea HV HU IH
      go_wp2_with (first
        | (go_at_call 46; (refine (C46.out _).mono ?_; rintro e w9 ⟨v, rfl, hb9, hrv, hev⟩; simp only [Hd.v]; have Hb9 := hid hb9; have Hrv := hid hrv; have Hev := hid hev; clear hb9 hrv hev))
        | (at_builtin; refine wpList_appV w9 rfl _ _ rfl _ (hdT k v) (by rfl) (by rfl) (w.heap.size + 2) (vs.map (hdT k)) ((HC.out.row.below (Nat.le_refl _) ((Below.refl _ wr).alloc (Nat.le_refl _) _)).below (Nat.le_refl _) Hb9.out) (Nat.le_trans HC.out.sz (by have := Hb9.out.size; simp at this; omega)) Hlv.out ?_; intro v4 w4 hr4 hg4; obtain ⟨fa2, fn2, fc2, rfl, hc2⟩ := HC.out.more Hu.out Hb9.out Hrv.out Hev.out hr4 hg4; have HC2 := hid hc2; clear hc2 hr4 hg4))
      go_roundg gi
      case measure => omega
      case rel => exact ⟨i + 1, by have := Hi.out; omega, by go_num, fa2, fn2, fc2, _, rfl, HC2.out⟩
theorem copy_any : ∀ (k : Nat) (w : World) (t : VT k), Rds k w t → Calls Try.prog 46 #[(hdT k t).v] w (CpP k w t)
  | 0, _, _, h => h.elim
  | k + 1, w, t, h => copy_step k (copy_any k) w t h
end Go.Proofs.Ytenfgahedbeekaa

namespace Go.Proofs.Ytenfgahedbeekaa
open Go.RowKit Go.Deep Go.Shelf
set_option linter.unusedVariables false
set_option linter.unusedSimpArgs false

structure En where
  key : Hd
  val : Hd
def En.cs (e : En) : List Value := [.int .i64 e.key.kind, .int .i64 e.key.int, .string e.key.text, .int .i64 e.key.rc, .slice e.key.a e.key.n e.key.cap, .int .i64 e.val.kind, .int .i64 e.val.int, .string e.val.text, .int .i64 e.val.rc, .slice e.val.a e.val.n e.val.cap]
def En.v (e : En) : Value := .agg e.cs.toArray
def ee (es : List En) : List Value := es.flatMap En.cs
theorem ee_length (es : List En) : (ee es).length = es.length * 10 := by
  induction es with
  | nil => rfl
  | cons h r ih => simp [ee, En.cs] at ih ⊢; omega
theorem ee_snoc (es : List En) (h : En) : ee (es ++ [h]) = ee es ++ h.cs := by simp [ee]
theorem ee_at (es : List En) : ∀ (j : Nat) (h : En), es[j]? = some h → ∀ i, i < 10 → (ee es)[j * 10 + i]? = h.cs[i]? := by
  induction es with
  | nil => intro j h e; simp at e
  | cons x r ih =>
    intro j h e i hi
    have hx : (En.cs x).length = 10 := rfl
    cases j with
    | zero =>
      simp at e; subst e
      simp only [ee, List.flatMap_cons]
      rw [List.getElem?_append_left (by omega)]
      simp
    | succ j =>
      simp at e
      simp only [ee, List.flatMap_cons]
      rw [List.getElem?_append_right (by omega), hx, show (j + 1) * 10 + i - 10 = j * 10 + i from by omega]
      exact ih j h e i hi
def ERow (w : World) (B : Nat) (v : Value) (es : List En) : Prop := w.ownsRow B 81 10 v es.length (ee es)
theorem ERow.nil (w : World) (B : Nat) : ERow w B (.slice none 0 0) [] := World.ownsRow_nil w B 81 10
theorem ERow.own {w B v es} (h : ERow w B v es) : ∀ k, v.ownBlock = some k → B ≤ k ∧ k < w.heap.size := World.ownsRow.lt h
theorem ERow.same {w w' : World} {B v xs} (h : ERow w B v xs) (e : ∀ g, v.ownBlock = some g → w'.heap[g]? = w.heap[g]?) : ERow w' B v xs := by
  refine ⟨h.1, ?_⟩
  rcases h.2 with hn | ⟨g, cap, cur, rfl, hb, hgg, rest⟩
  · exact .inl hn
  · exact .inr ⟨g, cap, cur, rfl, hb, (e g rfl).trans hgg, rest⟩
theorem ERow.below {w w' : World} {B C v xs} (h : ERow w B v xs) (hC : w.heap.size ≤ C) (k : Below C w w') : ERow w' B v xs :=
  h.same fun g e => k.block g (by have := (h.own g e).2; omega)
theorem ERow.mono {w : World} {B C v xs} (h : ERow w B v xs) (hC : C ≤ B) : ERow w C v xs := by
  refine ⟨h.1, ?_⟩
  rcases h.2 with hn | ⟨g, cap, cur, rfl, hb, rest⟩
  · exact .inl hn
  · exact .inr ⟨g, cap, cur, rfl, by omega, rest⟩
theorem ERow.form {w B v xs} (h : ERow w B v xs) : ∃ a cap, v = .slice a xs.length cap ∧ xs.length ≤ cap := by
  rcases h.2 with ⟨rfl, hn⟩ | ⟨g, cap, cur, rfl, hb, hgg, hc, rest⟩
  · exact ⟨none, 0, by rw [hn], by omega⟩
  · exact ⟨_, _, rfl, hc⟩
def ERd (w : World) (a : Option Addr) (es : List En) : Prop := ∀ (j : Nat) (h : En), es[j]? = some h → ∃ b off, a = some ⟨b, off, none⟩ ∧ ∀ i, i < 10 → w.cell? ⟨b, off + j * 10 + i, none⟩ = h.cs[i]?
theorem ERow.rd {w : World} {B a n cap es} (h : ERow w B (.slice a n cap) es) : ERd w a es := by
  intro j x hx
  rcases h.2 with ⟨e, hn⟩ | ⟨g, cap', cur, e, hb, hgg, hc, hm, hs', ht⟩
  · have : es = [] := List.eq_nil_of_length_eq_zero hn
    subst this; simp at hx
  · cases e
    refine ⟨g, 0, rfl, fun i hi => ?_⟩
    have hv := ee_at es j x hx i hi
    have hj : j < es.length := (List.getElem?_eq_some_iff.1 hx).1
    rw [← hv, Nat.zero_add]
    have hlt : j * 10 + i < (ee es).length := by rw [ee_length]; omega
    rw [cellOf hgg (j * 10 + i)]
    rw [← ht, List.getElem?_take, if_pos (by omega)]
    simp
theorem ERd.keep {w w' : World} {a : Option Addr} {es : List En} (h : ERd w a es) (e : ∀ x : Addr, a = some x → es ≠ [] → w'.heap[x.block]? = w.heap[x.block]?) : ERd w' a es := by
  intro j x hx
  obtain ⟨b, off, rfl, hc⟩ := h j x hx
  refine ⟨b, off, rfl, fun i hi => ?_⟩
  rw [← hc i hi]
  exact World.cell?_of_block (a := ⟨b, off + j * 10 + i, none⟩) (show w'.heap[b]? = w.heap[b]? from e ⟨b, off, none⟩ rfl (fun h0 => by rw [h0] at hx; simp at hx))
theorem ERd.below {w w' : World} {a : Option Addr} {es : List En} {B : Nat} (h : ERd w a es) (hB : w.heap.size ≤ B) (k : Below B w w') : ERd w' a es := by
  intro j x hx
  obtain ⟨b, off, rfl, hc⟩ := h j x hx
  refine ⟨b, off, rfl, fun i hi => ?_⟩
  have h0 := hc 0 (by omega)
  have hb : b < w.heap.size := World.block_lt_of_cell? w _ (h0.trans (show x.cs[0]? = some (.int .i64 x.key.kind) from rfl))
  rw [← hc i hi]
  exact k.cell (p := ⟨b, off + j * 10 + i, none⟩) (Nat.lt_of_lt_of_le hb hB)
def zeroE : Value := .agg #[.int .i64 0, .int .i64 0, .string ⟨#[]⟩, .int .i64 0, .slice none 0 0, .int .i64 0, .int .i64 0, .string ⟨#[]⟩, .int .i64 0, .slice none 0 0]
theorem info81 : (Try.prog.info? 81).map (fun i => (i.zero, i.size, i.bytes)) = some (some zeroE, 10, 128) := by kernel_rfl
theorem ecs_one (h : En) : ∀ u ∈ h.cs, u.oneCell' = true := by
  intro u hu
  simp only [En.cs, List.mem_cons, List.not_mem_nil, or_false] at hu
  rcases hu with rfl | rfl | rfl | rfl | rfl | rfl | rfl | rfl | rfl | rfl <;> rfl
theorem run_appE (w : World) (ty : TypeId) (B : Nat) (v : Value) (es : List En) (h : En) (g : Nat) (hr : ERow w B v es) (hg : w.heap[g]? = some (.cells h.cs.toArray 81 (0, 0))) (hB : B ≤ w.heap.size) (hl : es.length ≤ 1000000) :
    ∃ v' w', (Builtin.append_ #[70, 70] ty #[v, .slice (some ⟨g, 0, none⟩) 1 1]).run Try.prog w = .ok v' w' ∧ ERow w' B v' (es ++ [h]) ∧ Grw w v w' v' := by
  obtain ⟨i0, hi, hz0, hz1, hz2⟩ := info_parts info81
  obtain ⟨v', w', hrun, hown, hgr, _, hat⟩ := run_append_own_at (P := Try.prog) w B 70 ty 81 i0 zeroE 10 128 Try.underlying70 hi hz0 hz1 hz2 rfl (by decide) v es.length (ee es) hr ⟨g, 0, none⟩ 1 1 h.cs rfl (by
    intro j u hu
    exact World.news_of_block hg j u (by simpa using hu)) (ecs_one h) (by unfold maxLen; omega) (by omega) hB
  refine ⟨v', w', hrun, ?_, hgr, ?_⟩
  · unfold ERow
    rw [ee_snoc, List.length_append]
    exact hown
  · rcases hat with hat | hat
    · exact .inl hat
    · exact .inr ⟨_, hat, Nat.le_refl _⟩
end Go.Proofs.Ytenfgahedbeekaa

namespace Go.Proofs.Ytenfgahedbeekaa
open Go.RowKit Go.Deep Go.Shelf
set_option linter.unusedVariables false
set_option linter.unusedSimpArgs false

theorem step_appE {ops : Array Oper} {o : Oper} {a : Act} {w : World} {K : Act → World → Prop} {Q : Exit → Act → World → Prop} {E : Prop} (hgd : o.guard = none) (s x : Operand)
    (ho : o.op = .call { callee := .builtin .append, args := #[s, x], argTypes := #[70, 70] }) (v : Value) (g : Nat) (h : En) (hs : a.eval s = v) (hx : a.eval x = .slice (some ⟨g, 0, none⟩) 1 1)
    (B : Nat) (xs : List En) (hr : ERow w B v xs) (hg : w.heap[g]? = some (.cells h.cs.toArray 81 (0, 0))) (hB : B ≤ w.heap.size) (hl : xs.length ≤ 1000000)
    (k : ∀ v' w', ERow w' B v' (xs ++ [h]) → Grw w v w' v' → K (a.put o.dst v') w') :
    if Region.wanted o (yielded ops a.tmps) = true then Oper.wp Try.prog o a w K Q else E := by
  have hw : Region.wanted o (yielded ops a.tmps) = true := by simp [Region.wanted, hgd]
  rw [if_pos hw]
  obtain ⟨v', w', hr, h2, h3⟩ := run_appE w o.type B v xs h g hr hg hB hl
  unfold Oper.wp execOp
  simp only [ho, resolve, invoke, builtin, Sem.run_bind, Sem.run_pure, Result.andThen_ok, List.map_toArray, List.map_cons, List.map_nil, hs, hx, hr]
  exact k v' w' h2 h3

def enT (k : Nat) (p : VT k × VT k) : En := ⟨hdT k p.1, hdT k p.2⟩
def ofP (k : Nat) (p : VT k × VT k) : CT k × CT k := (ofT k p.1, ofT k p.2)
/- A row of entries that a slice reads. -/
structure RwR (k : Nat) (w : World) (a : Option Addr) (n : Nat) (ps : List (VT k × VT k)) : Prop where
  n1 : n = ps.length
  n2 : n ≤ 1000
  rd : ERd w a (ps.map (enT k))
  el : ∀ p ∈ ps, Rds k w p.1 ∧ Rds k w p.2
theorem RwR.below {k : Nat} {w w' : World} {a : Option Addr} {n : Nat} {ps : List (VT k × VT k)} {B : Nat} (h : RwR k w a n ps) (hB : w.heap.size ≤ B) (hb : Below B w w') : RwR k w' a n ps :=
  ⟨h.n1, h.n2, h.rd.below hB hb, fun p hp => ⟨Rds.below k (h.el p hp).1 hB hb, Rds.below k (h.el p hp).2 hB hb⟩⟩
/- The same, in blocks of A. -/
structure RwP (k : Nat) (w : World) (A : Nat → Prop) (a : Option Addr) (n : Nat) (ps : List (VT k × VT k)) : Prop where
  n1 : n = ps.length
  n2 : n ≤ 1000
  rd : ERd w a (ps.map (enT k))
  at' : ∀ x : Addr, a = some x → ps ≠ [] → A x.block
  el : ∀ p ∈ ps, RdP k w A p.1 ∧ RdP k w A p.2
theorem RwP.rwr {k : Nat} {w : World} {A : Nat → Prop} {a : Option Addr} {n : Nat} {ps : List (VT k × VT k)} (h : RwP k w A a n ps) : RwR k w a n ps := ⟨h.n1, h.n2, h.rd, fun p hp => ⟨(h.el p hp).1.rds k, (h.el p hp).2.rds k⟩⟩
theorem RwP.imp {k : Nat} {w : World} {A B : Nat → Prop} {a : Option Addr} {n : Nat} {ps : List (VT k × VT k)} (h : RwP k w A a n ps) (i : ∀ b, A b → B b) : RwP k w B a n ps :=
  ⟨h.n1, h.n2, h.rd, fun x e ne => i _ (h.at' x e ne), fun p hp => ⟨(h.el p hp).1.imp k i, (h.el p hp).2.imp k i⟩⟩
theorem RwP.keep {k : Nat} {w w' : World} {A : Nat → Prop} {a : Option Addr} {n : Nat} {ps : List (VT k × VT k)} (h : RwP k w A a n ps) (e : ∀ b, A b → w'.heap[b]? = w.heap[b]?) : RwP k w' A a n ps :=
  ⟨h.n1, h.n2, h.rd.keep (fun x ex ne => e _ (h.at' x ex (fun h0 => ne (by rw [h0]; rfl)))), h.at', fun p hp => ⟨(h.el p hp).1.keep k e, (h.el p hp).2.keep k e⟩⟩

structure CrL (k : Nat) (w wr : World) (ps : List (VT k × VT k)) (i : Nat) (fa : Option Addr) (fn fc : Nat) (qs : List (VT k × VT k)) : Prop where
  bel : Below w.heap.size w wr
  row : ERow wr w.heap.size (.slice fa fn fc) (qs.map (enT k))
  rd : ∀ q ∈ qs, RdP k wr (fun b => w.heap.size ≤ b ∧ b < wr.heap.size ∧ (Value.slice fa fn fc).ownBlock ≠ some b) q.1 ∧ RdP k wr (fun b => w.heap.size ≤ b ∧ b < wr.heap.size ∧ (Value.slice fa fn fc).ownBlock ≠ some b) q.2
  same : qs.map (ofP k) = (ps.take i).map (ofP k)
theorem CrL.more {k : Nat} {w wr wA w8 w9 w10 : World} {ps : List (VT k × VT k)} {i : Nat} {fa : Option Addr} {fn fc : Nat} {qs : List (VT k × VT k)} {v2 : Value} {p : VT k × VT k} {x y : VT k} {o2 : Obj} (c : CrL k w wr ps i fa fn fc qs) (hp : ps[i]? = some p)
    (hA : Below wr.heap.size wr wA) (h8 : Below wA.heap.size wA w8) (hx : RdP k w8 (fun b => wA.heap.size ≤ b ∧ b < w8.heap.size) x) (hex : ofT k x = ofT k p.1)
    (h9 : Below w8.heap.size w8 w9) (hy : RdP k w9 (fun b => w8.heap.size ≤ b ∧ b < w9.heap.size) y) (hey : ofT k y = ofT k p.2)
    (hr : ERow w10 w.heap.size v2 (qs.map (enT k) ++ [enT k (x, y)])) (hg : Grw (w9.alloc o2) (.slice fa fn fc) w10 v2) :
    ∃ fa2 fn2 fc2, v2 = .slice fa2 fn2 fc2 ∧ CrL k w w10 ps (i + 1) fa2 fn2 fc2 (qs ++ [(x, y)]) := by
  obtain ⟨fa2, fc2, e, _⟩ := hr.form
  have hs0 := c.bel.size
  have b8 : Below wr.heap.size wr w8 := hA.trans (h8.mono hA.size)
  have b9 : Below wr.heap.size wr w9 := b8.trans (h9.mono b8.size)
  have bA : Below wr.heap.size wr (w9.alloc o2) := b9.alloc b9.size _
  have own : ∀ b, (Value.slice fa fn fc).ownBlock = some b → w.heap.size ≤ b ∧ b < wr.heap.size := fun b e => c.row.own b e
  have blk : ∀ b, b < wr.heap.size → (Value.slice fa fn fc).ownBlock ≠ some b → w10.heap[b]? = wr.heap[b]? := fun b hb hne => (hg.1.block b (Nat.lt_of_lt_of_le hb bA.size) (fun e => hne e.symm)).trans (bA.block b hb)
  have blk9 : ∀ b, wr.heap.size ≤ b → b < w9.heap.size → w10.heap[b]? = w9.heap[b]? := fun b hb hb2 => (hg.1.block b (by simp; omega) (fun e => by have := (own b e.symm).2; omega)).trans (Below.heap_alloc _ _ _ hb2)
  have own2 : ∀ b, v2.ownBlock = some b → (Value.slice fa fn fc).ownBlock = some b ∨ (w9.alloc o2).heap.size ≤ b := fun b e => by
    rcases hg.2 with h1 | ⟨g, h1, h2⟩
    · exact .inl (h1 ▸ e)
    · rw [h1] at e; cases e; exact .inr h2
  have s8 := h8.size
  have s9 := h9.size
  have sA := hA.size
  have sB : (w9.alloc o2).heap.size = w9.heap.size + 1 := by simp
  have s11 : (w9.alloc o2).heap.size ≤ w10.heap.size := hg.1.size
  subst e
  refine ⟨fa2, _, fc2, rfl, ⟨?_, ?_, ?_, ?_⟩⟩
  · refine ⟨(hg.1.os.trans bA.os).trans c.bel.os, (hg.1.tape.trans bA.tape).trans c.bel.tape, (hg.1.output.trans bA.output).trans c.bel.output, by omega, fun j hj => ?_⟩
    exact (blk j (by omega) (fun e => by have := (own j e).1; omega)).trans (c.bel.block j hj)
  · rw [List.map_append]; exact hr
  · intro q hq
    rcases List.mem_append.1 hq with hq | hq
    · have im : ∀ b, (w.heap.size ≤ b ∧ b < wr.heap.size ∧ (Value.slice fa fn fc).ownBlock ≠ some b) → (w.heap.size ≤ b ∧ b < w10.heap.size ∧ (Value.slice fa2 (qs.map (enT k) ++ [enT k (x, y)]).length fc2).ownBlock ≠ some b) := fun b hb => ⟨hb.1, by omega, fun e => by
        rcases own2 b e with h | h
        · exact hb.2.2 h
        · omega⟩
      exact ⟨((c.rd q hq).1.keep k (fun b hb => blk b hb.2.1 hb.2.2)).imp k im, ((c.rd q hq).2.keep k (fun b hb => blk b hb.2.1 hb.2.2)).imp k im⟩
    · obtain rfl : q = (x, y) := by simpa using hq
      have im : ∀ b, (wr.heap.size ≤ b ∧ b < w9.heap.size) → (w.heap.size ≤ b ∧ b < w10.heap.size ∧ (Value.slice fa2 (qs.map (enT k) ++ [enT k (x, y)]).length fc2).ownBlock ≠ some b) := fun b hb => ⟨by omega, by omega, fun e => by
        rcases own2 b e with h | h
        · have := (own b h).2; omega
        · omega⟩
      refine ⟨?_, ?_⟩
      · have h1 := hx.keep k (w' := w9) (fun b hb => h9.block b hb.2)
        have h2 := h1.imp k (B := fun b => wr.heap.size ≤ b ∧ b < w9.heap.size) (fun b hb => ⟨by omega, by omega⟩)
        exact (h2.keep k (fun b hb => blk9 b hb.1 hb.2)).imp k im
      · have h2 := hy.imp k (B := fun b => wr.heap.size ≤ b ∧ b < w9.heap.size) (fun b hb => ⟨by omega, by omega⟩)
        exact (h2.keep k (fun b hb => blk9 b hb.1 hb.2)).imp k im
  · rw [List.map_append, c.same, List.take_add_one, hp]
    simp [ofP, hex, hey]
end Go.Proofs.Ytenfgahedbeekaa

namespace Go.Proofs.Ytenfgahedbeekaa
open Go.RowKit Go.Deep Go.Shelf
set_option linter.unusedVariables false
set_option linter.unusedSimpArgs false

def CrP (k : Nat) (w : World) (ps : List (VT k × VT k)) (e : Ending) (w' : World) : Prop := ∃ fa fn fc qs, e = .returned (.slice fa fn fc) ∧ Below w.heap.size w w' ∧ fn ≤ fc ∧ RwP k w' (fun b => w.heap.size ≤ b ∧ b < w'.heap.size) fa fn qs ∧ qs.map (ofP k) = ps.map (ofP k)
set_option maxRecDepth 100000 in
set_option maxHeartbeats 2000000 in
theorem copyRow_any (k : Nat) (w : World) (a : Option Addr) (n cap : Nat) (ps : List (VT k × VT k)) (hd : RwR k w a n ps) :
    Calls Try.prog 62 #[.slice a n cap] w (CrP k w ps) := by
  have D := hid hd
  have Hn := hid hd.n1
  have hle := hd.n2
  have hle2 : (n : Int) ≤ 1000 := by omega
  have hn0 : (0 : Int) ≤ (n : Int) := by omega
  clear hd
  go_enter Try.func62, Try.ntmps62
  go_wp2
  go_loopg [3, 8] n (fun g fv ii wr => ∃ i : Nat, i + g = n ∧ ii = .int .i64 (i : Int) ∧ ∃ fa fn fc qs, fv = .slice fa fn fc ∧ CrL k w wr ps i fa fn fc qs)
  case atStart => exact ⟨0, by omega, rfl, none, 0, 0, [], rfl, ⟨Below.refl _ _, by simpa using ERow.nil _ _, fun q hq => by simp at hq, rfl⟩⟩
  case round =>
    obtain ⟨i, hi', rfl, fa, fn, fc, qs, rfl, hc⟩ := hrel
    have HC := hid hc
    cases gk with
    | zero =>
      have hin2 : i = n := by omega
      subst hin2
      clear hi' hc
      go_wp2
      go_ret
      have hlen : qs.length = i := by
        have := congrArg List.length HC.out.same
        rw [List.length_map, List.length_map, List.length_take, ← Hn.out] at this
        omega
      obtain ⟨a9, c9, e9, hcap⟩ := HC.out.row.form
      have hrow := HC.out.row
      have hta : ps.take i = ps := List.take_of_length_le (by rw [← Hn.out]; exact Nat.le_refl _)
      cases e9
      rw [List.length_map] at hcap hrow ⊢
      refine ⟨fa, _, fc, qs, rfl, HC.out.bel, hcap, ⟨rfl, by omega, hrow.rd, ?_, ?_⟩, by rw [HC.out.same, hta]⟩
      · intro x ex ne
        subst ex
        have hrow0 := HC.out.row
        rcases hrow0.2 with ⟨e, hn⟩ | ⟨g, cap', cur, e, hb, rest⟩
        · cases e
        · cases e
          exact hrow0.own g rfl
      · intro q hq
        have h := HC.out.rd q hq
        exact ⟨h.1.imp k (fun b hb => ⟨hb.1, hb.2.1⟩), h.2.imp k (fun b hb => ⟨hb.1, hb.2.1⟩)⟩
    | succ gi =>
      have hlt0 : i < n := by omega
      have hlt : (i : Int) < (n : Int) := by omega
      have hi00 : (0 : Int) ≤ (i : Int) := by omega
      obtain ⟨p, hp⟩ : ∃ p, ps[i]? = some p := ⟨ps[i]'(by rw [← Hn.out]; exact hlt0), List.getElem?_eq_getElem _⟩
      have hD := D.out.below (Nat.le_refl _) hc.bel
      obtain ⟨b, off, ea, dh⟩ := hD.rd i (enT k p) (by rw [List.getElem?_map, hp]; rfl)
      subst ea
      obtain ⟨he1, he2⟩ := hD.el p (List.mem_of_getElem? hp)
      have d0 := dh 0 (by omega)
      have d1 := dh 1 (by omega)
      have d2 := dh 2 (by omega)
      have d3 := dh 3 (by omega)
      have d4 := dh 4 (by omega)
      have d5 := dh 5 (by omega)
      have d6 := dh 6 (by omega)
      have d7 := dh 7 (by omega)
      have d8 := dh 8 (by omega)
      have d9 := dh 9 (by omega)
      simp only [En.cs, enT, List.getElem?_cons_zero, List.getElem?_cons_succ, Nat.add_zero] at d0 d1 d2 d3 d4 d5 d6 d7 d8 d9
      have bA : ∀ o, Below wr.heap.size wr ((wr.alloc o).drew) := fun o => ((Below.refl _ wr).alloc (Nat.le_refl _) o).drew
      have CA := hid (fun o => copy_any k ((wr.alloc o).drew) p.1 (Rds.below k he1 (Nat.le_refl _) (bA o)))
      have CB := hid (fun (w8 : World) (h8 : Below wr.heap.size wr w8) => copy_any k w8 p.2 (Rds.below k he2 (Nat.le_refl _) h8))
      have Hp := hid hp
      have Hi := hid hi'
      have hlv : (qs.map (enT k)).length ≤ 1000000 := by
        have := congrArg List.length hc.same
        rw [List.length_map, List.length_map, List.length_take] at this
        rw [List.length_map]; omega
      have Hlv := hid hlv
      have hsz := hc.bel.size
      have HBA := hid bA
      generalize hdT k p.1 = hd1 at *
      generalize hdT k p.2 = hd2 at *
      obtain ⟨yk, yi, yt, yr, ya, yn, yc⟩ := hd1
      obtain ⟨zk, zi, zt, zr, za, zn, zc⟩ := hd2
      simp only [Hd.v] at CA CB d0 d1 d2 d3 d4 d5 d6 d7 d8 d9
      have nb := heap_alloc_new wr (.cells #[.int .i64 yk, .int .i64 yi, .string yt, .int .i64 yr, .slice ya yn yc, .int .i64 zk, .int .i64 zi, .string zt, .int .i64 zr, .slice za zn zc] 81)
      have SE : Hid (∀ W' : World, W'.heap[wr.heap.size]? = some (.cells #[.int .i64 yk, .int .i64 yi, .string yt, .int .i64 yr, .slice ya yn yc, .int .i64 zk, .int .i64 zi, .string zt, .int .i64 zr, .slice za zn zc] 81 (0, 0)) → (W'.cell? ⟨wr.heap.size, 0, none⟩ = some (.int .i64 yk) ∧ W'.cell? ⟨wr.heap.size, 1, none⟩ = some (.int .i64 yi) ∧ W'.cell? ⟨wr.heap.size, 2, none⟩ = some (.string yt) ∧ W'.cell? ⟨wr.heap.size, 3, none⟩ = some (.int .i64 yr) ∧ W'.cell? ⟨wr.heap.size, 4, none⟩ = some (.slice ya yn yc) ∧ W'.cell? ⟨wr.heap.size, 5, none⟩ = some (.int .i64 zk) ∧ W'.cell? ⟨wr.heap.size, 6, none⟩ = some (.int .i64 zi) ∧ W'.cell? ⟨wr.heap.size, 7, none⟩ = some (.string zt) ∧ W'.cell? ⟨wr.heap.size, 8, none⟩ = some (.int .i64 zr) ∧ W'.cell? ⟨wr.heap.size, 9, none⟩ = some (.slice za zn zc))) := hid (fun W' h => ⟨cellOf h 0, cellOf h 1, cellOf h 2, cellOf h 3, cellOf h 4, cellOf h 5, cellOf h 6, cellOf h 7, cellOf h 8, cellOf h 9⟩)
      obtain ⟨s0, s1, s2, s3, s4, s5, s6, s7, s8, s9⟩ := SE.out _ nb
      have NB := hid nb
      clear hc dh hp he1 he2 hlv hi' hD bA nb
      go_wp2
      go_region_held3 (fun W' => W'.cell? ⟨wr.heap.size, 0, none⟩ = some (.int .i64 yk) ∧ W'.cell? ⟨wr.heap.size, 1, none⟩ = some (.int .i64 yi) ∧ W'.cell? ⟨wr.heap.size, 2, none⟩ = some (.string yt) ∧ W'.cell? ⟨wr.heap.size, 3, none⟩ = some (.int .i64 yr) ∧ W'.cell? ⟨wr.heap.size, 4, none⟩ = some (.slice ya yn yc) ∧ W'.cell? ⟨wr.heap.size, 5, none⟩ = some (.int .i64 zk) ∧ W'.cell? ⟨wr.heap.size, 6, none⟩ = some (.int .i64 zi) ∧ W'.cell? ⟨wr.heap.size, 7, none⟩ = some (.string zt) ∧ W'.cell? ⟨wr.heap.size, 8, none⟩ = some (.int .i64 zr) ∧ W'.cell? ⟨wr.heap.size, 9, none⟩ = some (.slice za zn zc)) (first | exact SE.out _ e4 | exact SE.out _ (e9' _) | exact SE.out _ e9 | exact SE.out _ e8 | exact SE.out _ NB.out | go_keep) ((first
        | (have hno := e9; (refine step_appE (by rfl) _ _ (by rfl) (.slice fa fn fc) w9.heap.size (enT k (x, y)) (by rfl) (by rfl) w.heap.size (qs.map (enT k)) ((HC.out.row.below (Nat.le_refl _) B9.out).below (Nat.le_refl _) ((Below.refl _ w9).alloc (Nat.le_refl _) _)) (heap_alloc_new w9 _) (by have := B9.out.size; simp; omega) Hlv.out ?_; intro v4 w4 hr4 hg4; have e4 : w4.heap[wr.heap.size]? = some (.cells #[.int .i64 yk, .int .i64 yi, .string yt, .int .i64 yr, .slice ya yn yc, .int .i64 zk, .int .i64 zi, .string zt, .int .i64 zr, .slice za zn zc] 81 (0, 0)) := (hg4.1.block _ (by have := (Array.getElem?_eq_some_iff.1 e9).1; simp; omega) (fun e => by have := (HC.out.row.own _ e.symm).2; omega)).trans (e9' _); obtain ⟨fa2, fn2, fc2, rfl, hc2⟩ := HC.out.more Hp.out (HBA.out _) H8.out Hrx.out Hex.out H9.out Hry.out Hey.out hr4 hg4; have HC2 := hid hc2; clear hc2 hr4 hg4))
        | (go_at_call 46; (have hno := H8; refine (CB.out _ B8.out).mono ?_; rintro e w9 ⟨y, rfl, hb9, hry, hey⟩; simp only [Hd.v]; have H9 := hid hb9; have Hry := hid hry; have Hey := hid hey; have B9 := hid (B8.out.trans (hb9.mono B8.out.size)); have e9 : w9.heap[wr.heap.size]? = some (.cells #[.int .i64 yk, .int .i64 yi, .string yt, .int .i64 yr, .slice ya yn yc, .int .i64 zk, .int .i64 zi, .string zt, .int .i64 zr, .slice za zn zc] 81 (0, 0)) := (hb9.block _ (Array.getElem?_eq_some_iff.1 e8).1).trans e8; have e9' : ∀ o, (w9.alloc o).heap[wr.heap.size]? = some (.cells #[.int .i64 yk, .int .i64 yi, .string yt, .int .i64 yr, .slice ya yn yc, .int .i64 zk, .int .i64 zi, .string zt, .int .i64 zr, .slice za zn zc] 81 (0, 0)) := fun o => (Below.heap_alloc _ _ _ (Array.getElem?_eq_some_iff.1 e9).1).trans e9; clear hb9 hry hey))
        | (go_at_call 46; (refine (CA.out _).mono ?_; rintro e w8 ⟨x, rfl, hb8, hrx, hex⟩; simp only [Hd.v]; have H8 := hid hb8; have Hrx := hid hrx; have Hex := hid hex; have B8 := hid ((HBA.out _).trans (hb8.mono (HBA.out _).size)); have e8 : w8.heap[wr.heap.size]? = some (.cells #[.int .i64 yk, .int .i64 yi, .string yt, .int .i64 yr, .slice ya yn yc, .int .i64 zk, .int .i64 zi, .string zt, .int .i64 zr, .slice za zn zc] 81 (0, 0)) := (hb8.block _ (Array.getElem?_eq_some_iff.1 NB.out).1).trans NB.out; clear hb8 hrx hex))))
      go_wp2
      go_roundg gi
      case measure => omega
      case rel => exact ⟨i + 1, by have := Hi.out; omega, by go_num, fa2, fn2, fc2, _, rfl, HC2.out⟩
end Go.Proofs.Ytenfgahedbeekaa

namespace Go.Proofs.Ytenfgahedbeekaa
open Go.RowKit Go.Deep Go.Shelf
set_option linter.unusedVariables false
set_option linter.unusedSimpArgs false

structure Sl where
  a : Option Addr
  n : Nat
  cap : Nat
def Sl.v (s : Sl) : Value := .slice s.a s.n s.cap
def MRow (w : World) (B : Nat) (v : Value) (ms : List Sl) : Prop := w.ownsRow B 70 1 v ms.length (ms.map Sl.v)
theorem MRow.nil (w : World) (B : Nat) : MRow w B (.slice none 0 0) [] := World.ownsRow_nil w B 70 1
theorem MRow.own {w B v ms} (h : MRow w B v ms) : ∀ k, v.ownBlock = some k → B ≤ k ∧ k < w.heap.size := World.ownsRow.lt h
theorem MRow.same {w w' : World} {B v xs} (h : MRow w B v xs) (e : ∀ g, v.ownBlock = some g → w'.heap[g]? = w.heap[g]?) : MRow w' B v xs := by
  refine ⟨h.1, ?_⟩
  rcases h.2 with hn | ⟨g, cap, cur, rfl, hb, hgg, rest⟩
  · exact .inl hn
  · exact .inr ⟨g, cap, cur, rfl, hb, (e g rfl).trans hgg, rest⟩
theorem MRow.below {w w' : World} {B C v xs} (h : MRow w B v xs) (hC : w.heap.size ≤ C) (k : Below C w w') : MRow w' B v xs :=
  h.same fun g e => k.block g (by have := (h.own g e).2; omega)
theorem MRow.form {w B v xs} (h : MRow w B v xs) : ∃ a cap, v = .slice a xs.length cap ∧ xs.length ≤ cap := by
  rcases h.2 with ⟨rfl, hn⟩ | ⟨g, cap, cur, rfl, hb, hgg, hc, rest⟩
  · exact ⟨none, 0, by rw [hn], by omega⟩
  · exact ⟨_, _, rfl, hc⟩
/- What a slice of rows reads. -/
def MRd (w : World) (a : Option Addr) (ms : List Sl) : Prop := ∀ (j : Nat) (m : Sl), ms[j]? = some m → ∃ b off, a = some ⟨b, off, none⟩ ∧ w.cell? ⟨b, off + j, none⟩ = some m.v
theorem MRow.rd {w : World} {B a n cap ms} (h : MRow w B (.slice a n cap) ms) : MRd w a ms := by
  intro j x hx
  rcases h.2 with ⟨e, hn⟩ | ⟨g, cap', cur, e, hb, hgg, hc, hm, hs', ht⟩
  · have : ms = [] := List.eq_nil_of_length_eq_zero hn
    subst this; simp at hx
  · cases e
    refine ⟨g, 0, rfl, ?_⟩
    have hj : j < ms.length := (List.getElem?_eq_some_iff.1 hx).1
    rw [Nat.zero_add, cellOf hgg j]
    have h2 : (ms.map Sl.v)[j]? = some x.v := by rw [List.getElem?_map, hx]; rfl
    rw [← h2, ← ht, List.getElem?_take, if_pos (by omega)]
    simp
theorem MRd.below {w w' : World} {a : Option Addr} {ms : List Sl} {B : Nat} (h : MRd w a ms) (hB : w.heap.size ≤ B) (k : Below B w w') : MRd w' a ms := by
  intro j x hx
  obtain ⟨b, off, rfl, hc⟩ := h j x hx
  exact ⟨b, off, rfl, (k.cell (p := ⟨b, off + j, none⟩) (Nat.lt_of_lt_of_le (World.block_lt_of_cell? w _ hc) hB)).trans hc⟩
theorem info70 : (Try.prog.info? 70).map (fun i => (i.zero, i.size, i.bytes)) = some (some (.slice none 0 0), 1, 24) := by kernel_rfl
theorem run_appM (w : World) (ty : TypeId) (B : Nat) (v : Value) (ms : List Sl) (h : Sl) (g : Nat) (hr : MRow w B v ms) (hg : w.heap[g]? = some (.cells #[h.v] 70 (0, 0))) (hB : B ≤ w.heap.size) (hl : ms.length ≤ 1000000) :
    ∃ v' w', (Builtin.append_ #[25, 25] ty #[v, .slice (some ⟨g, 0, none⟩) 1 1]).run Try.prog w = .ok v' w' ∧ MRow w' B v' (ms ++ [h]) ∧ Grw w v w' v' := by
  obtain ⟨i0, hi, hz0, hz1, hz2⟩ := info_parts info70
  obtain ⟨v', w', hrun, hown, hgr, _, hat⟩ := run_append_own_at (P := Try.prog) w B 25 ty 70 i0 (.slice none 0 0) 1 24 Try.underlying25 hi hz0 hz1 hz2 rfl (by decide) v ms.length (ms.map Sl.v) hr ⟨g, 0, none⟩ 1 1 [h.v] rfl (by
    intro j u hu
    exact World.news_of_block hg j u (by simpa using hu)) (by intro u hu; simp only [List.mem_cons, List.not_mem_nil, or_false] at hu; subst hu; rfl) (by unfold maxLen; omega) (by omega) hB
  refine ⟨v', w', hrun, ?_, hgr, ?_⟩
  · unfold MRow
    rw [List.map_append, List.length_append]
    exact hown
  · rcases hat with hat | hat
    · exact .inl hat
    · exact .inr ⟨_, hat, Nat.le_refl _⟩
/- Is there a map m? -/
def hasB (n : Nat) (m : Int) : Bool := decide (0 ≤ m) && decide (m < (n : Int))
set_option maxHeartbeats 400000 in
theorem hasMap_any (w : World) (a : Option Addr) (n cap : Nat) (m : Int) (hn : n ≤ 9223372036854775807) :
    Calls Try.prog 39 #[.agg #[.slice a n cap], .int .i64 m] w fun e w' => e = .returned (.bool (hasB n m)) ∧ Below w.heap.size w w' := by
  have hb : Below w.heap.size w (w.alloc (.cells #[.slice a n cap] 27)) := (Below.refl _ _).alloc (Nat.le_refl _) _
  have HB := hid hb
  have c0 : (w.alloc (.cells #[.slice a n cap] 27)).cell? ⟨w.heap.size, 0, none⟩ = some (.slice a n cap) := cellOf (heap_alloc_new w (.cells #[.slice a n cap] 27)) 0
  clear hb
  by_cases h0 : 0 ≤ m
  · by_cases h1 : m < (n : Int)
    · have hv : hasB n m = true := by simp [hasB, h0, h1]
      rw [hv]
      go_enter Try.func39, Try.ntmps39
      go_wp2
      go_ret
      exact ⟨rfl, HB.out⟩
    · have hv : hasB n m = false := by simp [hasB, h1]
      rw [hv]
      go_enter Try.func39, Try.ntmps39
      go_wp2
      go_ret
      exact ⟨rfl, HB.out⟩
  · have hv : hasB n m = false := by simp [hasB, h0]
    rw [hv]
    go_enter Try.func39, Try.ntmps39
    go_wp2
    go_ret
    exact ⟨rfl, HB.out⟩
end Go.Proofs.Ytenfgahedbeekaa

namespace Go.Proofs.Ytenfgahedbeekaa
open Go.RowKit Go.Deep Go.Shelf
set_option linter.unusedVariables false
set_option linter.unusedSimpArgs false

theorem step_appM {ops : Array Oper} {o : Oper} {a : Act} {w : World} {K : Act → World → Prop} {Q : Exit → Act → World → Prop} {E : Prop} (hgd : o.guard = none) (s x : Operand)
    (ho : o.op = .call { callee := .builtin .append, args := #[s, x], argTypes := #[25, 25] }) (v : Value) (g : Nat) (h : Sl) (hs : a.eval s = v) (hx : a.eval x = .slice (some ⟨g, 0, none⟩) 1 1)
    (B : Nat) (xs : List Sl) (hr : MRow w B v xs) (hg : w.heap[g]? = some (.cells #[h.v] 70 (0, 0))) (hB : B ≤ w.heap.size) (hl : xs.length ≤ 1000000)
    (k : ∀ v' w', MRow w' B v' (xs ++ [h]) → Grw w v w' v' → K (a.put o.dst v') w') :
    if Region.wanted o (yielded ops a.tmps) = true then Oper.wp Try.prog o a w K Q else E := by
  have hw : Region.wanted o (yielded ops a.tmps) = true := by simp [Region.wanted, hgd]
  rw [if_pos hw]
  obtain ⟨v', w', hr, h2, h3⟩ := run_appM w o.type B v xs h g hr hg hB hl
  unfold Oper.wp execOp
  simp only [ho, resolve, invoke, builtin, Sem.run_bind, Sem.run_pure, Result.andThen_ok, List.map_toArray, List.map_cons, List.map_nil, hs, hx, hr]
  exact k v' w' h2 h3

abbrev Rw (k : Nat) := List (VT k × VT k)
/- A state that is read: its maps, and what each holds. -/
structure StR (k : Nat) (w : World) (a : Option Addr) (n : Nat) (ms : List (Sl × Rw k)) : Prop where
  n1 : n = ms.length
  n2 : n ≤ 1000
  rd : MRd w a (ms.map (·.1))
  el : ∀ m ∈ ms, RwR k w m.1.a m.1.n m.2 ∧ m.1.n ≤ m.1.cap
structure StP (k : Nat) (w : World) (A : Nat → Prop) (a : Option Addr) (n : Nat) (ms : List (Sl × Rw k)) : Prop where
  n1 : n = ms.length
  n2 : n ≤ 1000
  rd : MRd w a (ms.map (·.1))
  at' : ∀ x : Addr, a = some x → ms ≠ [] → A x.block
  el : ∀ m ∈ ms, RwP k w A m.1.a m.1.n m.2 ∧ m.1.n ≤ m.1.cap
def rowC (k : Nat) (r : Rw k) : List (CT k × CT k) := r.map (ofP k)
/- What the round i has made. -/
def wth {α : Type} (m : Int) (row : α) (l : List α) : List α := l.mapIdx fun i x => if (i : Int) = m then row else x
structure CwL (k : Nat) (w wr : World) (sv : Value) (cs : List (List (CT k × CT k))) (i : Nat) (fa : Option Addr) (fn fc : Nat) (ns : List (Sl × Rw k)) : Prop where
  bel : Below w.heap.size w wr
  b0 : wr.heap[w.heap.size]? = some (.cells #[sv] 27 (0, 0))
  b1 : wr.heap[w.heap.size + 1]? = some (.cells #[.slice none 0 0] 27 (0, 0))
  b2 : wr.heap[w.heap.size + 1 + 1]? = some (.cells #[.slice fa fn fc] 27 (0, 0))
  row : MRow wr (w.heap.size + 3) (.slice fa fn fc) (ns.map (·.1))
  rd : ∀ q ∈ ns, RwP k wr (fun b => w.heap.size + 3 ≤ b ∧ b < wr.heap.size ∧ (Value.slice fa fn fc).ownBlock ≠ some b) q.1.a q.1.n q.2 ∧ q.1.n ≤ q.1.cap
  same : ns.map (fun q => rowC k q.2) = cs.take i
theorem CwL.sz {k : Nat} {w wr : World} {sv : Value} {cs : List (List (CT k × CT k))} {i : Nat} {fa : Option Addr} {fn fc : Nat} {ns : List (Sl × Rw k)} (c : CwL k w wr sv cs i fa fn fc ns) : w.heap.size + 3 ≤ wr.heap.size := (Array.getElem?_eq_some_iff.1 c.b2).1
theorem CwL.grown {k : Nat} {w wr w9 w10 : World} {sv : Value} {cs : List (List (CT k × CT k))} {i : Nat} {fa : Option Addr} {fn fc : Nat} {ns : List (Sl × Rw k)} {v2 : Value} {o2 : Obj} (c : CwL k w wr sv cs i fa fn fc ns) (h9 : Below wr.heap.size wr w9) (hg : Grw (w9.alloc o2) (.slice fa fn fc) w10 v2) :
    w10.heap[w.heap.size + 1 + 1]? = some (.cells #[.slice fa fn fc] 27 (0, 0)) := by
  have hs := c.sz
  have bA : Below wr.heap.size wr (w9.alloc o2) := h9.alloc h9.size _
  exact ((hg.1.block _ (by have := bA.size; omega) (fun e => by have := (c.row.own _ e.symm).1; omega)).trans (bA.block _ (by omega))).trans c.b2
theorem CwL.more {k : Nat} {w wr w9 w10 : World} {sv : Value} {cs : List (List (CT k × CT k))} {i : Nat} {fa : Option Addr} {fn fc : Nat} {ns : List (Sl × Rw k)} {o2 : Obj} {xa : Option Addr} {xn xc : Nat} {qs : Rw k} {f2 : Option Addr} {n2 c2 : Nat} (c : CwL k w wr sv cs i fa fn fc ns)
    (h9 : Below wr.heap.size wr w9) (hx : RwP k w9 (fun b => wr.heap.size ≤ b ∧ b < w9.heap.size) xa xn qs) (hxc : xn ≤ xc) (he : cs[i]? = some (rowC k qs))
    (hr : MRow w10 (w.heap.size + 3) (.slice f2 n2 c2) (ns.map (·.1) ++ [⟨xa, xn, xc⟩])) (hg : Grw (w9.alloc o2) (.slice fa fn fc) w10 (.slice f2 n2 c2)) :
    CwL k w (w10.setCell ⟨w.heap.size + 1 + 1, 0, none⟩ (.slice f2 n2 c2)) sv cs (i + 1) f2 n2 c2 (ns ++ [(⟨xa, xn, xc⟩, qs)]) := by
  have hs0 := c.sz
  have s9 := h9.size
  have bA : Below wr.heap.size wr (w9.alloc o2) := h9.alloc h9.size _
  have own : ∀ b, (Value.slice fa fn fc).ownBlock = some b → w.heap.size + 3 ≤ b ∧ b < wr.heap.size := fun b e => c.row.own b e
  have blk : ∀ b, b < wr.heap.size → (Value.slice fa fn fc).ownBlock ≠ some b → w10.heap[b]? = wr.heap[b]? := fun b hb hne => (hg.1.block b (Nat.lt_of_lt_of_le hb bA.size) (fun e => hne e.symm)).trans (bA.block b hb)
  have blk9 : ∀ b, wr.heap.size ≤ b → b < w9.heap.size → w10.heap[b]? = w9.heap[b]? := fun b hb hb2 => (hg.1.block b (by simp; omega) (fun e => by have := (own b e.symm).2; omega)).trans (Below.heap_alloc _ _ _ hb2)
  have own2 : ∀ b, (Value.slice f2 n2 c2).ownBlock = some b → (Value.slice fa fn fc).ownBlock = some b ∨ (w9.alloc o2).heap.size ≤ b := fun b e => by
    rcases hg.2 with h1 | ⟨g, h1, h2⟩
    · exact .inl (h1 ▸ e)
    · rw [h1] at e; cases e; exact .inr h2
  have sB : (w9.alloc o2).heap.size = w9.heap.size + 1 := by simp
  have s11 : (w9.alloc o2).heap.size ≤ w10.heap.size := hg.1.size
  have st : ∀ b, b ≠ w.heap.size + 1 + 1 → (w10.setCell ⟨w.heap.size + 1 + 1, 0, none⟩ (.slice f2 n2 c2)).heap[b]? = w10.heap[b]? := fun b hb => Below.heap_setCell _ _ _ _ hb
  have ss : (w10.setCell ⟨w.heap.size + 1 + 1, 0, none⟩ (.slice f2 n2 c2)).heap.size = w10.heap.size := by simp [World.setCell]
  have h2 := heap_set_at (c.grown h9 hg) 0 (.slice f2 n2 c2)
  refine ⟨?_, ?_, ?_, by simpa using h2, ?_, ?_, ?_⟩
  · refine ⟨(hg.1.os.trans bA.os).trans c.bel.os, (hg.1.tape.trans bA.tape).trans c.bel.tape, (hg.1.output.trans bA.output).trans c.bel.output, by rw [ss]; omega, fun j hj => ?_⟩
    exact (st j (by omega)).trans ((blk j (by omega) (fun e => by have := (own j e).1; omega)).trans (c.bel.block j hj))
  · exact (st _ (by omega)).trans ((blk _ (by omega) (fun e => by have := (own _ e).1; omega)).trans c.b0)
  · exact (st _ (by omega)).trans ((blk _ (by omega) (fun e => by have := (own _ e).1; omega)).trans c.b1)
  · rw [List.map_append]
    exact hr.same (fun q e => st q (by have := (hr.own q e).1; omega))
  · intro q hq
    rcases List.mem_append.1 hq with hq | hq
    · refine ⟨((c.rd q hq).1.keep (fun b hb => (st b (by omega)).trans (blk b hb.2.1 hb.2.2))).imp (fun b hb => ⟨hb.1, by rw [ss]; omega, fun e => ?_⟩), (c.rd q hq).2⟩
      rcases own2 b e with h | h
      · exact hb.2.2 h
      · omega
    · obtain rfl : q = (⟨xa, xn, xc⟩, qs) := by simpa using hq
      refine ⟨(hx.keep (fun b hb => (st b (by omega)).trans (blk9 b hb.1 hb.2))).imp (fun b hb => ⟨by omega, by rw [ss]; omega, fun e => ?_⟩), hxc⟩
      rcases own2 b e with h | h
      · have := (own b h).2; omega
      · omega
  · rw [List.map_append, c.same, List.take_add_one, he]
    rfl
end Go.Proofs.Ytenfgahedbeekaa

