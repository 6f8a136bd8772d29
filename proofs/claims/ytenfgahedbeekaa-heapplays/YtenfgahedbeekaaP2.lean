/- The document's side: own. -/
import Derived.Test.YtenfgahedbeekaaO2
namespace Go.Proofs.Ytenfgahedbeekaa
open Go.RowKit Go.Deep Go.Shelf
set_option linter.unusedVariables false
set_option linter.unusedSimpArgs false

/- One more: a copy made (wr to w9), a box (w9.alloc), the row grown (to w10). -/
theorem CpL.more0 {k : Nat} {w wr w9 w10 : World} {h : Hd} {us : List (VT k)} {i : Nat} {fa : Option Addr} {fn fc : Nat} {vs : List (VT k)} {v2 : Value} {u v : VT k} {o2 : Obj} (c : CpL k w wr h us i fa fn fc vs) (hu : us[i]? = some u)
    (h9 : Below wr.heap.size wr w9) (hv : RdP k w9 (fun b => wr.heap.size ≤ b ∧ b < w9.heap.size) v) (he : ofT k v = ofT k u)
    (hr : VRow w10 (w.heap.size + 2) v2 (vs.map (hdT k) ++ [hdT k v])) (hg : Grw (w9.alloc o2) (.slice fa fn fc) w10 v2) :
    ∃ fa2 fn2 fc2, v2 = .slice fa2 fn2 fc2 ∧ CpL k w w10 h us (i + 1) fa2 fn2 fc2 (vs ++ [v]) := by
  obtain ⟨fa2, fc2, e, _⟩ := hr.form
  have hsz := c.sz
  have hA : Below wr.heap.size wr (w9.alloc o2) := by
    exact h9.alloc h9.size _
  have own : ∀ b, (Value.slice fa fn fc).ownBlock = some b → w.heap.size + 2 ≤ b ∧ b < wr.heap.size := fun b e => c.row.own b e
  have blk : ∀ b, b < wr.heap.size → (Value.slice fa fn fc).ownBlock ≠ some b → w10.heap[b]? = wr.heap[b]? := fun b hb hne => (hg.1.block b (Nat.lt_of_lt_of_le hb hA.size) (fun e => hne e.symm)).trans (hA.block b hb)
  have own2 : ∀ b, v2.ownBlock = some b → (Value.slice fa fn fc).ownBlock = some b ∨ (w9.alloc o2).heap.size ≤ b := fun b e => by
    rcases hg.2 with h1 | ⟨g, h1, h2⟩
    · exact .inl (h1 ▸ e)
    · rw [h1] at e; cases e; exact .inr h2
  have s10 : wr.heap.size ≤ w10.heap.size := Nat.le_trans hA.size hg.1.size
  have s9 : wr.heap.size ≤ w9.heap.size := h9.size
  have sA : (w9.alloc o2).heap.size = w9.heap.size + 1 := by simp
  have s11 : (w9.alloc o2).heap.size ≤ w10.heap.size := hg.1.size
  subst e
  refine ⟨fa2, _, fc2, rfl, ⟨?_, ?_, ?_, ?_, ?_, ?_⟩⟩
  · refine ⟨(hg.1.os.trans hA.os).trans c.bel.os, (hg.1.tape.trans hA.tape).trans c.bel.tape, (hg.1.output.trans hA.output).trans c.bel.output, Nat.le_trans c.bel.size s10, fun j hj => ?_⟩
    exact (blk j (by omega) (fun e => by have := (own j e).1; omega)).trans (c.bel.block j hj)
  · exact (blk _ (by omega) (fun e => by have := (own _ e).1; omega)).trans c.b1
  · exact (blk _ (by omega) (fun e => by have := (own _ e).1; omega)).trans c.b2
  · rw [List.map_append]; exact hr
  · intro x hx
    rcases List.mem_append.1 hx with hx | hx
    · have h1 := (c.rd x hx).keep k (w' := w10) (fun b hb => blk b hb.2.1 hb.2.2)
      refine h1.imp k (fun b hb => ⟨hb.1, by omega, fun e => ?_⟩)
      rcases own2 b e with h | h
      · exact hb.2.2 h
      · omega
    · obtain rfl : x = v := by simpa using hx
      have h1 := hv.keep k (w' := w10) (fun b hb => (hg.1.block b (by omega) (fun e => by have := (own b e.symm).2; omega)).trans (Below.heap_alloc _ _ _ hb.2))
      refine h1.imp k (fun b hb => ⟨by omega, by omega, fun e => ?_⟩)
      rcases own2 b e with h | h
      · have := (own b h).2; omega
      · omega
  · rw [List.map_append, c.same, List.take_add_one, hu]
    simp [he]
set_option maxRecDepth 100000 in
set_option maxHeartbeats 2000000 in
theorem own_step (k : Nat) (ih : ∀ (w : World) (t : VT k), Rds k w t → Calls Try.prog 38 #[(hdT k t).v] w (CpP k w t)) (w : World) (t : VT (k + 1)) (ht : Rds (k + 1) w t) :
    Calls Try.prog 38 #[(hdT (k + 1) t).v] w (CpP (k + 1) w t) := by
  obtain ⟨⟨kind, int, text, rc, a, n, cap⟩, us⟩ := t
  obtain ⟨hin, hn, hle, hv, hu⟩ := ht
  have IH := hid ih
  have Hin := hid hin
  have Hn : Hid (n = us.length) := hid hn
  have HV := hid hv
  have HU := hid hu
  have hle' : n ≤ 1000 := hle
  have hle2 : (n : Int) ≤ 1000 := by omega
  have hn0 : (0 : Int) ≤ (n : Int) := by omega
  clear ih hin hn hv hu hle
  show Calls Try.prog 38 #[(⟨kind, int, text, rc, a, n, cap⟩ : Hd).v] w _
  simp only [Hd.v]
  obtain ⟨W0, hW0⟩ : ∃ W0, W0 = (w.alloc (.cells #[.int .i64 kind, .int .i64 int, .string text, .int .i64 rc, .slice a n cap] 31)).alloc (.cells #[.int .i64 0, .int .i64 0, .string ⟨#[]⟩, .int .i64 0, .slice none 0 0] 31) := ⟨_, rfl⟩
  have c0 : CpL k w W0 ⟨kind, int, text, rc, a, n, cap⟩ us 0 none 0 0 [] := by
    refine ⟨by rw [hW0]; exact ((Below.refl _ w).alloc (Nat.le_refl _) _).alloc (by simp) _, ?_, ?_, by simpa using VRow.nil _ _, fun v hv => by simp at hv, rfl⟩
    · rw [hW0]; exact (Below.heap_alloc _ _ _ (by simp)).trans (heap_alloc_new w _)
    · have := heap_alloc_new (w.alloc (.cells #[.int .i64 kind, .int .i64 int, .string text, .int .i64 rc, .slice a n cap] 31)) (.cells #[.int .i64 0, .int .i64 0, .string ⟨#[]⟩, .int .i64 0, .slice none 0 0] 31)
      rw [World.size_alloc] at this
      rw [hW0]; exact this
  have C0 := hid c0
  have g4 : W0.cell? ⟨w.heap.size, 4, none⟩ = some (.slice a n cap) := cellOf c0.b1 4
  clear c0
  go_enter Try.func38, Try.ntmps38
  go_wp2
  rw [← hW0]
  clear hW0
  go_loopg [3, 4] n (fun g fv ii wr => ∃ i : Nat, i + g = n ∧ ii = .int .i64 (i : Int) ∧ ∃ fa fn fc vs, fv = .slice fa fn fc ∧ CpL k w wr ⟨kind, int, text, rc, a, n, cap⟩ us i fa fn fc vs)
  case atStart => exact ⟨0, by omega, rfl, none, 0, 0, [], rfl, C0.out⟩
  case round =>
    obtain ⟨i, hi', rfl, fa, fn, fc, vs, rfl, hc⟩ := hrel
    have HC := hid hc
    cases gk with
    | zero =>
      have hin2 : i = n := by omega
      subst hin2
      have k0 := cellOf hc.b1 0
      have k1 := cellOf hc.b1 1
      have k2 := cellOf hc.b1 2
      have k3 := cellOf hc.b1 3
      have k4 := cellOf hc.b1 4
      have m4 := freeOf hc.b1 4
      have e0 := cellOf hc.b2 0
      have e1 := cellOf hc.b2 1
      have e2 := cellOf hc.b2 2
      have e3 := cellOf hc.b2 3
      have e4 := cellOf hc.b2 4
      have f0 := freeOf hc.b2 0
      have f1 := freeOf hc.b2 1
      have f2 := freeOf hc.b2 2
      have f3 := freeOf hc.b2 3
      have f4 := freeOf hc.b2 4
      simp only [List.getElem?_toArray, List.getElem?_cons_zero, List.getElem?_cons_succ] at k0 k1 k2 k3 k4 e0 e1 e2 e3 e4
      clear hi' hc g4
      go_wp2
      have hb2 : (wr.setCell ⟨w.heap.size, 4, none⟩ (.slice fa fn fc)).heap[w.heap.size + 1]? = some (.cells #[.int .i64 0, .int .i64 0, .string ⟨#[]⟩, .int .i64 0, .slice none 0 0] 31 (0, 0)) := (Below.heap_setCell _ _ _ _ (by show w.heap.size + 1 ≠ w.heap.size; omega)).trans HC.out.b2
      have hbl : Below w.heap.size w (wr.setCell ⟨w.heap.size, 4, none⟩ (.slice fa fn fc)) := HC.out.bel.setCell (Nat.le_refl _) _
      have hkp : ∀ b, w.heap.size + 2 ≤ b → (five (wr.setCell ⟨w.heap.size, 4, none⟩ (.slice fa fn fc)) (w.heap.size + 1) 0 ⟨kind, int, text, rc, fa, fn, fc⟩).heap[b]? = wr.heap[b]? := fun b hb => (five_heap _ _ _ _ (by omega)).trans (Below.heap_setCell _ _ _ _ (by show b ≠ w.heap.size; omega))
      have h5 := five_new hb2 ⟨kind, int, text, rc, fa, fn, fc⟩
      have hb5 := five_below hbl (b := w.heap.size + 1) (o := 0) (by omega) ⟨kind, int, text, rc, fa, fn, fc⟩
      have hs5 : wr.heap.size ≤ (five (wr.setCell ⟨w.heap.size, 4, none⟩ (.slice fa fn fc)) (w.heap.size + 1) 0 ⟨kind, int, text, rc, fa, fn, fc⟩).heap.size := by simp [five, World.setCell]
      change bodyPost _ _ _ _ _ (five (wr.setCell ⟨w.heap.size, 4, none⟩ (.slice fa fn fc)) (w.heap.size + 1) 0 ⟨kind, int, text, rc, fa, fn, fc⟩)
      generalize five (wr.setCell ⟨w.heap.size, 4, none⟩ (.slice fa fn fc)) (w.heap.size + 1) 0 ⟨kind, int, text, rc, fa, fn, fc⟩ = W5 at *
      have q0 := cellOf h5 0
      have q1 := cellOf h5 1
      have q2 := cellOf h5 2
      have q3 := cellOf h5 3
      have q4 := cellOf h5 4
      simp only [List.getElem?_toArray, List.getElem?_cons_zero, List.getElem?_cons_succ] at q0 q1 q2 q3 q4
      have hlen : vs.length = i := by
        have := congrArg List.length HC.out.same
        rw [List.length_map, List.length_map, List.length_take, ← Hn.out] at this
        omega
      have hfn : fn = vs.length := by
        obtain ⟨a9, c9, e9, _⟩ := HC.out.row.form
        cases e9; simp
      have hta : us.take i = us := List.take_of_length_le (by rw [← Hn.out]; exact Nat.le_refl _)
      have row5 := HC.out.row.same (w' := W5) (fun q e => hkp q (HC.out.row.own q e).1)
      refine bodyPost_ret (v := .agg #[.int .i64 kind, .int .i64 int, .string text, .int .i64 rc, .slice fa fn fc]) (by simp [results, Try.results38, go_sem, q0, q1, q2, q3, q4]) rfl ⟨mkV k ⟨kind, int, text, rc, fa, fn, fc⟩ vs, rfl, hb5, ?_, ?_⟩
      · refine ⟨⟨Hin.out.i0, Hin.out.i1, Hin.out.k0, Hin.out.k1, Hin.out.r0, Hin.out.r1, Hin.out.t, by show fn ≤ _; omega⟩, hfn, by show fn ≤ _; omega, row5.rd, ?_, ?_⟩
        · intro x ex ne
          have hrow := HC.out.row.srow (by intro h0; exact ne (List.map_eq_nil_iff.1 h0))
          obtain ⟨g, cap', e', _, hg, _⟩ := hrow
          have ex' : fa = some x := ex
          cases e'
          cases ex'
          have := HC.out.row.own g rfl
          exact ⟨by show w.heap.size ≤ g; omega, by show g < _; omega⟩
        · intro v hv
          exact ((HC.out.rd v hv).keep k (fun b hb => hkp b hb.1)).imp k (fun b hb => ⟨by omega, by omega⟩)
      · show (ofH ⟨kind, int, text, rc, fa, fn, fc⟩, vs.map (ofT k)) = (ofH ⟨kind, int, text, rc, a, i, cap⟩, us.map (ofT k))
        rw [HC.out.same, hta]; rfl
    | succ gi =>
      have hlt0 : i < n := by omega
      have hlt : (i : Int) < (n : Int) := by omega
      have hi00 : (0 : Int) ≤ (i : Int) := by omega
      obtain ⟨u, hu⟩ : ∃ u, us[i]? = some u := ⟨us[i]'(by rw [← Hn.out]; exact hlt0), List.getElem?_eq_getElem _⟩
      obtain ⟨b, off, ea, dh⟩ := (HV.out.below (Nat.le_refl _) hc.bel) i (hdT k u) (by rw [List.getElem?_map, hu]; rfl)
      have ea' : a = some ⟨b, off, none⟩ := ea
      subst ea'
      have hru := Rds.below k (HU.out u (List.mem_of_getElem? hu)) (Nat.le_refl _) hc.bel
      have d0 := dh 0 (by omega)
      have d1 := dh 1 (by omega)
      have d2 := dh 2 (by omega)
      have d3 := dh 3 (by omega)
      have d4 := dh 4 (by omega)
      simp only [Hd.cs, List.getElem?_cons_zero, List.getElem?_cons_succ, Nat.add_zero] at d0 d1 d2 d3 d4
      have k4 := cellOf hc.b1 4
      simp only [List.getElem?_toArray, List.getElem?_cons_zero, List.getElem?_cons_succ] at k4
      have C46 := hid (IH.out wr u hru)
      generalize hdT k u = hd0 at *
      obtain ⟨yk, yi, yt, yr, ya, yn, yc⟩ := hd0
      simp only [Hd.v] at C46 d0 d1 d2 d3 d4
      have Hu := hid hu
      have Hi := hid hi'
      have hlv : (vs.map (hdT k)).length ≤ 1000000 := by
        have := congrArg List.length hc.same
        rw [List.length_map, List.length_map, List.length_take] at this
        rw [List.length_map]; omega
      have Hlv := hid hlv
      clear hc dh hu hru hlv hi' g4 ea HV HU IH
      go_wp2_with (first
        | (go_at_call 38; (refine (C46.out).mono ?_; rintro e w9 ⟨v, rfl, hb9, hrv, hev⟩; simp only [Hd.v]; have Hb9 := hid hb9; have Hrv := hid hrv; have Hev := hid hev; clear hb9 hrv hev))
        | (at_builtin; refine wpList_appV w9 rfl _ _ rfl _ (hdT k v) (by rfl) (by rfl) (w.heap.size + 2) (vs.map (hdT k)) (HC.out.row.below (Nat.le_refl _) Hb9.out) (Nat.le_trans HC.out.sz Hb9.out.size) Hlv.out ?_; intro v4 w4 hr4 hg4; obtain ⟨fa2, fn2, fc2, rfl, hc2⟩ := HC.out.more0 Hu.out Hb9.out Hrv.out Hev.out hr4 hg4; have HC2 := hid hc2; clear hc2 hr4 hg4))
      go_roundg gi
      case measure => omega
      case rel => exact ⟨i + 1, by have := Hi.out; omega, by go_num, fa2, fn2, fc2, _, rfl, HC2.out⟩
theorem own_any : ∀ (k : Nat) (w : World) (t : VT k), Rds k w t → Calls Try.prog 38 #[(hdT k t).v] w (CpP k w t)
  | 0, _, _, h => h.elim
  | k + 1, w, t, h => own_step k (own_any k) w t h
end Go.Proofs.Ytenfgahedbeekaa
