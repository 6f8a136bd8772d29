/- windlassref4.Restore: what stands between two rounds. -/
import Derived.Test.YtenfgahedbeekaaJAV
namespace Go.Proofs.Ytenfgahedbeekaa
open Go.RowKit Go.Deep Go.Shelf
set_option linter.unusedVariables false
set_option linter.unusedSimpArgs false

def NwQ (w : World) (p : Pg) (e : Ending) (w' : World) : Prop := Below w.heap.size w w' ∧ ((rightB p = false ∧ e = .returned (.tuple #[.agg #[.slice none 0 0], .int .i64 40])) ∨ (rightB p = true ∧ ∃ g, e = .returned (.tuple #[.agg #[.slice (some ⟨g, 0, none⟩) p.maps.length p.maps.length], .int .i64 0]) ∧ w'.heap[g]? = some (.cells (List.replicate p.maps.length (.slice none 0 0)).toArray 70 (0, 0)) ∧ w.heap.size ≤ g))
set_option maxRecDepth 100000 in
set_option maxHeartbeats 1000000 in
theorem refNew_q (w : World) (h : PH) (p : Pg) (d : PRd w h p) : Calls Try.prog 28 #[h.v] w (NwQ w p) := by
  have hmn := d.m.n1
  have K51 := hid (fun (w1 : World) (hb : Below w.heap.size w w1) => refRight w1 h p (d.below (Nat.le_refl _) hb))
  have H16 : Hid (rightB p = true → p.maps.length ≤ 16) := hid right_maps
  obtain ⟨n, hn⟩ : ∃ n, n = p.maps.length := ⟨_, rfl⟩
  unfold NwQ
  rw [← hn] at hmn H16 ⊢
  clear hn d
  obtain ⟨ra, rn, rc, ma, mn, mc, fa, fn, fc, ea, en, ec⟩ := h
  simp only [PH.v] at K51 hmn ⊢
  subst hmn
  obtain ⟨W0, hW0⟩ : ∃ W0, W0 = (w.alloc (.cells #[.slice ra rn rc, .slice ma mn mc, .slice fa fn fc, .slice ea en ec] 50)).alloc (.cells #[.slice none 0 0] 27) := ⟨_, rfl⟩
  have q1 : W0.heap[w.heap.size]? = some (.cells #[.slice ra rn rc, .slice ma mn mc, .slice fa fn fc, .slice ea en ec] 50 (0, 0)) := by rw [hW0]; exact (Below.heap_alloc _ _ _ (by simp)).trans (heap_alloc_new w _)
  have q2 : W0.heap[w.heap.size + 1]? = some (.cells #[.slice none 0 0] 27 (0, 0)) := by
    have := heap_alloc_new (w.alloc (.cells #[.slice ra rn rc, .slice ma mn mc, .slice fa fn fc, .slice ea en ec] 50)) (.cells #[.slice none 0 0] 27)
    rw [World.size_alloc] at this
    rw [hW0]; exact this
  have hb0 : Below w.heap.size w W0 := by rw [hW0]; exact boxes2 _ _ _ _ _
  have FX : Hid (∀ w2 : World, Below W0.heap.size W0 w2 → w2.cell? ⟨w.heap.size, 1, none⟩ = some (.slice ma mn mc) ∧ w2.heap[w.heap.size + 1]? = some (.cells #[.slice none 0 0] 27 (0, 0)) ∧ Below w.heap.size w w2) := hid (fun w2 hb => ⟨cellOf ((hb.block _ (Array.getElem?_eq_some_iff.1 q1).1).trans q1) 1, (hb.block _ (Array.getElem?_eq_some_iff.1 q2).1).trans q2, hb0.trans (hb.mono hb0.size)⟩)
  have HB0 := hid hb0
  have HZ := hid (Array.getElem?_eq_some_iff.1 q2).1
  clear q1 q2 hb0
  cases hr : rightB p with
  | false =>
    rw [hr] at K51
    go_enter Try.func28, Try.ntmps28
    go_wp2_with (go_at_call 52; (rw [← hW0]; refine (K51.out _ HB0.out).mono ?_; rintro e w1 ⟨rfl, hb1⟩; obtain ⟨_, g2, bb⟩ := FX.out w1 hb1; have e0 := cellOf g2 0; have f0 := freeOf g2 0; simp only [List.getElem?_toArray, List.getElem?_cons_zero] at e0; have G2 := hid g2; have BB := hid bb; clear g2 hb1 bb))
    have h5 := set_cells G2.out (.slice none 0 0)
    have r0 := cellOf h5 0
    simp only [List.getElem?_toArray, List.getElem?_cons_zero] at r0
    have hb5 := BB.out.setCell (p := ⟨w.heap.size + 1, 0, none⟩) (by show w.heap.size ≤ w.heap.size + 1; omega) (.slice none 0 0)
    generalize w1.setCell ⟨w.heap.size + 1, 0, none⟩ (.slice none 0 0) = W5 at *
    exact bodyPost_ret (v := .tuple #[.agg #[.slice none 0 0], .int .i64 40]) (by simp [results, Try.results28, go_sem, r0]) rfl ⟨hb5, .inl ⟨trivial, rfl⟩⟩
  | true =>
    have h16 := H16.out hr
    rw [hr] at K51
    have hI : (mn : Int) ≤ 16 := by omega
    have hI0 : (0 : Int) ≤ (mn : Int) := by omega
    have MK := hid (fun W : World => run_mk W mn (by omega))
    go_enter Try.func28, Try.ntmps28
    go_wp2_with (go_at_call 52; (rw [← hW0]; refine (K51.out _ HB0.out).mono ?_; rintro e w1 ⟨rfl, hb1⟩; obtain ⟨c1, g2, bb⟩ := FX.out w1 hb1; have mk := MK.out w1; have e0 := fun o => cellOf (al1N g2 o) 0; have f0 := fun o => freeOf (al1N g2 o) 0; simp only [List.getElem?_toArray, List.getElem?_cons_zero] at e0; have G2 := hid g2; have BB := hid bb; have B1 := hid hb1; clear g2 hb1 bb))
    have al := heap_alloc_new w1 (.cells (List.replicate mn (.slice none 0 0)).toArray 70)
    rw [List.toArray_replicate] at al
    have h5 := set_cells (al1N G2.out (.cells (Array.replicate mn (.slice none 0 0)) 70)) (.slice (some ⟨w1.heap.size, 0, none⟩) mn mn)
    have r0 := cellOf h5 0
    simp only [List.getElem?_toArray, List.getElem?_cons_zero] at r0
    have hlt : w.heap.size + 1 < w1.heap.size := (Array.getElem?_eq_some_iff.1 G2.out).1
    have hb5 := (BB.out.alloc BB.out.size (.cells (Array.replicate mn (.slice none 0 0)) 70)).setCell (p := ⟨w.heap.size + 1, 0, none⟩) (by show w.heap.size ≤ w.heap.size + 1; omega) (.slice (some ⟨w1.heap.size, 0, none⟩) mn mn)
    have hg5 : ((w1.alloc (.cells (Array.replicate mn (.slice none 0 0)) 70)).setCell ⟨w.heap.size + 1, 0, none⟩ (.slice (some ⟨w1.heap.size, 0, none⟩) mn mn)).heap[w1.heap.size]? = some (.cells (Array.replicate mn (.slice none 0 0)) 70 (0, 0)) := (Below.heap_setCell _ _ _ _ (by show w1.heap.size ≠ w.heap.size + 1; omega)).trans al
    generalize (w1.alloc (.cells (Array.replicate mn (.slice none 0 0)) 70)).setCell ⟨w.heap.size + 1, 0, none⟩ (.slice (some ⟨w1.heap.size, 0, none⟩) mn mn) = W5 at *
    have hs5 := (Array.getElem?_eq_some_iff.1 hg5).1
    exact bodyPost_ret (v := .tuple #[.agg #[.slice (some ⟨w1.heap.size, 0, none⟩) mn mn], .int .i64 0]) (by simp [results, Try.results28, go_sem, r0]) rfl ⟨hb5, .inr ⟨trivial, w1.heap.size, rfl, by rw [List.toArray_replicate]; exact hg5, by omega⟩⟩

/- A row that is being read; G: the block of the rows. -/
structure RrJ (w wr : World) (G : Nat) (fa : Option Addr) (fn fc : Nat) (ps : Rw 3) (acc : List (Vl × Vl)) : Prop where
  os : wr.os = w.os
  tape : wr.tape = w.tape
  output : wr.output = w.output
  size : w.heap.size ≤ wr.heap.size
  blk : ∀ j, j < w.heap.size → j ≠ G → wr.heap[j]? = w.heap[j]?
  row : ERow wr w.heap.size (.slice fa fn fc) (ps.map (enT 3))
  el : ∀ q ∈ ps, RdP 3 wr (fun b => w.heap.size ≤ b ∧ b < wr.heap.size ∧ some b ≠ (Value.slice fa fn fc).ownBlock) q.1 ∧ RdP 3 wr (fun b => w.heap.size ≤ b ∧ b < wr.heap.size ∧ some b ≠ (Value.slice fa fn fc).ownBlock) q.2
  eq : ps.map nrmP = acc.map tvlP
theorem RrJ.nil (w : World) (G : Nat) : RrJ w w G none 0 0 [] [] := ⟨rfl, rfl, rfl, Nat.le_refl _, fun _ _ _ => rfl, ERow.nil _ _, (fun q hq => by cases hq), rfl⟩
theorem RrJ.len {w wr : World} {G : Nat} {fa : Option Addr} {fn fc : Nat} {ps : Rw 3} {acc : List (Vl × Vl)} (h : RrJ w wr G fa fn fc ps acc) : ps.length = acc.length := by
  have := congrArg List.length h.eq
  simpa using this
theorem RrJ.more {w wr w2 w3 w4 : World} {G m : Nat} {fa va : Option Addr} {fn fc vn vc : Nat} {ps : Rw 3} {acc : List (Vl × Vl)} {x y : Vl} {hx hy : Hd} (h : RrJ w wr G fa fn fc ps acc) (hG : G < w.heap.size) (hb : Below wr.heap.size wr w2) (gx : GV x) (gy : GV y) (rx : Rep w2 x hx) (ry : Rep w2 y hy)
    (nx : ∀ b, (Value.slice hx.a hx.n hx.cap).ownBlock = some b → wr.heap.size ≤ b) (ny : ∀ b, (Value.slice hy.a hy.n hy.cap).ownBlock = some b → wr.heap.size ≤ b)
    (hb3 : Below w2.heap.size w2 w3) (hr : ERow w4 w.heap.size (.slice va vn vc) (ps.map (enT 3) ++ [⟨hx, hy⟩])) (hg : Grw w3 (.slice fa fn fc) w4 (.slice va vn vc)) :
    RrJ w (w4.setCell ⟨G, m, none⟩ (.slice va vn vc)) G va vn vc (ps ++ [(tre hx x, tre hy y)]) (acc ++ [(x, y)]) := by
  have hs4 := hg.1.size
  have hs3 := hb3.size
  have hs1 := hb.size
  have hs0 := h.size
  have own : ∀ b, (Value.slice fa fn fc).ownBlock = some b → w.heap.size ≤ b ∧ b < wr.heap.size := fun b e => h.row.own b e
  have own4 : ∀ b, (Value.slice va vn vc).ownBlock = some b → (Value.slice fa fn fc).ownBlock = some b ∨ w2.heap.size ≤ b := fun b e => by
    rcases hg.2 with e2 | ⟨g, e2, e3⟩
    · exact .inl (e2 ▸ e)
    · rw [e] at e2; cases e2; exact .inr (by omega)
  have blk : ∀ b, b < w2.heap.size → some b ≠ (Value.slice fa fn fc).ownBlock → w4.heap[b]? = w2.heap[b]? := fun b hb2 hne => (hg.1.block b (by omega) hne).trans (hb3.block b hb2)
  have st : ∀ b, b ≠ G → (w4.setCell ⟨G, m, none⟩ (.slice va vn vc)).heap[b]? = w4.heap[b]? := fun b hb => Below.heap_setCell _ _ _ _ hb
  have ss : (w4.setCell ⟨G, m, none⟩ (.slice va vn vc)).heap.size = w4.heap.size := by simp [World.setCell]
  obtain ⟨t1, e1⟩ := rep_tree gx rx nx
  obtain ⟨t2, e2⟩ := rep_tree gy ry ny
  refine ⟨(hg.1.os.trans hb3.os).trans (hb.os.trans h.os), (hg.1.tape.trans hb3.tape).trans (hb.tape.trans h.tape), (hg.1.output.trans hb3.output).trans (hb.output.trans h.output), by rw [ss]; omega, fun j hj hne => ?_, ?_, ?_, by rw [List.map_append, List.map_append, h.eq]; simp only [List.map_cons, List.map_nil, nrmP, tvlP, e1, e2]⟩
  · exact (st j hne).trans ((blk j (by omega) (fun e => by have := (own j e.symm).1; omega)).trans ((hb.block j (by omega)).trans (h.blk j hj hne)))
  · rw [List.map_append]
    exact hr.same (fun g e => st g (by have := (hr.own g e).1; omega))
  · intro q hq
    have kp : ∀ b, (w.heap.size ≤ b ∧ b < wr.heap.size ∧ some b ≠ (Value.slice fa fn fc).ownBlock) → (w4.setCell ⟨G, m, none⟩ (.slice va vn vc)).heap[b]? = wr.heap[b]? := fun b hA => (st b (by omega)).trans ((blk b (by omega) hA.2.2).trans (hb.block b hA.2.1))
    have im : ∀ b, (w.heap.size ≤ b ∧ b < wr.heap.size ∧ some b ≠ (Value.slice fa fn fc).ownBlock) → (w.heap.size ≤ b ∧ b < (w4.setCell ⟨G, m, none⟩ (.slice va vn vc)).heap.size ∧ some b ≠ (Value.slice va vn vc).ownBlock) := fun b hA => ⟨hA.1, by rw [ss]; omega, fun e => by
      rcases own4 b e.symm with h1 | h1
      · exact hA.2.2 h1.symm
      · omega⟩
    have kp2 : ∀ b, (wr.heap.size ≤ b ∧ b < w2.heap.size) → (w4.setCell ⟨G, m, none⟩ (.slice va vn vc)).heap[b]? = w2.heap[b]? := fun b hA => (st b (by omega)).trans (blk b hA.2 (fun e => by have := (own b e.symm).2; omega))
    have im2 : ∀ b, (wr.heap.size ≤ b ∧ b < w2.heap.size) → (w.heap.size ≤ b ∧ b < (w4.setCell ⟨G, m, none⟩ (.slice va vn vc)).heap.size ∧ some b ≠ (Value.slice va vn vc).ownBlock) := fun b hA => ⟨by omega, by rw [ss]; omega, fun e => by
      rcases own4 b e.symm with h1 | h1
      · have := (own b h1).2; omega
      · omega⟩
    rcases List.mem_append.1 hq with hq | hq
    · exact ⟨((h.el q hq).1.keep 3 kp).imp 3 im, ((h.el q hq).2.keep 3 kp).imp 3 im⟩
    · simp only [List.mem_singleton] at hq
      subst hq
      exact ⟨(t1.keep 3 kp2).imp 3 im2, (t2.keep 3 kp2).imp 3 im2⟩
theorem RrJ.out {w wr : World} {G : Nat} {fa : Option Addr} {fn fc : Nat} {ps : Rw 3} {acc : List (Vl × Vl)} (h : RrJ w wr G fa fn fc ps acc) (hl : acc.length ≤ 24) : RwP 3 wr (fun b => w.heap.size ≤ b ∧ b < wr.heap.size) fa fn ps ∧ fn ≤ fc := by
  obtain ⟨a9, c9, e9, h9⟩ := h.row.form
  cases e9
  have := h.len
  rw [List.length_map] at h9 ⊢
  refine ⟨⟨rfl, by omega, h.row.rd, fun x e ne => ?_, fun q hq => ⟨(h.el q hq).1.imp 3 (fun b hA => ⟨hA.1, hA.2.1⟩), (h.el q hq).2.imp 3 (fun b hA => ⟨hA.1, hA.2.1⟩)⟩⟩, h9⟩
  have := h.row.own x.block (by rw [e]; rfl)
  exact this
/- The rows read so far, in block G; LB: what lies ahead stays. -/
def rowsL (rows : List (Sl × Rw 3)) (v : List Value) (r : Nat) : Array Value := (rows.map (fun (q : Sl × Rw 3) => q.1.v) ++ v ++ List.replicate r (Value.slice none 0 0)).toArray
structure RqI (w wr : World) (G LB n : Nat) (rows : List (Sl × Rw 3)) (X : List (List (Vl × Vl))) : Prop where
  bel : ∀ j, j < LB → j ≠ G → wr.heap[j]? = w.heap[j]?
  os : wr.os = w.os
  tape : wr.tape = w.tape
  output : wr.output = w.output
  size : LB ≤ wr.heap.size
  bg : wr.heap[G]? = some (.cells (rowsL rows [] (n - rows.length)) 70 (0, 0))
  rd : ∀ q ∈ rows, RwP 3 wr (fun b => LB ≤ b ∧ b < wr.heap.size) q.1.a q.1.n q.2 ∧ q.1.n ≤ q.1.cap
  same : rows.map (fun q => q.2.map nrmP) = X.map (fun r => r.map tvlP)
end Go.Proofs.Ytenfgahedbeekaa

