/- heap.with: the maps copied, one of them another row. -/
import Derived.Test.YtenfgahedbeekaaO
namespace Go.Proofs.Ytenfgahedbeekaa
open Go.RowKit Go.Deep Go.Shelf
set_option linter.unusedVariables false
set_option linter.unusedSimpArgs false

theorem step_appM {ops : Array Oper} {o : Oper} {a : Act} {w : World} {K : Act → World → Prop} {Q : Exit → Act → World → Prop} {E : Prop} (hgd : o.guard = none) (s x : Operand)
    (ho : o.op = .call { callee := .builtin .append, args := #[s, x], argTypes := #[25, 25] }) (v : Value) (g : Nat) (h : Sl) (hs : a.eval s = v) (hx : a.eval x = .slice (some ⟨g, 0, none⟩) 1 1)
    (B : Nat) (xs : List Sl) (hr : MRow w B v xs) (hg : w.heap[g]? = some (.cells #[h.v] 70 (0, 0))) (hB : B ≤ w.heap.size) (hl : xs.length ≤ 1000000)
    (k : ∀ v' w', MRow w' B v' (xs ++ [h]) → Grw w v w' v' → K (a.put o.dst v') w') :
    if Region.wanted o (yielded ops a.tmps) = true then Oper.wp Try.prog o a w K Q else E := by
  have hw : Region.wanted o (yielded ops a.tmps) = true := by simp [Region.wanted, hgd]
  rw [if_pos hw]
  obtain ⟨v', w', hr, h2, h3⟩ := run_appM w o.type B v xs h g hr hg hB hl
  unfold Oper.wp execOp
  simp only [ho, resolve, invoke, builtin, Sem.run_bind, Sem.run_pure, Result.andThen_ok, List.map_toArray, List.map_cons, List.map_nil, hs, hx, hr]
  exact k v' w' h2 h3

abbrev Rw (k : Nat) := List (VT k × VT k)
/- A state that is read: its maps, and what each holds. -/
structure StR (k : Nat) (w : World) (a : Option Addr) (n : Nat) (ms : List (Sl × Rw k)) : Prop where
  n1 : n = ms.length
  n2 : n ≤ 1000
  rd : MRd w a (ms.map (·.1))
  el : ∀ m ∈ ms, RwR k w m.1.a m.1.n m.2 ∧ m.1.n ≤ m.1.cap
structure StP (k : Nat) (w : World) (A : Nat → Prop) (a : Option Addr) (n : Nat) (ms : List (Sl × Rw k)) : Prop where
  n1 : n = ms.length
  n2 : n ≤ 1000
  rd : MRd w a (ms.map (·.1))
  at' : ∀ x : Addr, a = some x → ms ≠ [] → A x.block
  el : ∀ m ∈ ms, RwP k w A m.1.a m.1.n m.2 ∧ m.1.n ≤ m.1.cap
def rowC (k : Nat) (r : Rw k) : List (CT k × CT k) := r.map (ofP k)
/- What the round i has made. -/
def wth {α : Type} (m : Int) (row : α) (l : List α) : List α := l.mapIdx fun i x => if (i : Int) = m then row else x
structure CwL (k : Nat) (w wr : World) (sv : Value) (cs : List (List (CT k × CT k))) (i : Nat) (fa : Option Addr) (fn fc : Nat) (ns : List (Sl × Rw k)) : Prop where
  bel : Below w.heap.size w wr
  b0 : wr.heap[w.heap.size]? = some (.cells #[sv] 27 (0, 0))
  b1 : wr.heap[w.heap.size + 1]? = some (.cells #[.slice none 0 0] 27 (0, 0))
  b2 : wr.heap[w.heap.size + 1 + 1]? = some (.cells #[.slice fa fn fc] 27 (0, 0))
  row : MRow wr (w.heap.size + 3) (.slice fa fn fc) (ns.map (·.1))
  rd : ∀ q ∈ ns, RwP k wr (fun b => w.heap.size + 3 ≤ b ∧ b < wr.heap.size ∧ (Value.slice fa fn fc).ownBlock ≠ some b) q.1.a q.1.n q.2 ∧ q.1.n ≤ q.1.cap
  same : ns.map (fun q => rowC k q.2) = cs.take i
theorem CwL.sz {k : Nat} {w wr : World} {sv : Value} {cs : List (List (CT k × CT k))} {i : Nat} {fa : Option Addr} {fn fc : Nat} {ns : List (Sl × Rw k)} (c : CwL k w wr sv cs i fa fn fc ns) : w.heap.size + 3 ≤ wr.heap.size := (Array.getElem?_eq_some_iff.1 c.b2).1
theorem CwL.grown {k : Nat} {w wr w9 w10 : World} {sv : Value} {cs : List (List (CT k × CT k))} {i : Nat} {fa : Option Addr} {fn fc : Nat} {ns : List (Sl × Rw k)} {v2 : Value} {o2 : Obj} (c : CwL k w wr sv cs i fa fn fc ns) (h9 : Below wr.heap.size wr w9) (hg : Grw (w9.alloc o2) (.slice fa fn fc) w10 v2) :
    w10.heap[w.heap.size + 1 + 1]? = some (.cells #[.slice fa fn fc] 27 (0, 0)) := by
  have hs := c.sz
  have bA : Below wr.heap.size wr (w9.alloc o2) := h9.alloc h9.size _
  exact ((hg.1.block _ (by have := bA.size; omega) (fun e => by have := (c.row.own _ e.symm).1; omega)).trans (bA.block _ (by omega))).trans c.b2
theorem CwL.more {k : Nat} {w wr w9 w10 : World} {sv : Value} {cs : List (List (CT k × CT k))} {i : Nat} {fa : Option Addr} {fn fc : Nat} {ns : List (Sl × Rw k)} {o2 : Obj} {xa : Option Addr} {xn xc : Nat} {qs : Rw k} {f2 : Option Addr} {n2 c2 : Nat} (c : CwL k w wr sv cs i fa fn fc ns)
    (h9 : Below wr.heap.size wr w9) (hx : RwP k w9 (fun b => wr.heap.size ≤ b ∧ b < w9.heap.size) xa xn qs) (hxc : xn ≤ xc) (he : cs[i]? = some (rowC k qs))
    (hr : MRow w10 (w.heap.size + 3) (.slice f2 n2 c2) (ns.map (·.1) ++ [⟨xa, xn, xc⟩])) (hg : Grw (w9.alloc o2) (.slice fa fn fc) w10 (.slice f2 n2 c2)) :
    CwL k w (w10.setCell ⟨w.heap.size + 1 + 1, 0, none⟩ (.slice f2 n2 c2)) sv cs (i + 1) f2 n2 c2 (ns ++ [(⟨xa, xn, xc⟩, qs)]) := by
  have hs0 := c.sz
  have s9 := h9.size
  have bA : Below wr.heap.size wr (w9.alloc o2) := h9.alloc h9.size _
  have own : ∀ b, (Value.slice fa fn fc).ownBlock = some b → w.heap.size + 3 ≤ b ∧ b < wr.heap.size := fun b e => c.row.own b e
  have blk : ∀ b, b < wr.heap.size → (Value.slice fa fn fc).ownBlock ≠ some b → w10.heap[b]? = wr.heap[b]? := fun b hb hne => (hg.1.block b (Nat.lt_of_lt_of_le hb bA.size) (fun e => hne e.symm)).trans (bA.block b hb)
  have blk9 : ∀ b, wr.heap.size ≤ b → b < w9.heap.size → w10.heap[b]? = w9.heap[b]? := fun b hb hb2 => (hg.1.block b (by simp; omega) (fun e => by have := (own b e.symm).2; omega)).trans (Below.heap_alloc _ _ _ hb2)
  have own2 : ∀ b, (Value.slice f2 n2 c2).ownBlock = some b → (Value.slice fa fn fc).ownBlock = some b ∨ (w9.alloc o2).heap.size ≤ b := fun b e => by
    rcases hg.2 with h1 | ⟨g, h1, h2⟩
    · exact .inl (h1 ▸ e)
    · rw [h1] at e; cases e; exact .inr h2
  have sB : (w9.alloc o2).heap.size = w9.heap.size + 1 := by simp
  have s11 : (w9.alloc o2).heap.size ≤ w10.heap.size := hg.1.size
  have st : ∀ b, b ≠ w.heap.size + 1 + 1 → (w10.setCell ⟨w.heap.size + 1 + 1, 0, none⟩ (.slice f2 n2 c2)).heap[b]? = w10.heap[b]? := fun b hb => Below.heap_setCell _ _ _ _ hb
  have ss : (w10.setCell ⟨w.heap.size + 1 + 1, 0, none⟩ (.slice f2 n2 c2)).heap.size = w10.heap.size := by simp [World.setCell]
  have h2 := heap_set_at (c.grown h9 hg) 0 (.slice f2 n2 c2)
  refine ⟨?_, ?_, ?_, by simpa using h2, ?_, ?_, ?_⟩
  · refine ⟨(hg.1.os.trans bA.os).trans c.bel.os, (hg.1.tape.trans bA.tape).trans c.bel.tape, (hg.1.output.trans bA.output).trans c.bel.output, by rw [ss]; omega, fun j hj => ?_⟩
    exact (st j (by omega)).trans ((blk j (by omega) (fun e => by have := (own j e).1; omega)).trans (c.bel.block j hj))
  · exact (st _ (by omega)).trans ((blk _ (by omega) (fun e => by have := (own _ e).1; omega)).trans c.b0)
  · exact (st _ (by omega)).trans ((blk _ (by omega) (fun e => by have := (own _ e).1; omega)).trans c.b1)
  · rw [List.map_append]
    exact hr.same (fun q e => st q (by have := (hr.own q e).1; omega))
  · intro q hq
    rcases List.mem_append.1 hq with hq | hq
    · refine ⟨((c.rd q hq).1.keep (fun b hb => (st b (by omega)).trans (blk b hb.2.1 hb.2.2))).imp (fun b hb => ⟨hb.1, by rw [ss]; omega, fun e => ?_⟩), (c.rd q hq).2⟩
      rcases own2 b e with h | h
      · exact hb.2.2 h
      · omega
    · obtain rfl : q = (⟨xa, xn, xc⟩, qs) := by simpa using hq
      refine ⟨(hx.keep (fun b hb => (st b (by omega)).trans (blk9 b hb.1 hb.2))).imp (fun b hb => ⟨by omega, by rw [ss]; omega, fun e => ?_⟩), hxc⟩
      rcases own2 b e with h | h
      · have := (own b h).2; omega
      · omega
  · rw [List.map_append, c.same, List.take_add_one, he]
    rfl
end Go.Proofs.Ytenfgahedbeekaa
