/- heap.copyOfRow: a row of entries that hold the same, in memory of its own. -/
import Derived.Test.YtenfgahedbeekaaL
namespace Go.Proofs.Ytenfgahedbeekaa
open Go.RowKit Go.Deep Go.Shelf
set_option linter.unusedVariables false
set_option linter.unusedSimpArgs false

theorem step_appE {ops : Array Oper} {o : Oper} {a : Act} {w : World} {K : Act → World → Prop} {Q : Exit → Act → World → Prop} {E : Prop} (hgd : o.guard = none) (s x : Operand)
    (ho : o.op = .call { callee := .builtin .append, args := #[s, x], argTypes := #[70, 70] }) (v : Value) (g : Nat) (h : En) (hs : a.eval s = v) (hx : a.eval x = .slice (some ⟨g, 0, none⟩) 1 1)
    (B : Nat) (xs : List En) (hr : ERow w B v xs) (hg : w.heap[g]? = some (.cells h.cs.toArray 81 (0, 0))) (hB : B ≤ w.heap.size) (hl : xs.length ≤ 1000000)
    (k : ∀ v' w', ERow w' B v' (xs ++ [h]) → Grw w v w' v' → K (a.put o.dst v') w') :
    if Region.wanted o (yielded ops a.tmps) = true then Oper.wp Try.prog o a w K Q else E := by
  have hw : Region.wanted o (yielded ops a.tmps) = true := by simp [Region.wanted, hgd]
  rw [if_pos hw]
  obtain ⟨v', w', hr, h2, h3⟩ := run_appE w o.type B v xs h g hr hg hB hl
  unfold Oper.wp execOp
  simp only [ho, resolve, invoke, builtin, Sem.run_bind, Sem.run_pure, Result.andThen_ok, List.map_toArray, List.map_cons, List.map_nil, hs, hx, hr]
  exact k v' w' h2 h3

def enT (k : Nat) (p : VT k × VT k) : En := ⟨hdT k p.1, hdT k p.2⟩
def ofP (k : Nat) (p : VT k × VT k) : CT k × CT k := (ofT k p.1, ofT k p.2)
/- A row of entries that a slice reads. -/
structure RwR (k : Nat) (w : World) (a : Option Addr) (n : Nat) (ps : List (VT k × VT k)) : Prop where
  n1 : n = ps.length
  n2 : n ≤ 1000
  rd : ERd w a (ps.map (enT k))
  el : ∀ p ∈ ps, Rds k w p.1 ∧ Rds k w p.2
theorem RwR.below {k : Nat} {w w' : World} {a : Option Addr} {n : Nat} {ps : List (VT k × VT k)} {B : Nat} (h : RwR k w a n ps) (hB : w.heap.size ≤ B) (hb : Below B w w') : RwR k w' a n ps :=
  ⟨h.n1, h.n2, h.rd.below hB hb, fun p hp => ⟨Rds.below k (h.el p hp).1 hB hb, Rds.below k (h.el p hp).2 hB hb⟩⟩
/- The same, in blocks of A. -/
structure RwP (k : Nat) (w : World) (A : Nat → Prop) (a : Option Addr) (n : Nat) (ps : List (VT k × VT k)) : Prop where
  n1 : n = ps.length
  n2 : n ≤ 1000
  rd : ERd w a (ps.map (enT k))
  at' : ∀ x : Addr, a = some x → ps ≠ [] → A x.block
  el : ∀ p ∈ ps, RdP k w A p.1 ∧ RdP k w A p.2
theorem RwP.rwr {k : Nat} {w : World} {A : Nat → Prop} {a : Option Addr} {n : Nat} {ps : List (VT k × VT k)} (h : RwP k w A a n ps) : RwR k w a n ps := ⟨h.n1, h.n2, h.rd, fun p hp => ⟨(h.el p hp).1.rds k, (h.el p hp).2.rds k⟩⟩
theorem RwP.imp {k : Nat} {w : World} {A B : Nat → Prop} {a : Option Addr} {n : Nat} {ps : List (VT k × VT k)} (h : RwP k w A a n ps) (i : ∀ b, A b → B b) : RwP k w B a n ps :=
  ⟨h.n1, h.n2, h.rd, fun x e ne => i _ (h.at' x e ne), fun p hp => ⟨(h.el p hp).1.imp k i, (h.el p hp).2.imp k i⟩⟩
theorem RwP.keep {k : Nat} {w w' : World} {A : Nat → Prop} {a : Option Addr} {n : Nat} {ps : List (VT k × VT k)} (h : RwP k w A a n ps) (e : ∀ b, A b → w'.heap[b]? = w.heap[b]?) : RwP k w' A a n ps :=
  ⟨h.n1, h.n2, h.rd.keep (fun x ex ne => e _ (h.at' x ex (fun h0 => ne (by rw [h0]; rfl)))), h.at', fun p hp => ⟨(h.el p hp).1.keep k e, (h.el p hp).2.keep k e⟩⟩

structure CrL (k : Nat) (w wr : World) (ps : List (VT k × VT k)) (i : Nat) (fa : Option Addr) (fn fc : Nat) (qs : List (VT k × VT k)) : Prop where
  bel : Below w.heap.size w wr
  row : ERow wr w.heap.size (.slice fa fn fc) (qs.map (enT k))
  rd : ∀ q ∈ qs, RdP k wr (fun b => w.heap.size ≤ b ∧ b < wr.heap.size ∧ (Value.slice fa fn fc).ownBlock ≠ some b) q.1 ∧ RdP k wr (fun b => w.heap.size ≤ b ∧ b < wr.heap.size ∧ (Value.slice fa fn fc).ownBlock ≠ some b) q.2
  same : qs.map (ofP k) = (ps.take i).map (ofP k)
theorem CrL.more {k : Nat} {w wr wA w8 w9 w10 : World} {ps : List (VT k × VT k)} {i : Nat} {fa : Option Addr} {fn fc : Nat} {qs : List (VT k × VT k)} {v2 : Value} {p : VT k × VT k} {x y : VT k} {o2 : Obj} (c : CrL k w wr ps i fa fn fc qs) (hp : ps[i]? = some p)
    (hA : Below wr.heap.size wr wA) (h8 : Below wA.heap.size wA w8) (hx : RdP k w8 (fun b => wA.heap.size ≤ b ∧ b < w8.heap.size) x) (hex : ofT k x = ofT k p.1)
    (h9 : Below w8.heap.size w8 w9) (hy : RdP k w9 (fun b => w8.heap.size ≤ b ∧ b < w9.heap.size) y) (hey : ofT k y = ofT k p.2)
    (hr : ERow w10 w.heap.size v2 (qs.map (enT k) ++ [enT k (x, y)])) (hg : Grw (w9.alloc o2) (.slice fa fn fc) w10 v2) :
    ∃ fa2 fn2 fc2, v2 = .slice fa2 fn2 fc2 ∧ CrL k w w10 ps (i + 1) fa2 fn2 fc2 (qs ++ [(x, y)]) := by
  obtain ⟨fa2, fc2, e, _⟩ := hr.form
  have hs0 := c.bel.size
  have b8 : Below wr.heap.size wr w8 := hA.trans (h8.mono hA.size)
  have b9 : Below wr.heap.size wr w9 := b8.trans (h9.mono b8.size)
  have bA : Below wr.heap.size wr (w9.alloc o2) := b9.alloc b9.size _
  have own : ∀ b, (Value.slice fa fn fc).ownBlock = some b → w.heap.size ≤ b ∧ b < wr.heap.size := fun b e => c.row.own b e
  have blk : ∀ b, b < wr.heap.size → (Value.slice fa fn fc).ownBlock ≠ some b → w10.heap[b]? = wr.heap[b]? := fun b hb hne => (hg.1.block b (Nat.lt_of_lt_of_le hb bA.size) (fun e => hne e.symm)).trans (bA.block b hb)
  have blk9 : ∀ b, wr.heap.size ≤ b → b < w9.heap.size → w10.heap[b]? = w9.heap[b]? := fun b hb hb2 => (hg.1.block b (by simp; omega) (fun e => by have := (own b e.symm).2; omega)).trans (Below.heap_alloc _ _ _ hb2)
  have own2 : ∀ b, v2.ownBlock = some b → (Value.slice fa fn fc).ownBlock = some b ∨ (w9.alloc o2).heap.size ≤ b := fun b e => by
    rcases hg.2 with h1 | ⟨g, h1, h2⟩
    · exact .inl (h1 ▸ e)
    · rw [h1] at e; cases e; exact .inr h2
  have s8 := h8.size
  have s9 := h9.size
  have sA := hA.size
  have sB : (w9.alloc o2).heap.size = w9.heap.size + 1 := by simp
  have s11 : (w9.alloc o2).heap.size ≤ w10.heap.size := hg.1.size
  subst e
  refine ⟨fa2, _, fc2, rfl, ⟨?_, ?_, ?_, ?_⟩⟩
  · refine ⟨(hg.1.os.trans bA.os).trans c.bel.os, (hg.1.tape.trans bA.tape).trans c.bel.tape, (hg.1.output.trans bA.output).trans c.bel.output, by omega, fun j hj => ?_⟩
    exact (blk j (by omega) (fun e => by have := (own j e).1; omega)).trans (c.bel.block j hj)
  · rw [List.map_append]; exact hr
  · intro q hq
    rcases List.mem_append.1 hq with hq | hq
    · have im : ∀ b, (w.heap.size ≤ b ∧ b < wr.heap.size ∧ (Value.slice fa fn fc).ownBlock ≠ some b) → (w.heap.size ≤ b ∧ b < w10.heap.size ∧ (Value.slice fa2 (qs.map (enT k) ++ [enT k (x, y)]).length fc2).ownBlock ≠ some b) := fun b hb => ⟨hb.1, by omega, fun e => by
        rcases own2 b e with h | h
        · exact hb.2.2 h
        · omega⟩
      exact ⟨((c.rd q hq).1.keep k (fun b hb => blk b hb.2.1 hb.2.2)).imp k im, ((c.rd q hq).2.keep k (fun b hb => blk b hb.2.1 hb.2.2)).imp k im⟩
    · obtain rfl : q = (x, y) := by simpa using hq
      have im : ∀ b, (wr.heap.size ≤ b ∧ b < w9.heap.size) → (w.heap.size ≤ b ∧ b < w10.heap.size ∧ (Value.slice fa2 (qs.map (enT k) ++ [enT k (x, y)]).length fc2).ownBlock ≠ some b) := fun b hb => ⟨by omega, by omega, fun e => by
        rcases own2 b e with h | h
        · have := (own b h).2; omega
        · omega⟩
      refine ⟨?_, ?_⟩
      · have h1 := hx.keep k (w' := w9) (fun b hb => h9.block b hb.2)
        have h2 := h1.imp k (B := fun b => wr.heap.size ≤ b ∧ b < w9.heap.size) (fun b hb => ⟨by omega, by omega⟩)
        exact (h2.keep k (fun b hb => blk9 b hb.1 hb.2)).imp k im
      · have h2 := hy.imp k (B := fun b => wr.heap.size ≤ b ∧ b < w9.heap.size) (fun b hb => ⟨by omega, by omega⟩)
        exact (h2.keep k (fun b hb => blk9 b hb.1 hb.2)).imp k im
  · rw [List.map_append, c.same, List.take_add_one, hp]
    simp [ofP, hex, hey]
end Go.Proofs.Ytenfgahedbeekaa
