/- The parser's box and its tokens; what a parser's function answers. -/
import Derived.Test.YtcnohgifihbkdaaGreatDoorJAA
namespace Go.Proofs.YtcnohgifihbkdaaGreatDoor
open Go.RowKit Go.Deep Go.Shelf
set_option linter.unusedVariables false
set_option linter.unusedSimpArgs false
structure okTk (t : PTok) : Prop where
  k0 : 0 ≤ t.kind
  k5 : t.kind ≤ 5
  nm : t.kind = 1 → t.text ≠ []
  nu : t.kind = 3 → t.text ≠ [] ∧ ∀ c ∈ t.text, 48 ≤ c.toNat ∧ c.toNat ≤ 57
  tl : t.text.length ≤ 5000
  p0 : 0 ≤ t.pos
  p1 : t.pos ≤ 5000
def okL : List PTok → Prop
  | [] => False
  | t :: r => okTk t ∧ (t.kind = 0 → r = []) ∧ (t.kind ≠ 0 → okL r)
theorem okL.ne : ∀ {l : List PTok}, okL l → ∃ t r, l = t :: r ∧ okTk t
  | [], h => h.elim
  | t :: r, h => ⟨t, r, rfl, h.1⟩
def tokV (t : PTok) : Value := .agg #[.int .i64 t.kind, .string (bs t.text), .int .i64 t.pos]
def fltV (f : Flt) : PanicEntry := { v := .iface 92 (.agg #[.int .i64 f.1, .int .i64 f.2]), recovered := false }
/- What strconv reads of its own. -/
def Gl (w : World) : Prop := ∃ (tp : TypeId) (p : Value) (T : TypeId), w.heap[7]? = some (.cells #[.iface tp p] T (0, 0))
/- The parser's box, its tokens and what strconv reads lie below D; no other function turns the box. -/
structure Pst (w : World) (P D : Nat) (s : PS) : Prop where
  ex : ∃ (g off c : Nat) (cs : Array Value), w.heap[P]? = some (.cells #[.slice (some ⟨g, off, none⟩) s.toks.length c, .int .i64 s.opn, .bool s.sur] 61 (0, 0)) ∧ s.toks.length ≤ c ∧ w.heap[g]? = some (.cells cs 69 (0, 0)) ∧ g < D ∧ ∀ (j : Nat) (t : PTok), s.toks[j]? = some t → cs[off + j * 3]? = some (.int .i64 t.kind) ∧ cs[off + j * 3 + 1]? = some (.string (bs t.text)) ∧ cs[off + j * 3 + 2]? = some (.int .i64 t.pos)
  ok : okL s.toks
  ln : s.toks.length ≤ 5000
  gl : Gl w
  pd : P < D
  d7 : 7 < P
  dw : D ≤ w.heap.size
theorem Pst.keep {w w' : World} {P D : Nat} {s : PS} (h : Pst w P D s) (hz : w.heap.size ≤ w'.heap.size) (k : ∀ g, g < D → w'.heap[g]? = w.heap[g]?) : Pst w' P D s := by
  obtain ⟨⟨g, off, c, cs, h1, h2, h3, h3', h4⟩, h5, h6, ⟨tp, p, T, h7⟩, h8, h9, h10⟩ := h
  exact ⟨⟨g, off, c, cs, (k P h8).trans h1, h2, (k g h3').trans h3, h3', h4⟩, h5, h6, ⟨tp, p, T, (k 7 (by omega)).trans h7⟩, h8, h9, by omega⟩
theorem Pst.below {w w' : World} {P D : Nat} {s : PS} (h : Pst w P D s) (k : Below w.heap.size w w') : Pst w' P D s := h.keep k.size fun g hg => k.block g (by have := h.dw; omega)
theorem Pst.alloc {w : World} {P D : Nat} {s : PS} (h : Pst w P D s) (o : Obj) : Pst (w.alloc o) P D s := h.below ((Below.refl _ _).alloc (Nat.le_refl _) _)
theorem Pst.set {w : World} {P D b i : Nat} {s : PS} {v : Value} (h : Pst w P D s) (hb : D ≤ b) : Pst (w.setCell ⟨b, i, none⟩ v) P D s := h.keep (by simp) fun g hg => Below.heap_setCell _ ⟨b, i, none⟩ _ _ (show g ≠ b by omega)
theorem Pst.drew {w : World} {P D : Nat} {s : PS} (h : Pst w P D s) (n : Nat) : Pst (w.drewN n) P D s := h.below (below_drewN (Below.refl _ _) n)
/- What a call leaves as it was. -/
theorem grown_alloc {w w' : World} {P : Nat} (h : w.grownBy w' (some P)) (o : Obj) : w.grownBy (w'.alloc o) (some P) := gtrans h (World.grownBy_alloc w' o (some P))
theorem grown_set' {w w' : World} {P b i : Nat} {v : Value} (h : w.grownBy w' (some P)) (hb : w.heap.size ≤ b) : w.grownBy (w'.setCell ⟨b, i, none⟩ v) (some P) := grown_new h (grown_set w' b i v) hb
theorem some_ne {a b : Nat} (h : b < a) : some a ≠ some b := fun e => by
  have : a = b := Option.some.inj e
  omega
theorem gcell {W w1 : World} {P : Nat} (hg : W.grownBy w1 (some P)) : (∀ b o, P < b → b < W.heap.size → w1.cell? ⟨b, o, none⟩ = W.cell? ⟨b, o, none⟩) ∧ (∀ b o, P < b → b < W.heap.size → w1.frozen? ⟨b, o, none⟩ = W.frozen? ⟨b, o, none⟩) :=
  ⟨fun b o h1 h2 => World.grownBy.cell_far hg ⟨b, o, none⟩ h2 (some_ne h1), fun b o h1 h2 => World.grownBy.frozen_far hg ⟨b, o, none⟩ h2 (some_ne h1)⟩
/- Blocks that stay as they are. -/
def Same (A : Nat → Prop) (w w' : World) : Prop := ∀ g, A g → w'.heap[g]? = w.heap[g]?
theorem Same.refl (A : Nat → Prop) (w : World) : Same A w w := fun _ _ => rfl
theorem Same.trans {A : Nat → Prop} {w w1 w2 : World} (h : Same A w w1) (k : Same A w1 w2) : Same A w w2 := fun g hg => (k g hg).trans (h g hg)
theorem Same.alloc {A : Nat → Prop} {w w1 : World} {o : Obj} (h : Same A w w1) (hA : ∀ g, A g → g < w1.heap.size) : Same A w (w1.alloc o) := h.trans fun g hg => ((Below.refl w1.heap.size w1).alloc (Nat.le_refl _) o).block g (hA g hg)
theorem Same.set {A : Nat → Prop} {w w1 : World} {b i : Nat} {v : Value} (h : Same A w w1) (hA : ¬ A b) : Same A w (w1.setCell ⟨b, i, none⟩ v) := h.trans fun g hg => Below.heap_setCell _ ⟨b, i, none⟩ _ _ (show g ≠ b from fun e => hA (e ▸ hg))
theorem Same.call {A : Nat → Prop} {w w1 w2 : World} {P : Nat} (hg : w1.grownBy w2 (some P)) (h : Same A w w1) (hA : ∀ g, A g → g < w1.heap.size) (hP : ¬ A P) : Same A w w2 := h.trans fun g h2 => hg.block g (hA g h2) (fun e => hP (by cases e; exact h2))
theorem Same.below {A : Nat → Prop} {w w1 w2 : World} (hg : Below w1.heap.size w1 w2) (h : Same A w w1) (hA : ∀ g, A g → g < w1.heap.size) : Same A w w2 := h.trans fun g h2 => hg.block g (hA g h2)
/- Rows that lie in blocks of A. -/
def Rws (E : TypeId) (n : Nat) (w : World) (A : Nat → Prop) (v : Value) (rows : List (List Value)) : Prop := KR E n w 0 v rows ∧ ∀ g, v.ownBlock = some g → A g
theorem Rws.nil (E : TypeId) (n : Nat) (w : World) (A : Nat → Prop) : Rws E n w A (.slice none 0 0) [] := ⟨KR.nil _ _ _ _, fun g e => by cases e⟩
theorem Rws.mv {E : TypeId} {n : Nat} {w w' : World} {A B : Nat → Prop} {v : Value} {rows : List (List Value)} (h : Rws E n w A v rows) (k : Same A w w') (hAB : ∀ g, A g → B g) : Rws E n w' B v rows := ⟨h.1.keep fun g e => k g (h.2 g e), fun g e => hAB g (h.2 g e)⟩
theorem Rws.form {E : TypeId} {n : Nat} {w : World} {A : Nat → Prop} {v : Value} {rows : List (List Value)} (h : Rws E n w A v rows) : ∃ a m c, v = .slice a m c := h.1.form
def nmR (l : List Bsq) : List (List Value) := l.map fun q => [.string (bs q)]
def pmR (l : List PPm) : List (List Value) := l.map fun p => [.string (bs p.name), .string (bs p.type)]
def All2 {α β : Type} (R : α → β → Prop) (l : List α) (m : List β) : Prop := l.length = m.length ∧ ∀ (j : Nat) (a : α) (b : β), l[j]? = some a → m[j]? = some b → R a b
theorem All2.nil {α β : Type} (R : α → β → Prop) : All2 R [] [] := ⟨rfl, fun j a b e => by simp at e⟩
theorem All2.one {α β : Type} {R : α → β → Prop} {a : α} {b : β} (h : R a b) : All2 R [a] [b] := ⟨rfl, fun j x y e f => by
  cases j with
  | zero => simp at e f; subst e; subst f; exact h
  | succ j => simp at e⟩
theorem All2.app {α β : Type} {R : α → β → Prop} {l l' : List α} {m m' : List β} (h : All2 R l m) (k : All2 R l' m') : All2 R (l ++ l') (m ++ m') := ⟨by rw [List.length_append, List.length_append, h.1, k.1], fun j x y e f => by
  by_cases hj : j < l.length
  · rw [List.getElem?_append_left hj] at e
    rw [List.getElem?_append_left (by rw [← h.1]; exact hj)] at f
    exact h.2 j x y e f
  · rw [List.getElem?_append_right (by omega)] at e
    rw [List.getElem?_append_right (by rw [← h.1]; omega), ← h.1] at f
    exact k.2 _ x y e f⟩
theorem All2.imp {α β : Type} {R S : α → β → Prop} {l : List α} {m : List β} (h : All2 R l m) (k : ∀ a b, R a b → S a b) : All2 S l m := ⟨h.1, fun j a b e f => k a b (h.2 j a b e f)⟩
/- Expressions: eight cells. -/
def eC (e : PEx) (nv av : Value) : List Value := [.int .i64 e.kind, .int .i64 e.op, .int .i64 e.int, .string (bs e.text), .string (bs e.name), nv, av, .int .i64 e.pos]
def Er : Nat → World → (Nat → Prop) → List Value → PEx → Prop
  | 0, _, _, _, _ => False
  | k + 1, w, A, r, e => ∃ (nv av : Value) (rows : List (List Value)) (es : List PEx), r = eC e nv av ∧ Rws 9 1 w A nv (nmR e.names) ∧ Rws 45 8 w A av rows ∧ e.args = es.map pkE ∧ All2 (Er k w A) rows es
theorem Er.mv : ∀ (k : Nat) {w w' : World} {A B : Nat → Prop} {r : List Value} {e : PEx}, Er k w A r e → Same A w w' → (∀ g, A g → B g) → Er k w' B r e
  | 0, _, _, _, _, _, _, h, _, _ => h.elim
  | k + 1, _, _, _, _, _, _, ⟨nv, av, rows, es, h1, h2, h3, h4, h5⟩, s, i => ⟨nv, av, rows, es, h1, h2.mv s i, h3.mv s i, h4, h5.imp fun a b h => Er.mv k h s i⟩
theorem Er.more : ∀ (k : Nat) {w : World} {A : Nat → Prop} {r : List Value} {e : PEx}, Er k w A r e → Er (k + 1) w A r e
  | 0, _, _, _, _, h => h.elim
  | k + 1, _, _, _, _, ⟨nv, av, rows, es, h1, h2, h3, h4, h5⟩ => ⟨nv, av, rows, es, h1, h2, h3, h4, h5.imp fun a b h => Er.more k h⟩
theorem Er.le {k m : Nat} {w : World} {A : Nat → Prop} {r : List Value} {e : PEx} (h : Er k w A r e) (hm : k ≤ m) : Er m w A r e := by
  obtain ⟨d, rfl⟩ : ∃ d, m = k + d := ⟨m - k, by omega⟩
  clear hm
  induction d with
  | zero => exact h
  | succ d ih => exact Er.more _ ih
/- A slice of expressions. -/
def XsR (w : World) (A : Nat → Prop) (v : Value) (es : List PEx) : Prop := ∃ (k : Nat) (rows : List (List Value)), Rws 45 8 w A v rows ∧ All2 (Er k w A) rows es
theorem XsR.nil (w : World) (A : Nat → Prop) : XsR w A (.slice none 0 0) [] := ⟨0, [], Rws.nil _ _ _ _, All2.nil _⟩
theorem XsR.mv {w w' : World} {A B : Nat → Prop} {v : Value} {es : List PEx} (h : XsR w A v es) (s : Same A w w') (i : ∀ g, A g → B g) : XsR w' B v es := by
  obtain ⟨k, rows, h1, h2⟩ := h
  exact ⟨k, rows, h1.mv s i, h2.imp fun a b h => Er.mv k h s i⟩
theorem XsR.form {w : World} {A : Nat → Prop} {v : Value} {es : List PEx} (h : XsR w A v es) : ∃ a m c, v = .slice a m c := by
  obtain ⟨k, rows, h1, h2⟩ := h
  exact h1.form
/- An expression as a value. -/
def RE (w : World) (A : Nat → Prop) (v : Value) (e : PEx) : Prop := ∃ (k : Nat) (r : List Value), v = .agg r.toArray ∧ Er k w A r e
theorem RE.mv {w w' : World} {A B : Nat → Prop} {v : Value} {e : PEx} (h : RE w A v e) (s : Same A w w') (i : ∀ g, A g → B g) : RE w' B v e := by
  obtain ⟨k, r, h1, h2⟩ := h
  exact ⟨k, r, h1, Er.mv k h2 s i⟩
theorem RE.parts {w : World} {A : Nat → Prop} {v : Value} {e : PEx} (h : RE w A v e) : ∃ (na : Option Addr) (nn nc : Nat) (aa : Option Addr) (an ac : Nat) (es : List PEx), v = .agg #[.int .i64 e.kind, .int .i64 e.op, .int .i64 e.int, .string (bs e.text), .string (bs e.name), .slice na nn nc, .slice aa an ac, .int .i64 e.pos] ∧ Rws 9 1 w A (.slice na nn nc) (nmR e.names) ∧ XsR w A (.slice aa an ac) es ∧ e.args = es.map pkE := by
  obtain ⟨k, r, rfl, h⟩ := h
  cases k with
  | zero => exact h.elim
  | succ k =>
    obtain ⟨nv, av, rows, es, rfl, h2, h3, h4, h5⟩ := h
    obtain ⟨na, nn, nc, rfl⟩ := h2.form
    obtain ⟨aa, an, ac, rfl⟩ := h3.form
    exact ⟨na, nn, nc, aa, an, ac, es, rfl, h2, ⟨k, rows, h3, h5⟩, h4⟩
theorem RE.mk {w : World} {A : Nat → Prop} {e : PEx} {nv av : Value} {es : List PEx} (h1 : Rws 9 1 w A nv (nmR e.names)) (h2 : XsR w A av es) (h3 : e.args = es.map pkE) : RE w A (.agg #[.int .i64 e.kind, .int .i64 e.op, .int .i64 e.int, .string (bs e.text), .string (bs e.name), nv, av, .int .i64 e.pos]) e := by
  obtain ⟨k, rows, h4, h5⟩ := h2
  exact ⟨k + 1, eC e nv av, rfl, nv, av, rows, es, rfl, h1, h4, h3, h5⟩
theorem Rws.oneCell {E : TypeId} {n : Nat} {w : World} {A : Nat → Prop} {v : Value} {rows : List (List Value)} (h : Rws E n w A v rows) : v.oneCell' = true := by
  obtain ⟨a, m, c, rfl⟩ := h.form
  rfl
theorem Er.row {k : Nat} {w : World} {A : Nat → Prop} {r : List Value} {e : PEx} (h : Er k w A r e) : r.length = 8 ∧ ∀ u ∈ r, u.oneCell' = true := by
  cases k with
  | zero => exact h.elim
  | succ k =>
    obtain ⟨nv, av, rows, es, rfl, h2, h3, h4, h5⟩ := h
    have q1 := h2.oneCell
    have q2 := h3.oneCell
    refine ⟨rfl, fun u hu => ?_⟩
    simp [eC] at hu
    rcases hu with rfl | rfl | rfl | rfl | rfl | rfl | rfl | rfl <;> first | rfl | assumption
/- One expression in a new block. -/
theorem XsR.one {w : World} {A B : Nat → Prop} {cs : Array Value} {e : PEx} (h : RE w A (.agg cs) e) (hA : ∀ g, A g → g < w.heap.size) (hAB : ∀ g, A g → B g) (hB : B w.heap.size) : XsR (w.alloc (.cells cs 45)) B (.slice (some ⟨w.heap.size, 0, none⟩) 1 1) [e] := by
  obtain ⟨k, r, hr, h2⟩ := h
  cases hr
  obtain ⟨q1, q2⟩ := h2.row
  exact ⟨k, [r], ⟨(KR.one w r q1 q2).lower (Nat.zero_le _), fun g e => by cases e; exact hB⟩, All2.one (Er.mv k h2 ((Same.refl _ _).alloc hA) hAB)⟩
/- A statement: eight cells. -/
def sC (s : PSt) (av bv ev : Value) : List Value := [.int .i64 s.kind, .string (bs s.name), .string (bs s.label), .string (bs s.var), av, bv, ev, .int .i64 s.pos]
def Sr : Nat → World → (Nat → Prop) → List Value → PSt → Prop
  | 0, _, _, _, _ => False
  | k + 1, w, A, r, s => ∃ (av bv ev : Value) (xs : List PEx) (rb re : List (List Value)) (bd' el : List PSt), r = sC s av bv ev ∧ (XsR w A av xs ∧ s.args = xs.map pkE) ∧ (Rws 48 8 w A bv rb ∧ s.body = bd'.map pkS ∧ All2 (Sr k w A) rb bd') ∧ (Rws 48 8 w A ev re ∧ s.els = el.map pkS ∧ All2 (Sr k w A) re el)
theorem Sr.mv : ∀ (k : Nat) {w w' : World} {A B : Nat → Prop} {r : List Value} {e : PSt}, Sr k w A r e → Same A w w' → (∀ g, A g → B g) → Sr k w' B r e
  | 0, _, _, _, _, _, _, h, _, _ => h.elim
  | k + 1, _, _, _, _, _, _, ⟨av, bv, ev, xs, rb, re, bd', el, h1, ⟨h2, h3⟩, ⟨h4, h5, h6⟩, h7, h8, h9⟩, s, i => ⟨av, bv, ev, xs, rb, re, bd', el, h1, ⟨h2.mv s i, h3⟩, ⟨h4.mv s i, h5, h6.imp fun a b h => Sr.mv k h s i⟩, h7.mv s i, h8, h9.imp fun a b h => Sr.mv k h s i⟩
theorem Sr.more : ∀ (k : Nat) {w : World} {A : Nat → Prop} {r : List Value} {e : PSt}, Sr k w A r e → Sr (k + 1) w A r e
  | 0, _, _, _, _, h => h.elim
  | k + 1, _, _, _, _, ⟨av, bv, ev, xs, rb, re, bd', el, h1, h2, ⟨h4, h5, h6⟩, h7, h8, h9⟩ => ⟨av, bv, ev, xs, rb, re, bd', el, h1, h2, ⟨h4, h5, h6.imp fun a b h => Sr.more k h⟩, h7, h8, h9.imp fun a b h => Sr.more k h⟩
theorem Sr.le {k m : Nat} {w : World} {A : Nat → Prop} {r : List Value} {e : PSt} (h : Sr k w A r e) (hm : k ≤ m) : Sr m w A r e := by
  obtain ⟨d, rfl⟩ : ∃ d, m = k + d := ⟨m - k, by omega⟩
  clear hm
  induction d with
  | zero => exact h
  | succ d ih => exact Sr.more _ ih
def SsR (w : World) (A : Nat → Prop) (v : Value) (l : List PSt) : Prop := ∃ (k : Nat) (rows : List (List Value)), Rws 48 8 w A v rows ∧ All2 (Sr k w A) rows l
theorem SsR.nil (w : World) (A : Nat → Prop) : SsR w A (.slice none 0 0) [] := ⟨0, [], Rws.nil _ _ _ _, All2.nil _⟩
theorem SsR.mv {w w' : World} {A B : Nat → Prop} {v : Value} {es : List PSt} (h : SsR w A v es) (s : Same A w w') (i : ∀ g, A g → B g) : SsR w' B v es := by
  obtain ⟨k, rows, h1, h2⟩ := h
  exact ⟨k, rows, h1.mv s i, h2.imp fun a b h => Sr.mv k h s i⟩
theorem SsR.form {w : World} {A : Nat → Prop} {v : Value} {es : List PSt} (h : SsR w A v es) : ∃ a m c, v = .slice a m c := by
  obtain ⟨k, rows, h1, h2⟩ := h
  exact h1.form
def RSt (w : World) (A : Nat → Prop) (v : Value) (s : PSt) : Prop := ∃ (k : Nat) (r : List Value), v = .agg r.toArray ∧ Sr k w A r s
theorem RSt.mv {w w' : World} {A B : Nat → Prop} {v : Value} {e : PSt} (h : RSt w A v e) (s : Same A w w') (i : ∀ g, A g → B g) : RSt w' B v e := by
  obtain ⟨k, r, h1, h2⟩ := h
  exact ⟨k, r, h1, Sr.mv k h2 s i⟩
theorem RSt.parts {w : World} {A : Nat → Prop} {v : Value} {s : PSt} (h : RSt w A v s) : ∃ (aa : Option Addr) (an ac : Nat) (ba : Option Addr) (bn bc : Nat) (ea : Option Addr) (en ec : Nat) (xs : List PEx) (b l : List PSt), v = .agg #[.int .i64 s.kind, .string (bs s.name), .string (bs s.label), .string (bs s.var), .slice aa an ac, .slice ba bn bc, .slice ea en ec, .int .i64 s.pos] ∧ XsR w A (.slice aa an ac) xs ∧ SsR w A (.slice ba bn bc) b ∧ SsR w A (.slice ea en ec) l ∧ s.args = xs.map pkE ∧ s.body = b.map pkS ∧ s.els = l.map pkS := by
  obtain ⟨k, r, rfl, h⟩ := h
  cases k with
  | zero => exact h.elim
  | succ k =>
    obtain ⟨av, bv, ev, xs, rb, re, bd', el, rfl, ⟨h2, h3⟩, ⟨h4, h5, h6⟩, h7, h8, h9⟩ := h
    obtain ⟨aa, an, ac, rfl⟩ := h2.form
    obtain ⟨ba, bn, bc, rfl⟩ := h4.form
    obtain ⟨ea, en, ec, rfl⟩ := h7.form
    exact ⟨aa, an, ac, ba, bn, bc, ea, en, ec, xs, bd', el, rfl, h2, ⟨k, rb, h4, h6⟩, ⟨k, re, h7, h9⟩, h3, h5, h8⟩
theorem RSt.mk {w : World} {A : Nat → Prop} {s : PSt} {av bv ev : Value} {xs : List PEx} {b l : List PSt} (h1 : XsR w A av xs) (h2 : SsR w A bv b) (h3 : SsR w A ev l) (q1 : s.args = xs.map pkE) (q2 : s.body = b.map pkS) (q3 : s.els = l.map pkS) : RSt w A (.agg #[.int .i64 s.kind, .string (bs s.name), .string (bs s.label), .string (bs s.var), av, bv, ev, .int .i64 s.pos]) s := by
  obtain ⟨k, rb, h4, h5⟩ := h2
  obtain ⟨m, re, h6, h7⟩ := h3
  exact ⟨max k m + 1, sC s av bv ev, rfl, av, bv, ev, xs, rb, re, b, l, rfl, ⟨h1, q1⟩, ⟨h4, q2, h5.imp fun a b h => h.le (Nat.le_max_left _ _)⟩, h6, q3, h7.imp fun a b h => h.le (Nat.le_max_right _ _)⟩
theorem Sr.row {k : Nat} {w : World} {A : Nat → Prop} {r : List Value} {e : PSt} (h : Sr k w A r e) : r.length = 8 ∧ ∀ u ∈ r, u.oneCell' = true := by
  cases k with
  | zero => exact h.elim
  | succ k =>
    obtain ⟨av, bv, ev, xs, rb, re, bd', el, rfl, ⟨h2, h3⟩, ⟨h4, h5, h6⟩, h7, h8, h9⟩ := h
    obtain ⟨aa, an, ac, rfl⟩ := h2.form
    obtain ⟨ba, bn, bc, rfl⟩ := h4.form
    obtain ⟨ea, en, ec, rfl⟩ := h7.form
    refine ⟨rfl, fun u hu => ?_⟩
    simp [sC] at hu
    rcases hu with rfl | rfl | rfl | rfl | rfl | rfl | rfl | rfl <;> rfl
theorem SsR.one {w : World} {A B : Nat → Prop} {cs : Array Value} {e : PSt} (h : RSt w A (.agg cs) e) (hA : ∀ g, A g → g < w.heap.size) (hAB : ∀ g, A g → B g) (hB : B w.heap.size) : SsR (w.alloc (.cells cs 48)) B (.slice (some ⟨w.heap.size, 0, none⟩) 1 1) [e] := by
  obtain ⟨k, r, hr, h2⟩ := h
  cases hr
  obtain ⟨q1, q2⟩ := h2.row
  exact ⟨k, [r], ⟨(KR.one w r q1 q2).lower (Nat.zero_le _), fun g e => by cases e; exact hB⟩, All2.one (Sr.mv k h2 ((Same.refl _ _).alloc hA) hAB)⟩
/- A slice of params; a declaration: seven cells. -/
def PmR (w : World) (A : Nat → Prop) (v : Value) (l : List PPm) : Prop := Rws 112 2 w A v (pmR l)
def RDc (w : World) (A : Nat → Prop) (v : Value) (d : PDc) : Prop := ∃ (pv bv : Value) (b : List PSt), v = .agg #[.string (bs d.name), pv, .string (bs d.key), .string (bs d.value), .string (bs d.result), bv, .int .i64 d.pos] ∧ PmR w A pv d.params ∧ SsR w A bv b ∧ d.body = b.map pkS
theorem RDc.mv {w w' : World} {A B : Nat → Prop} {v : Value} {e : PDc} (h : RDc w A v e) (s : Same A w w') (i : ∀ g, A g → B g) : RDc w' B v e := by
  obtain ⟨pv, bv, b, h1, h2, h3, h4⟩ := h
  exact ⟨pv, bv, b, h1, h2.mv s i, h3.mv s i, h4⟩
/- What a function answers: its fault, or its value and the box as it is then. -/
def Rt {α : Type} (R : World → (Nat → Prop) → Value → α → Prop) (P D : Nat) (w : World) (r : Except Flt (α × PS)) (e : Ending) (w' : World) : Prop := match r with
  | .error f => e = .panicked [fltV f] ∧ w.grownBy w' (some P)
  | .ok (a, s') => ∃ v, e = .returned v ∧ R w' (fun g => w.heap.size ≤ g ∧ g < w'.heap.size) v a ∧ Pst w' P D s' ∧ w.grownBy w' (some P)
theorem Rt.err {α : Type} {R : World → (Nat → Prop) → Value → α → Prop} {P D : Nat} {w w' : World} {r : Except Flt (α × PS)} {f : Flt} (h : r = .error f) (hg : w.grownBy w' (some P)) : Rt R P D w r (.panicked [fltV f]) w' := by
  rw [h]; exact ⟨rfl, hg⟩
theorem Rt.ok {α : Type} {R : World → (Nat → Prop) → Value → α → Prop} {P D : Nat} {w w' : World} {r : Except Flt (α × PS)} {a : α} {s' : PS} {v : Value} (h : r = .ok (a, s')) (hv : R w' (fun g => w.heap.size ≤ g ∧ g < w'.heap.size) v a) (hs : Pst w' P D s') (hg : w.grownBy w' (some P)) : Rt R P D w r (.returned v) w' := by
  rw [h]; exact ⟨v, rfl, hv, hs, hg⟩
theorem Rt.cases {α : Type} {R : World → (Nat → Prop) → Value → α → Prop} {P D : Nat} {w w' : World} {r : Except Flt (α × PS)} {e : Ending} (h : Rt R P D w r e w') : (∃ f, r = .error f ∧ e = .panicked [fltV f] ∧ w.grownBy w' (some P)) ∨ (∃ a s' v, r = .ok (a, s') ∧ e = .returned v ∧ R w' (fun g => w.heap.size ≤ g ∧ g < w'.heap.size) v a ∧ Pst w' P D s' ∧ w.grownBy w' (some P)) := by
  unfold Rt at h
  split at h
  · exact .inl ⟨_, rfl, h⟩
  · obtain ⟨v, h⟩ := h
    exact .inr ⟨_, _, v, rfl, h⟩
/- Plain answers. -/
def RS (w : World) (A : Nat → Prop) (v : Value) (q : Bsq) : Prop := v = .string (bs q)
def RB (w : World) (A : Nat → Prop) (v : Value) (b : Bool) : Prop := v = .bool b
def RI (w : World) (A : Nat → Prop) (v : Value) (n : Int) : Prop := v = .int .i64 n
def RU (w : World) (A : Nat → Prop) (v : Value) (n : Unit) : Prop := v = .tuple #[]
def RT (w : World) (A : Nat → Prop) (v : Value) (t : PTok) : Prop := v = tokV t
def RP (w : World) (A : Nat → Prop) (v : Value) (p : PPm) : Prop := v = .agg #[.string (bs p.name), .string (bs p.type)]
/- Fuel is left. -/
def Fed {α : Type} (r : Except Flt (α × PS)) : Prop := r ≠ .error (-1, -1)
/- What the walks read of the box. -/
theorem Pst.open {w : World} {P D : Nat} {s : PS} (h : Pst w P D s) : ∃ (g off n c : Nat), P < w.heap.size ∧ g < w.heap.size ∧ w.cell? ⟨P, 0, none⟩ = some (.slice (some ⟨g, off, none⟩) n c) ∧ w.cell? ⟨P, 1, none⟩ = some (.int .i64 s.opn) ∧ w.cell? ⟨P, 2, none⟩ = some (.bool s.sur) ∧ w.frozen? ⟨P, 0, none⟩ = false ∧ w.frozen? ⟨P, 1, none⟩ = false ∧ w.frozen? ⟨P, 2, none⟩ = false ∧ n = s.toks.length ∧ (0 : Int) < (n : Int) ∧ (n : Int) ≤ 5000 ∧ (n : Int) ≤ (c : Int) ∧ w.cell? ⟨g, off, none⟩ = some (.int .i64 (nxt s).kind) ∧ w.cell? ⟨g, off + 1, none⟩ = some (.string (bs (nxt s).text)) ∧ w.cell? ⟨g, off + 2, none⟩ = some (.int .i64 (nxt s).pos) := by
  obtain ⟨⟨g, off, c, cs, h1, h2, h3, h3', h4⟩, h5, h6, h7⟩ := h
  obtain ⟨t, r, e, ht⟩ := h5.ne
  obtain ⟨a1, a2, a3⟩ := h4 0 t (by rw [e]; rfl)
  have hn : nxt s = t := by unfold nxt; rw [e]; rfl
  have hl : s.toks.length = r.length + 1 := by rw [e]; rfl
  refine ⟨g, off, s.toks.length, c, lt_of_heap h1, lt_of_heap h3, cellOf h1 0, cellOf h1 1, cellOf h1 2, freeOf h1 0, freeOf h1 1, freeOf h1 2, rfl, by omega, by omega, by omega, ?_, ?_, ?_⟩
  · rw [cellOf h3, hn]; simpa using a1
  · rw [cellOf h3, hn]; simpa using a2
  · rw [cellOf h3, hn]; simpa using a3
theorem nxt_ok {s : PS} (h : okL s.toks) : okTk (nxt s) := by
  obtain ⟨t, r, e, ht⟩ := h.ne
  unfold nxt; rw [e]; exact ht
set_option maxHeartbeats 1000000 in
theorem next_any (w : World) (P D : Nat) (s : PS) (h : Pst w P D s) : Calls Tryz.prog 41 #[.pointer (some ⟨P, 0, none⟩)] w fun e w' => e = .returned (tokV (nxt s)) ∧ Below w.heap.size w w' := by
  obtain ⟨g, off, n, c, hP, hg, c0, c1, c2, f0, f1, f2, hn, n0, n1, nc, t0, t1, t2⟩ := h.open
  clear h hn
  go_enter Tryz.func41, Tryz.ntmps41
  go_wp2
  exact bodyPost_ret (v := tokV (nxt s)) (by simp [results, Tryz.results41, go_sem, tokV, *]) rfl ⟨rfl, (Below.refl _ _).alloc (Nat.le_refl _) _⟩
theorem gA {w w' : World} {P : Nat} {o : Obj} (h : w.grownBy w' (some P)) : w.grownBy (w'.alloc o) (some P) := grown_alloc h o
theorem gS {w w' : World} {P b i : Nat} {v : Value} (hb : w.heap.size ≤ b) (h : w.grownBy w' (some P)) : w.grownBy (w'.setCell ⟨b, i, none⟩ v) (some P) := grown_set' h hb
theorem pA {w : World} {P D : Nat} {s : PS} {o : Obj} (h : Pst w P D s) : Pst (w.alloc o) P D s := h.alloc o
theorem pS {w : World} {P D b i : Nat} {s : PS} {v : Value} (hb : D ≤ b) (h : Pst w P D s) : Pst (w.setCell ⟨b, i, none⟩ v) P D s := h.set hb
theorem Rt.go {α : Type} {R : World → (Nat → Prop) → Value → α → Prop} {P D : Nat} {w w' : World} {r : Except Flt (α × PS)} {e : Ending} (h : Rt R P D w r e w') {W : World} (g : W.grownBy w (some P)) : (∃ f, r = .error f ∧ e = .panicked [fltV f] ∧ W.grownBy w' (some P)) ∨ (∃ a s' v, r = .ok (a, s') ∧ e = .returned v ∧ R w' (fun g => w.heap.size ≤ g ∧ g < w'.heap.size) v a ∧ Pst w' P D s' ∧ w.grownBy w' (some P) ∧ W.grownBy w' (some P) ∧ (∀ b o, P < b → b < w.heap.size → w'.cell? ⟨b, o, none⟩ = w.cell? ⟨b, o, none⟩) ∧ (∀ b o, P < b → b < w.heap.size → w'.frozen? ⟨b, o, none⟩ = w.frozen? ⟨b, o, none⟩) ∧ w.heap.size ≤ w'.heap.size ∧ P < w'.heap.size) := by
  rcases h.cases with ⟨f, hx, he, hg⟩ | ⟨a, s', v, hx, he, hv, hs, hg⟩
  · exact .inl ⟨f, hx, he, gtrans g hg⟩
  · exact .inr ⟨a, s', v, hx, he, hv, hs, hg, gtrans g hg, (gcell hg).1, (gcell hg).2, hg.size, (by obtain ⟨_, _, _, _, hp, _⟩ := hs.open; exact hp)⟩
theorem le1 (a b : World) (h : a.heap.size ≤ b.heap.size) : a.heap.size ≤ b.heap.size := h
theorem lt1 (a b : World) (h : a.heap.size < b.heap.size) : a.heap.size < b.heap.size := h
theorem szA (w : World) (o : Obj) : (w.alloc o).heap.size = w.heap.size + 1 := by simp
theorem szS (w : World) (a : Addr) (v : Value) : (w.setCell a v).heap.size = w.heap.size := by simp
end Go.Proofs.YtcnohgifihbkdaaGreatDoor

namespace Go.Proofs.YtcnohgifihbkdaaGreatDoor
open Go.RowKit Go.Deep Go.Shelf
set_option linter.unusedVariables false
set_option maxRecDepth 100000
set_option linter.unusedSimpArgs false
@[go_sem] theorem fld_0 (a b c : Value) (W : World) : (Instr.field 69 (.agg #[a, b, c]) 0).run Tryz.prog W = .ok a W := by kernel_rfl
@[go_sem] theorem fld_1 (a b c : Value) (W : World) : (Instr.field 69 (.agg #[a, b, c]) 1).run Tryz.prog W = .ok b W := by kernel_rfl
@[go_sem] theorem fld_2 (a b c : Value) (W : World) : (Instr.field 69 (.agg #[a, b, c]) 2).run Tryz.prog W = .ok c W := by kernel_rfl
theorem bcell {W w1 : World} (hb : Below W.heap.size W w1) : (∀ b o, b < W.heap.size → w1.cell? ⟨b, o, none⟩ = W.cell? ⟨b, o, none⟩) ∧ (∀ b o, b < W.heap.size → w1.frozen? ⟨b, o, none⟩ = W.frozen? ⟨b, o, none⟩) :=
  ⟨fun b o h => hb.cell (p := ⟨b, o, none⟩) h, fun b o h => hb.frozen (p := ⟨b, o, none⟩) h⟩
theorem bs_inj {a b : Bsq} (h : bs a = bs b) : a = b := by
  have h1 := congrArg ByteArray.data h
  have h2 : a.toArray = b.toArray := h1
  simpa using h2
set_option maxHeartbeats 1000000 in
theorem is_any (w : World) (P D : Nat) (s : PS) (q : Bsq) (h : Pst w P D s) : Calls Tryz.prog 42 #[.pointer (some ⟨P, 0, none⟩), .string (bs q)] w fun e w' => e = .returned (.bool (isS q s)) ∧ Below w.heap.size w w' := by
  have K := hid (next_any w P D s h)
  unfold isS
  unfold tokV at K
  generalize (nxt s).kind = kd at *
  generalize (nxt s).text = tx at *
  clear h
  go_enter Tryz.func42, Tryz.ntmps42
  go_wp2_with (go_at_call 41; (refine (Hid.out K).mono ?_; rintro e w1 ⟨rfl, hb⟩; have HB := hid hb; clear hb))
  all_goals
    go_ret
    refine ⟨?_, (HB.out.trans ((Below.refl _ _).alloc HB.out.size _))⟩
    first | rfl | (congr 2; simp_all)
set_option maxHeartbeats 1000000 in
theorem isLong_any (w : World) (t : PTok) (ht : t.text.length ≤ 5000) : Calls Tryz.prog 107 #[tokV t] w fun e w' => e = .returned (.bool (isLong t)) ∧ Below w.heap.size w w' := by
  unfold isLong tokV
  generalize t.kind = kd at *
  generalize t.text = tx at *
  go_enter Tryz.func107, Tryz.ntmps107
  go_wp2
  all_goals
    go_ret
    refine ⟨?_, ((Below.refl _ _).alloc (Nat.le_refl _) _)⟩
    simp_all <;> omega
set_option maxHeartbeats 1000000 in
theorem isGreat_any (w : World) (P D : Nat) (s : PS) (h : Pst w P D s) : Calls Tryz.prog 108 #[.pointer (some ⟨P, 0, none⟩)] w fun e w' => e = .returned (.bool (isGreat s)) ∧ Below w.heap.size w w' := by
  have K := hid (next_any w P D s h)
  have hk := nxt_ok h.ok
  have h1 := hk.nm
  have h2 := hk.tl
  unfold isGreat
  unfold tokV at K
  generalize (nxt s).kind = kd at *
  generalize (nxt s).text = tx at *
  clear h hk
  have h0 : kd = 1 → ∃ c r, tx = c :: r := fun e => by
    cases tx with
    | nil => exact absurd rfl (h1 e)
    | cons c r => exact ⟨c, r, rfl⟩
  clear h1
  by_cases hk : kd = 1
  · obtain ⟨c, r, rfl⟩ := h0 hk
    subst hk
    clear h0
    have hz : (bs (c :: r))[0]'(by simp [bs, ByteArray.size]) = c := rfl
    have hn : (0 : Int) < ((c :: r).length : Int) := by simp
    have q1 : decide (65 ≤ (c :: r).headD 0) = decide ((65 : Int) ≤ (c.toNat : Int)) := by simp [UInt8.le_iff_toNat_le]; try omega
    have q2 : decide ((c :: r).headD 0 ≤ 90) = decide ((c.toNat : Int) ≤ (90 : Int)) := by simp [UInt8.le_iff_toNat_le]; try omega
    rw [q1, q2]
    clear q1 q2
    go_enter Tryz.func108, Tryz.ntmps108
    go_wp2_with (go_at_call 41; (refine (Hid.out K).mono ?_; rintro e w1 ⟨rfl, hb⟩; have HB := hid hb; clear hb))
    all_goals
      go_ret
      refine ⟨?_, (HB.out.trans ((Below.refl _ _).alloc HB.out.size _))⟩
      first | (simp_all; done) | (simp_all; intros; omega)
  · have hkf : (kd == 1) = false := by simp [hk]
    rw [hkf]
    clear h0
    go_enter Tryz.func108, Tryz.ntmps108
    go_wp2_with (go_at_call 41; (refine (Hid.out K).mono ?_; rintro e w1 ⟨rfl, hb⟩; have HB := hid hb; clear hb))
    all_goals
      go_ret
      refine ⟨?_, (HB.out.trans ((Below.refl _ _).alloc HB.out.size _))⟩
      first | (simp_all; done) | (simp_all; intros; omega)
set_option maxHeartbeats 1000000 in
theorem wrong_any (w : World) (P D : Nat) (s : PS) (h : Pst w P D s) : Calls Tryz.prog 48 #[.pointer (some ⟨P, 0, none⟩)] w fun e w' => e = .returned (.agg #[.int .i64 (nxt s).pos, .int .i64 70]) ∧ Below w.heap.size w w' := by
  have K := hid (fun (V : World) (hV : Pst V P D s) => next_any V P D s hV)
  unfold tokV at K
  go_enter Tryz.func48, Tryz.ntmps48
  go_wp2_with (go_at_call 41; (refine (Hid.out K _ (h.alloc _)).mono ?_; rintro e w1 ⟨rfl, hb⟩; have HB := hid hb; obtain ⟨hc, hf⟩ := bcell hb; have hz := hb.size; simp only [World.size_alloc] at hz; clear hb))
  exact bodyPost_ret (v := .agg #[.int .i64 (nxt s).pos, .int .i64 70]) (by simp [results, Tryz.results48, go_sem, hc, hf]) rfl ⟨rfl, ((((Below.refl _ _).alloc (Nat.le_refl _) _).trans (HB.out.mono (by simp))).setCell (Nat.le_refl _) _).setCell (Nat.le_refl _) _⟩
end Go.Proofs.YtcnohgifihbkdaaGreatDoor

namespace Go.Proofs.YtcnohgifihbkdaaGreatDoor
open Go.RowKit Go.Deep Go.Shelf
set_option linter.unusedVariables false
set_option linter.unusedSimpArgs false
set_option maxRecDepth 100000
theorem Pst.lt {w : World} {P D : Nat} {s : PS} (h : Pst w P D s) : P < w.heap.size := by have := h.pd; have := h.dw; omega
theorem Pst.cut {w : World} {P D : Nat} {s : PS} (h : Pst w P D s) (hr : okL s.toks.tail) (h2 : 2 ≤ s.toks.length) {g off n c : Nat} (hc : w.cell? ⟨P, 0, none⟩ = some (.slice (some ⟨g, off, none⟩) n c)) : Pst (w.setCell ⟨P, 0, none⟩ (.slice (some ⟨g, off + 3, none⟩) (s.toks.length - 1) (c - 1))) P D { s with toks := s.toks.tail } := by
  obtain ⟨⟨g', off', c', cs, h1, h2', h3, h3', h4⟩, h5, h6, ⟨tp, p, T, h7⟩, h8, h9, h10⟩ := h
  rw [cellOf h1] at hc
  simp only [List.getElem?_toArray, List.getElem?_cons_zero, Option.some.injEq, Value.slice.injEq, Addr.mk.injEq, and_true] at hc
  obtain ⟨⟨rfl, rfl⟩, rfl, rfl⟩ := hc
  have k1 := heap_set_at h1 0 (.slice (some ⟨g', off' + 3, none⟩) (s.toks.length - 1) (c' - 1))
  simp only [List.setIfInBounds_toArray, List.set_cons_zero] at k1
  have hgP : g' ≠ P := fun e => by subst e; rw [h1] at h3; cases h3
  have hl : s.toks.tail.length = s.toks.length - 1 := by simp
  refine ⟨⟨g', off' + 3, c' - 1, cs, by rw [hl]; exact k1, by rw [hl]; omega, (Below.heap_setCell _ ⟨P, 0, none⟩ _ _ hgP).trans h3, h3', fun j t e => ?_⟩, hr, by rw [hl]; omega, ⟨tp, p, T, (Below.heap_setCell _ ⟨P, 0, none⟩ _ _ (show 7 ≠ P by omega)).trans h7⟩, h8, h9, by simpa using h10⟩
  have e2 : s.toks[j + 1]? = some t := by rw [← e, List.getElem?_tail]
  have := h4 (j + 1) t e2
  rw [show off' + (j + 1) * 3 = off' + 3 + j * 3 by omega] at this
  exact this
theorem Pst.opn {w : World} {P D : Nat} {s : PS} (h : Pst w P D s) (n : Int) : Pst (w.setCell ⟨P, 1, none⟩ (.int .i64 n)) P D { s with opn := n } := by
  obtain ⟨⟨g', off', c', cs, h1, h2', h3, h3', h4⟩, h5, h6, ⟨tp, p, T, h7⟩, h8, h9, h10⟩ := h
  have k1 := heap_set_at h1 1 (.int .i64 n)
  simp only [List.setIfInBounds_toArray, List.set_cons_zero, List.set_cons_succ] at k1
  have hgP : g' ≠ P := fun e => by subst e; rw [h1] at h3; cases h3
  exact ⟨⟨g', off', c', cs, k1, h2', (Below.heap_setCell _ ⟨P, 1, none⟩ _ _ hgP).trans h3, h3', h4⟩, h5, h6, ⟨tp, p, T, (Below.heap_setCell _ ⟨P, 1, none⟩ _ _ (show 7 ≠ P by omega)).trans h7⟩, h8, h9, by simpa using h10⟩
theorem Pst.sur {w : World} {P D : Nat} {s : PS} (h : Pst w P D s) (b : Bool) : Pst (w.setCell ⟨P, 2, none⟩ (.bool b)) P D { s with sur := b } := by
  obtain ⟨⟨g', off', c', cs, h1, h2', h3, h3', h4⟩, h5, h6, ⟨tp, p, T, h7⟩, h8, h9, h10⟩ := h
  have k1 := heap_set_at h1 2 (.bool b)
  simp only [List.setIfInBounds_toArray, List.set_cons_zero, List.set_cons_succ] at k1
  have hgP : g' ≠ P := fun e => by subst e; rw [h1] at h3; cases h3
  exact ⟨⟨g', off', c', cs, k1, h2', (Below.heap_setCell _ ⟨P, 2, none⟩ _ _ hgP).trans h3, h3', h4⟩, h5, h6, ⟨tp, p, T, (Below.heap_setCell _ ⟨P, 2, none⟩ _ _ (show 7 ≠ P by omega)).trans h7⟩, h8, h9, by simpa using h10⟩
theorem gB {w w' : World} {P i : Nat} {v : Value} (h : w.grownBy w' (some P)) : w.grownBy (w'.setCell ⟨P, i, none⟩ v) (some P) := gtrans h (grown_set w' P i v)
theorem grown_box {w w' : World} {P i : Nat} {v : Value} (h : w.grownBy w' (some P)) : w.grownBy (w'.setCell ⟨P, i, none⟩ v) (some P) := gtrans h (grown_set w' P i v)
/- A box of a function's own. -/
def Box (b : Nat) (cs : Array Value) (T : TypeId) (w : World) : Prop := w.heap[b]? = some (.cells cs T (0, 0))
theorem Box.new (w : World) (cs : Array Value) (T : TypeId) : Box w.heap.size cs T (w.alloc (.cells cs T)) := heap_alloc_new w _
theorem Box.lt {b : Nat} {cs : Array Value} {T : TypeId} {w : World} (h : Box b cs T w) : b < w.heap.size := lt_of_heap h
theorem Box.below {b : Nat} {cs : Array Value} {T : TypeId} {w w' : World} (h : Box b cs T w) (k : Below w.heap.size w w') : Box b cs T w' := (k.block b h.lt).trans h
theorem Box.alloc {b : Nat} {cs : Array Value} {T : TypeId} {w : World} (h : Box b cs T w) (o : Obj) : Box b cs T (w.alloc o) := h.below ((Below.refl _ _).alloc (Nat.le_refl _) _)
theorem Box.call {b P : Nat} {cs : Array Value} {T : TypeId} {w w' : World} (h : Box b cs T w) (k : w.grownBy w' (some P)) (hP : ¬ b = P) : Box b cs T w' := (k.block b h.lt (fun e => hP (Option.some.inj e))).trans h
theorem Box.set {b b' i : Nat} {v : Value} {cs : Array Value} {T : TypeId} {w : World} (h : Box b cs T w) (hb : ¬ b = b') : Box b cs T (w.setCell ⟨b', i, none⟩ v) := (Below.heap_setCell _ ⟨b', i, none⟩ _ _ (show b ≠ b' from hb)).trans h
theorem Box.put {b : Nat} {v : Value} {cs : Array Value} {T : TypeId} {w : World} (h : Box b cs T w) (i : Nat) : Box b (cs.setIfInBounds i v) T (w.setCell ⟨b, i, none⟩ v) := heap_set_at h i v
theorem Box.put3 {b : Nat} {c0 c1 c2 x0 x1 x2 : Value} {T : TypeId} {w : World} (h : Box b #[c0, c1, c2] T w) : Box b #[x0, x1, x2] T (((w.setCell ⟨b, 0, none⟩ x0).setCell ⟨b, 1, none⟩ x1).setCell ⟨b, 2, none⟩ x2) := by
  have h0 := h.put (v := x0) 0
  simp only [List.setIfInBounds_toArray, List.set_cons_zero, List.set_cons_succ] at h0
  have h1 := h0.put (v := x1) 1
  simp only [List.setIfInBounds_toArray, List.set_cons_zero, List.set_cons_succ] at h1
  have h2 := h1.put (v := x2) 2
  simp only [List.setIfInBounds_toArray, List.set_cons_zero, List.set_cons_succ] at h2
  exact h2
theorem Box.put8 {b : Nat} {c0 c1 c2 c3 c4 c5 c6 c7 x0 x1 x2 x3 x4 x5 x6 x7 : Value} {T : TypeId} {w : World} (h : Box b #[c0, c1, c2, c3, c4, c5, c6, c7] T w) : Box b #[x0, x1, x2, x3, x4, x5, x6, x7] T ((((((((w.setCell ⟨b, 0, none⟩ x0).setCell ⟨b, 1, none⟩ x1).setCell ⟨b, 2, none⟩ x2).setCell ⟨b, 3, none⟩ x3).setCell ⟨b, 4, none⟩ x4).setCell ⟨b, 5, none⟩ x5).setCell ⟨b, 6, none⟩ x6).setCell ⟨b, 7, none⟩ x7) := by
  have h0 := h.put (v := x0) 0
  simp only [List.setIfInBounds_toArray, List.set_cons_zero, List.set_cons_succ] at h0
  have h1 := h0.put (v := x1) 1
  simp only [List.setIfInBounds_toArray, List.set_cons_zero, List.set_cons_succ] at h1
  have h2 := h1.put (v := x2) 2
  simp only [List.setIfInBounds_toArray, List.set_cons_zero, List.set_cons_succ] at h2
  have h3 := h2.put (v := x3) 3
  simp only [List.setIfInBounds_toArray, List.set_cons_zero, List.set_cons_succ] at h3
  have h4 := h3.put (v := x4) 4
  simp only [List.setIfInBounds_toArray, List.set_cons_zero, List.set_cons_succ] at h4
  have h5 := h4.put (v := x5) 5
  simp only [List.setIfInBounds_toArray, List.set_cons_zero, List.set_cons_succ] at h5
  have h6 := h5.put (v := x6) 6
  simp only [List.setIfInBounds_toArray, List.set_cons_zero, List.set_cons_succ] at h6
  have h7 := h6.put (v := x7) 7
  simp only [List.setIfInBounds_toArray, List.set_cons_zero, List.set_cons_succ] at h7
  exact h7
theorem Box.put7 {b : Nat} {c0 c1 c2 c3 c4 c5 c6 x0 x1 x2 x3 x4 x5 x6 : Value} {T : TypeId} {w : World} (h : Box b #[c0, c1, c2, c3, c4, c5, c6] T w) : Box b #[x0, x1, x2, x3, x4, x5, x6] T (((((((w.setCell ⟨b, 0, none⟩ x0).setCell ⟨b, 1, none⟩ x1).setCell ⟨b, 2, none⟩ x2).setCell ⟨b, 3, none⟩ x3).setCell ⟨b, 4, none⟩ x4).setCell ⟨b, 5, none⟩ x5).setCell ⟨b, 6, none⟩ x6) := by
  have h0 := h.put (v := x0) 0
  simp only [List.setIfInBounds_toArray, List.set_cons_zero, List.set_cons_succ] at h0
  have h1 := h0.put (v := x1) 1
  simp only [List.setIfInBounds_toArray, List.set_cons_zero, List.set_cons_succ] at h1
  have h2 := h1.put (v := x2) 2
  simp only [List.setIfInBounds_toArray, List.set_cons_zero, List.set_cons_succ] at h2
  have h3 := h2.put (v := x3) 3
  simp only [List.setIfInBounds_toArray, List.set_cons_zero, List.set_cons_succ] at h3
  have h4 := h3.put (v := x4) 4
  simp only [List.setIfInBounds_toArray, List.set_cons_zero, List.set_cons_succ] at h4
  have h5 := h4.put (v := x5) 5
  simp only [List.setIfInBounds_toArray, List.set_cons_zero, List.set_cons_succ] at h5
  have h6 := h5.put (v := x6) 6
  simp only [List.setIfInBounds_toArray, List.set_cons_zero, List.set_cons_succ] at h6
  exact h6
theorem Box.put4 {b : Nat} {c0 c1 c2 c3 x0 x1 x2 x3 : Value} {T : TypeId} {w : World} (h : Box b #[c0, c1, c2, c3] T w) : Box b #[x0, x1, x2, x3] T ((((w.setCell ⟨b, 0, none⟩ x0).setCell ⟨b, 1, none⟩ x1).setCell ⟨b, 2, none⟩ x2).setCell ⟨b, 3, none⟩ x3) := by
  have h0 := h.put (v := x0) 0
  simp only [List.setIfInBounds_toArray, List.set_cons_zero, List.set_cons_succ] at h0
  have h1 := h0.put (v := x1) 1
  simp only [List.setIfInBounds_toArray, List.set_cons_zero, List.set_cons_succ] at h1
  have h2 := h1.put (v := x2) 2
  simp only [List.setIfInBounds_toArray, List.set_cons_zero, List.set_cons_succ] at h2
  have h3 := h2.put (v := x3) 3
  simp only [List.setIfInBounds_toArray, List.set_cons_zero, List.set_cons_succ] at h3
  exact h3
theorem Box.put2 {b : Nat} {c0 c1 x0 x1 : Value} {T : TypeId} {w : World} (h : Box b #[c0, c1] T w) : Box b #[x0, x1] T ((w.setCell ⟨b, 0, none⟩ x0).setCell ⟨b, 1, none⟩ x1) := by
  have h0 := h.put (v := x0) 0
  simp only [List.setIfInBounds_toArray, List.set_cons_zero, List.set_cons_succ] at h0
  have h1 := h0.put (v := x1) 1
  simp only [List.setIfInBounds_toArray, List.set_cons_zero, List.set_cons_succ] at h1
  exact h1
theorem Box.cell {b i : Nat} {v : Value} {cs : Array Value} {T : TypeId} {w : World} (h : Box b cs T w) (hv : cs[i]? = some v) : w.cell? ⟨b, i, none⟩ = some v := (cellOf h i).trans hv
theorem tail_ok {s : PS} (h : okL s.toks) (hk : (nxt s).kind ≠ 0) : okL s.toks.tail ∧ 2 ≤ s.toks.length := by
  obtain ⟨t, r, e, ht⟩ := h.ne
  have hn : nxt s = t := by unfold nxt; rw [e]; rfl
  rw [e] at h
  rw [hn] at hk
  have hr := h.2.2 hk
  obtain ⟨u, r', e', _⟩ := hr.ne
  rw [e]
  refine ⟨hr, ?_⟩
  rw [e']; simp
set_option maxHeartbeats 1000000 in
theorem take_any (w : World) (P D : Nat) (s : PS) (h : Pst w P D s) (hk : (nxt s).kind ≠ 0) : Calls Tryz.prog 75 #[.pointer (some ⟨P, 0, none⟩)] w (Rt RT P D w (take s)) := by
  have K := hid (fun (V : World) (hV : Pst V P D s) => next_any V P D s hV)
  have hto := nxt_ok h.ok
  have KL := hid (fun (V : World) => isLong_any V (nxt s) hto.tl)
  obtain ⟨hr, h2⟩ := tail_ok h.ok hk
  unfold tokV at K KL
  by_cases hl : isLong (nxt s) = true
  · rw [hl] at KL
    go_enter Tryz.func75, Tryz.ntmps75
    go_wp2_with (first
      | (go_at_call 41; (refine (Hid.out K _ (h.alloc _)).mono ?_; rintro e w1 ⟨rfl, hb⟩; have HB := hid hb; obtain ⟨hc, hf⟩ := bcell hb; have hz := hb.size; simp only [World.size_alloc] at hz; have hle : w.heap.size ≤ w1.heap.size := (by omega); have hlt : w.heap.size < w1.heap.size := (by omega); have HP1 := hid ((h.alloc _).below hb); clear hb))
      | (go_at_call 107; (refine (Hid.out KL _).mono ?_; rintro e w2 ⟨rfl, hb⟩; have HB2 := hid hb; obtain ⟨hc2, hf2⟩ := bcell hb; have hz2 := hb.size; simp only [World.size_alloc] at hz2; have hlt2 : w1.heap.size < w2.heap.size := (by omega); have hlt3 : w.heap.size < w2.heap.size := (by omega); have hPw := h.lt; have hne1 : ¬ w1.heap.size = P := (by omega); have hne0 : ¬ w.heap.size = P := (by omega); have HP2 := hid ((HP1.out.alloc _).below hb); obtain ⟨g, off, n, c, hP, hg, c0, c1, c2, f0, f1, f2, hn, n0, n1, nc, t0, t1, t2⟩ := HP2.out.open; have n2 : (2 : Int) ≤ (n : Int) := (by omega); have hc1 : (c = 1) = False := eq_false (by omega); clear hb)))
    have HT : take s = .error ((nxt s).pos, 74) := by unfold take; rw [if_pos hl]
    exact ⟨rfl, Rt.err HT (gbelow (grown_alloc (gbelow (World.grownBy_alloc w _ _) HB.out) _) HB2.out)⟩
  · have hl : isLong (nxt s) = false := by simpa using hl
    rw [hl] at KL
    by_cases hs : s.sur = true
    · go_enter Tryz.func75, Tryz.ntmps75
      go_wp2_with (first
        | (go_at_call 41; (refine (Hid.out K _ (h.alloc _)).mono ?_; rintro e w1 ⟨rfl, hb⟩; have HB := hid hb; obtain ⟨hc, hf⟩ := bcell hb; have hz := hb.size; simp only [World.size_alloc] at hz; have hle : w.heap.size ≤ w1.heap.size := (by omega); have hlt : w.heap.size < w1.heap.size := (by omega); have HP1 := hid ((h.alloc _).below hb); clear hb))
        | (go_at_call 107; (refine (Hid.out KL _).mono ?_; rintro e w2 ⟨rfl, hb⟩; have HB2 := hid hb; obtain ⟨hc2, hf2⟩ := bcell hb; have hz2 := hb.size; simp only [World.size_alloc] at hz2; have hlt2 : w1.heap.size < w2.heap.size := (by omega); have hlt3 : w.heap.size < w2.heap.size := (by omega); have hPw := h.lt; have hne1 : ¬ w1.heap.size = P := (by omega); have hne0 : ¬ w.heap.size = P := (by omega); have HP2 := hid ((HP1.out.alloc _).below hb); obtain ⟨g, off, n, c, hP, hg, c0, c1, c2, f0, f1, f2, hn, n0, n1, nc, t0, t1, t2⟩ := HP2.out.open; have n2 : (2 : Int) ≤ (n : Int) := (by omega); have hc1 : (c = 1) = False := eq_false (by omega); clear hb; rw [hs] at c2)))
      have HT : take s = .error ((nxt s).pos, 72) := by unfold take; rw [if_neg (by rw [hl]; decide), if_pos hs]
      exact ⟨rfl, Rt.err HT (gbelow (grown_alloc (gbelow (World.grownBy_alloc w _ _) HB.out) _) HB2.out)⟩
    · have hs : s.sur = false := by simpa using hs
      go_enter Tryz.func75, Tryz.ntmps75
      go_wp2_with (first
        | (go_at_call 41; (refine (Hid.out K _ (h.alloc _)).mono ?_; rintro e w1 ⟨rfl, hb⟩; have HB := hid hb; obtain ⟨hc, hf⟩ := bcell hb; have hz := hb.size; simp only [World.size_alloc] at hz; have hle : w.heap.size ≤ w1.heap.size := (by omega); have hlt : w.heap.size < w1.heap.size := (by omega); have HP1 := hid ((h.alloc _).below hb); clear hb))
        | (go_at_call 107; (refine (Hid.out KL _).mono ?_; rintro e w2 ⟨rfl, hb⟩; have HB2 := hid hb; obtain ⟨hc2, hf2⟩ := bcell hb; have hz2 := hb.size; simp only [World.size_alloc] at hz2; have hlt2 : w1.heap.size < w2.heap.size := (by omega); have hlt3 : w.heap.size < w2.heap.size := (by omega); have hPw := h.lt; have hne1 : ¬ w1.heap.size = P := (by omega); have hne0 : ¬ w.heap.size = P := (by omega); have HP2 := hid ((HP1.out.alloc _).below hb); obtain ⟨g, off, n, c, hP, hg, c0, c1, c2, f0, f1, f2, hn, n0, n1, nc, t0, t1, t2⟩ := HP2.out.open; have n2 : (2 : Int) ≤ (n : Int) := (by omega); have hc1 : (c = 1) = False := eq_false (by omega); clear hb; rw [hs] at c2)))
      have hcc := HP2.out.cut hr h2 c0
      have m0 := (((((Box.new w _ _).below HB.out).alloc _).below HB2.out).set (i := 0) (v := .slice (some ⟨g, off + 3, none⟩) (s.toks.length - 1) (c - 1)) hne0).put3 (x0 := .int .i64 (nxt s).kind) (x1 := .string (bs (nxt s).text)) (x2 := .int .i64 (nxt s).pos)
      have q0 := m0.cell (i := 0) rfl
      have q1 := m0.cell (i := 1) rfl
      have q2 := m0.cell (i := 2) rfl
      refine bodyPost_ret (v := tokV (nxt s)) (by simp [results, Tryz.results75, go_sem, tokV, q0, q1, q2]) rfl (Rt.ok (a := nxt s) (s' := { s with toks := s.toks.tail }) (by unfold take; rw [if_neg (by rw [hl]; decide), if_neg (by rw [hs]; decide)]) rfl ?_ ?_)
      · exact (((hcc.set (by have := h.dw; omega)).set (by have := h.dw; omega)).set (by have := h.dw; omega))
      · exact grown_set' (grown_set' (grown_set' (grown_box (gbelow (grown_alloc (gbelow (World.grownBy_alloc w _ _) HB.out) _) HB2.out)) (Nat.le_refl _)) (Nat.le_refl _)) (Nat.le_refl _)
end Go.Proofs.YtcnohgifihbkdaaGreatDoor

namespace Go.Proofs.YtcnohgifihbkdaaGreatDoor
open Go.RowKit Go.Deep Go.Shelf
set_option linter.unusedVariables false
set_option linter.unusedSimpArgs false
set_option maxRecDepth 100000
/- A box of n cells. -/
def Bx (n b : Nat) (T : TypeId) (w : World) : Prop := ∃ cs : Array Value, cs.size = n ∧ Box b cs T w
theorem Bx.new {n : Nat} (w : World) (cs : Array Value) (T : TypeId) (h : cs.size = n) : Bx n w.heap.size T (w.alloc (.cells cs T)) := ⟨cs, h, Box.new w cs T⟩
theorem Bx.alloc {n b : Nat} {T : TypeId} {w : World} (h : Bx n b T w) (o : Obj) : Bx n b T (w.alloc o) := by obtain ⟨cs, h1, h2⟩ := h; exact ⟨cs, h1, h2.alloc o⟩
theorem Bx.call {n b P : Nat} {T : TypeId} {w w' : World} (k : w.grownBy w' (some P)) (hP : ¬ b = P) (h : Bx n b T w) : Bx n b T w' := by obtain ⟨cs, h1, h2⟩ := h; exact ⟨cs, h1, h2.call k hP⟩
theorem Bx.set {n b b' i : Nat} {v : Value} {T : TypeId} {w : World} (h : Bx n b T w) : Bx n b T (w.setCell ⟨b', i, none⟩ v) := by
  obtain ⟨cs, h1, h2⟩ := h
  by_cases e : b = b'
  · subst e; exact ⟨_, by rw [Array.size_setIfInBounds]; exact h1, h2.put i⟩
  · exact ⟨cs, h1, h2.set e⟩
theorem Bx.put3 {b : Nat} {x0 x1 x2 : Value} {T : TypeId} {w : World} (h : Bx 3 b T w) : Box b #[x0, x1, x2] T (((w.setCell ⟨b, 0, none⟩ x0).setCell ⟨b, 1, none⟩ x1).setCell ⟨b, 2, none⟩ x2) := by
  obtain ⟨⟨l⟩, h1, h2⟩ := h
  match l, h1 with
  | [a, b, c], _ => exact h2.put3
theorem Bx.put7 {b : Nat} {x0 x1 x2 x3 x4 x5 x6 : Value} {T : TypeId} {w : World} (h : Bx 7 b T w) : Box b #[x0, x1, x2, x3, x4, x5, x6] T (((((((w.setCell ⟨b, 0, none⟩ x0).setCell ⟨b, 1, none⟩ x1).setCell ⟨b, 2, none⟩ x2).setCell ⟨b, 3, none⟩ x3).setCell ⟨b, 4, none⟩ x4).setCell ⟨b, 5, none⟩ x5).setCell ⟨b, 6, none⟩ x6) := by
  obtain ⟨⟨l⟩, h1, h2⟩ := h
  match l, h1 with
  | [_, _, _, _, _, _, _], _ => exact h2.put7
theorem Bx.put8 {b : Nat} {x0 x1 x2 x3 x4 x5 x6 x7 : Value} {T : TypeId} {w : World} (h : Bx 8 b T w) : Box b #[x0, x1, x2, x3, x4, x5, x6, x7] T ((((((((w.setCell ⟨b, 0, none⟩ x0).setCell ⟨b, 1, none⟩ x1).setCell ⟨b, 2, none⟩ x2).setCell ⟨b, 3, none⟩ x3).setCell ⟨b, 4, none⟩ x4).setCell ⟨b, 5, none⟩ x5).setCell ⟨b, 6, none⟩ x6).setCell ⟨b, 7, none⟩ x7) := by
  obtain ⟨⟨l⟩, h1, h2⟩ := h
  match l, h1 with
  | [_, _, _, _, _, _, _, _], _ => exact h2.put8
theorem Bx.put2 {b : Nat} {x0 x1 : Value} {T : TypeId} {w : World} (h : Bx 2 b T w) : Box b #[x0, x1] T ((w.setCell ⟨b, 0, none⟩ x0).setCell ⟨b, 1, none⟩ x1) := by
  obtain ⟨⟨l⟩, h1, h2⟩ := h
  match l, h1 with
  | [_, _], _ => exact h2.put2
theorem ret2 {fn : Func} {R : Ending → World → Prop} {a : Act} {W : World} {i b : Nat} {x0 x1 : Value} (hres : fn.results = #[.cell i 112]) (hs : a.tmps[i]?.getD undef = .pointer (some ⟨b, 0, none⟩)) (hb : Box b #[x0, x1] 112 W) (hd : a.defers = []) (hR : R (.returned (.agg #[x0, x1])) W) : bodyPost Tryz.prog fn R .ret a W := by
  have q0 := hb.cell (i := 0) rfl
  have q1 := hb.cell (i := 1) rfl
  exact bodyPost_ret (v := .agg #[x0, x1]) (by simp [results, hres, go_sem, hs, q0, q1]) hd hR
theorem ret3 {fn : Func} {R : Ending → World → Prop} {a : Act} {W : World} {i b : Nat} {x0 x1 x2 : Value} (hres : fn.results = #[.cell i 69]) (hs : a.tmps[i]?.getD undef = .pointer (some ⟨b, 0, none⟩)) (hb : Box b #[x0, x1, x2] 69 W) (hd : a.defers = []) (hR : R (.returned (.agg #[x0, x1, x2])) W) : bodyPost Tryz.prog fn R .ret a W := by
  have q0 := hb.cell (i := 0) rfl
  have q1 := hb.cell (i := 1) rfl
  have q2 := hb.cell (i := 2) rfl
  exact bodyPost_ret (v := .agg #[x0, x1, x2]) (by simp [results, hres, go_sem, hs, q0, q1, q2]) hd hR
theorem ret8 {fn : Func} {R : Ending → World → Prop} {a : Act} {W : World} {i b : Nat} {x0 x1 x2 x3 x4 x5 x6 x7 : Value} (hres : fn.results = #[.cell i 45]) (hs : a.tmps[i]?.getD undef = .pointer (some ⟨b, 0, none⟩)) (hb : Box b #[x0, x1, x2, x3, x4, x5, x6, x7] 45 W) (hd : a.defers = []) (hR : R (.returned (.agg #[x0, x1, x2, x3, x4, x5, x6, x7])) W) : bodyPost Tryz.prog fn R .ret a W := by
  have q0 := hb.cell (i := 0) rfl
  have q1 := hb.cell (i := 1) rfl
  have q2 := hb.cell (i := 2) rfl
  have q3 := hb.cell (i := 3) rfl
  have q4 := hb.cell (i := 4) rfl
  have q5 := hb.cell (i := 5) rfl
  have q6 := hb.cell (i := 6) rfl
  have q7 := hb.cell (i := 7) rfl
  exact bodyPost_ret (v := .agg #[x0, x1, x2, x3, x4, x5, x6, x7]) (by simp [results, hres, go_sem, hs, q0, q1, q2, q3, q4, q5, q6, q7]) hd hR
theorem ret8s {fn : Func} {R : Ending → World → Prop} {a : Act} {W : World} {i b : Nat} {x0 x1 x2 x3 x4 x5 x6 x7 : Value} (hres : fn.results = #[.cell i 48]) (hs : a.tmps[i]?.getD undef = .pointer (some ⟨b, 0, none⟩)) (hb : Box b #[x0, x1, x2, x3, x4, x5, x6, x7] 48 W) (hd : a.defers = []) (hR : R (.returned (.agg #[x0, x1, x2, x3, x4, x5, x6, x7])) W) : bodyPost Tryz.prog fn R .ret a W := by
  have q0 := hb.cell (i := 0) rfl
  have q1 := hb.cell (i := 1) rfl
  have q2 := hb.cell (i := 2) rfl
  have q3 := hb.cell (i := 3) rfl
  have q4 := hb.cell (i := 4) rfl
  have q5 := hb.cell (i := 5) rfl
  have q6 := hb.cell (i := 6) rfl
  have q7 := hb.cell (i := 7) rfl
  exact bodyPost_ret (v := .agg #[x0, x1, x2, x3, x4, x5, x6, x7]) (by simp [results, hres, go_sem, hs, q0, q1, q2, q3, q4, q5, q6, q7]) hd hR
theorem ret7 {fn : Func} {R : Ending → World → Prop} {a : Act} {W : World} {i b : Nat} {x0 x1 x2 x3 x4 x5 x6 : Value} (hres : fn.results = #[.cell i 51]) (hs : a.tmps[i]?.getD undef = .pointer (some ⟨b, 0, none⟩)) (hb : Box b #[x0, x1, x2, x3, x4, x5, x6] 51 W) (hd : a.defers = []) (hR : R (.returned (.agg #[x0, x1, x2, x3, x4, x5, x6])) W) : bodyPost Tryz.prog fn R .ret a W := by
  have q0 := hb.cell (i := 0) rfl
  have q1 := hb.cell (i := 1) rfl
  have q2 := hb.cell (i := 2) rfl
  have q3 := hb.cell (i := 3) rfl
  have q4 := hb.cell (i := 4) rfl
  have q5 := hb.cell (i := 5) rfl
  have q6 := hb.cell (i := 6) rfl
  exact bodyPost_ret (v := .agg #[x0, x1, x2, x3, x4, x5, x6]) (by simp [results, hres, go_sem, hs, q0, q1, q2, q3, q4, q5, q6]) hd hR
end Go.Proofs.YtcnohgifihbkdaaGreatDoor

