/- The parser: a source. -/
import Derived.Test.YtcnohgifihbkdaaGreatDoorJAR
import Derived.Recover
import Derived.Defers
import Derived.Lib.TrimUEq
import Derived.Laws.RangeAny
import Derived.Test.YtcnohgifihbkdaaGreatDoorChecked
import Derived.WalkKit
import Derived.WalkSpells
import Derived.WalkLawsBesides
import Derived.Deep.OwnRows
import Derived.Maps.AppendAt
import Derived.Deep.AppendLies
import Derived.Lib.AppendStr
import Derived.Deep.LoopGhost
import Derived.Below
import Derived.Lib.OthersKept
import Derived.Lib.TrimU
import Derived.Shelf.Abstract
namespace Go.Proofs.YtcnohgifihbkdaaGreatDoor
open Go.RowKit Go.Deep Go.Shelf
set_option linter.unusedVariables false
set_option linter.unusedSimpArgs false
set_option maxRecDepth 100000
structure Fo (lo T : Nat) (w : World) (t : PTr) (a0 a1 a2 a3 : Option Addr) (k0 k1 k2 k3 : Nat) (A : Nat → Nat → Prop) : Prop where
  bx : Box T #[.slice a0 t.recs.length k0, .slice a1 t.maps.length k1, .slice a2 t.funcs.length k2, .slice a3 t.events.length k3] 25 w
  l0 : Lst 51 7 LD w (A 0) (.slice a0 t.recs.length k0) t.recs
  l1 : Lst 51 7 LD w (A 1) (.slice a1 t.maps.length k1) t.maps
  l2 : Lst 51 7 LD w (A 2) (.slice a2 t.funcs.length k2) t.funcs
  l3 : Lst 51 7 LD w (A 3) (.slice a3 t.events.length k3) t.events
  bd : ∀ i g, A i g → lo ≤ g ∧ g < w.heap.size
  dj : ∀ i j g, A i g → A j g → i = j
  tl : T < lo
section
variable {lo T : Nat} {w w' : World} {t : PTr} {a0 a1 a2 a3 : Option Addr} {k0 k1 k2 k3 : Nat} {A : Nat → Nat → Prop}
theorem Fo.keep (h : Fo lo T w t a0 a1 a2 a3 k0 k1 k2 k3 A) (hz : w.heap.size ≤ w'.heap.size) (hT : w'.heap[T]? = w.heap[T]?) (k : ∀ g, lo ≤ g → g < w.heap.size → w'.heap[g]? = w.heap[g]?) : Fo lo T w' t a0 a1 a2 a3 k0 k1 k2 k3 A :=
  ⟨hT.trans h.bx, h.l0.mv LD_mv (fun g hg => k g (h.bd 0 g hg).1 (h.bd 0 g hg).2) (fun g hg => hg), h.l1.mv LD_mv (fun g hg => k g (h.bd 1 g hg).1 (h.bd 1 g hg).2) (fun g hg => hg), h.l2.mv LD_mv (fun g hg => k g (h.bd 2 g hg).1 (h.bd 2 g hg).2) (fun g hg => hg), h.l3.mv LD_mv (fun g hg => k g (h.bd 3 g hg).1 (h.bd 3 g hg).2) (fun g hg => hg), fun i g hg => ⟨(h.bd i g hg).1, by have := (h.bd i g hg).2; omega⟩, h.dj, h.tl⟩
theorem Fo.call {P : Nat} (h : Fo lo T w t a0 a1 a2 a3 k0 k1 k2 k3 A) (hg : w.grownBy w' (some P)) (hP : P < T) : Fo lo T w' t a0 a1 a2 a3 k0 k1 k2 k3 A :=
  h.keep hg.size (hg.block T h.bx.lt (fun e => by have := Option.some.inj e; omega)) (fun g q1 q2 => hg.block g q2 (fun e => by have := Option.some.inj e; have := h.tl; omega))
theorem Fo.dec0 {P : Nat} {l' : List PDc} {a' : Option Addr} {c' : Nat} (h : Fo lo T w t a0 a1 a2 a3 k0 k1 k2 k3 A) (hB : Box T ((#[.slice a0 t.recs.length k0, .slice a1 t.maps.length k1, .slice a2 t.funcs.length k2, .slice a3 t.events.length k3] : Array Value).setIfInBounds 0 (.slice a' l'.length c')) 25 w') (hL : Lst 51 7 LD w' (fun g => A 0 g ∨ (w.heap.size ≤ g ∧ g < w'.heap.size)) (.slice a' l'.length c') l') (hz : w.heap.size ≤ w'.heap.size) (hk : ∀ g, g < w.heap.size → g ≠ P → g ≠ T → ¬ A 0 g → w'.heap[g]? = w.heap[g]?) (hP : P < T) (hlo : lo ≤ w.heap.size) : Fo lo T w' { t with recs := l' } a' a1 a2 a3 c' k1 k2 k3 (fun i g => A i g ∨ (i = 0 ∧ w.heap.size ≤ g ∧ g < w'.heap.size)) := by
  refine ⟨by simpa using hB, hL.mv LD_mv (Same.refl _ _) (fun g hg => hg.elim .inl (fun q => .inr ⟨rfl, q⟩)), h.l1.mv LD_mv (fun g hg => hk g (h.bd 1 g hg).2 (by have := (h.bd 1 g hg).1; have := h.tl; omega) (by have := (h.bd 1 g hg).1; have := h.tl; omega) (fun q => absurd (h.dj 1 0 g hg q) (by decide))) (fun g hg => .inl hg), h.l2.mv LD_mv (fun g hg => hk g (h.bd 2 g hg).2 (by have := (h.bd 2 g hg).1; have := h.tl; omega) (by have := (h.bd 2 g hg).1; have := h.tl; omega) (fun q => absurd (h.dj 2 0 g hg q) (by decide))) (fun g hg => .inl hg), h.l3.mv LD_mv (fun g hg => hk g (h.bd 3 g hg).2 (by have := (h.bd 3 g hg).1; have := h.tl; omega) (by have := (h.bd 3 g hg).1; have := h.tl; omega) (fun q => absurd (h.dj 3 0 g hg q) (by decide))) (fun g hg => .inl hg), fun i g hg => ?_, fun i j g hi hj => ?_, h.tl⟩
  · rcases hg with hg | ⟨_, q1, q2⟩
    · exact ⟨(h.bd i g hg).1, by have := (h.bd i g hg).2; omega⟩
    · exact ⟨by have := h.bx.lt; have := h.tl; have := hlo; omega, q2⟩
  · rcases hi with hi | ⟨e1, q1, q2⟩ <;> rcases hj with hj | ⟨e2, q3, q4⟩
    · exact h.dj i j g hi hj
    · have := (h.bd i g hi).2; omega
    · have := (h.bd j g hj).2; omega
    · rw [e1, e2]
theorem Fo.dec1 {P : Nat} {l' : List PDc} {a' : Option Addr} {c' : Nat} (h : Fo lo T w t a0 a1 a2 a3 k0 k1 k2 k3 A) (hB : Box T ((#[.slice a0 t.recs.length k0, .slice a1 t.maps.length k1, .slice a2 t.funcs.length k2, .slice a3 t.events.length k3] : Array Value).setIfInBounds 1 (.slice a' l'.length c')) 25 w') (hL : Lst 51 7 LD w' (fun g => A 1 g ∨ (w.heap.size ≤ g ∧ g < w'.heap.size)) (.slice a' l'.length c') l') (hz : w.heap.size ≤ w'.heap.size) (hk : ∀ g, g < w.heap.size → g ≠ P → g ≠ T → ¬ A 1 g → w'.heap[g]? = w.heap[g]?) (hP : P < T) (hlo : lo ≤ w.heap.size) : Fo lo T w' { t with maps := l' } a0 a' a2 a3 k0 c' k2 k3 (fun i g => A i g ∨ (i = 1 ∧ w.heap.size ≤ g ∧ g < w'.heap.size)) := by
  refine ⟨by simpa using hB, h.l0.mv LD_mv (fun g hg => hk g (h.bd 0 g hg).2 (by have := (h.bd 0 g hg).1; have := h.tl; omega) (by have := (h.bd 0 g hg).1; have := h.tl; omega) (fun q => absurd (h.dj 0 1 g hg q) (by decide))) (fun g hg => .inl hg), hL.mv LD_mv (Same.refl _ _) (fun g hg => hg.elim .inl (fun q => .inr ⟨rfl, q⟩)), h.l2.mv LD_mv (fun g hg => hk g (h.bd 2 g hg).2 (by have := (h.bd 2 g hg).1; have := h.tl; omega) (by have := (h.bd 2 g hg).1; have := h.tl; omega) (fun q => absurd (h.dj 2 1 g hg q) (by decide))) (fun g hg => .inl hg), h.l3.mv LD_mv (fun g hg => hk g (h.bd 3 g hg).2 (by have := (h.bd 3 g hg).1; have := h.tl; omega) (by have := (h.bd 3 g hg).1; have := h.tl; omega) (fun q => absurd (h.dj 3 1 g hg q) (by decide))) (fun g hg => .inl hg), fun i g hg => ?_, fun i j g hi hj => ?_, h.tl⟩
  · rcases hg with hg | ⟨_, q1, q2⟩
    · exact ⟨(h.bd i g hg).1, by have := (h.bd i g hg).2; omega⟩
    · exact ⟨by have := h.bx.lt; have := h.tl; have := hlo; omega, q2⟩
  · rcases hi with hi | ⟨e1, q1, q2⟩ <;> rcases hj with hj | ⟨e2, q3, q4⟩
    · exact h.dj i j g hi hj
    · have := (h.bd i g hi).2; omega
    · have := (h.bd j g hj).2; omega
    · rw [e1, e2]
theorem Fo.dec2 {P : Nat} {l' : List PDc} {a' : Option Addr} {c' : Nat} (h : Fo lo T w t a0 a1 a2 a3 k0 k1 k2 k3 A) (hB : Box T ((#[.slice a0 t.recs.length k0, .slice a1 t.maps.length k1, .slice a2 t.funcs.length k2, .slice a3 t.events.length k3] : Array Value).setIfInBounds 2 (.slice a' l'.length c')) 25 w') (hL : Lst 51 7 LD w' (fun g => A 2 g ∨ (w.heap.size ≤ g ∧ g < w'.heap.size)) (.slice a' l'.length c') l') (hz : w.heap.size ≤ w'.heap.size) (hk : ∀ g, g < w.heap.size → g ≠ P → g ≠ T → ¬ A 2 g → w'.heap[g]? = w.heap[g]?) (hP : P < T) (hlo : lo ≤ w.heap.size) : Fo lo T w' { t with funcs := l' } a0 a1 a' a3 k0 k1 c' k3 (fun i g => A i g ∨ (i = 2 ∧ w.heap.size ≤ g ∧ g < w'.heap.size)) := by
  refine ⟨by simpa using hB, h.l0.mv LD_mv (fun g hg => hk g (h.bd 0 g hg).2 (by have := (h.bd 0 g hg).1; have := h.tl; omega) (by have := (h.bd 0 g hg).1; have := h.tl; omega) (fun q => absurd (h.dj 0 2 g hg q) (by decide))) (fun g hg => .inl hg), h.l1.mv LD_mv (fun g hg => hk g (h.bd 1 g hg).2 (by have := (h.bd 1 g hg).1; have := h.tl; omega) (by have := (h.bd 1 g hg).1; have := h.tl; omega) (fun q => absurd (h.dj 1 2 g hg q) (by decide))) (fun g hg => .inl hg), hL.mv LD_mv (Same.refl _ _) (fun g hg => hg.elim .inl (fun q => .inr ⟨rfl, q⟩)), h.l3.mv LD_mv (fun g hg => hk g (h.bd 3 g hg).2 (by have := (h.bd 3 g hg).1; have := h.tl; omega) (by have := (h.bd 3 g hg).1; have := h.tl; omega) (fun q => absurd (h.dj 3 2 g hg q) (by decide))) (fun g hg => .inl hg), fun i g hg => ?_, fun i j g hi hj => ?_, h.tl⟩
  · rcases hg with hg | ⟨_, q1, q2⟩
    · exact ⟨(h.bd i g hg).1, by have := (h.bd i g hg).2; omega⟩
    · exact ⟨by have := h.bx.lt; have := h.tl; have := hlo; omega, q2⟩
  · rcases hi with hi | ⟨e1, q1, q2⟩ <;> rcases hj with hj | ⟨e2, q3, q4⟩
    · exact h.dj i j g hi hj
    · have := (h.bd i g hi).2; omega
    · have := (h.bd j g hj).2; omega
    · rw [e1, e2]
theorem Fo.dec3 {P : Nat} {l' : List PDc} {a' : Option Addr} {c' : Nat} (h : Fo lo T w t a0 a1 a2 a3 k0 k1 k2 k3 A) (hB : Box T ((#[.slice a0 t.recs.length k0, .slice a1 t.maps.length k1, .slice a2 t.funcs.length k2, .slice a3 t.events.length k3] : Array Value).setIfInBounds 3 (.slice a' l'.length c')) 25 w') (hL : Lst 51 7 LD w' (fun g => A 3 g ∨ (w.heap.size ≤ g ∧ g < w'.heap.size)) (.slice a' l'.length c') l') (hz : w.heap.size ≤ w'.heap.size) (hk : ∀ g, g < w.heap.size → g ≠ P → g ≠ T → ¬ A 3 g → w'.heap[g]? = w.heap[g]?) (hP : P < T) (hlo : lo ≤ w.heap.size) : Fo lo T w' { t with events := l' } a0 a1 a2 a' k0 k1 k2 c' (fun i g => A i g ∨ (i = 3 ∧ w.heap.size ≤ g ∧ g < w'.heap.size)) := by
  refine ⟨by simpa using hB, h.l0.mv LD_mv (fun g hg => hk g (h.bd 0 g hg).2 (by have := (h.bd 0 g hg).1; have := h.tl; omega) (by have := (h.bd 0 g hg).1; have := h.tl; omega) (fun q => absurd (h.dj 0 3 g hg q) (by decide))) (fun g hg => .inl hg), h.l1.mv LD_mv (fun g hg => hk g (h.bd 1 g hg).2 (by have := (h.bd 1 g hg).1; have := h.tl; omega) (by have := (h.bd 1 g hg).1; have := h.tl; omega) (fun q => absurd (h.dj 1 3 g hg q) (by decide))) (fun g hg => .inl hg), h.l2.mv LD_mv (fun g hg => hk g (h.bd 2 g hg).2 (by have := (h.bd 2 g hg).1; have := h.tl; omega) (by have := (h.bd 2 g hg).1; have := h.tl; omega) (fun q => absurd (h.dj 2 3 g hg q) (by decide))) (fun g hg => .inl hg), hL.mv LD_mv (Same.refl _ _) (fun g hg => hg.elim .inl (fun q => .inr ⟨rfl, q⟩)), fun i g hg => ?_, fun i j g hi hj => ?_, h.tl⟩
  · rcases hg with hg | ⟨_, q1, q2⟩
    · exact ⟨(h.bd i g hg).1, by have := (h.bd i g hg).2; omega⟩
    · exact ⟨by have := h.bx.lt; have := h.tl; have := hlo; omega, q2⟩
  · rcases hi with hi | ⟨e1, q1, q2⟩ <;> rcases hj with hj | ⟨e2, q3, q4⟩
    · exact h.dj i j g hi hj
    · have := (h.bd i g hi).2; omega
    · have := (h.bd j g hj).2; omega
    · rw [e1, e2]
end
theorem DcQ.cases {w w' : World} {P D T j : Nat} {cs : Array Value} {A : Nat → Prop} {r : Except Flt (List PDc × PS)} {e : Ending} (h : DcQ w P D T j cs A r e w') : (∃ f, r = .error f ∧ e = .panicked [fltV f] ∧ w.grownBy w' (some P)) ∨ (∃ l' s', r = .ok (l', s') ∧ e = .returned (.tuple #[]) ∧ Pst w' P D s' ∧ ∃ (a' : Option Addr) (c' : Nat), Box T (cs.setIfInBounds j (.slice a' l'.length c')) 25 w' ∧ Lst 51 7 LD w' (fun g => A g ∨ (w.heap.size ≤ g ∧ g < w'.heap.size)) (.slice a' l'.length c') l' ∧ w.heap.size ≤ w'.heap.size ∧ w'.os = w.os ∧ w'.tape = w.tape ∧ w'.output = w.output ∧ ∀ g, g < w.heap.size → g ≠ P → g ≠ T → ¬ A g → w'.heap[g]? = w.heap[g]?) := by
  cases r with
  | error f => exact .inl ⟨f, rfl, h.1, h.2⟩
  | ok x => exact .inr ⟨x.1, x.2, rfl, h.1, h.2⟩
theorem grown_dec {w wr w' : World} {P T : Nat} {A : Nat → Prop} (HG : w.grownBy wr (some P)) (hz : wr.heap.size ≤ w'.heap.size) (h1 : w'.os = wr.os) (h2 : w'.tape = wr.tape) (h3 : w'.output = wr.output) (hk : ∀ g, g < wr.heap.size → g ≠ P → g ≠ T → ¬ A g → w'.heap[g]? = wr.heap[g]?) (hT : w.heap.size ≤ T) (hA : ∀ g, A g → w.heap.size ≤ g) : w.grownBy w' (some P) :=
  ⟨h1.trans HG.os, h2.trans HG.tape, h3.trans HG.output, Nat.le_trans HG.size hz, fun j hj hne => (hk j (by have := HG.size; omega) (fun e => hne (by rw [e])) (by omega) (fun q => by have := hA j q; omega)).trans (HG.block j hj hne)⟩
theorem four_of {α : Type} : ∀ (l : List α), l.length = 4 → ∃ a b c d, l = [a, b, c, d]
  | [a, b, c, d], _ => ⟨a, b, c, d, rfl⟩
def RTr (w : World) (A : Nat → Prop) (v : Value) (t : PTr) : Prop := ∃ (v0 v1 v2 v3 : Value), v = .agg #[v0, v1, v2, v3] ∧ Lst 51 7 LD w A v0 t.recs ∧ Lst 51 7 LD w A v1 t.maps ∧ Lst 51 7 LD w A v2 t.funcs ∧ Lst 51 7 LD w A v3 t.events
theorem ret4 {fn : Func} {R : Ending → World → Prop} {a : Act} {W : World} {i b : Nat} {x0 x1 x2 x3 : Value} (hres : fn.results = #[.cell i 25]) (hs : a.tmps[i]?.getD undef = .pointer (some ⟨b, 0, none⟩)) (hb : Box b #[x0, x1, x2, x3] 25 W) (hd : a.defers = []) (hR : R (.returned (.agg #[x0, x1, x2, x3])) W) : bodyPost Tryz.prog fn R .ret a W := by
  have c0 := hb.cell (i := 0) rfl
  have c1 := hb.cell (i := 1) rfl
  have c2 := hb.cell (i := 2) rfl
  have c3 := hb.cell (i := 3) rfl
  exact bodyPost_ret (v := .agg #[x0, x1, x2, x3]) (by simp [results, hres, go_sem, hs, c0, c1, c2, c3]) hd hR
theorem Bx.put4 {b : Nat} {x0 x1 x2 x3 : Value} {T : TypeId} {w : World} (h : Bx 4 b T w) : Box b #[x0, x1, x2, x3] T ((((w.setCell ⟨b, 0, none⟩ x0).setCell ⟨b, 1, none⟩ x1).setCell ⟨b, 2, none⟩ x2).setCell ⟨b, 3, none⟩ x3) := by
  obtain ⟨⟨l⟩, h1, h2⟩ := h
  match l, h1 with
  | [_, _, _, _], _ => exact h2.put4
theorem dec_len {l l' : List PDc} {rest : Pr PDc} {s s' : PS} (h : declare l rest s = .ok (l', s')) : l'.length = l.length + 1 := by
  obtain ⟨tk, s1, h1, h2⟩ := bd_inv (show bd take (fun w => bd rest fun d => ret (l ++ [d.setAt w.pos])) { s with sur := decide (l.length = 16) } = .ok (l', s') from h)
  obtain ⟨d, s2, h3, h4⟩ := bd_inv h2
  cases h4
  simp
set_option maxHeartbeats 4000000 in
theorem source_any (w : World) (P D n : Nat) (s : PS) (HP : Pst w P D s) (hn : n ≤ 10000) (HN : NumC) (HF : Fed (sourceL n n ⟨[], [], [], []⟩ s)) : Calls Tryz.prog 17 #[.pointer (some ⟨P, 0, none⟩)] w (Rt RTr P D w (sourceL n n ⟨[], [], [], []⟩ s)) := by
  have HG := World.grownBy.refl w (some P)
  have hPw := HP.lt
  have hD := HP.dw
  have hPD := HP.pd
  have t0 := True.intro
  have hmf : ∀ (fn : Fn) (first cap : Array Value) (w : World), (Instr.makeFunc fn first cap).run Tryz.prog w = .ok (.func fn first cap) w := fun _ _ _ _ => rfl
  have HF := hid HF
  have HN := hid HN
  go_enter Tryz.func17, Tryz.ntmps17
  go_wp2
  go_loopg [] n (fun g wr => ∃ (t : PTr) (u : PS) (a0 a1 a2 a3 : Option Addr) (k0 k1 k2 k3 : Nat) (A : Nat → Nat → Prop), Fo (w.heap.size + 2) (w.heap.size + 1) wr t a0 a1 a2 a3 k0 k1 k2 k3 A ∧ Bx 4 w.heap.size 25 wr ∧ t.recs.length + t.maps.length + t.funcs.length + t.events.length + g = n ∧ sourceL n n ⟨[], [], [], []⟩ s = sourceL n g t u ∧ Pst wr P D u ∧ w.grownBy wr (some P))
  case atStart => exact ⟨⟨[], [], [], []⟩, s, none, none, none, none, 0, 0, 0, 0, fun _ _ => False, ⟨by have q := Box.new (w.alloc (.cells #[.slice none 0 0, .slice none 0 0, .slice none 0 0, .slice none 0 0] 25)) #[.slice none 0 0, .slice none 0 0, .slice none 0 0, .slice none 0 0] 25; rw [World.size_alloc] at q; exact q, Lst.nil _ _ _ _ _, Lst.nil _ _ _ _ _, Lst.nil _ _ _ _ _, Lst.nil _ _ _ _ _, fun _ _ h => h.elim, fun _ _ _ h => h.elim, by omega⟩, ⟨_, rfl, (Box.new w #[.slice none 0 0, .slice none 0 0, .slice none 0 0, .slice none 0 0] 25).alloc _⟩, by simp, rfl, (HP.alloc _).alloc _, grown_alloc (grown_alloc HG _) _⟩
  case round =>
    obtain ⟨t, u, a0, a1, a2, a3, k0, k1, k2, k3, A, HO, HX, hlg, ho, HP, HG⟩ := hrel
    have hgz := HG.size
    have hTw := HO.bx.lt
    have hHO := hid HO
    have hHX := hid HX
    have HLG := hid hlg
    cases gk with
    | zero => exact absurd (ho.trans rfl) HF.out
    | succ g =>
      have H := hid (show sourceL n n ⟨[], [], [], []⟩ s = if (nxt u).kind = 0 then .ok (t, u) else if isS [114, 101, 99, 111, 114, 100] u = true then (bd (declare t.recs (recordP n)) fun l => sourceL n g { t with recs := l }) u else if isS [109, 97, 112] u = true then (bd (declare t.maps tableP) fun l => sourceL n g { t with maps := l }) u else if isS [102, 110] u = true then (bd (declare t.funcs (functionP n)) fun l => sourceL n g { t with funcs := l }) u else if isS [111, 110] u = true then (bd (declare t.events (handlerP n)) fun l => sourceL n g { t with events := l }) u else wrong u from ho)
      clear HO HX hlg ho
      by_cases hk0 : (nxt u).kind = 0
      · have H := hid (H.out.trans (if_pos hk0))
        go_wp2_with (first
          | (have hno := t0; (go_at_call 41; (refine (next_any _ _ D _ (Pst.to HP (by intro HP; with_reducible repeat first | exact HP | apply pA | refine pS (by omega) ?_))).mono ?_; rintro e w1 ⟨rfl, hb⟩; have hg := bgrown hb (some P); have hs := Pst.below (Pst.to HP (by intro HP; with_reducible repeat first | exact HP | apply pA | refine pS (by omega) ?_)) hb; obtain ⟨hcw1, hfw1⟩ := gcell hg; have hzw1 := hg.size; (try simp only [szA, szS] at hzw1); have hPw1 := hs.lt; have hleww1 := le1 w w1 (by omega); (try have hltww1 := lt1 w w1 (by omega)); have hlewrw1 := le1 wr w1 (by omega); (try have hltwrw1 := lt1 wr w1 (by omega)); have HG := gtrans (Gw.to HG (by intro HG; with_reducible repeat first | exact HG | apply gA | apply gB | refine gS (by omega) ?_)) hg; have HP := hs; have hGw1 := hg; have t1 := True.intro; unfold tokV; have hHO := hid (hHO.out.call hGw1 (by omega)); have hHX := hid (Bx.call hGw1 (by omega) hHX.out); (try clear hg hs); have j0 : w1.cell? ⟨w.heap.size + 1, 0, none⟩ = some (.slice a0 t.recs.length k0) := hHO.out.bx.cell rfl; have j1 : w1.cell? ⟨w.heap.size + 1, 1, none⟩ = some (.slice a1 t.maps.length k1) := hHO.out.bx.cell rfl; have j2 : w1.cell? ⟨w.heap.size + 1, 2, none⟩ = some (.slice a2 t.funcs.length k2) := hHO.out.bx.cell rfl; have j3 : w1.cell? ⟨w.heap.size + 1, 3, none⟩ = some (.slice a3 t.events.length k3) := hHO.out.bx.cell rfl; have hXX := hHX.out; obtain ⟨⟨l6⟩, hl6, hX6⟩ := hXX; obtain ⟨z0, z1, z2, z3, rfl⟩ := four_of l6 hl6; have x0 : w1.cell? ⟨w.heap.size, 0, none⟩ = some z0 := hX6.cell rfl; have x1 : w1.cell? ⟨w.heap.size, 1, none⟩ = some z1 := hX6.cell rfl; have x2 : w1.cell? ⟨w.heap.size, 2, none⟩ = some z2 := hX6.cell rfl; have x3 : w1.cell? ⟨w.heap.size, 3, none⟩ = some z3 := hX6.cell rfl; have xf : ∀ o, w1.frozen? ⟨w.heap.size, o, none⟩ = false := fun o => freeOf hX6 o; clear hcw1 hfw1))))
        refine ret4 Tryz.results17 rfl (Bx.put4 hHX.out) rfl ?_
        have hnR : ∀ i, ¬ A i w.heap.size := fun i q => by have := (hHO.out.bd i _ q).1; omega
        refine Rt.ok (H.out.trans rfl) ⟨_, _, _, _, rfl, ?_, ?_, ?_, ?_⟩ (Pst.to HP (by intro HP; with_reducible repeat first | exact HP | apply pA | refine pS (by omega) ?_)) (Gw.to HG (by intro HG; with_reducible repeat first | exact HG | apply gA | apply gB | refine gS (by omega) ?_))
        · exact hHO.out.l0.mv LD_mv (by repeat (first | (with_reducible exact Same.refl _ _) | ((with_reducible apply Same.set); rotate_left; exact hnR 0))) (fun g hg => by have := hHO.out.bd 0 g hg; simp only [World.size_setCell]; exact ⟨by omega, by omega⟩)
        · exact hHO.out.l1.mv LD_mv (by repeat (first | (with_reducible exact Same.refl _ _) | ((with_reducible apply Same.set); rotate_left; exact hnR 1))) (fun g hg => by have := hHO.out.bd 1 g hg; simp only [World.size_setCell]; exact ⟨by omega, by omega⟩)
        · exact hHO.out.l2.mv LD_mv (by repeat (first | (with_reducible exact Same.refl _ _) | ((with_reducible apply Same.set); rotate_left; exact hnR 2))) (fun g hg => by have := hHO.out.bd 2 g hg; simp only [World.size_setCell]; exact ⟨by omega, by omega⟩)
        · exact hHO.out.l3.mv LD_mv (by repeat (first | (with_reducible exact Same.refl _ _) | ((with_reducible apply Same.set); rotate_left; exact hnR 3))) (fun g hg => by have := hHO.out.bd 3 g hg; simp only [World.size_setCell]; exact ⟨by omega, by omega⟩)
      · have H := hid (H.out.trans (if_neg hk0))
        have hk0 := hid hk0
        go_wp2_with (first
          | (have hno := t5; (go_at_call 48; (refine (wrong_any _ _ D _ (Pst.to HP (by intro HP; with_reducible repeat first | exact HP | apply pA | refine pS (by omega) ?_))).mono ?_; rintro e w6 ⟨rfl, hb⟩; have hg := bgrown hb (some P); have hs := Pst.below (Pst.to HP (by intro HP; with_reducible repeat first | exact HP | apply pA | refine pS (by omega) ?_)) hb; obtain ⟨hcw6, hfw6⟩ := gcell hg; have hzw6 := hg.size; (try simp only [szA, szS] at hzw6); have hPw6 := hs.lt; have hleww6 := le1 w w6 (by omega); (try have hltww6 := lt1 w w6 (by omega)); have hlewrw6 := le1 wr w6 (by omega); (try have hltwrw6 := lt1 wr w6 (by omega)); have hlew1w6 := le1 w1 w6 (by omega); (try have hltw1w6 := lt1 w1 w6 (by omega)); have hlew2w6 := le1 w2 w6 (by omega); (try have hltw2w6 := lt1 w2 w6 (by omega)); have hlew3w6 := le1 w3 w6 (by omega); (try have hltw3w6 := lt1 w3 w6 (by omega)); have hlew4w6 := le1 w4 w6 (by omega); (try have hltw4w6 := lt1 w4 w6 (by omega)); have hlew5w6 := le1 w5 w6 (by omega); (try have hltw5w6 := lt1 w5 w6 (by omega)); have HG := gtrans (Gw.to HG (by intro HG; with_reducible repeat first | exact HG | apply gA | apply gB | refine gS (by omega) ?_)) hg; have HP := hs; have hGw6 := hg; have t6 := True.intro; (try clear hg hs))))
          | (have hno := t5; (go_at_call 43; (refine (declare_any49 _ P D (w.heap.size + 1) 3 u t.events (handlerP n) a3 k3 _ (A 3) HP hHO.out.bx rfl (by omega) hHO.out.l3 (fun g hg => ⟨by have := (hHO.out.bd 3 g hg).1; omega, (hHO.out.bd 3 g hg).2, by have := (hHO.out.bd 3 g hg).1; omega⟩) (by have := HLG.out; omega) hk0.out (fun X v hX hF => handler_any X P D v hX n hn HN.out hF) (fun h => HF.out (H.out.trans (bd_err h)))).mono ?_; intro e w6 hrt; rcases hrt.cases with ⟨f, hx, rfl, hg⟩ | ⟨l5, s5, hx, rfl, hPs, a5, c5, hB5, hL5, hz5, ho5, ht5, hu5, hk5⟩; (focus (exact ⟨rfl, Rt.err (H.out.trans (bd_err hx)) (gtrans HG hg)⟩)); have hl5 := dec_len hx; have H := hid (H.out.trans (bd_ok hx)); have hHO5 := hid (hHO.out.dec3 hB5 hL5 hz5 hk5 (by omega) (by omega)); have HG := grown_dec HG hz5 ho5 ht5 hu5 hk5 (by omega) (fun g hg => by have := (hHO.out.bd 3 g hg).1; omega); have hHX := hid (show Bx 4 w.heap.size 25 w6 from by obtain ⟨cs, q1, q2⟩ := hHX.out; exact ⟨cs, q1, (hk5 w.heap.size (by omega) (by omega) (by omega) (fun q => by have := (hHO.out.bd 3 _ q).1; omega)).trans q2⟩); have HP := hPs; clear hB5 hL5 hk5 ho5 ht5 hu5 hrt hPs)))
          | (have hno := t4; (go_at_call 42; (refine (is_any _ _ D _ [111, 110] (Pst.to HP (by intro HP; with_reducible repeat first | exact HP | apply pA | refine pS (by omega) ?_))).mono ?_; rintro e w5 ⟨rfl, hb⟩; have hg := bgrown hb (some P); have hs := Pst.below (Pst.to HP (by intro HP; with_reducible repeat first | exact HP | apply pA | refine pS (by omega) ?_)) hb; obtain ⟨hcw5, hfw5⟩ := gcell hg; have hzw5 := hg.size; (try simp only [szA, szS] at hzw5); have hPw5 := hs.lt; have hleww5 := le1 w w5 (by omega); (try have hltww5 := lt1 w w5 (by omega)); have hlewrw5 := le1 wr w5 (by omega); (try have hltwrw5 := lt1 wr w5 (by omega)); have hlew1w5 := le1 w1 w5 (by omega); (try have hltw1w5 := lt1 w1 w5 (by omega)); have hlew2w5 := le1 w2 w5 (by omega); (try have hltw2w5 := lt1 w2 w5 (by omega)); have hlew3w5 := le1 w3 w5 (by omega); (try have hltw3w5 := lt1 w3 w5 (by omega)); have hlew4w5 := le1 w4 w5 (by omega); (try have hltw4w5 := lt1 w4 w5 (by omega)); have HG := gtrans (Gw.to HG (by intro HG; with_reducible repeat first | exact HG | apply gA | apply gB | refine gS (by omega) ?_)) hg; have HP := hs; have hGw5 := hg; have t5 := True.intro; have hHO := hid (hHO.out.call hGw5 (by omega)); have hHX := hid (Bx.call hGw5 (by omega) hHX.out); (try clear hg hs); rcases Bool.eq_false_or_eq_true (isS [111, 110] u) with hbw5 | hbw5; all_goals (first | (have H := hid (H.out.trans (if_pos hbw5)); simp only [hbw5]) | (have H := hid (H.out.trans (if_neg (by rw [hbw5]; decide))); simp only [hbw5])))))
          | (have hno := t4; (go_at_call 43; (refine (declare_any48 _ P D (w.heap.size + 1) 2 u t.funcs (functionP n) a2 k2 _ (A 2) HP hHO.out.bx rfl (by omega) hHO.out.l2 (fun g hg => ⟨by have := (hHO.out.bd 2 g hg).1; omega, (hHO.out.bd 2 g hg).2, by have := (hHO.out.bd 2 g hg).1; omega⟩) (by have := HLG.out; omega) hk0.out (fun X v hX hF => function_any X P D v hX n hn HN.out hF) (fun h => HF.out (H.out.trans (bd_err h)))).mono ?_; intro e w5 hrt; rcases hrt.cases with ⟨f, hx, rfl, hg⟩ | ⟨l5, s5, hx, rfl, hPs, a5, c5, hB5, hL5, hz5, ho5, ht5, hu5, hk5⟩; (focus (exact ⟨rfl, Rt.err (H.out.trans (bd_err hx)) (gtrans HG hg)⟩)); have hl5 := dec_len hx; have H := hid (H.out.trans (bd_ok hx)); have hHO5 := hid (hHO.out.dec2 hB5 hL5 hz5 hk5 (by omega) (by omega)); have HG := grown_dec HG hz5 ho5 ht5 hu5 hk5 (by omega) (fun g hg => by have := (hHO.out.bd 2 g hg).1; omega); have hHX := hid (show Bx 4 w.heap.size 25 w5 from by obtain ⟨cs, q1, q2⟩ := hHX.out; exact ⟨cs, q1, (hk5 w.heap.size (by omega) (by omega) (by omega) (fun q => by have := (hHO.out.bd 2 _ q).1; omega)).trans q2⟩); have HP := hPs; clear hB5 hL5 hk5 ho5 ht5 hu5 hrt hPs)))
          | (have hno := t3; (go_at_call 42; (refine (is_any _ _ D _ [102, 110] (Pst.to HP (by intro HP; with_reducible repeat first | exact HP | apply pA | refine pS (by omega) ?_))).mono ?_; rintro e w4 ⟨rfl, hb⟩; have hg := bgrown hb (some P); have hs := Pst.below (Pst.to HP (by intro HP; with_reducible repeat first | exact HP | apply pA | refine pS (by omega) ?_)) hb; obtain ⟨hcw4, hfw4⟩ := gcell hg; have hzw4 := hg.size; (try simp only [szA, szS] at hzw4); have hPw4 := hs.lt; have hleww4 := le1 w w4 (by omega); (try have hltww4 := lt1 w w4 (by omega)); have hlewrw4 := le1 wr w4 (by omega); (try have hltwrw4 := lt1 wr w4 (by omega)); have hlew1w4 := le1 w1 w4 (by omega); (try have hltw1w4 := lt1 w1 w4 (by omega)); have hlew2w4 := le1 w2 w4 (by omega); (try have hltw2w4 := lt1 w2 w4 (by omega)); have hlew3w4 := le1 w3 w4 (by omega); (try have hltw3w4 := lt1 w3 w4 (by omega)); have HG := gtrans (Gw.to HG (by intro HG; with_reducible repeat first | exact HG | apply gA | apply gB | refine gS (by omega) ?_)) hg; have HP := hs; have hGw4 := hg; have t4 := True.intro; have hHO := hid (hHO.out.call hGw4 (by omega)); have hHX := hid (Bx.call hGw4 (by omega) hHX.out); (try clear hg hs); rcases Bool.eq_false_or_eq_true (isS [102, 110] u) with hbw4 | hbw4; all_goals (first | (have H := hid (H.out.trans (if_pos hbw4)); simp only [hbw4]) | (have H := hid (H.out.trans (if_neg (by rw [hbw4]; decide))); simp only [hbw4])))))
          | (have hno := t3; (go_at_call 43; (refine (declare_any47 _ P D (w.heap.size + 1) 1 u t.maps tableP a1 k1 _ (A 1) HP hHO.out.bx rfl (by omega) hHO.out.l1 (fun g hg => ⟨by have := (hHO.out.bd 1 g hg).1; omega, (hHO.out.bd 1 g hg).2, by have := (hHO.out.bd 1 g hg).1; omega⟩) (by have := HLG.out; omega) hk0.out (fun X v hX hF => table_any X P D v hX) (fun h => HF.out (H.out.trans (bd_err h)))).mono ?_; intro e w4 hrt; rcases hrt.cases with ⟨f, hx, rfl, hg⟩ | ⟨l5, s5, hx, rfl, hPs, a5, c5, hB5, hL5, hz5, ho5, ht5, hu5, hk5⟩; (focus (exact ⟨rfl, Rt.err (H.out.trans (bd_err hx)) (gtrans HG hg)⟩)); have hl5 := dec_len hx; have H := hid (H.out.trans (bd_ok hx)); have hHO5 := hid (hHO.out.dec1 hB5 hL5 hz5 hk5 (by omega) (by omega)); have HG := grown_dec HG hz5 ho5 ht5 hu5 hk5 (by omega) (fun g hg => by have := (hHO.out.bd 1 g hg).1; omega); have hHX := hid (show Bx 4 w.heap.size 25 w4 from by obtain ⟨cs, q1, q2⟩ := hHX.out; exact ⟨cs, q1, (hk5 w.heap.size (by omega) (by omega) (by omega) (fun q => by have := (hHO.out.bd 1 _ q).1; omega)).trans q2⟩); have HP := hPs; clear hB5 hL5 hk5 ho5 ht5 hu5 hrt hPs)))
          | (have hno := t2; (go_at_call 42; (refine (is_any _ _ D _ [109, 97, 112] (Pst.to HP (by intro HP; with_reducible repeat first | exact HP | apply pA | refine pS (by omega) ?_))).mono ?_; rintro e w3 ⟨rfl, hb⟩; have hg := bgrown hb (some P); have hs := Pst.below (Pst.to HP (by intro HP; with_reducible repeat first | exact HP | apply pA | refine pS (by omega) ?_)) hb; obtain ⟨hcw3, hfw3⟩ := gcell hg; have hzw3 := hg.size; (try simp only [szA, szS] at hzw3); have hPw3 := hs.lt; have hleww3 := le1 w w3 (by omega); (try have hltww3 := lt1 w w3 (by omega)); have hlewrw3 := le1 wr w3 (by omega); (try have hltwrw3 := lt1 wr w3 (by omega)); have hlew1w3 := le1 w1 w3 (by omega); (try have hltw1w3 := lt1 w1 w3 (by omega)); have hlew2w3 := le1 w2 w3 (by omega); (try have hltw2w3 := lt1 w2 w3 (by omega)); have HG := gtrans (Gw.to HG (by intro HG; with_reducible repeat first | exact HG | apply gA | apply gB | refine gS (by omega) ?_)) hg; have HP := hs; have hGw3 := hg; have t3 := True.intro; have hHO := hid (hHO.out.call hGw3 (by omega)); have hHX := hid (Bx.call hGw3 (by omega) hHX.out); (try clear hg hs); rcases Bool.eq_false_or_eq_true (isS [109, 97, 112] u) with hbw3 | hbw3; all_goals (first | (have H := hid (H.out.trans (if_pos hbw3)); simp only [hbw3]) | (have H := hid (H.out.trans (if_neg (by rw [hbw3]; decide))); simp only [hbw3])))))
          | (have hno := t2; (go_at_call 43; (refine (declare_any46 _ P D (w.heap.size + 1) 0 u t.recs (recordP n) a0 k0 _ (A 0) HP hHO.out.bx rfl (by omega) hHO.out.l0 (fun g hg => ⟨by have := (hHO.out.bd 0 g hg).1; omega, (hHO.out.bd 0 g hg).2, by have := (hHO.out.bd 0 g hg).1; omega⟩) (by have := HLG.out; omega) hk0.out (fun X v hX hF => record_any X P D v hX n hn hF) (fun h => HF.out (H.out.trans (bd_err h)))).mono ?_; intro e w3 hrt; rcases hrt.cases with ⟨f, hx, rfl, hg⟩ | ⟨l5, s5, hx, rfl, hPs, a5, c5, hB5, hL5, hz5, ho5, ht5, hu5, hk5⟩; (focus (exact ⟨rfl, Rt.err (H.out.trans (bd_err hx)) (gtrans HG hg)⟩)); have hl5 := dec_len hx; have H := hid (H.out.trans (bd_ok hx)); have hHO5 := hid (hHO.out.dec0 hB5 hL5 hz5 hk5 (by omega) (by omega)); have HG := grown_dec HG hz5 ho5 ht5 hu5 hk5 (by omega) (fun g hg => by have := (hHO.out.bd 0 g hg).1; omega); have hHX := hid (show Bx 4 w.heap.size 25 w3 from by obtain ⟨cs, q1, q2⟩ := hHX.out; exact ⟨cs, q1, (hk5 w.heap.size (by omega) (by omega) (by omega) (fun q => by have := (hHO.out.bd 0 _ q).1; omega)).trans q2⟩); have HP := hPs; clear hB5 hL5 hk5 ho5 ht5 hu5 hrt hPs)))
          | (have hno := t1; (go_at_call 42; (refine (is_any _ _ D _ [114, 101, 99, 111, 114, 100] (Pst.to HP (by intro HP; with_reducible repeat first | exact HP | apply pA | refine pS (by omega) ?_))).mono ?_; rintro e w2 ⟨rfl, hb⟩; have hg := bgrown hb (some P); have hs := Pst.below (Pst.to HP (by intro HP; with_reducible repeat first | exact HP | apply pA | refine pS (by omega) ?_)) hb; obtain ⟨hcw2, hfw2⟩ := gcell hg; have hzw2 := hg.size; (try simp only [szA, szS] at hzw2); have hPw2 := hs.lt; have hleww2 := le1 w w2 (by omega); (try have hltww2 := lt1 w w2 (by omega)); have hlewrw2 := le1 wr w2 (by omega); (try have hltwrw2 := lt1 wr w2 (by omega)); have hlew1w2 := le1 w1 w2 (by omega); (try have hltw1w2 := lt1 w1 w2 (by omega)); have HG := gtrans (Gw.to HG (by intro HG; with_reducible repeat first | exact HG | apply gA | apply gB | refine gS (by omega) ?_)) hg; have HP := hs; have hGw2 := hg; have t2 := True.intro; have hHO := hid (hHO.out.call hGw2 (by omega)); have hHX := hid (Bx.call hGw2 (by omega) hHX.out); (try clear hg hs); rcases Bool.eq_false_or_eq_true (isS [114, 101, 99, 111, 114, 100] u) with hbw2 | hbw2; all_goals (first | (have H := hid (H.out.trans (if_pos hbw2)); simp only [hbw2]) | (have H := hid (H.out.trans (if_neg (by rw [hbw2]; decide))); simp only [hbw2])))))
          | (have hno := t0; (go_at_call 41; (refine (next_any _ _ D _ (Pst.to HP (by intro HP; with_reducible repeat first | exact HP | apply pA | refine pS (by omega) ?_))).mono ?_; rintro e w1 ⟨rfl, hb⟩; have hg := bgrown hb (some P); have hs := Pst.below (Pst.to HP (by intro HP; with_reducible repeat first | exact HP | apply pA | refine pS (by omega) ?_)) hb; obtain ⟨hcw1, hfw1⟩ := gcell hg; have hzw1 := hg.size; (try simp only [szA, szS] at hzw1); have hPw1 := hs.lt; have hleww1 := le1 w w1 (by omega); (try have hltww1 := lt1 w w1 (by omega)); have hlewrw1 := le1 wr w1 (by omega); (try have hltwrw1 := lt1 wr w1 (by omega)); have HG := gtrans (Gw.to HG (by intro HG; with_reducible repeat first | exact HG | apply gA | apply gB | refine gS (by omega) ?_)) hg; have HP := hs; have hGw1 := hg; have t1 := True.intro; unfold tokV; have hHO := hid (hHO.out.call hGw1 (by omega)); have hHX := hid (Bx.call hGw1 (by omega) hHX.out); (try clear hg hs))))
          )
        · go_roundg g
          case measure => omega
          exact ⟨{ t with recs := l5 }, s5, _, _, _, _, _, _, _, _, _, hHO5.out, hHX.out, by have := HLG.out; simp only []; omega, H.out, HP, HG⟩
        · go_roundg g
          case measure => omega
          exact ⟨{ t with maps := l5 }, s5, _, _, _, _, _, _, _, _, _, hHO5.out, hHX.out, by have := HLG.out; simp only []; omega, H.out, HP, HG⟩
        · go_roundg g
          case measure => omega
          exact ⟨{ t with funcs := l5 }, s5, _, _, _, _, _, _, _, _, _, hHO5.out, hHX.out, by have := HLG.out; simp only []; omega, H.out, HP, HG⟩
        · go_roundg g
          case measure => omega
          exact ⟨{ t with events := l5 }, s5, _, _, _, _, _, _, _, _, _, hHO5.out, hHX.out, by have := HLG.out; simp only []; omega, H.out, HP, HG⟩
        · exact ⟨rfl, Rt.err (H.out.trans rfl) HG⟩
end Go.Proofs.YtcnohgifihbkdaaGreatDoor

namespace Go.Proofs.YtcnohgifihbkdaaGreatDoor
open Go Go.RowKit Go.Deep Go.Shelf
set_option linter.unusedVariables false
set_option linter.unusedSimpArgs false
set_option maxRecDepth 100000
theorem asrt95 (a b : Value) (w : World) : (Instr.typeAssert (.iface 92 (.agg #[a, b])) 20 92 true).run Tryz.prog w = .ok (.tuple #[.agg #[a, b], .bool true]) w := by
  kernel_rfl
set_option maxHeartbeats 1000000 in
theorem seen_any (w : World) (a b : Int) : Calls Tryz.prog 15 #[.iface 92 (.agg #[.int .i64 a, .int .i64 b])] w fun e w' => e = .returned (.tuple #[.int .i64 a, .int .i64 b]) ∧ Below w.heap.size w w' := by
  have has := asrt95 (.int .i64 a) (.int .i64 b)
  go_enter Tryz.func15, Tryz.ntmps15
  go_wp2
  go_quiet (fail)
  go_wp2
  refine bodyPost_ret (v := .tuple #[.int .i64 a, .int .i64 b]) (by simp [results, Tryz.results15, go_sem]) rfl ⟨rfl, ?_⟩
  exact below_drewN ((Below.refl _ _).alloc (Nat.le_refl _) _) _
theorem catch_panicking (p q : Nat) (a b x y : Int) (w : World) (hp : Box p #[.int .i64 x] 3 w) (hq : Box q #[.int .i64 y] 26 w) (hpq : p ≠ q) :
    CallsD Tryz.prog 14 #[.pointer (some ⟨p, 0, none⟩), .pointer (some ⟨q, 0, none⟩)] (.panicking [{ v := .iface 92 (.agg #[.int .i64 a, .int .i64 b]), recovered := false }]) w fun e u' w' =>
      e = .returned (.tuple #[]) ∧ u' = .panicking [{ v := .iface 92 (.agg #[.int .i64 a, .int .i64 b]), recovered := true }] ∧ ∃ w1, Below w.heap.size w w1 ∧ w' = (w1.setCell ⟨p, 0, none⟩ (.int .i64 a)).setCell ⟨q, 0, none⟩ (.int .i64 b) := by
  refine callsD_of_wpS Tryz.func14 rfl fun c₀ cs hu => ?_
  apply wpS_seq
  apply wpS_region
  simp [wpOpsS, go_sem, recoverD, hu, Tryz.ntmps14, Exit.thenS]
  apply wpS_seq
  apply wpS_region
  simp [wpOpsS, go_sem, Exit.thenS]
  refine wpS_cond (t := true) (by simp [Act.eval, Array.replicate]) ?_
  simp only [if_true]
  refine wpS_of_wp ?_
  go_wp2_with (go_at_call 15; (refine (seen_any _ _ _).mono ?_; rintro e w1 ⟨rfl, hb⟩; have g1 := hp.below hb; have g2 := hq.below hb; have f1 := freeOf g1; have f2 := freeOf g2; have c1 : w1.cell? ⟨p, 0, none⟩ = some (.int .i64 x) := g1.cell rfl; have c2 : w1.cell? ⟨q, 0, none⟩ = some (.int .i64 y) := g2.cell rfl))
  simp [bodyPostS, results, Tryz.results14]
  exact ⟨w1, hb, rfl⟩
theorem catch_idle (p q : Nat) (w : World) :
    CallsD Tryz.prog 14 #[.pointer (some ⟨p, 0, none⟩), .pointer (some ⟨q, 0, none⟩)] .returning w fun e u' w' => e = .returned (.tuple #[]) ∧ u' = .returning ∧ w' = w := by
  refine callsD_of_wpS Tryz.func14 rfl fun c₀ cs hu => ?_
  apply wpS_seq
  apply wpS_region
  simp [wpOpsS, go_sem, recoverD, hu, Tryz.ntmps14, Exit.thenS]
  apply wpS_seq
  apply wpS_region
  simp [wpOpsS, go_sem, Exit.thenS]
  refine wpS_cond (t := false) (by simp [Act.eval, Array.replicate]) ?_
  simp only [Bool.false_eq_true, if_false]
  refine wpS_of_wp (wp_skip ?_)
  cases c₀
  simp_all [bodyPostS, results, Tryz.results14]
end Go.Proofs.YtcnohgifihbkdaaGreatDoor

namespace Go.Proofs.YtcnohgifihbkdaaGreatDoor.Lx
set_option linter.unusedVariables false
set_option maxRecDepth 100000
set_option linter.unusedSimpArgs false

abbrev Bs := List UInt8
structure LTok where
  kind : Nat
  text : Bs
  pos : Nat
def isBl (c : UInt8) : Bool := c == 32 || c == 9 || c == 10 || c == 13
def isLt (c : UInt8) : Bool := (decide (97 ≤ c.toNat) && decide (c.toNat ≤ 122)) || (decide (65 ≤ c.toNat) && decide (c.toNat ≤ 90)) || decide (c.toNat = 95)
def isDg (c : UInt8) : Bool := decide (48 ≤ c.toNat) && decide (c.toNat ≤ 57)
def isPt (c : UInt8) : Bool := isLt c || isDg c
def runF (p : UInt8 → Bool) : Bs → Nat
  | [] => 0
  | c :: t => if p c then runF p t + 1 else 0
def textF : Bool → Bs → Option Nat
  | e, [] => if e then some 0 else none
  | e, c :: t => if c = 34 then (textF (!e) t).map (· + 1) else if e then some 0 else (textF false t).map (· + 1)
def sg2 (a b : UInt8) : Bool := (b == 61 && (a == 61 || a == 33 || a == 60 || a == 62)) || (b == 37 && (a == 43 || a == 45 || a == 42)) || (a == 45 && b == 62)
def sg1s : Bs := [123, 125, 40, 41, 91, 93, 44, 59, 58, 46, 61, 60, 62, 43, 45, 42, 47, 37, 38]
def sg1 (a : UInt8) : Bool := sg1s.contains a
def signF : Bs → Nat
  | [] => 0
  | [a] => if sg1 a then 1 else 0
  | a :: b :: _ => if sg2 a b then 2 else if sg1 a then 1 else 0
def wordsL : List Bs := [[97, 102, 116, 101, 114], [97, 110, 100], [97, 115, 107], [98, 111, 111, 108], [98, 114, 101, 97, 107], [99, 111, 110, 116, 105, 110, 117, 101], [100, 101, 108], [100, 111], [101, 97, 99, 104], [101, 108, 115, 101], [101, 109, 105, 116], [102, 97, 108, 115, 101], [102, 110], [104, 97, 115], [105, 102], [105, 110], [105, 110, 116], [108, 101, 110], [108, 101, 116], [109, 97, 112], [110, 111, 116], [111, 110], [111, 114], [114, 101, 99, 111, 114, 100], [114, 101, 116, 117, 114, 110], [115, 116, 114], [116, 101, 120, 116], [116, 114, 117, 101], [119, 104, 105, 108, 101]]
def isWd (l : Bs) : Bool := wordsL.contains l
/- The kind and the size of the first token, or the error. -/
def firstF : Bs → Nat × Nat × Nat
  | [] => (0, 0, 51)
  | c :: t =>
    if isLt c then (if isWd ((c :: t).take (runF isPt (c :: t))) then 2 else 1, runF isPt (c :: t), 0)
    else if isDg c then (3, runF isDg (c :: t), 0)
    else if c = 34 then (match textF false t with | some n => (4, n + 1, 0) | none => (0, 0, 52))
    else if signF (c :: t) = 0 then (0, 0, 51) else (5, signF (c :: t), 0)
def unq : Bs → Bs
  | [] => []
  | [c] => [c]
  | c :: d :: t => if c = 34 ∧ d = 34 then 34 :: unq t else c :: unq (d :: t)
def tokText (kind : Nat) (p : Bs) : Bs :=
  if kind = 3 then (p.take (p.length - 1)).dropWhile (· == 48) ++ p.drop (p.length - 1)
  else if kind = 4 then unq ((p.take (p.length - 1)).drop 1) else p
def noteF (l : Bs) : Nat := runF (fun c => !(c == 10)) l
/- skip: how many bytes belong to what was told already. -/
def lexG : Nat → Nat → Bs → Except (Nat × Nat) (List LTok)
  | _, at', [] => .ok [⟨0, [], at'⟩]
  | skip + 1, at', _ :: t => lexG skip (at' + 1) t
  | 0, at', c :: t =>
    if isBl c then lexG 0 (at' + 1) t
    else if c = 35 then lexG (noteF (c :: t) - 1) (at' + 1) t
    else if (firstF (c :: t)).2.2 ≠ 0 then .error (at', (firstF (c :: t)).2.2)
    else match lexG ((firstF (c :: t)).2.1 - 1) (at' + 1) t with
      | .error e => .error e
      | .ok ts => .ok (⟨(firstF (c :: t)).1, tokText (firstF (c :: t)).1 ((c :: t).take (firstF (c :: t)).2.1), at'⟩ :: ts)
def lexT (l : Bs) : Except (Nat × Nat) (List LTok) := if 4096 < l.length then .error (0, 50) else lexG 0 0 l

/- A rune that stands at a place. -/
structure Rune (l : Bs) (pos r wd : Nat) : Prop where
  one : 1 ≤ wd
  fit : pos + wd ≤ l.length
  low : ∀ c, l[pos]? = some c → c.toNat < 128 → r = c.toNat ∧ wd = 1
  high : ∀ c, l[pos]? = some c → 128 ≤ c.toNat → 128 ≤ r
  all : ∀ c, l[pos]? = some c → 128 ≤ c.toNat → ∀ k c', k < wd → l[pos + k]? = some c' → 128 ≤ c'.toNat
  le : r ≤ 2147483647

theorem rune_at (s : ByteArray) (pos : Nat) (h : pos < s.size) : Rune s.data.toList pos (Utf8.decode s pos).1 (Utf8.decode s pos).2 := by
  rw [Lib.decode_N]
  have hl : pos < s.data.toList.length := by rw [← Lib.size_eq]; exact h
  have hle := decode_le s pos
  rw [Lib.decode_N] at hle
  generalize s.data.toList = l at *
  have hb : ∀ k, (l.getD k 0).toNat < 256 := fun k => (l.getD k 0).toNat_lt
  have h0 := hb pos; have h1 := hb (pos + 1); have h2 := hb (pos + 2); have h3 := hb (pos + 3)
  have g : ∀ k c, l[k]? = some c → l.getD k 0 = c := fun k c e => by rw [List.getD_eq_getElem?_getD, e]; rfl
  have e0 : l[pos]? = some (l.getD pos 0) := by rw [List.getD_eq_getElem?_getD, List.getElem?_eq_getElem hl]; rfl
  by_cases ha : (l.getD pos 0).toNat < 128
  · rw [Lib.decodeN_ascii _ _ _ _ _ ha] at hle ⊢
    exact ⟨by simp, by simp; omega, fun c e _ => by rw [g _ _ e]; exact ⟨rfl, rfl⟩, fun c e h => by rw [g _ _ e] at ha; omega, fun c e h => by rw [g _ _ e] at ha; omega, hle⟩
  · have key : 1 ≤ (Lib.decodeN (l.length - pos) (l.getD pos 0).toNat (l.getD (pos + 1) 0).toNat (l.getD (pos + 2) 0).toNat (l.getD (pos + 3) 0).toNat).2 ∧
        (Lib.decodeN (l.length - pos) (l.getD pos 0).toNat (l.getD (pos + 1) 0).toNat (l.getD (pos + 2) 0).toNat (l.getD (pos + 3) 0).toNat).2 ≤ l.length - pos ∧
        128 ≤ (Lib.decodeN (l.length - pos) (l.getD pos 0).toNat (l.getD (pos + 1) 0).toNat (l.getD (pos + 2) 0).toNat (l.getD (pos + 3) 0).toNat).1 ∧
        ∀ k, k < (Lib.decodeN (l.length - pos) (l.getD pos 0).toNat (l.getD (pos + 1) 0).toNat (l.getD (pos + 2) 0).toNat (l.getD (pos + 3) 0).toNat).2 → 128 ≤ (l.getD (pos + k) 0).toNat := by
      generalize hb0 : (l.getD pos 0).toNat = b0 at *
      generalize hb1 : (l.getD (pos + 1) 0).toNat = b1 at *
      generalize hb2 : (l.getD (pos + 2) 0).toNat = b2 at *
      generalize hb3 : (l.getD (pos + 3) 0).toNat = b3 at *
      have hk : ∀ wd, wd ≤ 4 → (1 ≤ wd → 128 ≤ b0) → (2 ≤ wd → 128 ≤ b1) → (3 ≤ wd → 128 ≤ b2) → (4 ≤ wd → 128 ≤ b3) → ∀ k, k < wd → 128 ≤ (l.getD (pos + k) 0).toNat := by
        intro wd hw k0 k1 k2 k3 k hk
        match k, hk with
        | 0, hk => rw [Nat.add_zero, hb0]; exact k0 (by omega)
        | 1, hk => rw [hb1]; exact k1 (by omega)
        | 2, hk => rw [hb2]; exact k2 (by omega)
        | 3, hk => rw [hb3]; exact k3 (by omega)
        | n + 4, hk => omega
      simp only [Lib.decodeN]
      repeat' split
      all_goals simp_all [Utf8.runeError]
      all_goals first
        | omega
        | (refine ⟨by omega, by omega, hk _ (by omega) ?_ ?_ ?_⟩ <;> intro _ <;> omega)
        | (refine ⟨by omega, hk _ (by omega) ?_ ?_ ?_⟩ <;> intro _ <;> omega)
        | (refine hk _ (by omega) ?_ ?_ ?_ <;> intro _ <;> omega)
        | skip
    exact ⟨key.1, by omega, fun c e h => by rw [← g _ _ e] at h; exact absurd h ha, fun c e h => key.2.2.1, fun c e h k c' hk e' => by rw [← g _ _ e']; exact key.2.2.2 k hk, hle⟩
end Go.Proofs.YtcnohgifihbkdaaGreatDoor.Lx

namespace Go.Proofs.YtcnohgifihbkdaaGreatDoor.Lx
open Go.RowKit Go.Deep
set_option linter.unusedVariables false
set_option maxRecDepth 100000
set_option linter.unusedSimpArgs false

theorem hid {p : Prop} (h : p) : Hid p := h
theorem ret_bool {a b : Bool} (h : a = true ↔ b = true) : Ending.returned (.bool a) = .returned (.bool b) := congrArg _ (congrArg _ (Bool.eq_iff_iff.2 h))
def blI (r : Int) : Bool := decide (r = 32) || decide (r = 9) || decide (r = 10) || decide (r = 13)
def ltI (r : Int) : Bool := (decide (97 ≤ r) && decide (r ≤ 122)) || (decide (65 ≤ r) && decide (r ≤ 90)) || decide (r = 95)
def dgI (r : Int) : Bool := decide (48 ≤ r) && decide (r ≤ 57)
def ptI (r : Int) : Bool := ltI r || dgI r

theorem isBlank_any (r : Int) (w : World) : Calls Tryz.prog 37 #[.int .i32 r] w fun e w' => e = .returned (.bool (blI r)) ∧ w' = w := by
  go_enter Tryz.func37, Tryz.ntmps37
  go_wp2
  all_goals (go_ret; refine ⟨ret_bool ?_, rfl⟩; simp [blI]; try omega)
theorem isLetter_any (r : Int) (w : World) : Calls Tryz.prog 65 #[.int .i32 r] w fun e w' => e = .returned (.bool (ltI r)) ∧ w' = w := by
  go_enter Tryz.func65, Tryz.ntmps65
  go_wp2
  all_goals (go_ret; refine ⟨ret_bool ?_, rfl⟩; simp [ltI]; try omega)
theorem isDigit_any (r : Int) (w : World) : Calls Tryz.prog 69 #[.int .i32 r] w fun e w' => e = .returned (.bool (dgI r)) ∧ w' = w := by
  go_enter Tryz.func69, Tryz.ntmps69
  go_wp2
  all_goals (go_ret; refine ⟨ret_bool ?_, rfl⟩; simp [dgI]; try omega)
theorem isPart_any (r : Int) (w : World) : Calls Tryz.prog 66 #[.int .i32 r] w fun e w' => e = .returned (.bool (ptI r)) ∧ w' = w := by
  have h1 := isLetter_any r
  have h2 := isDigit_any r
  cases e1 : ltI r
  · simp only [e1] at h1
    go_enter Tryz.func66, Tryz.ntmps66
    go_wp2_with (first | (go_at_call 65; refine (h1 _).mono ?_; rintro e w ⟨rfl, rfl⟩) | (go_at_call 69; refine (h2 _).mono ?_; rintro e w ⟨rfl, rfl⟩))
    all_goals (go_ret; exact ⟨by simp [ptI, e1], rfl⟩)
  · simp only [e1] at h1
    go_enter Tryz.func66, Tryz.ntmps66
    go_wp2_with (first | (go_at_call 65; refine (h1 _).mono ?_; rintro e w ⟨rfl, rfl⟩) | (go_at_call 69; refine (h2 _).mono ?_; rintro e w ⟨rfl, rfl⟩))
    all_goals (go_ret; exact ⟨by simp [ptI, e1], rfl⟩)
theorem notNl_any (r : Int) (w : World) : Calls Tryz.prog 64 #[.int .i32 r] w fun e w' => e = .returned (.bool (!decide (r = 10))) ∧ w' = w := by
  go_enter Tryz.func64, Tryz.ntmps64
  go_wp2
  all_goals (go_ret; refine ⟨ret_bool ?_, rfl⟩; simp; try omega)
end Go.Proofs.YtcnohgifihbkdaaGreatDoor.Lx

namespace Go.Proofs.YtcnohgifihbkdaaGreatDoor.Lx
open Go.RowKit Go.Deep
set_option linter.unusedVariables false
set_option linter.unusedSimpArgs false

theorem runF_all (p : UInt8 → Bool) : ∀ (n : Nat) (l : Bs), n ≤ l.length → (∀ k c, k < n → l[k]? = some c → p c = true) → runF p l = n + runF p (l.drop n)
  | 0, l, _, _ => by simp
  | n + 1, [], h, _ => by simp at h
  | n + 1, c :: t, h, hc => by
    have h0 := hc 0 c (by omega) rfl
    have := runF_all p n t (by simpa using h) (fun k d hk e => hc (k + 1) d (by omega) e)
    simp only [runF, h0, if_true, this, List.drop_succ_cons]
    omega
theorem runF_le (p : UInt8 → Bool) : ∀ l, runF p l ≤ l.length
  | [] => Nat.le_refl _
  | c :: t => by
    have := runF_le p t
    simp only [runF]
    split <;> simp <;> omega
theorem Rune.lt {l : Bs} {pos r wd : Nat} (R : Rune l pos r wd) : pos < l.length := by have := R.one; have := R.fit; omega
theorem Rune.at {l : Bs} {pos r wd : Nat} (R : Rune l pos r wd) : ∃ c, l[pos]? = some c ∧ l.drop pos = c :: l.drop (pos + 1) :=
  ⟨l[pos]'R.lt, List.getElem?_eq_getElem R.lt, List.drop_eq_getElem_cons R.lt⟩
theorem runF_step {l : Bs} {pos r wd : Nat} (R : Rune l pos r wd) (q : Int → Bool) (hh : ∀ a b : Int, 128 ≤ a → 128 ≤ b → q a = q b) :
    (q r = true → runF (fun c => q c.toNat) (l.drop pos) = wd + runF (fun c => q c.toNat) (l.drop (pos + wd))) ∧ (q r = false → runF (fun c => q c.toNat) (l.drop pos) = 0) := by
  obtain ⟨c, e, hd⟩ := R.at
  have hqc : q r = q c.toNat := by
    by_cases hc : c.toNat < 128
    · rw [(R.low c e hc).1]
    · exact hh _ _ (by have := R.high c e (by omega); omega) (by omega)
  constructor
  · intro h
    have hall := runF_all (fun c => q c.toNat) wd (l.drop pos) (by rw [List.length_drop]; have := R.fit; omega) (fun k d hk ek => by
      rw [List.getElem?_drop] at ek
      show q d.toNat = true
      by_cases hc : c.toNat < 128
      · have := (R.low c e hc).2
        have hk0 : k = 0 := by omega
        subst hk0
        rw [Nat.add_zero, e] at ek; cases ek
        rw [← hqc]; exact h
      · have := R.all c e (by omega) k d hk ek
        rw [hh _ (c.toNat : Int) (by omega) (by omega), ← hqc]; exact h)
    rw [hall, List.drop_drop]
  · intro h
    rw [hd]
    have : q c.toNat = false := by rw [← hqc]; exact h
    simp [runF, this]

set_option maxRecDepth 100000 in
theorem run_any (s : ByteArray) (g : Nat) (lb : Array Value) (q : Int → Bool) (hs : s.size ≤ 9223372036854775807) (hh : ∀ a b : Int, 128 ≤ a → 128 ≤ b → q a = q b) (eg : ∀ args w, (callFunc g args).run Tryz.prog w = .ok (.enter g args) w)
    (hg : ∀ (r : Int) (w : World), Calls Tryz.prog g (#[.int .i32 r] ++ lb) w fun e w' => e = .returned (.bool (q r)) ∧ w' = w) (w : World) :
    Calls Tryz.prog 63 #[.string s, .func (.func g) #[] lb] w fun e w' => e = .returned (.int .i64 (runF (fun c => q c.toNat) s.data.toList : Nat)) ∧ Below w.heap.size w w' := by
  go_enter Tryz.func63, Tryz.ntmps63
  go_wp2
  go_loopg [] s.size (fun gf wx => ∃ pos : Nat, wx.heap[w.heap.size]? = some (.stringIter s pos) ∧ Below w.heap.size w wx ∧ pos + runF (fun c => q c.toNat) (s.data.toList.drop pos) = runF (fun c => q c.toNat) s.data.toList ∧ s.size ≤ pos + gf ∧ pos ≤ s.size)
  case atStart => exact ⟨0, World.iter_heap w s 0, (Below.refl _ w).alloc (Nat.le_refl _) _, by simp, by omega, by omega⟩
  case round =>
    obtain ⟨pos, hit, hbw, hleft, hfu, hle⟩ := hrel
    by_cases hps : pos < s.size
    · obtain ⟨g', rfl⟩ : ∃ g', gk = g' + 1 := ⟨gk - 1, by omega⟩
      have hnx : ∀ ty, (Instr.next (.pointer (some ⟨w.heap.size, 0, none⟩)) true ty).run Tryz.prog wr = _ := fun ty => Lib.run_next_any_at wr w.heap.size s pos ty hit hps
      have hR := rune_at s pos hps
      obtain ⟨R, hRe⟩ : ∃ R, (Utf8.decode s pos).1 = R := ⟨_, rfl⟩
      obtain ⟨K, hK⟩ : ∃ K, (Utf8.decode s pos).2 = K := ⟨_, rfl⟩
      rw [hRe, hK] at hnx hR
      have hit2 := Lib.iterAt_heap wr w.heap.size s pos (pos + K) hit
      have hbw2 := Lib.below_iterAt hbw (k := w.heap.size) (Nat.le_refl _) s (pos + K)
      obtain ⟨W, hWd⟩ : ∃ W, wr.iterAt w.heap.size s (pos + K) = W := ⟨_, rfl⟩
      rw [hWd] at hnx hit2 hbw2
      have hst := runF_step hR q hh
      have h1 := hR.one
      have h2 := hR.fit
      rw [← Lib.size_eq] at h2
      have cS := hg R W
      cases hsp : q R <;> rw [hsp] at cS
      · have h3 := hst.2 hsp
        have HX := hid hleft
        clear hg hR hst hleft
        go_wp2_with (go_at_fn g; refine cS.mono ?_; rintro e W' ⟨rfl, rfl⟩)
        go_ret
        refine ⟨?_, hbw2⟩
        rw [← HX.out, h3]; rfl
      · have h3 := hst.1 hsp
        have HX := hid hleft
        have H3 := hid h3
        clear hg hR hst hleft h3
        go_wp2_with (go_at_fn g; refine cS.mono ?_; rintro e W' ⟨rfl, rfl⟩)
        go_roundg g'
        case measure => omega
        case rel => exact ⟨pos + K, hit2, hbw2, by have := HX.out; have := H3.out; omega, by omega, by omega⟩
    · have hnx : ∀ ty, (Instr.next (.pointer (some ⟨w.heap.size, 0, none⟩)) true ty).run Tryz.prog wr = _ := fun ty => Lib.run_next_end_at wr w.heap.size s pos ty hit hps
      have HX := hid hleft
      have : pos = s.size := by omega
      have hn : s.data.toList.drop pos = [] := List.drop_eq_nil_of_le (by rw [← Lib.size_eq]; omega)
      have HN := hid hn
      have HP := hid this
      clear hg hleft hn this
      go_wp2
      go_ret
      refine ⟨?_, hbw⟩
      rw [← HX.out, HN.out, HP.out]; simp [runF]
end Go.Proofs.YtcnohgifihbkdaaGreatDoor.Lx

