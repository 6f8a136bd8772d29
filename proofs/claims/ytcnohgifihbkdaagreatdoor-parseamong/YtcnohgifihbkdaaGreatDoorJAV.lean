/- The parser: a source. -/
import Derived.Test.YtcnohgifihbkdaaGreatDoorJAU
import Derived.Recover
import Derived.Defers
import Derived.Shelf.Strconv.ErrVarParseInt
import Derived.Lib.ParseIntBTie
import Derived.Test.YtcnohgifihbkdaaGreatDoorChecked
namespace Go.Proofs.YtcnohgifihbkdaaGreatDoor
open Go.RowKit Go.Deep Go.Shelf
set_option linter.unusedVariables false
set_option linter.unusedSimpArgs false
set_option maxRecDepth 100000
structure Fo (lo T : Nat) (w : World) (t : PTr) (a0 a1 a2 a3 : Option Addr) (k0 k1 k2 k3 : Nat) (A : Nat → Nat → Prop) : Prop where
  bx : Box T #[.slice a0 t.recs.length k0, .slice a1 t.maps.length k1, .slice a2 t.funcs.length k2, .slice a3 t.events.length k3] 25 w
  l0 : Lst 51 7 LD w (A 0) (.slice a0 t.recs.length k0) t.recs
  l1 : Lst 51 7 LD w (A 1) (.slice a1 t.maps.length k1) t.maps
  l2 : Lst 51 7 LD w (A 2) (.slice a2 t.funcs.length k2) t.funcs
  l3 : Lst 51 7 LD w (A 3) (.slice a3 t.events.length k3) t.events
  bd : ∀ i g, A i g → lo ≤ g ∧ g < w.heap.size
  dj : ∀ i j g, A i g → A j g → i = j
  tl : T < lo
section
variable {lo T : Nat} {w w' : World} {t : PTr} {a0 a1 a2 a3 : Option Addr} {k0 k1 k2 k3 : Nat} {A : Nat → Nat → Prop}
theorem Fo.keep (h : Fo lo T w t a0 a1 a2 a3 k0 k1 k2 k3 A) (hz : w.heap.size ≤ w'.heap.size) (hT : w'.heap[T]? = w.heap[T]?) (k : ∀ g, lo ≤ g → g < w.heap.size → w'.heap[g]? = w.heap[g]?) : Fo lo T w' t a0 a1 a2 a3 k0 k1 k2 k3 A :=
  ⟨hT.trans h.bx, h.l0.mv LD_mv (fun g hg => k g (h.bd 0 g hg).1 (h.bd 0 g hg).2) (fun g hg => hg), h.l1.mv LD_mv (fun g hg => k g (h.bd 1 g hg).1 (h.bd 1 g hg).2) (fun g hg => hg), h.l2.mv LD_mv (fun g hg => k g (h.bd 2 g hg).1 (h.bd 2 g hg).2) (fun g hg => hg), h.l3.mv LD_mv (fun g hg => k g (h.bd 3 g hg).1 (h.bd 3 g hg).2) (fun g hg => hg), fun i g hg => ⟨(h.bd i g hg).1, by have := (h.bd i g hg).2; omega⟩, h.dj, h.tl⟩
theorem Fo.call {P : Nat} (h : Fo lo T w t a0 a1 a2 a3 k0 k1 k2 k3 A) (hg : w.grownBy w' (some P)) (hP : P < T) : Fo lo T w' t a0 a1 a2 a3 k0 k1 k2 k3 A :=
  h.keep hg.size (hg.block T h.bx.lt (fun e => by have := Option.some.inj e; omega)) (fun g q1 q2 => hg.block g q2 (fun e => by have := Option.some.inj e; have := h.tl; omega))
theorem Fo.dec0 {P : Nat} {l' : List PDc} {a' : Option Addr} {c' : Nat} (h : Fo lo T w t a0 a1 a2 a3 k0 k1 k2 k3 A) (hB : Box T ((#[.slice a0 t.recs.length k0, .slice a1 t.maps.length k1, .slice a2 t.funcs.length k2, .slice a3 t.events.length k3] : Array Value).setIfInBounds 0 (.slice a' l'.length c')) 25 w') (hL : Lst 51 7 LD w' (fun g => A 0 g ∨ (w.heap.size ≤ g ∧ g < w'.heap.size)) (.slice a' l'.length c') l') (hz : w.heap.size ≤ w'.heap.size) (hk : ∀ g, g < w.heap.size → g ≠ P → g ≠ T → ¬ A 0 g → w'.heap[g]? = w.heap[g]?) (hP : P < T) (hlo : lo ≤ w.heap.size) : Fo lo T w' { t with recs := l' } a' a1 a2 a3 c' k1 k2 k3 (fun i g => A i g ∨ (i = 0 ∧ w.heap.size ≤ g ∧ g < w'.heap.size)) := by
  refine ⟨by simpa using hB, hL.mv LD_mv (Same.refl _ _) (fun g hg => hg.elim .inl (fun q => .inr ⟨rfl, q⟩)), h.l1.mv LD_mv (fun g hg => hk g (h.bd 1 g hg).2 (by have := (h.bd 1 g hg).1; have := h.tl; omega) (by have := (h.bd 1 g hg).1; have := h.tl; omega) (fun q => absurd (h.dj 1 0 g hg q) (by decide))) (fun g hg => .inl hg), h.l2.mv LD_mv (fun g hg => hk g (h.bd 2 g hg).2 (by have := (h.bd 2 g hg).1; have := h.tl; omega) (by have := (h.bd 2 g hg).1; have := h.tl; omega) (fun q => absurd (h.dj 2 0 g hg q) (by decide))) (fun g hg => .inl hg), h.l3.mv LD_mv (fun g hg => hk g (h.bd 3 g hg).2 (by have := (h.bd 3 g hg).1; have := h.tl; omega) (by have := (h.bd 3 g hg).1; have := h.tl; omega) (fun q => absurd (h.dj 3 0 g hg q) (by decide))) (fun g hg => .inl hg), fun i g hg => ?_, fun i j g hi hj => ?_, h.tl⟩
  · rcases hg with hg | ⟨_, q1, q2⟩
    · exact ⟨(h.bd i g hg).1, by have := (h.bd i g hg).2; omega⟩
    · exact ⟨by have := h.bx.lt; have := h.tl; have := hlo; omega, q2⟩
  · rcases hi with hi | ⟨e1, q1, q2⟩ <;> rcases hj with hj | ⟨e2, q3, q4⟩
    · exact h.dj i j g hi hj
    · have := (h.bd i g hi).2; omega
    · have := (h.bd j g hj).2; omega
    · rw [e1, e2]
theorem Fo.dec1 {P : Nat} {l' : List PDc} {a' : Option Addr} {c' : Nat} (h : Fo lo T w t a0 a1 a2 a3 k0 k1 k2 k3 A) (hB : Box T ((#[.slice a0 t.recs.length k0, .slice a1 t.maps.length k1, .slice a2 t.funcs.length k2, .slice a3 t.events.length k3] : Array Value).setIfInBounds 1 (.slice a' l'.length c')) 25 w') (hL : Lst 51 7 LD w' (fun g => A 1 g ∨ (w.heap.size ≤ g ∧ g < w'.heap.size)) (.slice a' l'.length c') l') (hz : w.heap.size ≤ w'.heap.size) (hk : ∀ g, g < w.heap.size → g ≠ P → g ≠ T → ¬ A 1 g → w'.heap[g]? = w.heap[g]?) (hP : P < T) (hlo : lo ≤ w.heap.size) : Fo lo T w' { t with maps := l' } a0 a' a2 a3 k0 c' k2 k3 (fun i g => A i g ∨ (i = 1 ∧ w.heap.size ≤ g ∧ g < w'.heap.size)) := by
  refine ⟨by simpa using hB, h.l0.mv LD_mv (fun g hg => hk g (h.bd 0 g hg).2 (by have := (h.bd 0 g hg).1; have := h.tl; omega) (by have := (h.bd 0 g hg).1; have := h.tl; omega) (fun q => absurd (h.dj 0 1 g hg q) (by decide))) (fun g hg => .inl hg), hL.mv LD_mv (Same.refl _ _) (fun g hg => hg.elim .inl (fun q => .inr ⟨rfl, q⟩)), h.l2.mv LD_mv (fun g hg => hk g (h.bd 2 g hg).2 (by have := (h.bd 2 g hg).1; have := h.tl; omega) (by have := (h.bd 2 g hg).1; have := h.tl; omega) (fun q => absurd (h.dj 2 1 g hg q) (by decide))) (fun g hg => .inl hg), h.l3.mv LD_mv (fun g hg => hk g (h.bd 3 g hg).2 (by have := (h.bd 3 g hg).1; have := h.tl; omega) (by have := (h.bd 3 g hg).1; have := h.tl; omega) (fun q => absurd (h.dj 3 1 g hg q) (by decide))) (fun g hg => .inl hg), fun i g hg => ?_, fun i j g hi hj => ?_, h.tl⟩
  · rcases hg with hg | ⟨_, q1, q2⟩
    · exact ⟨(h.bd i g hg).1, by have := (h.bd i g hg).2; omega⟩
    · exact ⟨by have := h.bx.lt; have := h.tl; have := hlo; omega, q2⟩
  · rcases hi with hi | ⟨e1, q1, q2⟩ <;> rcases hj with hj | ⟨e2, q3, q4⟩
    · exact h.dj i j g hi hj
    · have := (h.bd i g hi).2; omega
    · have := (h.bd j g hj).2; omega
    · rw [e1, e2]
theorem Fo.dec2 {P : Nat} {l' : List PDc} {a' : Option Addr} {c' : Nat} (h : Fo lo T w t a0 a1 a2 a3 k0 k1 k2 k3 A) (hB : Box T ((#[.slice a0 t.recs.length k0, .slice a1 t.maps.length k1, .slice a2 t.funcs.length k2, .slice a3 t.events.length k3] : Array Value).setIfInBounds 2 (.slice a' l'.length c')) 25 w') (hL : Lst 51 7 LD w' (fun g => A 2 g ∨ (w.heap.size ≤ g ∧ g < w'.heap.size)) (.slice a' l'.length c') l') (hz : w.heap.size ≤ w'.heap.size) (hk : ∀ g, g < w.heap.size → g ≠ P → g ≠ T → ¬ A 2 g → w'.heap[g]? = w.heap[g]?) (hP : P < T) (hlo : lo ≤ w.heap.size) : Fo lo T w' { t with funcs := l' } a0 a1 a' a3 k0 k1 c' k3 (fun i g => A i g ∨ (i = 2 ∧ w.heap.size ≤ g ∧ g < w'.heap.size)) := by
  refine ⟨by simpa using hB, h.l0.mv LD_mv (fun g hg => hk g (h.bd 0 g hg).2 (by have := (h.bd 0 g hg).1; have := h.tl; omega) (by have := (h.bd 0 g hg).1; have := h.tl; omega) (fun q => absurd (h.dj 0 2 g hg q) (by decide))) (fun g hg => .inl hg), h.l1.mv LD_mv (fun g hg => hk g (h.bd 1 g hg).2 (by have := (h.bd 1 g hg).1; have := h.tl; omega) (by have := (h.bd 1 g hg).1; have := h.tl; omega) (fun q => absurd (h.dj 1 2 g hg q) (by decide))) (fun g hg => .inl hg), hL.mv LD_mv (Same.refl _ _) (fun g hg => hg.elim .inl (fun q => .inr ⟨rfl, q⟩)), h.l3.mv LD_mv (fun g hg => hk g (h.bd 3 g hg).2 (by have := (h.bd 3 g hg).1; have := h.tl; omega) (by have := (h.bd 3 g hg).1; have := h.tl; omega) (fun q => absurd (h.dj 3 2 g hg q) (by decide))) (fun g hg => .inl hg), fun i g hg => ?_, fun i j g hi hj => ?_, h.tl⟩
  · rcases hg with hg | ⟨_, q1, q2⟩
    · exact ⟨(h.bd i g hg).1, by have := (h.bd i g hg).2; omega⟩
    · exact ⟨by have := h.bx.lt; have := h.tl; have := hlo; omega, q2⟩
  · rcases hi with hi | ⟨e1, q1, q2⟩ <;> rcases hj with hj | ⟨e2, q3, q4⟩
    · exact h.dj i j g hi hj
    · have := (h.bd i g hi).2; omega
    · have := (h.bd j g hj).2; omega
    · rw [e1, e2]
theorem Fo.dec3 {P : Nat} {l' : List PDc} {a' : Option Addr} {c' : Nat} (h : Fo lo T w t a0 a1 a2 a3 k0 k1 k2 k3 A) (hB : Box T ((#[.slice a0 t.recs.length k0, .slice a1 t.maps.length k1, .slice a2 t.funcs.length k2, .slice a3 t.events.length k3] : Array Value).setIfInBounds 3 (.slice a' l'.length c')) 25 w') (hL : Lst 51 7 LD w' (fun g => A 3 g ∨ (w.heap.size ≤ g ∧ g < w'.heap.size)) (.slice a' l'.length c') l') (hz : w.heap.size ≤ w'.heap.size) (hk : ∀ g, g < w.heap.size → g ≠ P → g ≠ T → ¬ A 3 g → w'.heap[g]? = w.heap[g]?) (hP : P < T) (hlo : lo ≤ w.heap.size) : Fo lo T w' { t with events := l' } a0 a1 a2 a' k0 k1 k2 c' (fun i g => A i g ∨ (i = 3 ∧ w.heap.size ≤ g ∧ g < w'.heap.size)) := by
  refine ⟨by simpa using hB, h.l0.mv LD_mv (fun g hg => hk g (h.bd 0 g hg).2 (by have := (h.bd 0 g hg).1; have := h.tl; omega) (by have := (h.bd 0 g hg).1; have := h.tl; omega) (fun q => absurd (h.dj 0 3 g hg q) (by decide))) (fun g hg => .inl hg), h.l1.mv LD_mv (fun g hg => hk g (h.bd 1 g hg).2 (by have := (h.bd 1 g hg).1; have := h.tl; omega) (by have := (h.bd 1 g hg).1; have := h.tl; omega) (fun q => absurd (h.dj 1 3 g hg q) (by decide))) (fun g hg => .inl hg), h.l2.mv LD_mv (fun g hg => hk g (h.bd 2 g hg).2 (by have := (h.bd 2 g hg).1; have := h.tl; omega) (by have := (h.bd 2 g hg).1; have := h.tl; omega) (fun q => absurd (h.dj 2 3 g hg q) (by decide))) (fun g hg => .inl hg), hL.mv LD_mv (Same.refl _ _) (fun g hg => hg.elim .inl (fun q => .inr ⟨rfl, q⟩)), fun i g hg => ?_, fun i j g hi hj => ?_, h.tl⟩
  · rcases hg with hg | ⟨_, q1, q2⟩
    · exact ⟨(h.bd i g hg).1, by have := (h.bd i g hg).2; omega⟩
    · exact ⟨by have := h.bx.lt; have := h.tl; have := hlo; omega, q2⟩
  · rcases hi with hi | ⟨e1, q1, q2⟩ <;> rcases hj with hj | ⟨e2, q3, q4⟩
    · exact h.dj i j g hi hj
    · have := (h.bd i g hi).2; omega
    · have := (h.bd j g hj).2; omega
    · rw [e1, e2]
end
theorem DcQ.cases {w w' : World} {P D T j : Nat} {cs : Array Value} {A : Nat → Prop} {r : Except Flt (List PDc × PS)} {e : Ending} (h : DcQ w P D T j cs A r e w') : (∃ f, r = .error f ∧ e = .panicked [fltV f] ∧ w.grownBy w' (some P)) ∨ (∃ l' s', r = .ok (l', s') ∧ e = .returned (.tuple #[]) ∧ Pst w' P D s' ∧ ∃ (a' : Option Addr) (c' : Nat), Box T (cs.setIfInBounds j (.slice a' l'.length c')) 25 w' ∧ Lst 51 7 LD w' (fun g => A g ∨ (w.heap.size ≤ g ∧ g < w'.heap.size)) (.slice a' l'.length c') l' ∧ w.heap.size ≤ w'.heap.size ∧ w'.os = w.os ∧ w'.tape = w.tape ∧ w'.output = w.output ∧ ∀ g, g < w.heap.size → g ≠ P → g ≠ T → ¬ A g → w'.heap[g]? = w.heap[g]?) := by
  cases r with
  | error f => exact .inl ⟨f, rfl, h.1, h.2⟩
  | ok x => exact .inr ⟨x.1, x.2, rfl, h.1, h.2⟩
theorem grown_dec {w wr w' : World} {P T : Nat} {A : Nat → Prop} (HG : w.grownBy wr (some P)) (hz : wr.heap.size ≤ w'.heap.size) (h1 : w'.os = wr.os) (h2 : w'.tape = wr.tape) (h3 : w'.output = wr.output) (hk : ∀ g, g < wr.heap.size → g ≠ P → g ≠ T → ¬ A g → w'.heap[g]? = wr.heap[g]?) (hT : w.heap.size ≤ T) (hA : ∀ g, A g → w.heap.size ≤ g) : w.grownBy w' (some P) :=
  ⟨h1.trans HG.os, h2.trans HG.tape, h3.trans HG.output, Nat.le_trans HG.size hz, fun j hj hne => (hk j (by have := HG.size; omega) (fun e => hne (by rw [e])) (by omega) (fun q => by have := hA j q; omega)).trans (HG.block j hj hne)⟩
theorem four_of {α : Type} : ∀ (l : List α), l.length = 4 → ∃ a b c d, l = [a, b, c, d]
  | [a, b, c, d], _ => ⟨a, b, c, d, rfl⟩
def RTr (w : World) (A : Nat → Prop) (v : Value) (t : PTr) : Prop := ∃ (v0 v1 v2 v3 : Value), v = .agg #[v0, v1, v2, v3] ∧ Lst 51 7 LD w A v0 t.recs ∧ Lst 51 7 LD w A v1 t.maps ∧ Lst 51 7 LD w A v2 t.funcs ∧ Lst 51 7 LD w A v3 t.events
theorem ret4 {fn : Func} {R : Ending → World → Prop} {a : Act} {W : World} {i b : Nat} {x0 x1 x2 x3 : Value} (hres : fn.results = #[.cell i 25]) (hs : a.tmps[i]?.getD undef = .pointer (some ⟨b, 0, none⟩)) (hb : Box b #[x0, x1, x2, x3] 25 W) (hd : a.defers = []) (hR : R (.returned (.agg #[x0, x1, x2, x3])) W) : bodyPost Tryz.prog fn R .ret a W := by
  have c0 := hb.cell (i := 0) rfl
  have c1 := hb.cell (i := 1) rfl
  have c2 := hb.cell (i := 2) rfl
  have c3 := hb.cell (i := 3) rfl
  exact bodyPost_ret (v := .agg #[x0, x1, x2, x3]) (by simp [results, hres, go_sem, hs, c0, c1, c2, c3]) hd hR
theorem Bx.put4 {b : Nat} {x0 x1 x2 x3 : Value} {T : TypeId} {w : World} (h : Bx 4 b T w) : Box b #[x0, x1, x2, x3] T ((((w.setCell ⟨b, 0, none⟩ x0).setCell ⟨b, 1, none⟩ x1).setCell ⟨b, 2, none⟩ x2).setCell ⟨b, 3, none⟩ x3) := by
  obtain ⟨⟨l⟩, h1, h2⟩ := h
  match l, h1 with
  | [_, _, _, _], _ => exact h2.put4
theorem dec_len {l l' : List PDc} {rest : Pr PDc} {s s' : PS} (h : declare l rest s = .ok (l', s')) : l'.length = l.length + 1 := by
  obtain ⟨tk, s1, h1, h2⟩ := bd_inv (show bd take (fun w => bd rest fun d => ret (l ++ [d.setAt w.pos])) { s with sur := decide (l.length = 16) } = .ok (l', s') from h)
  obtain ⟨d, s2, h3, h4⟩ := bd_inv h2
  cases h4
  simp
set_option maxHeartbeats 4000000 in
theorem source_any (w : World) (P D n : Nat) (s : PS) (HP : Pst w P D s) (hn : n ≤ 10000) (HN : NumC) (HF : Fed (sourceL n n ⟨[], [], [], []⟩ s)) : Calls Tryz.prog 17 #[.pointer (some ⟨P, 0, none⟩)] w (Rt RTr P D w (sourceL n n ⟨[], [], [], []⟩ s)) := by
  have HG := World.grownBy.refl w (some P)
  have hPw := HP.lt
  have hD := HP.dw
  have hPD := HP.pd
  have t0 := True.intro
  have hmf : ∀ (fn : Fn) (first cap : Array Value) (w : World), (Instr.makeFunc fn first cap).run Tryz.prog w = .ok (.func fn first cap) w := fun _ _ _ _ => rfl
  have HF := hid HF
  have HN := hid HN
  go_enter Tryz.func17, Tryz.ntmps17
  go_wp2
  go_loopg [] n (fun g wr => ∃ (t : PTr) (u : PS) (a0 a1 a2 a3 : Option Addr) (k0 k1 k2 k3 : Nat) (A : Nat → Nat → Prop), Fo (w.heap.size + 2) (w.heap.size + 1) wr t a0 a1 a2 a3 k0 k1 k2 k3 A ∧ Bx 4 w.heap.size 25 wr ∧ t.recs.length + t.maps.length + t.funcs.length + t.events.length + g = n ∧ sourceL n n ⟨[], [], [], []⟩ s = sourceL n g t u ∧ Pst wr P D u ∧ w.grownBy wr (some P))
  case atStart => exact ⟨⟨[], [], [], []⟩, s, none, none, none, none, 0, 0, 0, 0, fun _ _ => False, ⟨by have q := Box.new (w.alloc (.cells #[.slice none 0 0, .slice none 0 0, .slice none 0 0, .slice none 0 0] 25)) #[.slice none 0 0, .slice none 0 0, .slice none 0 0, .slice none 0 0] 25; rw [World.size_alloc] at q; exact q, Lst.nil _ _ _ _ _, Lst.nil _ _ _ _ _, Lst.nil _ _ _ _ _, Lst.nil _ _ _ _ _, fun _ _ h => h.elim, fun _ _ _ h => h.elim, by omega⟩, ⟨_, rfl, (Box.new w #[.slice none 0 0, .slice none 0 0, .slice none 0 0, .slice none 0 0] 25).alloc _⟩, by simp, rfl, (HP.alloc _).alloc _, grown_alloc (grown_alloc HG _) _⟩
  case round =>
    obtain ⟨t, u, a0, a1, a2, a3, k0, k1, k2, k3, A, HO, HX, hlg, ho, HP, HG⟩ := hrel
    have hgz := HG.size
    have hTw := HO.bx.lt
    have hHO := hid HO
    have hHX := hid HX
    have HLG := hid hlg
    cases gk with
    | zero => exact absurd (ho.trans rfl) HF.out
    | succ g =>
      have H := hid (show sourceL n n ⟨[], [], [], []⟩ s = if (nxt u).kind = 0 then .ok (t, u) else if isS [114, 101, 99, 111, 114, 100] u = true then (bd (declare t.recs (recordP n)) fun l => sourceL n g { t with recs := l }) u else if isS [109, 97, 112] u = true then (bd (declare t.maps tableP) fun l => sourceL n g { t with maps := l }) u else if isS [102, 110] u = true then (bd (declare t.funcs (functionP n)) fun l => sourceL n g { t with funcs := l }) u else if isS [111, 110] u = true then (bd (declare t.events (handlerP n)) fun l => sourceL n g { t with events := l }) u else wrong u from ho)
      clear HO HX hlg ho
      by_cases hk0 : (nxt u).kind = 0
      · have H := hid (H.out.trans (if_pos hk0))
        go_wp2_with (first
          | (have hno := t0; (go_at_call 41; (refine (next_any _ _ D _ (Pst.to HP (by intro HP; with_reducible repeat first | exact HP | apply pA | refine pS (by omega) ?_))).mono ?_; rintro e w1 ⟨rfl, hb⟩; have hg := bgrown hb (some P); have hs := Pst.below (Pst.to HP (by intro HP; with_reducible repeat first | exact HP | apply pA | refine pS (by omega) ?_)) hb; obtain ⟨hcw1, hfw1⟩ := gcell hg; have hzw1 := hg.size; (try simp only [szA, szS] at hzw1); have hPw1 := hs.lt; have hleww1 := le1 w w1 (by omega); (try have hltww1 := lt1 w w1 (by omega)); have hlewrw1 := le1 wr w1 (by omega); (try have hltwrw1 := lt1 wr w1 (by omega)); have HG := gtrans (Gw.to HG (by intro HG; with_reducible repeat first | exact HG | apply gA | apply gB | refine gS (by omega) ?_)) hg; have HP := hs; have hGw1 := hg; have t1 := True.intro; unfold tokV; have hHO := hid (hHO.out.call hGw1 (by omega)); have hHX := hid (Bx.call hGw1 (by omega) hHX.out); (try clear hg hs); have j0 : w1.cell? ⟨w.heap.size + 1, 0, none⟩ = some (.slice a0 t.recs.length k0) := hHO.out.bx.cell rfl; have j1 : w1.cell? ⟨w.heap.size + 1, 1, none⟩ = some (.slice a1 t.maps.length k1) := hHO.out.bx.cell rfl; have j2 : w1.cell? ⟨w.heap.size + 1, 2, none⟩ = some (.slice a2 t.funcs.length k2) := hHO.out.bx.cell rfl; have j3 : w1.cell? ⟨w.heap.size + 1, 3, none⟩ = some (.slice a3 t.events.length k3) := hHO.out.bx.cell rfl; have hXX := hHX.out; obtain ⟨⟨l6⟩, hl6, hX6⟩ := hXX; obtain ⟨z0, z1, z2, z3, rfl⟩ := four_of l6 hl6; have x0 : w1.cell? ⟨w.heap.size, 0, none⟩ = some z0 := hX6.cell rfl; have x1 : w1.cell? ⟨w.heap.size, 1, none⟩ = some z1 := hX6.cell rfl; have x2 : w1.cell? ⟨w.heap.size, 2, none⟩ = some z2 := hX6.cell rfl; have x3 : w1.cell? ⟨w.heap.size, 3, none⟩ = some z3 := hX6.cell rfl; have xf : ∀ o, w1.frozen? ⟨w.heap.size, o, none⟩ = false := fun o => freeOf hX6 o; clear hcw1 hfw1))))
        refine ret4 Tryz.results17 rfl (Bx.put4 hHX.out) rfl ?_
        have hnR : ∀ i, ¬ A i w.heap.size := fun i q => by have := (hHO.out.bd i _ q).1; omega
        refine Rt.ok (H.out.trans rfl) ⟨_, _, _, _, rfl, ?_, ?_, ?_, ?_⟩ (Pst.to HP (by intro HP; with_reducible repeat first | exact HP | apply pA | refine pS (by omega) ?_)) (Gw.to HG (by intro HG; with_reducible repeat first | exact HG | apply gA | apply gB | refine gS (by omega) ?_))
        · exact hHO.out.l0.mv LD_mv (by repeat (first | (with_reducible exact Same.refl _ _) | ((with_reducible apply Same.set); rotate_left; exact hnR 0))) (fun g hg => by have := hHO.out.bd 0 g hg; simp only [World.size_setCell]; exact ⟨by omega, by omega⟩)
        · exact hHO.out.l1.mv LD_mv (by repeat (first | (with_reducible exact Same.refl _ _) | ((with_reducible apply Same.set); rotate_left; exact hnR 1))) (fun g hg => by have := hHO.out.bd 1 g hg; simp only [World.size_setCell]; exact ⟨by omega, by omega⟩)
        · exact hHO.out.l2.mv LD_mv (by repeat (first | (with_reducible exact Same.refl _ _) | ((with_reducible apply Same.set); rotate_left; exact hnR 2))) (fun g hg => by have := hHO.out.bd 2 g hg; simp only [World.size_setCell]; exact ⟨by omega, by omega⟩)
        · exact hHO.out.l3.mv LD_mv (by repeat (first | (with_reducible exact Same.refl _ _) | ((with_reducible apply Same.set); rotate_left; exact hnR 3))) (fun g hg => by have := hHO.out.bd 3 g hg; simp only [World.size_setCell]; exact ⟨by omega, by omega⟩)
      · have H := hid (H.out.trans (if_neg hk0))
        have hk0 := hid hk0
        go_wp2_with (first
          | (have hno := t5; (go_at_call 48; (refine (wrong_any _ _ D _ (Pst.to HP (by intro HP; with_reducible repeat first | exact HP | apply pA | refine pS (by omega) ?_))).mono ?_; rintro e w6 ⟨rfl, hb⟩; have hg := bgrown hb (some P); have hs := Pst.below (Pst.to HP (by intro HP; with_reducible repeat first | exact HP | apply pA | refine pS (by omega) ?_)) hb; obtain ⟨hcw6, hfw6⟩ := gcell hg; have hzw6 := hg.size; (try simp only [szA, szS] at hzw6); have hPw6 := hs.lt; have hleww6 := le1 w w6 (by omega); (try have hltww6 := lt1 w w6 (by omega)); have hlewrw6 := le1 wr w6 (by omega); (try have hltwrw6 := lt1 wr w6 (by omega)); have hlew1w6 := le1 w1 w6 (by omega); (try have hltw1w6 := lt1 w1 w6 (by omega)); have hlew2w6 := le1 w2 w6 (by omega); (try have hltw2w6 := lt1 w2 w6 (by omega)); have hlew3w6 := le1 w3 w6 (by omega); (try have hltw3w6 := lt1 w3 w6 (by omega)); have hlew4w6 := le1 w4 w6 (by omega); (try have hltw4w6 := lt1 w4 w6 (by omega)); have hlew5w6 := le1 w5 w6 (by omega); (try have hltw5w6 := lt1 w5 w6 (by omega)); have HG := gtrans (Gw.to HG (by intro HG; with_reducible repeat first | exact HG | apply gA | apply gB | refine gS (by omega) ?_)) hg; have HP := hs; have hGw6 := hg; have t6 := True.intro; (try clear hg hs))))
          | (have hno := t5; (go_at_call 43; (refine (declare_any49 _ P D (w.heap.size + 1) 3 u t.events (handlerP n) a3 k3 _ (A 3) HP hHO.out.bx rfl (by omega) hHO.out.l3 (fun g hg => ⟨by have := (hHO.out.bd 3 g hg).1; omega, (hHO.out.bd 3 g hg).2, by have := (hHO.out.bd 3 g hg).1; omega⟩) (by have := HLG.out; omega) hk0.out (fun X v hX hF => handler_any X P D v hX n hn HN.out hF) (fun h => HF.out (H.out.trans (bd_err h)))).mono ?_; intro e w6 hrt; rcases hrt.cases with ⟨f, hx, rfl, hg⟩ | ⟨l5, s5, hx, rfl, hPs, a5, c5, hB5, hL5, hz5, ho5, ht5, hu5, hk5⟩; (focus (exact ⟨rfl, Rt.err (H.out.trans (bd_err hx)) (gtrans HG hg)⟩)); have hl5 := dec_len hx; have H := hid (H.out.trans (bd_ok hx)); have hHO5 := hid (hHO.out.dec3 hB5 hL5 hz5 hk5 (by omega) (by omega)); have HG := grown_dec HG hz5 ho5 ht5 hu5 hk5 (by omega) (fun g hg => by have := (hHO.out.bd 3 g hg).1; omega); have hHX := hid (show Bx 4 w.heap.size 25 w6 from by obtain ⟨cs, q1, q2⟩ := hHX.out; exact ⟨cs, q1, (hk5 w.heap.size (by omega) (by omega) (by omega) (fun q => by have := (hHO.out.bd 3 _ q).1; omega)).trans q2⟩); have HP := hPs; clear hB5 hL5 hk5 ho5 ht5 hu5 hrt hPs)))
          | (have hno := t4; (go_at_call 42; (refine (is_any _ _ D _ [111, 110] (Pst.to HP (by intro HP; with_reducible repeat first | exact HP | apply pA | refine pS (by omega) ?_))).mono ?_; rintro e w5 ⟨rfl, hb⟩; have hg := bgrown hb (some P); have hs := Pst.below (Pst.to HP (by intro HP; with_reducible repeat first | exact HP | apply pA | refine pS (by omega) ?_)) hb; obtain ⟨hcw5, hfw5⟩ := gcell hg; have hzw5 := hg.size; (try simp only [szA, szS] at hzw5); have hPw5 := hs.lt; have hleww5 := le1 w w5 (by omega); (try have hltww5 := lt1 w w5 (by omega)); have hlewrw5 := le1 wr w5 (by omega); (try have hltwrw5 := lt1 wr w5 (by omega)); have hlew1w5 := le1 w1 w5 (by omega); (try have hltw1w5 := lt1 w1 w5 (by omega)); have hlew2w5 := le1 w2 w5 (by omega); (try have hltw2w5 := lt1 w2 w5 (by omega)); have hlew3w5 := le1 w3 w5 (by omega); (try have hltw3w5 := lt1 w3 w5 (by omega)); have hlew4w5 := le1 w4 w5 (by omega); (try have hltw4w5 := lt1 w4 w5 (by omega)); have HG := gtrans (Gw.to HG (by intro HG; with_reducible repeat first | exact HG | apply gA | apply gB | refine gS (by omega) ?_)) hg; have HP := hs; have hGw5 := hg; have t5 := True.intro; have hHO := hid (hHO.out.call hGw5 (by omega)); have hHX := hid (Bx.call hGw5 (by omega) hHX.out); (try clear hg hs); rcases Bool.eq_false_or_eq_true (isS [111, 110] u) with hbw5 | hbw5; all_goals (first | (have H := hid (H.out.trans (if_pos hbw5)); simp only [hbw5]) | (have H := hid (H.out.trans (if_neg (by rw [hbw5]; decide))); simp only [hbw5])))))
          | (have hno := t4; (go_at_call 43; (refine (declare_any48 _ P D (w.heap.size + 1) 2 u t.funcs (functionP n) a2 k2 _ (A 2) HP hHO.out.bx rfl (by omega) hHO.out.l2 (fun g hg => ⟨by have := (hHO.out.bd 2 g hg).1; omega, (hHO.out.bd 2 g hg).2, by have := (hHO.out.bd 2 g hg).1; omega⟩) (by have := HLG.out; omega) hk0.out (fun X v hX hF => function_any X P D v hX n hn HN.out hF) (fun h => HF.out (H.out.trans (bd_err h)))).mono ?_; intro e w5 hrt; rcases hrt.cases with ⟨f, hx, rfl, hg⟩ | ⟨l5, s5, hx, rfl, hPs, a5, c5, hB5, hL5, hz5, ho5, ht5, hu5, hk5⟩; (focus (exact ⟨rfl, Rt.err (H.out.trans (bd_err hx)) (gtrans HG hg)⟩)); have hl5 := dec_len hx; have H := hid (H.out.trans (bd_ok hx)); have hHO5 := hid (hHO.out.dec2 hB5 hL5 hz5 hk5 (by omega) (by omega)); have HG := grown_dec HG hz5 ho5 ht5 hu5 hk5 (by omega) (fun g hg => by have := (hHO.out.bd 2 g hg).1; omega); have hHX := hid (show Bx 4 w.heap.size 25 w5 from by obtain ⟨cs, q1, q2⟩ := hHX.out; exact ⟨cs, q1, (hk5 w.heap.size (by omega) (by omega) (by omega) (fun q => by have := (hHO.out.bd 2 _ q).1; omega)).trans q2⟩); have HP := hPs; clear hB5 hL5 hk5 ho5 ht5 hu5 hrt hPs)))
          | (have hno := t3; (go_at_call 42; (refine (is_any _ _ D _ [102, 110] (Pst.to HP (by intro HP; with_reducible repeat first | exact HP | apply pA | refine pS (by omega) ?_))).mono ?_; rintro e w4 ⟨rfl, hb⟩; have hg := bgrown hb (some P); have hs := Pst.below (Pst.to HP (by intro HP; with_reducible repeat first | exact HP | apply pA | refine pS (by omega) ?_)) hb; obtain ⟨hcw4, hfw4⟩ := gcell hg; have hzw4 := hg.size; (try simp only [szA, szS] at hzw4); have hPw4 := hs.lt; have hleww4 := le1 w w4 (by omega); (try have hltww4 := lt1 w w4 (by omega)); have hlewrw4 := le1 wr w4 (by omega); (try have hltwrw4 := lt1 wr w4 (by omega)); have hlew1w4 := le1 w1 w4 (by omega); (try have hltw1w4 := lt1 w1 w4 (by omega)); have hlew2w4 := le1 w2 w4 (by omega); (try have hltw2w4 := lt1 w2 w4 (by omega)); have hlew3w4 := le1 w3 w4 (by omega); (try have hltw3w4 := lt1 w3 w4 (by omega)); have HG := gtrans (Gw.to HG (by intro HG; with_reducible repeat first | exact HG | apply gA | apply gB | refine gS (by omega) ?_)) hg; have HP := hs; have hGw4 := hg; have t4 := True.intro; have hHO := hid (hHO.out.call hGw4 (by omega)); have hHX := hid (Bx.call hGw4 (by omega) hHX.out); (try clear hg hs); rcases Bool.eq_false_or_eq_true (isS [102, 110] u) with hbw4 | hbw4; all_goals (first | (have H := hid (H.out.trans (if_pos hbw4)); simp only [hbw4]) | (have H := hid (H.out.trans (if_neg (by rw [hbw4]; decide))); simp only [hbw4])))))
          | (have hno := t3; (go_at_call 43; (refine (declare_any47 _ P D (w.heap.size + 1) 1 u t.maps tableP a1 k1 _ (A 1) HP hHO.out.bx rfl (by omega) hHO.out.l1 (fun g hg => ⟨by have := (hHO.out.bd 1 g hg).1; omega, (hHO.out.bd 1 g hg).2, by have := (hHO.out.bd 1 g hg).1; omega⟩) (by have := HLG.out; omega) hk0.out (fun X v hX hF => table_any X P D v hX) (fun h => HF.out (H.out.trans (bd_err h)))).mono ?_; intro e w4 hrt; rcases hrt.cases with ⟨f, hx, rfl, hg⟩ | ⟨l5, s5, hx, rfl, hPs, a5, c5, hB5, hL5, hz5, ho5, ht5, hu5, hk5⟩; (focus (exact ⟨rfl, Rt.err (H.out.trans (bd_err hx)) (gtrans HG hg)⟩)); have hl5 := dec_len hx; have H := hid (H.out.trans (bd_ok hx)); have hHO5 := hid (hHO.out.dec1 hB5 hL5 hz5 hk5 (by omega) (by omega)); have HG := grown_dec HG hz5 ho5 ht5 hu5 hk5 (by omega) (fun g hg => by have := (hHO.out.bd 1 g hg).1; omega); have hHX := hid (show Bx 4 w.heap.size 25 w4 from by obtain ⟨cs, q1, q2⟩ := hHX.out; exact ⟨cs, q1, (hk5 w.heap.size (by omega) (by omega) (by omega) (fun q => by have := (hHO.out.bd 1 _ q).1; omega)).trans q2⟩); have HP := hPs; clear hB5 hL5 hk5 ho5 ht5 hu5 hrt hPs)))
          | (have hno := t2; (go_at_call 42; (refine (is_any _ _ D _ [109, 97, 112] (Pst.to HP (by intro HP; with_reducible repeat first | exact HP | apply pA | refine pS (by omega) ?_))).mono ?_; rintro e w3 ⟨rfl, hb⟩; have hg := bgrown hb (some P); have hs := Pst.below (Pst.to HP (by intro HP; with_reducible repeat first | exact HP | apply pA | refine pS (by omega) ?_)) hb; obtain ⟨hcw3, hfw3⟩ := gcell hg; have hzw3 := hg.size; (try simp only [szA, szS] at hzw3); have hPw3 := hs.lt; have hleww3 := le1 w w3 (by omega); (try have hltww3 := lt1 w w3 (by omega)); have hlewrw3 := le1 wr w3 (by omega); (try have hltwrw3 := lt1 wr w3 (by omega)); have hlew1w3 := le1 w1 w3 (by omega); (try have hltw1w3 := lt1 w1 w3 (by omega)); have hlew2w3 := le1 w2 w3 (by omega); (try have hltw2w3 := lt1 w2 w3 (by omega)); have HG := gtrans (Gw.to HG (by intro HG; with_reducible repeat first | exact HG | apply gA | apply gB | refine gS (by omega) ?_)) hg; have HP := hs; have hGw3 := hg; have t3 := True.intro; have hHO := hid (hHO.out.call hGw3 (by omega)); have hHX := hid (Bx.call hGw3 (by omega) hHX.out); (try clear hg hs); rcases Bool.eq_false_or_eq_true (isS [109, 97, 112] u) with hbw3 | hbw3; all_goals (first | (have H := hid (H.out.trans (if_pos hbw3)); simp only [hbw3]) | (have H := hid (H.out.trans (if_neg (by rw [hbw3]; decide))); simp only [hbw3])))))
          | (have hno := t2; (go_at_call 43; (refine (declare_any46 _ P D (w.heap.size + 1) 0 u t.recs (recordP n) a0 k0 _ (A 0) HP hHO.out.bx rfl (by omega) hHO.out.l0 (fun g hg => ⟨by have := (hHO.out.bd 0 g hg).1; omega, (hHO.out.bd 0 g hg).2, by have := (hHO.out.bd 0 g hg).1; omega⟩) (by have := HLG.out; omega) hk0.out (fun X v hX hF => record_any X P D v hX n hn hF) (fun h => HF.out (H.out.trans (bd_err h)))).mono ?_; intro e w3 hrt; rcases hrt.cases with ⟨f, hx, rfl, hg⟩ | ⟨l5, s5, hx, rfl, hPs, a5, c5, hB5, hL5, hz5, ho5, ht5, hu5, hk5⟩; (focus (exact ⟨rfl, Rt.err (H.out.trans (bd_err hx)) (gtrans HG hg)⟩)); have hl5 := dec_len hx; have H := hid (H.out.trans (bd_ok hx)); have hHO5 := hid (hHO.out.dec0 hB5 hL5 hz5 hk5 (by omega) (by omega)); have HG := grown_dec HG hz5 ho5 ht5 hu5 hk5 (by omega) (fun g hg => by have := (hHO.out.bd 0 g hg).1; omega); have hHX := hid (show Bx 4 w.heap.size 25 w3 from by obtain ⟨cs, q1, q2⟩ := hHX.out; exact ⟨cs, q1, (hk5 w.heap.size (by omega) (by omega) (by omega) (fun q => by have := (hHO.out.bd 0 _ q).1; omega)).trans q2⟩); have HP := hPs; clear hB5 hL5 hk5 ho5 ht5 hu5 hrt hPs)))
          | (have hno := t1; (go_at_call 42; (refine (is_any _ _ D _ [114, 101, 99, 111, 114, 100] (Pst.to HP (by intro HP; with_reducible repeat first | exact HP | apply pA | refine pS (by omega) ?_))).mono ?_; rintro e w2 ⟨rfl, hb⟩; have hg := bgrown hb (some P); have hs := Pst.below (Pst.to HP (by intro HP; with_reducible repeat first | exact HP | apply pA | refine pS (by omega) ?_)) hb; obtain ⟨hcw2, hfw2⟩ := gcell hg; have hzw2 := hg.size; (try simp only [szA, szS] at hzw2); have hPw2 := hs.lt; have hleww2 := le1 w w2 (by omega); (try have hltww2 := lt1 w w2 (by omega)); have hlewrw2 := le1 wr w2 (by omega); (try have hltwrw2 := lt1 wr w2 (by omega)); have hlew1w2 := le1 w1 w2 (by omega); (try have hltw1w2 := lt1 w1 w2 (by omega)); have HG := gtrans (Gw.to HG (by intro HG; with_reducible repeat first | exact HG | apply gA | apply gB | refine gS (by omega) ?_)) hg; have HP := hs; have hGw2 := hg; have t2 := True.intro; have hHO := hid (hHO.out.call hGw2 (by omega)); have hHX := hid (Bx.call hGw2 (by omega) hHX.out); (try clear hg hs); rcases Bool.eq_false_or_eq_true (isS [114, 101, 99, 111, 114, 100] u) with hbw2 | hbw2; all_goals (first | (have H := hid (H.out.trans (if_pos hbw2)); simp only [hbw2]) | (have H := hid (H.out.trans (if_neg (by rw [hbw2]; decide))); simp only [hbw2])))))
          | (have hno := t0; (go_at_call 41; (refine (next_any _ _ D _ (Pst.to HP (by intro HP; with_reducible repeat first | exact HP | apply pA | refine pS (by omega) ?_))).mono ?_; rintro e w1 ⟨rfl, hb⟩; have hg := bgrown hb (some P); have hs := Pst.below (Pst.to HP (by intro HP; with_reducible repeat first | exact HP | apply pA | refine pS (by omega) ?_)) hb; obtain ⟨hcw1, hfw1⟩ := gcell hg; have hzw1 := hg.size; (try simp only [szA, szS] at hzw1); have hPw1 := hs.lt; have hleww1 := le1 w w1 (by omega); (try have hltww1 := lt1 w w1 (by omega)); have hlewrw1 := le1 wr w1 (by omega); (try have hltwrw1 := lt1 wr w1 (by omega)); have HG := gtrans (Gw.to HG (by intro HG; with_reducible repeat first | exact HG | apply gA | apply gB | refine gS (by omega) ?_)) hg; have HP := hs; have hGw1 := hg; have t1 := True.intro; unfold tokV; have hHO := hid (hHO.out.call hGw1 (by omega)); have hHX := hid (Bx.call hGw1 (by omega) hHX.out); (try clear hg hs))))
          )
        · go_roundg g
          case measure => omega
          exact ⟨{ t with recs := l5 }, s5, _, _, _, _, _, _, _, _, _, hHO5.out, hHX.out, by have := HLG.out; simp only []; omega, H.out, HP, HG⟩
        · go_roundg g
          case measure => omega
          exact ⟨{ t with maps := l5 }, s5, _, _, _, _, _, _, _, _, _, hHO5.out, hHX.out, by have := HLG.out; simp only []; omega, H.out, HP, HG⟩
        · go_roundg g
          case measure => omega
          exact ⟨{ t with funcs := l5 }, s5, _, _, _, _, _, _, _, _, _, hHO5.out, hHX.out, by have := HLG.out; simp only []; omega, H.out, HP, HG⟩
        · go_roundg g
          case measure => omega
          exact ⟨{ t with events := l5 }, s5, _, _, _, _, _, _, _, _, _, hHO5.out, hHX.out, by have := HLG.out; simp only []; omega, H.out, HP, HG⟩
        · exact ⟨rfl, Rt.err (H.out.trans rfl) HG⟩
end Go.Proofs.YtcnohgifihbkdaaGreatDoor

namespace Go.Proofs.YtcnohgifihbkdaaGreatDoor
open Go Go.RowKit Go.Deep Go.Shelf
set_option linter.unusedVariables false
set_option linter.unusedSimpArgs false
set_option maxRecDepth 100000
theorem asrt95 (a b : Value) (w : World) : (Instr.typeAssert (.iface 92 (.agg #[a, b])) 20 92 true).run Tryz.prog w = .ok (.tuple #[.agg #[a, b], .bool true]) w := by
  kernel_rfl
set_option maxHeartbeats 1000000 in
theorem seen_any (w : World) (a b : Int) : Calls Tryz.prog 15 #[.iface 92 (.agg #[.int .i64 a, .int .i64 b])] w fun e w' => e = .returned (.tuple #[.int .i64 a, .int .i64 b]) ∧ Below w.heap.size w w' := by
  have has := asrt95 (.int .i64 a) (.int .i64 b)
  go_enter Tryz.func15, Tryz.ntmps15
  go_wp2
  go_quiet (fail)
  go_wp2
  refine bodyPost_ret (v := .tuple #[.int .i64 a, .int .i64 b]) (by simp [results, Tryz.results15, go_sem]) rfl ⟨rfl, ?_⟩
  exact below_drewN ((Below.refl _ _).alloc (Nat.le_refl _) _) _
theorem catch_panicking (p q : Nat) (a b x y : Int) (w : World) (hp : Box p #[.int .i64 x] 3 w) (hq : Box q #[.int .i64 y] 26 w) (hpq : p ≠ q) :
    CallsD Tryz.prog 14 #[.pointer (some ⟨p, 0, none⟩), .pointer (some ⟨q, 0, none⟩)] (.panicking [{ v := .iface 92 (.agg #[.int .i64 a, .int .i64 b]), recovered := false }]) w fun e u' w' =>
      e = .returned (.tuple #[]) ∧ u' = .panicking [{ v := .iface 92 (.agg #[.int .i64 a, .int .i64 b]), recovered := true }] ∧ ∃ w1, Below w.heap.size w w1 ∧ w' = (w1.setCell ⟨p, 0, none⟩ (.int .i64 a)).setCell ⟨q, 0, none⟩ (.int .i64 b) := by
  refine callsD_of_wpS Tryz.func14 rfl fun c₀ cs hu => ?_
  apply wpS_seq
  apply wpS_region
  simp [wpOpsS, go_sem, recoverD, hu, Tryz.ntmps14, Exit.thenS]
  apply wpS_seq
  apply wpS_region
  simp [wpOpsS, go_sem, Exit.thenS]
  refine wpS_cond (t := true) (by simp [Act.eval, Array.replicate]) ?_
  simp only [if_true]
  refine wpS_of_wp ?_
  go_wp2_with (go_at_call 15; (refine (seen_any _ _ _).mono ?_; rintro e w1 ⟨rfl, hb⟩; have g1 := hp.below hb; have g2 := hq.below hb; have f1 := freeOf g1; have f2 := freeOf g2; have c1 : w1.cell? ⟨p, 0, none⟩ = some (.int .i64 x) := g1.cell rfl; have c2 : w1.cell? ⟨q, 0, none⟩ = some (.int .i64 y) := g2.cell rfl))
  simp [bodyPostS, results, Tryz.results14]
  exact ⟨w1, hb, rfl⟩
theorem catch_idle (p q : Nat) (w : World) :
    CallsD Tryz.prog 14 #[.pointer (some ⟨p, 0, none⟩), .pointer (some ⟨q, 0, none⟩)] .returning w fun e u' w' => e = .returned (.tuple #[]) ∧ u' = .returning ∧ w' = w := by
  refine callsD_of_wpS Tryz.func14 rfl fun c₀ cs hu => ?_
  apply wpS_seq
  apply wpS_region
  simp [wpOpsS, go_sem, recoverD, hu, Tryz.ntmps14, Exit.thenS]
  apply wpS_seq
  apply wpS_region
  simp [wpOpsS, go_sem, Exit.thenS]
  refine wpS_cond (t := false) (by simp [Act.eval, Array.replicate]) ?_
  simp only [Bool.false_eq_true, if_false]
  refine wpS_of_wp (wp_skip ?_)
  cases c₀
  simp_all [bodyPostS, results, Tryz.results14]
end Go.Proofs.YtcnohgifihbkdaaGreatDoor

namespace Go.Proofs.YtcnohgifihbkdaaGreatDoor
open Go Go.RowKit Go.Deep Go.Shelf
set_option linter.unusedVariables false
set_option linter.unusedSimpArgs false
set_option maxRecDepth 100000
def toP (t : Lx.LTok) : PTok := ⟨(t.kind : Int), t.text, (t.pos : Int)⟩
theorem runF_take (p : UInt8 → Bool) : ∀ (l : Bsq), ∀ x ∈ l.take (Lx.runF p l), p x = true
  | [], x, h => by simp at h
  | c :: t, x, h => by
    by_cases hc : p c = true
    · have e : Lx.runF p (c :: t) = Lx.runF p t + 1 := by show (if p c then _ else _) = _; rw [if_pos hc]
      rw [e, List.take_succ_cons] at h
      rcases List.mem_cons.1 h with rfl | h
      · exact hc
      · exact runF_take p t x h
    · have e : Lx.runF p (c :: t) = 0 := by show (if p c then _ else _) = _; rw [if_neg hc]
      rw [e] at h; simp at h
theorem runF_pos (p : UInt8 → Bool) {c : UInt8} (t : Bsq) (h : p c = true) : 1 ≤ Lx.runF p (c :: t) := by
  show 1 ≤ (if p c then _ else _); rw [if_pos h]; omega
theorem unq_len : ∀ l : Bsq, (Lx.unq l).length ≤ l.length
  | [] => by simp [Lx.unq]
  | [c] => by simp [Lx.unq]
  | c :: d :: t => by
    unfold Lx.unq
    split
    · have := unq_len t; simp; omega
    · have := unq_len (d :: t); simp at this ⊢; omega
theorem drop_len (p : UInt8 → Bool) : ∀ l : Bsq, (l.dropWhile p).length ≤ l.length
  | [] => by simp
  | c :: t => by
    unfold List.dropWhile
    split
    · have := drop_len p t; simp; omega
    · simp
theorem mem_drop (p : UInt8 → Bool) : ∀ (l : Bsq) (x : UInt8), x ∈ l.dropWhile p → x ∈ l
  | [], x, h => by simp at h
  | c :: t, x, h => by
    unfold List.dropWhile at h
    split at h
    · exact List.mem_cons_of_mem _ (mem_drop p t x h)
    · exact h
theorem tok_len (k : Nat) (p : Bsq) : (Lx.tokText k p).length ≤ p.length := by
  unfold Lx.tokText
  split
  · have h1 := drop_len (· == 48) (p.take (p.length - 1))
    rw [List.length_append, List.length_drop]
    rw [List.length_take] at h1
    omega
  · split
    · have h1 := unq_len ((p.take (p.length - 1)).drop 1)
      rw [List.length_drop, List.length_take] at h1
      omega
    · exact Nat.le_refl _
theorem first_cases (c : UInt8) (t : Bsq) (h : (Lx.firstF (c :: t)).2.2 = 0) :
    ((Lx.firstF (c :: t)).1 = 1 ∧ 1 ≤ (Lx.firstF (c :: t)).2.1) ∨ (Lx.firstF (c :: t)).1 = 2 ∨ ((Lx.firstF (c :: t)).1 = 3 ∧ (Lx.firstF (c :: t)).2.1 = Lx.runF Lx.isDg (c :: t) ∧ Lx.isDg c = true) ∨ (Lx.firstF (c :: t)).1 = 4 ∨ (Lx.firstF (c :: t)).1 = 5 := by
  generalize hq : Lx.firstF (c :: t) = q at h ⊢
  have e : Lx.firstF (c :: t) = if Lx.isLt c = true then (if Lx.isWd ((c :: t).take (Lx.runF Lx.isPt (c :: t))) = true then 2 else 1, Lx.runF Lx.isPt (c :: t), 0) else if Lx.isDg c = true then (3, Lx.runF Lx.isDg (c :: t), 0) else if c = 34 then (match Lx.textF false t with | some n => (4, n + 1, 0) | none => (0, 0, 52)) else if Lx.signF (c :: t) = 0 then (0, 0, 51) else (5, Lx.signF (c :: t), 0) := rfl
  rw [e] at hq
  clear e
  by_cases h1 : Lx.isLt c = true
  · rw [if_pos h1] at hq
    have hp : 1 ≤ Lx.runF Lx.isPt (c :: t) := runF_pos _ _ (by unfold Lx.isPt; rw [h1]; rfl)
    by_cases h2 : Lx.isWd ((c :: t).take (Lx.runF Lx.isPt (c :: t))) = true
    · rw [if_pos h2] at hq; subst hq; exact .inr (.inl rfl)
    · rw [if_neg h2] at hq; subst hq; exact .inl ⟨rfl, hp⟩
  · rw [if_neg h1] at hq
    by_cases h2 : Lx.isDg c = true
    · rw [if_pos h2] at hq; subst hq; exact .inr (.inr (.inl ⟨rfl, rfl, h2⟩))
    · rw [if_neg h2] at hq
      by_cases h3 : c = 34
      · rw [if_pos h3] at hq
        cases hx : Lx.textF false t with
        | none => rw [hx] at hq; subst hq; cases h
        | some n => rw [hx] at hq; subst hq; exact .inr (.inr (.inr (.inl rfl)))
      · rw [if_neg h3] at hq
        by_cases h4 : Lx.signF (c :: t) = 0
        · rw [if_pos h4] at hq; subst hq; cases h
        · rw [if_neg h4] at hq; subst hq; exact .inr (.inr (.inr (.inr rfl)))
theorem tok_ok (c : UInt8) (t : Bsq) (at' : Nat) (h : (Lx.firstF (c :: t)).2.2 = 0) (hl : (c :: t).length ≤ 4096) (ha : at' ≤ 4096) :
    okTk (toP ⟨(Lx.firstF (c :: t)).1, Lx.tokText (Lx.firstF (c :: t)).1 ((c :: t).take (Lx.firstF (c :: t)).2.1), at'⟩) ∧ (Lx.firstF (c :: t)).1 ≠ 0 := by
  have hc := first_cases c t h
  have hlen := tok_len (Lx.firstF (c :: t)).1 ((c :: t).take (Lx.firstF (c :: t)).2.1)
  have hlt : ((c :: t).take (Lx.firstF (c :: t)).2.1).length ≤ (c :: t).length := by rw [List.length_take]; omega
  refine ⟨⟨by show (0 : Int) ≤ ((_ : Nat) : Int); omega, ?_, ?_, ?_, ?_, by show (0 : Int) ≤ ((_ : Nat) : Int); omega, ?_⟩, ?_⟩
  · show (((Lx.firstF (c :: t)).1 : Nat) : Int) ≤ 5
    omega
  · intro hk
    have hk : (Lx.firstF (c :: t)).1 = 1 := by have : (((Lx.firstF (c :: t)).1 : Nat) : Int) = 1 := hk; omega
    rcases hc with ⟨_, q⟩ | q | ⟨q, _⟩ | q | q
    · show Lx.tokText (Lx.firstF (c :: t)).1 ((c :: t).take (Lx.firstF (c :: t)).2.1) ≠ []
      rw [hk]
      show (c :: t).take (Lx.firstF (c :: t)).2.1 ≠ []
      intro e
      have := congrArg List.length e
      rw [List.length_take] at this
      simp at this
      omega
    all_goals omega
  · intro hk
    have hk : (Lx.firstF (c :: t)).1 = 3 := by have : (((Lx.firstF (c :: t)).1 : Nat) : Int) = 3 := hk; omega
    rcases hc with ⟨q, _⟩ | q | ⟨q, q1, q2⟩ | q | q
    · omega
    · omega
    · have hpos := runF_pos Lx.isDg t q2
      have hd : ∀ x ∈ (c :: t).take (Lx.firstF (c :: t)).2.1, 48 ≤ x.toNat ∧ x.toNat ≤ 57 := by
        rw [q1]
        intro x hx
        have := runF_take Lx.isDg (c :: t) x hx
        unfold Lx.isDg at this
        simpa using this
      have hne : 1 ≤ ((c :: t).take (Lx.firstF (c :: t)).2.1).length := by rw [List.length_take, q1]; simp; omega
      show Lx.tokText (Lx.firstF (c :: t)).1 ((c :: t).take (Lx.firstF (c :: t)).2.1) ≠ [] ∧ ∀ x ∈ Lx.tokText (Lx.firstF (c :: t)).1 ((c :: t).take (Lx.firstF (c :: t)).2.1), _
      rw [hk]
      generalize (c :: t).take (Lx.firstF (c :: t)).2.1 = p at hd hne
      unfold Lx.tokText
      rw [if_pos rfl]
      constructor
      · intro e
        have := congrArg List.length e
        rw [List.length_append, List.length_drop] at this
        simp at this
        omega
      · intro x hx
        rcases List.mem_append.1 hx with hx | hx
        · exact hd x (List.mem_of_mem_take (mem_drop _ _ _ hx))
        · exact hd x (List.mem_of_mem_drop hx)
    · omega
    · omega
  · show (Lx.tokText _ _).length ≤ 5000
    omega
  · show ((at' : Nat) : Int) ≤ 5000
    omega
  · omega
theorem lexG_ok : ∀ (l : Bsq) (k at' : Nat) (ts : List Lx.LTok), Lx.lexG k at' l = .ok ts → l.length + at' ≤ 4096 → okL (ts.map toP) ∧ ts.length ≤ l.length + 1
  | [], k, at', ts, h, hl => by
    simp only [Lx.lexG] at h
    cases h
    have h1 : okTk (toP ⟨0, [], at'⟩) := {
      k0 := by show (0 : Int) ≤ ((0 : Nat) : Int); decide
      k5 := by show ((0 : Nat) : Int) ≤ 5; decide
      nm := fun h => absurd (show ((0 : Nat) : Int) = 1 from h) (by decide)
      nu := fun h => absurd (show ((0 : Nat) : Int) = 3 from h) (by decide)
      tl := by show ([] : Bsq).length ≤ 5000; decide
      p0 := by show (0 : Int) ≤ ((at' : Nat) : Int); omega
      p1 := by show ((at' : Nat) : Int) ≤ 5000; simp at hl; omega }
    exact ⟨⟨h1, fun _ => rfl, fun h => absurd rfl h⟩, by simp⟩
  | c :: t, k + 1, at', ts, h, hl => by
    have := lexG_ok t k (at' + 1) ts (by rw [Lx.lexG] at h; exact h) (by simp at hl ⊢; omega)
    exact ⟨this.1, by simp; omega⟩
  | c :: t, 0, at', ts, h, hl => by
    rw [Lx.lexG] at h
    have hl' : t.length + (at' + 1) ≤ 4096 := by simp at hl ⊢; omega
    split at h
    · have := lexG_ok t _ _ ts h hl'; exact ⟨this.1, by simp; omega⟩
    · split at h
      · have := lexG_ok t _ _ ts h hl'; exact ⟨this.1, by simp; omega⟩
      · split at h
        · cases h
        · rename_i hne
          split at h
          · cases h
          · rename_i ts' he
            cases h
            have ih := lexG_ok t _ _ ts' he hl'
            obtain ⟨q1, q2⟩ := tok_ok c t at' (by simpa using hne) (by simp at hl ⊢; omega) (by simp at hl; omega)
            exact ⟨⟨q1, fun e => absurd (show (((Lx.firstF (c :: t)).1 : Nat) : Int) = 0 from e) (by omega), fun _ => ih.1⟩, by simp; omega⟩
theorem lexT_ok {l : Bsq} {ts : List Lx.LTok} (h : Lx.lexT l = .ok ts) : okL (ts.map toP) ∧ ts.length ≤ 4097 := by
  unfold Lx.lexT at h
  split at h
  · cases h
  · rename_i hl
    have := lexG_ok l 0 0 ts h (by omega)
    exact ⟨this.1, by omega⟩
def parseT (l : Bsq) : Except Flt PTr := match Lx.lexT l with
  | .error p => .error ((p.1 : Int), (p.2 : Int))
  | .ok ts => source 5000 (ts.map toP)
theorem parseT_fed {ts : List Lx.LTok} (h : ts.length ≤ 4097) : Fed (sourceL 5000 5000 ⟨[], [], [], []⟩ ⟨ts.map toP, 0, false⟩) := fun e => by
  have := source_ends (m := 5000) (toks := ts.map toP) (by rw [List.length_map]; omega) (-1, -1) (by unfold source; rw [e])
  exact this rfl
end Go.Proofs.YtcnohgifihbkdaaGreatDoor

namespace Go.Proofs.YtcnohgifihbkdaaGreatDoor
open Go.RowKit
set_option linter.unusedVariables false
def kwL : List Bsq := [[114, 101, 99, 111, 114, 100], [109, 97, 112], [102, 110], [111, 110]]
theorem kw_ne {p : PTok} (h : kw p ≠ 0) : (p.kind = 2 ∨ p.kind = 5) ∧ p.text ∈ kwL := by
  have K : ∀ q, isT q p = true → (p.kind = 2 ∨ p.kind = 5) ∧ p.text = q := fun q hq => by
    unfold isT at hq
    simpa using hq
  unfold kw at h
  split at h
  · rename_i q; obtain ⟨a, b⟩ := K _ q; exact ⟨a, by rw [b]; decide⟩
  split at h
  · rename_i q; obtain ⟨a, b⟩ := K _ q; exact ⟨a, by rw [b]; decide⟩
  split at h
  · rename_i q; obtain ⟨a, b⟩ := K _ q; exact ⟨a, by rw [b]; decide⟩
  split at h
  · rename_i q; obtain ⟨a, b⟩ := K _ q; exact ⟨a, by rw [b]; decide⟩
  exact absurd rfl h
theorem kw_part : ∀ x ∈ kwL, ∀ y ∈ kwL, x = y.take x.length → ¬ x.length < y.length := by decide
theorem kw_letter : ∀ x ∈ kwL, ∀ c r, x = c :: r → Lx.isLt c = true := by
  intro x hx c r e
  simp only [kwL, List.mem_cons, List.not_mem_nil, or_false] at hx
  rcases hx with rfl | rfl | rfl | rfl <;> (simp only [List.cons.injEq] at e; obtain ⟨rfl, _⟩ := e; decide)
theorem kw_of {T : Tl} {u v : List Lx.LTok} {n : Nat} (hu : T.u = u.map toP) (hv : T.v = v.map toP) (h : v = [⟨0, [], n⟩] ∨ ∃ a, v = [a, ⟨0, [], n⟩] ∧ Lx.Prt a u ∧ a.pos ≤ n) : KwOk T := by
  intro a ha
  rw [hv] at ha
  rcases h with rfl | ⟨b, rfl, ⟨x, r, rfl, hk, h2, h5⟩, _⟩
  · simp at ha
  · simp only [List.map_cons, List.map_nil, List.cons.injEq] at ha
    obtain ⟨rfl, _⟩ := ha
    rw [hu]
    by_cases h0 : kw (toP b) = 0
    · exact .inl h0
    refine .inr ⟨.inr ?_, ?_⟩
    · show kw (toP x) = 0
      by_cases h1 : kw (toP x) = 0
      · exact h1
      exfalso
      obtain ⟨k1, t1⟩ := kw_ne h0
      obtain ⟨k2, t2⟩ := kw_ne h1
      rcases k1 with k1 | k1
      · have k1 : ((b.kind : Nat) : Int) = 2 := k1
        obtain ⟨q1, q2⟩ := h2 (by omega)
        exact kw_part _ t1 _ t2 q1 q2
      · have k1 : ((b.kind : Nat) : Int) = 5 := k1
        obtain ⟨c, r, q1, q2⟩ := h5 (by omega)
        have := kw_letter _ t1 c r q1
        rw [q2] at this; cases this
    · show ((x.kind : Nat) : Int) ≠ 0
      omega
theorem among_pure (l : Bsq) (n : Nat) (hn : n ≤ l.length) (hl : l.length ≤ 2000) {tr : PTr} (h : parseT l = .ok tr) {f : Flt} (hf : parseT (l.take n) = .error f) : f.1 ≤ (n : Int) ∧ f.2 ≠ 72 ∧ f.2 ≠ 50 := by
  have hlt : (l.take n).length ≤ 2000 := by rw [List.length_take]; omega
  unfold parseT Lx.lexT at h hf
  rw [if_neg (by omega)] at h hf
  cases hx : Lx.lexG 0 0 l with
  | error p => rw [hx] at h; cases h
  | ok ts =>
    rw [hx] at h
    have h : source 5000 (ts.map toP) = .ok tr := h
    rcases Lx.lex_cut l 0 0 n ts hx hn with ⟨p, q, h1, ⟨h2, h2'⟩, h3⟩ | ⟨t, u, v, rfl, h2, h3, h4⟩
    · rw [h1] at hf
      cases hf
      exact ⟨by show (p : Int) ≤ _; omega, by show (q : Int) ≠ 72; omega, by show (q : Int) ≠ 50; omega⟩
    · rw [h2] at hf
      have hf : source 5000 ((t ++ v).map toP) = .error f := hf
      rw [Nat.zero_add] at h3 h4
      rw [List.map_append] at h hf
      have hb : ∀ p ∈ t.map toP ++ v.map toP, p.pos ≤ ((n : Nat) : Int) := by
        intro p hp
        rcases List.mem_append.1 hp with hp | hp
        · obtain ⟨x, hx, rfl⟩ := List.mem_map.1 hp
          have := h4 x hx
          show (x.pos : Int) ≤ _; omega
        · obtain ⟨x, hx, rfl⟩ := List.mem_map.1 hp
          show (x.pos : Int) ≤ _
          rcases h3 with rfl | ⟨a, rfl, _, ha⟩
          · simp at hx; subst hx; exact Int.le_refl _
          · simp at hx
            rcases hx with rfl | rfl
            · omega
            · exact Int.le_refl _
      obtain ⟨b1, b2⟩ := source_b 5000 _ hb hf
      obtain ⟨T, hT⟩ : ∃ T : Tl, T = ⟨u.map toP, v.map toP, toP ⟨0, [], n⟩, rfl, by
        rcases h3 with rfl | ⟨a, rfl, _⟩
        · exact .inl rfl
        · exact .inr ⟨toP a, rfl⟩⟩ := ⟨_, rfl⟩
      have hu : T.u = u.map toP := by rw [hT]
      have hv : T.v = v.map toP := by rw [hT]
      rw [← hu] at h
      rw [← hv] at hf
      exact ⟨b1, cut_many (kw_of hu hv h3) 5000 5000 _ h hf, b2.1⟩
theorem bnd_some : ∀ toks : List PTok, ∃ N : Nat, ∀ p ∈ toks, p.pos ≤ (N : Int)
  | [] => ⟨0, fun p h => by simp at h⟩
  | a :: t => by
    obtain ⟨N, h⟩ := bnd_some t
    refine ⟨max N a.pos.toNat, fun p hp => ?_⟩
    rcases List.mem_cons.1 hp with rfl | hp
    · omega
    · have := h p hp; omega
theorem parse_ne {l : Bsq} {f : Flt} (h : parseT l = .error f) : f.2 ≠ 0 := by
  unfold parseT at h
  cases hx : Lx.lexT l with
  | error p =>
    rw [hx] at h
    have h : (Except.error ((p.1 : Int), (p.2 : Int)) : Except Flt PTr) = .error f := h
    cases h
    have := Lx.lexT_err_ne hx
    show (p.2 : Int) ≠ 0
    omega
  | ok ts =>
    rw [hx] at h
    have h : source 5000 (ts.map toP) = .error f := h
    obtain ⟨N, hN⟩ := bnd_some (ts.map toP)
    exact (source_b 5000 _ hN h).2.2
end Go.Proofs.YtcnohgifihbkdaaGreatDoor

namespace Go.Proofs
set_option maxRecDepth 100000
open Go.Shelf
def Tryz.lays174_ren : Go.Shelf.Ren := ⟨fun | 129 => 214 | 171 => 264 | 174 => 247 | 205 => 263 | 243 => 267 | 245 => 251 | 246 => 171 | 247 => 250 | 279 => 255 | 280 => 256 | 281 => 257 | 282 => 258 | 283 => 192 | 284 => 193 | 285 => 194 | 286 => 195 | 287 => 254 | 316 => 106 | 317 => 213 | 318 => 215 | 319 => 216 | 320 => 217 | 321 => 261 | 322 => 262 | 337 => 225 | 338 => 226 | n => n, fun | 0 => 0 | 2 => 2 | 3 => 3 | 4 => 4 | 5 => 5 | 9 => 9 | 20 => 20 | 21 => 21 | 37 => 33 | 46 => 202 | 51 => 213 | 53 => 196 | 75 => 176 | 80 => 90 | 85 => 233 | 127 => 117 | 143 => 252 | 145 => 254 | 167 => 237 | 168 => 240 | 210 => 245 | 171 => 195 | 173 => 199 | 175 => 238 | 212 => 212 | 213 => 214 | 232 => 225 | 233 => 226 | n => n, fun | 15 => 6 | 16 => 7 | 17 => 3 | 18 => 4 | 19 => 5 | n => n⟩
theorem Tryz.lays174 : Go.Proofs.LaysC.n174 Tryz.prog Tryz.lays174_ren := {
  mixed := by kernel_rfl
  f129 := Tryz.func214.trans (congrArg some (by kernel_rfl))
  f171 := Tryz.func264.trans (congrArg some (by kernel_rfl))
  f174 := Tryz.func247.trans (congrArg some (by kernel_rfl))
  f205 := Tryz.func263.trans (congrArg some (by kernel_rfl))
  f243 := Tryz.func267.trans (congrArg some (by kernel_rfl))
  f245 := Tryz.func251.trans (congrArg some (by kernel_rfl))
  f246 := Tryz.func171.trans (congrArg some (by kernel_rfl))
  f247 := Tryz.func250.trans (congrArg some (by kernel_rfl))
  f279 := Tryz.func255.trans (congrArg some (by kernel_rfl))
  f280 := Tryz.func256.trans (congrArg some (by kernel_rfl))
  f281 := Tryz.func257.trans (congrArg some (by kernel_rfl))
  f282 := Tryz.func258.trans (congrArg some (by kernel_rfl))
  f283 := Tryz.func192.trans (congrArg some (by kernel_rfl))
  f284 := Tryz.func193.trans (congrArg some (by kernel_rfl))
  f285 := Tryz.func194.trans (congrArg some (by kernel_rfl))
  f286 := Tryz.func195.trans (congrArg some (by kernel_rfl))
  f287 := Tryz.func254.trans (congrArg some (by kernel_rfl))
  f316 := Tryz.func106.trans (congrArg some (by kernel_rfl))
  f317 := Tryz.func213.trans (congrArg some (by kernel_rfl))
  f318 := Tryz.func215.trans (congrArg some (by kernel_rfl))
  f319 := Tryz.func216.trans (congrArg some (by kernel_rfl))
  f320 := Tryz.func217.trans (congrArg some (by kernel_rfl))
  f321 := Tryz.func261.trans (congrArg some (by kernel_rfl))
  f322 := Tryz.func262.trans (congrArg some (by kernel_rfl))
  f337 := Tryz.func225.trans (congrArg some (by kernel_rfl))
  f338 := Tryz.func226.trans (congrArg some (by kernel_rfl))
  t0 := Tryz.underlying0
  a0 := Tryz.isAgg0
  z0 := Tryz.sizeOf0
  v0 := Tryz.zeroValue0
  t2 := Tryz.underlying2
  a2 := Tryz.isAgg2
  z2 := Tryz.sizeOf2
  v2 := Tryz.zeroValue2
  t3 := Tryz.underlying3
  a3 := Tryz.isAgg3
  z3 := Tryz.sizeOf3
  v3 := Tryz.zeroValue3
  t4 := Tryz.underlying4
  a4 := Tryz.isAgg4
  z4 := Tryz.sizeOf4
  v4 := Tryz.zeroValue4
  t5 := Tryz.underlying5
  a5 := Tryz.isAgg5
  z5 := Tryz.sizeOf5
  v5 := Tryz.zeroValue5
  t9 := Tryz.underlying9
  a9 := Tryz.isAgg9
  z9 := Tryz.sizeOf9
  v9 := Tryz.zeroValue9
  t20 := Tryz.underlying20
  a20 := Tryz.isAgg20
  z20 := Tryz.sizeOf20
  v20 := Tryz.zeroValue20
  t21 := Tryz.underlying21
  a21 := Tryz.isAgg21
  z21 := Tryz.sizeOf21
  v21 := Tryz.zeroValue21
  t37 := Tryz.underlying33
  a37 := Tryz.isAgg33
  z37 := Tryz.sizeOf33
  v37 := Tryz.zeroValue33
  t46 := Tryz.underlying202
  a46 := Tryz.isAgg202
  z46 := Tryz.sizeOf202
  v46 := Tryz.zeroValue202
  t51 := Tryz.underlying213
  a51 := Tryz.isAgg213
  z51 := Tryz.sizeOf213
  v51 := Tryz.zeroValue213
  t53 := Tryz.underlying196
  a53 := Tryz.isAgg196
  z53 := Tryz.sizeOf196
  v53 := Tryz.zeroValue196
  t75 := Tryz.underlying176
  a75 := Tryz.isAgg176
  z75 := Tryz.sizeOf176
  v75 := Tryz.zeroValue176
  t85 := Tryz.underlying233
  a85 := Tryz.isAgg233
  z85 := Tryz.sizeOf233
  v85 := Tryz.zeroValue233
  t127 := Tryz.underlying117
  a127 := Tryz.isAgg117
  z127 := Tryz.sizeOf117
  v127 := Tryz.zeroValue117
  t143 := Tryz.underlying252
  a143 := Tryz.isAgg252
  z143 := Tryz.sizeOf252
  v143 := Tryz.zeroValue252
  t145 := Tryz.underlying254
  a145 := Tryz.isAgg254
  z145 := Tryz.sizeOf254
  v145 := Tryz.zeroValue254
  t167 := Tryz.underlying237
  a167 := Tryz.isAgg237
  z167 := Tryz.sizeOf237
  v167 := Tryz.zeroValue237
  t168 := Tryz.underlying240
  a168 := Tryz.isAgg240
  z168 := Tryz.sizeOf240
  v168 := Tryz.zeroValue240
  t171 := Tryz.underlying195
  a171 := Tryz.isAgg195
  z171 := Tryz.sizeOf195
  v171 := Tryz.zeroValue195
  t173 := Tryz.underlying199
  a173 := Tryz.isAgg199
  z173 := Tryz.sizeOf199
  v173 := Tryz.zeroValue199
  t175 := Tryz.underlying238
  a175 := Tryz.isAgg238
  z175 := Tryz.sizeOf238
  v175 := Tryz.zeroValue238
  t210 := Tryz.underlying245
  a210 := Tryz.isAgg245
  z210 := Tryz.sizeOf245
  v210 := Tryz.zeroValue245
  t212 := Tryz.underlying212
  a212 := Tryz.isAgg212
  z212 := Tryz.sizeOf212
  v212 := Tryz.zeroValue212
  t213 := Tryz.underlying214
  a213 := Tryz.isAgg214
  z213 := Tryz.sizeOf214
  t232 := Tryz.underlying225
  a232 := Tryz.isAgg225
  z232 := Tryz.sizeOf225
  v232 := Tryz.zeroValue225
  t233 := Tryz.underlying226
  a233 := Tryz.isAgg226
  z233 := Tryz.sizeOf226
  v233 := Tryz.zeroValue226
  g15 := by kernel_rfl
  g16 := by kernel_rfl
  g17 := by kernel_rfl
  g18 := by kernel_rfl
  g19 := by kernel_rfl
  t80 := Tryz.underlying90
  a80 := Tryz.isAgg90
  z80 := Tryz.sizeOf90
  v80 := Tryz.zeroValue90
  i0 := by kernel_rfl
  i2 := by kernel_rfl
  i3 := by kernel_rfl
  i4 := by kernel_rfl
  i5 := by kernel_rfl
  i9 := by kernel_rfl
  i20 := by kernel_rfl
  i21 := by kernel_rfl
  i37 := by kernel_rfl
  i46 := by kernel_rfl
  i51 := by kernel_rfl
  i53 := by kernel_rfl
  i75 := by kernel_rfl
  i80 := by kernel_rfl
  i85 := by kernel_rfl
  i127 := by kernel_rfl
  i143 := by kernel_rfl
  i145 := by kernel_rfl
  i167 := by kernel_rfl
  i168 := by kernel_rfl
  i171 := by kernel_rfl
  i173 := by kernel_rfl
  i175 := by kernel_rfl
  i210 := by kernel_rfl
  i212 := by kernel_rfl
  i232 := by kernel_rfl
  i233 := by kernel_rfl
  m15 := by kernel_rfl
  m16 := by kernel_rfl
  m17 := by kernel_rfl
  m18 := by kernel_rfl
  m19 := by kernel_rfl
  c0 := by kernel_rfl
  c2 := by kernel_rfl
  c3 := by kernel_rfl
  c4 := by kernel_rfl
  c5 := by kernel_rfl
  c9 := by kernel_rfl
  c20 := by kernel_rfl
  c21 := by kernel_rfl
  c37 := by kernel_rfl
  c46 := by kernel_rfl
  c51 := by kernel_rfl
  c53 := by kernel_rfl
  c75 := by kernel_rfl
  c80 := by kernel_rfl
  c85 := by kernel_rfl
  c127 := by kernel_rfl
  c143 := by kernel_rfl
  c145 := by kernel_rfl
  c167 := by kernel_rfl
  c168 := by kernel_rfl
  c171 := by kernel_rfl
  c173 := by kernel_rfl
  c175 := by kernel_rfl
  c210 := by kernel_rfl
  c212 := by kernel_rfl
  c213 := by kernel_rfl
  c232 := by kernel_rfl
  c233 := by kernel_rfl
  }
end Go.Proofs

