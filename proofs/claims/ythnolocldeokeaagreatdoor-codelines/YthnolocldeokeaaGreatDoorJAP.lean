/- code.Decode. -/
import Derived.Test.YthnolocldeokeaaGreatDoorJAO
namespace Go.Proofs.YthnolocldeokeaaGreatDoor
open Go.RowKit Go.Deep Go.Shelf
set_option linter.unusedVariables false
set_option linter.unusedSimpArgs false
set_option maxRecDepth 100000
/- The rows that were read, as they lie. -/
structure DeR (V : World) (B : Nat) (x0 x1 x2 x3 x4 x5 x6 x7 : Value) (rs : List Rc) (ms : List Mp) (fs es : List Sg) (is : List Int) (ts : List ByteArray) (F E : List Fx) : Prop where
  r : RcsD V B x0 rs
  m : MpsN V B x1 ms
  f : SgsN V B x2 fs
  e : SgsN V B x3 es
  i : KR 2 1 V B x4 (is.map inc)
  t : KR 9 1 V B x5 (ts.map stc)
  F : FnsN V B x6 F
  E : FnsN V B x7 E
theorem DeR.above {V V' : World} {B : Nat} {x0 x1 x2 x3 x4 x5 x6 x7 : Value} {rs : List Rc} {ms : List Mp} {fs es : List Sg} {is : List Int} {ts : List ByteArray} {F E : List Fx} (h : DeR V B x0 x1 x2 x3 x4 x5 x6 x7 rs ms fs es is ts F E) (q : ∀ g, B ≤ g → g < V.heap.size → V'.heap[g]? = V.heap[g]?) : DeR V' B x0 x1 x2 x3 x4 x5 x6 x7 rs ms fs es is ts F E := ⟨h.r.above q, h.m.above q, h.f.above q, h.e.above q, h.i.above q, h.t.above q, h.F.above q, h.E.above q⟩
theorem SgsN.nil (w : World) (B : Nat) : SgsN w B (.slice none 0 0) [] := ⟨[], rfl, KR.nil _ _ _ _, fun p hp => by simp at hp⟩
theorem RcsD.nil (w : World) (B : Nat) : RcsD w B (.slice none 0 0) [] := ⟨[], rfl, KR.nil _ _ _ _, fun p hp => by simp at hp⟩
theorem KR.form {E : TypeId} {k : Nat} {w : World} {B : Nat} {v : Value} {l : List (List Value)} (h : KR E k w B v l) : ∃ a n c, v = .slice a n c := by
  obtain ⟨a, cap, e, _⟩ := h.rd
  exact ⟨a, _, cap, e⟩
theorem RcsD.form {w : World} {B : Nat} {v : Value} {l : List Rc} (h : RcsD w B v l) : ∃ a n c, v = .slice a n c := by
  obtain ⟨_, _, h2, _⟩ := h
  exact h2.form
theorem FnsN.form {w : World} {B : Nat} {v : Value} {l : List Fx} (h : FnsN w B v l) : ∃ a n c, v = .slice a n c := by
  obtain ⟨_, _, h2, _⟩ := h
  exact h2.form
theorem SgsN.form {w : World} {B : Nat} {v : Value} {ss : List Sg} (h : SgsN w B v ss) : ∃ a c, v = .slice a ss.length c := by
  obtain ⟨l, h1, h2, _⟩ := h
  obtain ⟨a, cap, e, _⟩ := h2.rd
  rw [List.length_map] at e
  exact ⟨a, cap, by rw [e, ← h1, List.length_map]⟩
structure DeW (w V : World) (t : Option (List Nat)) (x0 x1 x2 x3 x4 x5 x6 x7 : Value) : Prop where
  st : Rst V (w.heap.size + 1) (w.heap.size + 2) t
  bl : Below w.heap.size w V
  p : V.heap[w.heap.size]? = some (.cells #[.slice none 0 0, .slice none 0 0, .slice none 0 0, .slice none 0 0, .slice none 0 0, .slice none 0 0, .slice none 0 0, .slice none 0 0] 51 (0, 0))
  c : V.heap[w.heap.size + 2]? = some (.cells #[x0, x1, x2, x3, x4, x5, x6, x7] 51 (0, 0))
  sz : w.heap.size + 3 ≤ V.heap.size
theorem DeW.next {w V V' : World} {t t' : Option (List Nat)} {x0 x1 x2 x3 x4 x5 x6 x7 : Value} (h : DeW w V t x0 x1 x2 x3 x4 x5 x6 x7) (hs : Rst V' (w.heap.size + 1) (w.heap.size + 2) t') (hg : V.grownBy V' (some (w.heap.size + 1))) : DeW w V' t' x0 x1 x2 x3 x4 x5 x6 x7 :=
  ⟨hs, h.bl.grown hg (by have := h.sz; omega) (fun k e => by injection e with e; omega), (hg.block _ (lt_of_heap h.p) (fun e => by injection e with e; omega)).trans h.p, (hg.block _ (lt_of_heap h.c) (fun e => by injection e with e; omega)).trans h.c, Nat.le_trans h.sz hg.size⟩
theorem DeW.below {w V V' : World} {t : Option (List Nat)} {x0 x1 x2 x3 x4 x5 x6 x7 : Value} (h : DeW w V t x0 x1 x2 x3 x4 x5 x6 x7) (b : Below V.heap.size V V') : DeW w V' t x0 x1 x2 x3 x4 x5 x6 x7 := h.next (h.st.below b) (bgrown b _)
theorem DeW.put0 {w V : World} {t : Option (List Nat)} {x0 x1 x2 x3 x4 x5 x6 x7 : Value} (h : DeW w V t x0 x1 x2 x3 x4 x5 x6 x7) (v : Value) : DeW w (V.setCell ⟨w.heap.size + 2, 0, none⟩ v) t v x1 x2 x3 x4 x5 x6 x7 := by
  have gs := grown_set V (w.heap.size + 2) 0 v
  have k := heap_set_at h.c 0 v
  simp only [List.setIfInBounds_toArray, List.set_cons_zero, List.set_cons_succ] at k
  exact ⟨h.st.grown gs (fun r e => by cases e; omega), h.bl.setCell (show w.heap.size ≤ w.heap.size + 2 by omega) _, (gs.block _ (lt_of_heap h.p) (fun e => by injection e with e; omega)).trans h.p, k, by simpa using h.sz⟩
theorem DeW.put1 {w V : World} {t : Option (List Nat)} {x0 x1 x2 x3 x4 x5 x6 x7 : Value} (h : DeW w V t x0 x1 x2 x3 x4 x5 x6 x7) (v : Value) : DeW w (V.setCell ⟨w.heap.size + 2, 1, none⟩ v) t x0 v x2 x3 x4 x5 x6 x7 := by
  have gs := grown_set V (w.heap.size + 2) 1 v
  have k := heap_set_at h.c 1 v
  simp only [List.setIfInBounds_toArray, List.set_cons_zero, List.set_cons_succ] at k
  exact ⟨h.st.grown gs (fun r e => by cases e; omega), h.bl.setCell (show w.heap.size ≤ w.heap.size + 2 by omega) _, (gs.block _ (lt_of_heap h.p) (fun e => by injection e with e; omega)).trans h.p, k, by simpa using h.sz⟩
theorem DeW.put2 {w V : World} {t : Option (List Nat)} {x0 x1 x2 x3 x4 x5 x6 x7 : Value} (h : DeW w V t x0 x1 x2 x3 x4 x5 x6 x7) (v : Value) : DeW w (V.setCell ⟨w.heap.size + 2, 2, none⟩ v) t x0 x1 v x3 x4 x5 x6 x7 := by
  have gs := grown_set V (w.heap.size + 2) 2 v
  have k := heap_set_at h.c 2 v
  simp only [List.setIfInBounds_toArray, List.set_cons_zero, List.set_cons_succ] at k
  exact ⟨h.st.grown gs (fun r e => by cases e; omega), h.bl.setCell (show w.heap.size ≤ w.heap.size + 2 by omega) _, (gs.block _ (lt_of_heap h.p) (fun e => by injection e with e; omega)).trans h.p, k, by simpa using h.sz⟩
theorem DeW.put3 {w V : World} {t : Option (List Nat)} {x0 x1 x2 x3 x4 x5 x6 x7 : Value} (h : DeW w V t x0 x1 x2 x3 x4 x5 x6 x7) (v : Value) : DeW w (V.setCell ⟨w.heap.size + 2, 3, none⟩ v) t x0 x1 x2 v x4 x5 x6 x7 := by
  have gs := grown_set V (w.heap.size + 2) 3 v
  have k := heap_set_at h.c 3 v
  simp only [List.setIfInBounds_toArray, List.set_cons_zero, List.set_cons_succ] at k
  exact ⟨h.st.grown gs (fun r e => by cases e; omega), h.bl.setCell (show w.heap.size ≤ w.heap.size + 2 by omega) _, (gs.block _ (lt_of_heap h.p) (fun e => by injection e with e; omega)).trans h.p, k, by simpa using h.sz⟩
theorem DeW.put4 {w V : World} {t : Option (List Nat)} {x0 x1 x2 x3 x4 x5 x6 x7 : Value} (h : DeW w V t x0 x1 x2 x3 x4 x5 x6 x7) (v : Value) : DeW w (V.setCell ⟨w.heap.size + 2, 4, none⟩ v) t x0 x1 x2 x3 v x5 x6 x7 := by
  have gs := grown_set V (w.heap.size + 2) 4 v
  have k := heap_set_at h.c 4 v
  simp only [List.setIfInBounds_toArray, List.set_cons_zero, List.set_cons_succ] at k
  exact ⟨h.st.grown gs (fun r e => by cases e; omega), h.bl.setCell (show w.heap.size ≤ w.heap.size + 2 by omega) _, (gs.block _ (lt_of_heap h.p) (fun e => by injection e with e; omega)).trans h.p, k, by simpa using h.sz⟩
theorem DeW.put5 {w V : World} {t : Option (List Nat)} {x0 x1 x2 x3 x4 x5 x6 x7 : Value} (h : DeW w V t x0 x1 x2 x3 x4 x5 x6 x7) (v : Value) : DeW w (V.setCell ⟨w.heap.size + 2, 5, none⟩ v) t x0 x1 x2 x3 x4 v x6 x7 := by
  have gs := grown_set V (w.heap.size + 2) 5 v
  have k := heap_set_at h.c 5 v
  simp only [List.setIfInBounds_toArray, List.set_cons_zero, List.set_cons_succ] at k
  exact ⟨h.st.grown gs (fun r e => by cases e; omega), h.bl.setCell (show w.heap.size ≤ w.heap.size + 2 by omega) _, (gs.block _ (lt_of_heap h.p) (fun e => by injection e with e; omega)).trans h.p, k, by simpa using h.sz⟩
theorem DeW.put6 {w V : World} {t : Option (List Nat)} {x0 x1 x2 x3 x4 x5 x6 x7 : Value} (h : DeW w V t x0 x1 x2 x3 x4 x5 x6 x7) (v : Value) : DeW w (V.setCell ⟨w.heap.size + 2, 6, none⟩ v) t x0 x1 x2 x3 x4 x5 v x7 := by
  have gs := grown_set V (w.heap.size + 2) 6 v
  have k := heap_set_at h.c 6 v
  simp only [List.setIfInBounds_toArray, List.set_cons_zero, List.set_cons_succ] at k
  exact ⟨h.st.grown gs (fun r e => by cases e; omega), h.bl.setCell (show w.heap.size ≤ w.heap.size + 2 by omega) _, (gs.block _ (lt_of_heap h.p) (fun e => by injection e with e; omega)).trans h.p, k, by simpa using h.sz⟩
theorem DeW.put7 {w V : World} {t : Option (List Nat)} {x0 x1 x2 x3 x4 x5 x6 x7 : Value} (h : DeW w V t x0 x1 x2 x3 x4 x5 x6 x7) (v : Value) : DeW w (V.setCell ⟨w.heap.size + 2, 7, none⟩ v) t x0 x1 x2 x3 x4 x5 x6 v := by
  have gs := grown_set V (w.heap.size + 2) 7 v
  have k := heap_set_at h.c 7 v
  simp only [List.setIfInBounds_toArray, List.set_cons_zero, List.set_cons_succ] at k
  exact ⟨h.st.grown gs (fun r e => by cases e; omega), h.bl.setCell (show w.heap.size ≤ w.heap.size + 2 by omega) _, (gs.block _ (lt_of_heap h.p) (fun e => by injection e with e; omega)).trans h.p, k, by simpa using h.sz⟩
theorem kept {w V V' : World} (hg : V.grownBy V' (some (w.heap.size + 1))) (i : Nat) (v : Value) : ∀ g, w.heap.size + 3 ≤ g → g < V.heap.size → (V'.setCell ⟨w.heap.size + 2, i, none⟩ v).heap[g]? = V.heap[g]? := fun g h1 h2 => by
  rw [Below.heap_setCell _ ⟨w.heap.size + 2, i, none⟩ _ _ (show g ≠ w.heap.size + 2 by omega)]
  exact hg.block g h2 (fun e => by injection e with e; omega)
theorem kept2 {w V' : World} (i : Nat) (v : Value) : ∀ g, w.heap.size + 3 ≤ g → g < V'.heap.size → (V'.setCell ⟨w.heap.size + 2, i, none⟩ v).heap[g]? = V'.heap[g]? := fun g h1 h2 => Below.heap_setCell _ ⟨w.heap.size + 2, i, none⟩ _ _ (show g ≠ w.heap.size + 2 by omega)
/- A code as numbers holds what was read. -/
structure DEq (c : Cx) (rs : List Rc) (ms : List Mp) (fs es : List Sg) (is : List Int) (ts : List ByteArray) (F E : List Fx) : Prop where
  r : c.p.recs.map (·.2) = rs
  m : c.p.maps = ms
  f : c.p.funcs.map (·.2) = fs
  e : c.p.events.map (·.2) = es
  i : c.ints = is.length
  t : c.texts = ts
  F : c.funcs = F
  E : c.events = E
structure DeX (V : World) (B : Nat) (C : CH) (c : Cx) (fl el : List (FH × Fx)) (is : List Int) : Prop where
  r : KR 75 3 V B (.slice C.h.ra C.h.rn C.h.rc) (c.p.recs.map fun p => p.1.cs)
  r2 : ∀ p ∈ c.p.recs, RNw V B p
  m : MpsN V B (.slice C.h.ma C.h.mn C.h.mc) c.p.maps
  f : KR 35 4 V B (.slice C.h.fa C.h.fn C.h.fc) (c.p.funcs.map fun p => p.1.cs)
  f2 : ∀ p ∈ c.p.funcs, GNew V B p
  e : KR 35 4 V B (.slice C.h.ea C.h.en C.h.ec) (c.p.events.map fun p => p.1.cs)
  e2 : ∀ p ∈ c.p.events, GNew V B p
  i : KR 2 1 V B (.slice C.ia C.inn C.ic) (is.map inc)
  i1 : c.ints = is.length
  t : KR 9 1 V B (.slice C.ta C.tn C.tc) (c.texts.map stc)
  F : KR 46 2 V B (.slice C.fa C.fn C.fc) (fl.map fun p => p.1.cs)
  F2 : ∀ p ∈ fl, FNew V B p
  F3 : fl.map (·.2) = c.funcs
  E : KR 46 2 V B (.slice C.ea C.en C.ec) (el.map fun p => p.1.cs)
  E2 : ∀ p ∈ el, FNew V B p
  E3 : el.map (·.2) = c.events
theorem DeX.above {V V' : World} {B : Nat} {C : CH} {c : Cx} {fl el : List (FH × Fx)} {is : List Int} (h : DeX V B C c fl el is) (q : ∀ g, B ≤ g → g < V.heap.size → V'.heap[g]? = V.heap[g]?) : DeX V' B C c fl el is :=
  ⟨h.r.above q, fun p hp => (h.r2 p hp).above q, h.m.above q, h.f.above q, fun p hp => ⟨(h.f2 p hp).nm, (h.f2 p hp).ns, (h.f2 p hp).pr.above q, (h.f2 p hp).rs⟩, h.e.above q, fun p hp => ⟨(h.e2 p hp).nm, (h.e2 p hp).ns, (h.e2 p hp).pr.above q, (h.e2 p hp).rs⟩, h.i.above q, h.i1, h.t.above q, h.F.above q, fun p hp => ⟨(h.F2 p hp).rg, (h.F2 p hp).op.keep fun g e => q g ((h.F2 p hp).op.own e).1 ((h.F2 p hp).op.own e).2⟩, h.F3, h.E.above q, fun p hp => ⟨(h.E2 p hp).rg, (h.E2 p hp).op.keep fun g e => q g ((h.E2 p hp).op.own e).1 ((h.E2 p hp).op.own e).2⟩, h.E3⟩
theorem DeR.opn {V : World} {B : Nat} {x0 x1 x2 x3 x4 x5 x6 x7 : Value} {rs : List Rc} {ms : List Mp} {fs es : List Sg} {is : List Int} {ts : List ByteArray} {F E : List Fx} (h : DeR V B x0 x1 x2 x3 x4 x5 x6 x7 rs ms fs es is ts F E) : ∃ (C : CH) (c : Cx) (fl el : List (FH × Fx)), DeX V B C c fl el is ∧ DEq c rs ms fs es is ts F E ∧ (x0 = .slice C.h.ra C.h.rn C.h.rc ∧ x1 = .slice C.h.ma C.h.mn C.h.mc ∧ x2 = .slice C.h.fa C.h.fn C.h.fc ∧ x3 = .slice C.h.ea C.h.en C.h.ec) ∧ x4 = .slice C.ia C.inn C.ic ∧ x5 = .slice C.ta C.tn C.tc ∧ x6 = .slice C.fa C.fn C.fc ∧ x7 = .slice C.ea C.en C.ec := by
  obtain ⟨⟨lr, r1, r2, r3⟩, hm, ⟨lf, f1, f2, f3⟩, ⟨le, e1, e2, e3⟩, hi, ht, ⟨lF, F1, F2, F3⟩, ⟨lE, E1, E2, E3⟩⟩ := h
  obtain ⟨a0, c0, rfl, _⟩ := r2.rd
  obtain ⟨a1, c1, rfl, _⟩ := KR.rd hm
  obtain ⟨a2, c2, rfl, _⟩ := f2.rd
  obtain ⟨a3, c3, rfl, _⟩ := e2.rd
  obtain ⟨a4, c4, rfl, _⟩ := hi.rd
  obtain ⟨a5, c5, rfl, _⟩ := ht.rd
  obtain ⟨a6, c6, rfl, _⟩ := F2.rd
  obtain ⟨a7, c7, rfl, _⟩ := E2.rd
  exact ⟨⟨⟨a0, _, c0, a1, _, c1, a2, _, c2, a3, _, c3⟩, a4, _, c4, a5, _, c5, a6, _, c6, a7, _, c7⟩, ⟨⟨lr, ms, lf, le⟩, is.length, ts, F, E⟩, lF, lE, ⟨r2, r3, hm, f2, f3, e2, e3, hi, rfl, ht, F2, F3, F1, E2, E3, E1⟩, ⟨r1, rfl, f1, e1, rfl, rfl, rfl, rfl⟩, ⟨rfl, rfl, rfl, rfl⟩, rfl, rfl, rfl, rfl⟩
/- What lies so can be read as a code. -/
structure DeS (rs : List Rc) (ms : List Mp) (fs es : List Sg) (is : List Int) (ts : List ByteArray) (F E : List Fx) : Prop where
  r : rs.length ≤ 1000000
  m : ms.length ≤ 1000000
  m2 : ∀ m ∈ ms, m.name.size ≤ 1000000
  f : fs.length ≤ 1000000
  f2 : ∀ s ∈ fs, s.params.length ≤ 1000000
  e : es.length ≤ 1000000
  e2 : ∀ s ∈ es, s.params.length ≤ 1000000
  i : is.length ≤ 1000000
  t : ts.length ≤ 1000000
  t2 : ∀ s ∈ ts, s.size ≤ 1000000
  lF : F.length ≤ 1000000
  F2 : ∀ x ∈ F, x.ops.length ≤ 1000000
  lE : E.length ≤ 1000000
  E2 : ∀ x ∈ E, x.ops.length ≤ 1000000
theorem fr_of {w : World} {B : Nat} {a : Option Addr} {n c : Nat} {l : List (FH × Fx)} (k : KR 46 2 w B (.slice a n c) (l.map fun p => p.1.cs)) (h : ∀ p ∈ l, FNew w B p) (hl : l.length ≤ 1000000) (hp : ∀ p ∈ l, p.2.ops.length ≤ 1000000) : FRd w a n l := by
  obtain ⟨a', cap, e, _, hr, _, _⟩ := k.rd
  rw [List.length_map] at e
  cases e
  exact ⟨rfl, by omega, hr, fun p hq => (h p hq).rd (hp p hq)⟩
theorem DeX.cd {V : World} {B : Nat} {C : CH} {c : Cx} {fl el : List (FH × Fx)} {rs : List Rc} {ms : List Mp} {fs es : List Sg} {is : List Int} {ts : List ByteArray} {F E : List Fx} (h : DeX V B C c fl el is) (d : DEq c rs ms fs es is ts F E) (s : DeS rs ms fs es is ts F E) : CdRd V C c fl el ∧ JRd V C.ia is ∧ C.inn = is.length := by
  obtain ⟨d1, d2, d3, d4, d5, d6, d7, d8⟩ := d
  have l1 : c.p.recs.length ≤ 1000000 := by have := s.r; rw [← d1, List.length_map] at this; exact this
  have l3 : c.p.funcs.length ≤ 1000000 := by have := s.f; rw [← d3, List.length_map] at this; exact this
  have l4 : c.p.events.length ≤ 1000000 := by have := s.e; rw [← d4, List.length_map] at this; exact this
  have l7 : fl.length ≤ 1000000 := by have := s.lF; rw [← d7, ← h.F3, List.length_map] at this; exact this
  have l8 : el.length ≤ 1000000 := by have := s.lE; rw [← d8, ← h.E3, List.length_map] at this; exact this
  have hr : RRd V C.h.ra C.h.rn c.p.recs := by
    obtain ⟨a, cap, e, _, hr, _, _⟩ := h.r.rd
    rw [List.length_map] at e
    injection e with e1 e2 e3
    exact ⟨e2, by rw [e2]; omega, by rw [e1]; exact hr, fun p hp => (h.r2 p hp).rd⟩
  have hm : MRd V C.h.ma C.h.mn c.p.maps := by
    obtain ⟨a, cap, e, _, hr, _, _⟩ := KR.rd h.m
    rw [List.length_map] at e
    injection e with e1 e2 e3
    have lm := s.m
    rw [← d2] at lm
    exact ⟨e2, by rw [e2]; omega, by rw [e1]; exact hr, fun m hm => by have := s.m2 m (by rw [← d2]; exact hm); omega⟩
  have ht := h.t.rd
  have hi := h.i.rd
  obtain ⟨at', ct, et, _⟩ := ht
  obtain ⟨ai', ci, ei, _⟩ := hi
  rw [List.length_map] at et ei
  injection et with et1 et2 et3
  injection ei with ei1 ei2 ei3
  have st := s.t
  have si := s.i
  rw [← d6] at st
  refine ⟨⟨⟨hr, hm, sgs_rd h.f h.f2 l3 (fun p hp => s.f2 p.2 (by rw [← d3]; exact List.mem_map.2 ⟨p, hp, rfl⟩)), sgs_rd h.e h.e2 l4 (fun p hp => s.e2 p.2 (by rw [← d4]; exact List.mem_map.2 ⟨p, hp, rfl⟩))⟩, by rw [ei2, h.i1], by rw [ei2]; omega, et2, by rw [et2]; omega, h.t.srd (fun x hx => s.t2 x (by rw [← d6]; exact hx)), fr_of h.F h.F2 l7 (fun p hp => s.F2 p.2 (by rw [← d7, ← h.F3]; exact List.mem_map.2 ⟨p, hp, rfl⟩)), h.F3, fr_of h.E h.E2 l8 (fun p hp => s.E2 p.2 (by rw [← d8, ← h.E3]; exact List.mem_map.2 ⟨p, hp, rfl⟩)), h.E3⟩, h.i.jrd, ei2⟩
/- What Decode answers. -/
def DeQ (w : World) (rs : List Rc) (ms : List Mp) (fs es : List Sg) (is : List Int) (ts : List ByteArray) (F E : List Fx) (s : Option (List Nat)) (e : Ending) (w' : World) : Prop := Below w.heap.size w w' ∧
  ((s = some [] ∧ ∃ C c fl el, e = .returned (.tuple #[C.v, .int .i64 0]) ∧ isB c = true ∧ DEq c rs ms fs es is ts F E ∧ CdRd w' C c fl el ∧ JRd w' C.ia is ∧ C.inn = is.length) ∨
   ((s = some [] → ∃ c, DEq c rs ms fs es is ts F E ∧ isB c = false) ∧ e = .returned (.tuple #[zeroC, .int .i64 90])))
theorem rLn_from {α : Type} {one : Option (List Nat) → α × Option (List Nat)} : ∀ (n : Nat), (rLn one n none).2 = none
  | 0 => rfl
  | n + 1 => by
    have := rLn_from (one := one) n
    rcases h : rLn one n none with ⟨xs, st⟩
    rw [h] at this
    simp only at this
    subst this
    simp only [rLn, h]
set_option maxHeartbeats 8000000 in
theorem decode_go (SO : ShapeC) (w : World) (a : Option Addr) (n c : Nat) (bs : List Nat) (hb : Rd w (.slice a n c) bs) (hl : bs.length ≤ 1000000000) (ho : ∀ k, (Value.slice a n c).ownBlock = some k → k < w.heap.size)
    (rs : List Rc) (ms : List Mp) (fs es : List Sg) (is : List Int) (ts : List ByteArray) (F E : List Fx) (s0 s1 s2 s3 s4 s5 s6 s7 s8 : Option (List Nat)) (h0 : s0 = some bs)
    (q0 : rL rRc 16 s0 = (rs, s1)) (q1 : rL rMp 16 s1 = (ms, s2)) (q2 : rL rSg 16 s2 = (fs, s3)) (q3 : rL rSg 16 s3 = (es, s4)) (q4 : rL rI 1000 s4 = (is, s5)) (q5 : rL rT 1000 s5 = (ts, s6)) (q6 : rLn rFn fs.length s6 = (F, s7)) (q7 : rLn rFn es.length s7 = (E, s8)) (sm : s8 ≠ none → DeS rs ms fs es is ts F E) (lf : fs.length ≤ 16) (le : es.length ≤ 16) :
    Calls Tryz.prog 9 #[.slice a n c] w (DeQ w rs ms fs es is ts F E s8) := by
  obtain ⟨W, hW⟩ : ∃ W, W = ((w.alloc (.cells #[.slice none 0 0, .slice none 0 0, .slice none 0 0, .slice none 0 0, .slice none 0 0, .slice none 0 0, .slice none 0 0, .slice none 0 0] 51)).alloc (.cells #[.slice a n c, .bool false] 94)).alloc (.cells #[.slice none 0 0, .slice none 0 0, .slice none 0 0, .slice none 0 0, .slice none 0 0, .slice none 0 0, .slice none 0 0, .slice none 0 0] 51) := ⟨_, rfl⟩
  have DW : Hid (DeW w W s0 (.slice none 0 0) (.slice none 0 0) (.slice none 0 0) (.slice none 0 0) (.slice none 0 0) (.slice none 0 0) (.slice none 0 0) (.slice none 0 0)) := hid (by
    subst h0
    obtain ⟨A, hA⟩ : ∃ A, A = w.alloc (.cells #[.slice none 0 0, .slice none 0 0, .slice none 0 0, .slice none 0 0, .slice none 0 0, .slice none 0 0, .slice none 0 0, .slice none 0 0] 51) := ⟨_, rfl⟩
    obtain ⟨A2, hA2⟩ : ∃ A2, A2 = A.alloc (.cells #[.slice a n c, .bool false] 94) := ⟨_, rfl⟩
    rw [← hA, ← hA2] at hW
    have z1 : A.heap.size = w.heap.size + 1 := by rw [hA]; simp
    have z2 : A2.heap.size = w.heap.size + 2 := by rw [hA2]; simp [z1]
    have z3 : W.heap.size = w.heap.size + 3 := by rw [hW]; simp [z2]
    have b1 : Below w.heap.size w A := by rw [hA]; exact (Below.refl _ _).alloc (Nat.le_refl _) _
    have b2 : Below w.heap.size w A2 := by rw [hA2]; exact b1.alloc (by omega) _
    have b3 : Below w.heap.size w W := by rw [hW]; exact b2.alloc (by omega) _
    have m0 : W.heap[w.heap.size]? = some (.cells #[.slice none 0 0, .slice none 0 0, .slice none 0 0, .slice none 0 0, .slice none 0 0, .slice none 0 0, .slice none 0 0, .slice none 0 0] 51 (0, 0)) := by rw [hW, Below.heap_alloc _ _ _ (by omega), hA2, Below.heap_alloc _ _ _ (by omega), hA]; exact heap_alloc_new w _
    have m1 : W.heap[w.heap.size + 1]? = some (.cells #[.slice a n c, .bool false] 94 (0, 0)) := by rw [hW, Below.heap_alloc _ _ _ (by omega), hA2, ← z1]; exact heap_alloc_new A _
    have m2 : W.heap[w.heap.size + 2]? = some (.cells #[.slice none 0 0, .slice none 0 0, .slice none 0 0, .slice none 0 0, .slice none 0 0, .slice none 0 0, .slice none 0 0, .slice none 0 0] 51 (0, 0)) := by rw [hW, ← z2]; exact heap_alloc_new A2 _
    exact ⟨⟨⟨a, n, c, m1, hb.same fun k e _ => b3.block k (ho k e), fun k e => ⟨by have := ho k e; omega, by have := ho k e; omega⟩, fun e => by cases e⟩, hl, by omega, by omega⟩, b3, m0, m2, by omega⟩)
  have DR : Hid (DeR W (w.heap.size + 3) (.slice none 0 0) (.slice none 0 0) (.slice none 0 0) (.slice none 0 0) (.slice none 0 0) (.slice none 0 0) (.slice none 0 0) (.slice none 0 0) [] [] [] [] [] [] [] []) := hid ⟨RcsD.nil _ _, KR.nil _ _ _ _, SgsN.nil _ _, SgsN.nil _ _, KR.nil _ _ _ _, KR.nil _ _ _ _, FnsN.nil _ _, FnsN.nil _ _⟩
  have K3 : Hid (∀ V : World, Rst V (w.heap.size + 1) (w.heap.size + 2) s0 → Calls Tryz.prog 32 #[.pointer (some ⟨w.heap.size + 1, 0, none⟩), .int .u64 16, .func (.func 33) #[.pointer (some ⟨w.heap.size + 1, 0, none⟩)] #[]] V (LrP V (w.heap.size + 1) (w.heap.size + 2) rs s1)) := hid (fun V hV => by
    have := rdRecords_any V (w.heap.size + 1) (w.heap.size + 2) s0 16 hV (by omega)
    rw [q0] at this
    exact this)
  have K4 : Hid (∀ V : World, Rst V (w.heap.size + 1) (w.heap.size + 2) s1 → Calls Tryz.prog 34 #[.pointer (some ⟨w.heap.size + 1, 0, none⟩), .int .u64 16, .func (.func 35) #[.pointer (some ⟨w.heap.size + 1, 0, none⟩)] #[]] V (LsP 79 5 V (w.heap.size + 1) (w.heap.size + 2) (ms.map Mp.cs) s2)) := hid (fun V hV => by
    have := rdMaps_any V (w.heap.size + 1) (w.heap.size + 2) s1 16 rMp hV (by omega) (fun V t hV => mapType_any V _ _ t hV)
    rw [q1] at this
    exact this)
  have K5 : Hid (∀ V : World, Rst V (w.heap.size + 1) (w.heap.size + 2) s2 → Calls Tryz.prog 36 #[.pointer (some ⟨w.heap.size + 1, 0, none⟩), .int .u64 16, .func (.func 37) #[.pointer (some ⟨w.heap.size + 1, 0, none⟩)] #[]] V (LgP V (w.heap.size + 1) (w.heap.size + 2) fs s3)) := hid (fun V hV => by
    have := rdSigs_any V (w.heap.size + 1) (w.heap.size + 2) s2 16 hV (by omega)
    rw [q2] at this
    exact this)
  have K6 : Hid (∀ V : World, Rst V (w.heap.size + 1) (w.heap.size + 2) s3 → Calls Tryz.prog 36 #[.pointer (some ⟨w.heap.size + 1, 0, none⟩), .int .u64 16, .func (.func 37) #[.pointer (some ⟨w.heap.size + 1, 0, none⟩)] #[]] V (LgP V (w.heap.size + 1) (w.heap.size + 2) es s4)) := hid (fun V hV => by
    have := rdSigs_any V (w.heap.size + 1) (w.heap.size + 2) s3 16 hV (by omega)
    rw [q3] at this
    exact this)
  have K7 : Hid (∀ V : World, Rst V (w.heap.size + 1) (w.heap.size + 2) s4 → Calls Tryz.prog 38 #[.pointer (some ⟨w.heap.size + 1, 0, none⟩), .int .u64 1000, .func (.func 39) #[.pointer (some ⟨w.heap.size + 1, 0, none⟩)] #[]] V (LsP 2 1 V (w.heap.size + 1) (w.heap.size + 2) (is.map inc) s5)) := hid (fun V hV => by
    have := rdInts_any V (w.heap.size + 1) (w.heap.size + 2) s4 1000 rI hV (by omega) (fun V t hV => integer_any V _ _ t hV)
    rw [q4] at this
    exact this)
  have K8 : Hid (∀ V : World, Rst V (w.heap.size + 1) (w.heap.size + 2) s5 → Calls Tryz.prog 40 #[.pointer (some ⟨w.heap.size + 1, 0, none⟩), .int .u64 1000, .func (.func 41) #[.pointer (some ⟨w.heap.size + 1, 0, none⟩)] #[]] V (LsP 9 1 V (w.heap.size + 1) (w.heap.size + 2) (ts.map stc) s6)) := hid (fun V hV => by
    have := rdTexts_any V (w.heap.size + 1) (w.heap.size + 2) s5 1000 rT hV (by omega) (fun V t hV => text_rd V _ _ t hV)
    rw [q5] at this
    exact this)
  have K9 : Hid (∀ (V : World) (da : Option Addr) (dc : Nat), Rst V (w.heap.size + 1) (w.heap.size + 2) s6 → Calls Tryz.prog 42 #[.pointer (some ⟨w.heap.size + 1, 0, none⟩), .slice da fs.length dc] V (FsP V (w.heap.size + 1) (w.heap.size + 2) fs.length F s7)) := hid (fun V da dc hV => by
    have := functions_any SO V (w.heap.size + 1) (w.heap.size + 2) s6 hV da fs.length dc (by omega)
    rw [q6] at this
    exact this)
  have K10 : Hid (∀ (V : World) (da : Option Addr) (dc : Nat), Rst V (w.heap.size + 1) (w.heap.size + 2) s7 → Calls Tryz.prog 42 #[.pointer (some ⟨w.heap.size + 1, 0, none⟩), .slice da es.length dc] V (FsP V (w.heap.size + 1) (w.heap.size + 2) es.length E s8)) := hid (fun V da dc hV => by
    have := functions_any SO V (w.heap.size + 1) (w.heap.size + 2) s7 hV da es.length dc (by omega)
    rw [q7] at this
    exact this)
  have S78 : Hid (s8 ≠ none → s7 ≠ none) := hid (fun e e7 => by subst e7; have := rLn_from (one := rFn) es.length; rw [q7] at this; exact e this)
  have KI := hid (fun (V : World) (C : CH) (c : Cx) (fl el : List (FH × Fx)) (d : CdRd V C c fl el) => codeIs_any SO V C c fl el d)
  have SM := hid sm
  clear q0 q1 q2 q3 q4 q5 q6 q7 hb hl ho sm lf le SO
  go_enter Tryz.func9, Tryz.ntmps9
  go_upto_region 3 with fail
  rw [← hW]
  clear hW h0
  rw [show w.heap.size + 1 + 1 = w.heap.size + 2 from rfl]
  obtain ⟨k0, k1, k2, k3, k4, k5, k6, k7⟩ := cell_eight DW.out.c
  go_upto_region 4 with (go_at_call 32; (refine (K3.out W DW.out.st).mono ?_; rintro e U3 ⟨v3, rfl, hrow, hs, hg⟩; obtain ⟨va3, vn3, vc3, rfl⟩ := hrow.form; have DN := hid (DW.out.next hs hg); have DQ := hid (DN.out.put0 (.slice va3 vn3 vc3)); have DT := hid (by have q := DR.out.above (kept hg 0 (.slice va3 vn3 vc3)); have hsz := DW.out.sz; exact DeR.mk ((hrow.lower hsz).above (kept2 0 (.slice va3 vn3 vc3))) (q.m) (q.f) (q.e) (q.i) (q.t) (q.F) (q.E)); clear k0 k1 k2 k3 k4 k5 k6 k7; obtain ⟨k0, k1, k2, k3, k4, k5, k6, k7⟩ := cell_eight DN.out.c; obtain ⟨f0, f1, f2, f3, f4, f5, f6, f7⟩ := free_eight DN.out.c; clear hrow hs hg))
  obtain ⟨W4, hW4⟩ : ∃ X, X = U3.setCell ⟨w.heap.size + 2, 0, none⟩ (.slice va3 vn3 vc3) := ⟨_, rfl⟩
  rw [← hW4] at DQ DT
  rw [← hW4]
  clear hW4 DN DW DR k0 k1 k2 k3 k4 k5 k6 k7 f0 f1 f2 f3 f4 f5 f6 f7 K3
  have DW := DQ
  have DR := DT
  clear DQ DT
  obtain ⟨k0, k1, k2, k3, k4, k5, k6, k7⟩ := cell_eight DW.out.c
  go_upto_region 5 with (go_at_call 34; (refine (K4.out W4 DW.out.st).mono ?_; rintro e U4 ⟨v4, rfl, hrow, hs, hg⟩; obtain ⟨va4, vn4, vc4, rfl⟩ := hrow.form; have DN := hid (DW.out.next hs hg); have DQ := hid (DN.out.put1 (.slice va4 vn4 vc4)); have DT := hid (by have q := DR.out.above (kept hg 1 (.slice va4 vn4 vc4)); have hsz := DW.out.sz; exact DeR.mk (q.r) ((hrow.lower hsz).above (kept2 1 (.slice va4 vn4 vc4))) (q.f) (q.e) (q.i) (q.t) (q.F) (q.E)); clear k0 k1 k2 k3 k4 k5 k6 k7; obtain ⟨k0, k1, k2, k3, k4, k5, k6, k7⟩ := cell_eight DN.out.c; obtain ⟨f0, f1, f2, f3, f4, f5, f6, f7⟩ := free_eight DN.out.c; clear hrow hs hg))
  obtain ⟨W5, hW5⟩ : ∃ X, X = U4.setCell ⟨w.heap.size + 2, 1, none⟩ (.slice va4 vn4 vc4) := ⟨_, rfl⟩
  rw [← hW5] at DQ DT
  rw [← hW5]
  clear hW5 DN DW DR k0 k1 k2 k3 k4 k5 k6 k7 f0 f1 f2 f3 f4 f5 f6 f7 K4
  have DW := DQ
  have DR := DT
  clear DQ DT
  obtain ⟨k0, k1, k2, k3, k4, k5, k6, k7⟩ := cell_eight DW.out.c
  go_upto_region 6 with (go_at_call 36; (refine (K5.out W5 DW.out.st).mono ?_; rintro e U5 ⟨v5, rfl, hrow, hs, hg⟩; obtain ⟨a5, c5, rfl⟩ := hrow.form; have DN := hid (DW.out.next hs hg); have DQ := hid (DN.out.put2 (.slice a5 fs.length c5)); have DT := hid (by have q := DR.out.above (kept hg 2 (.slice a5 fs.length c5)); have hsz := DW.out.sz; exact DeR.mk (q.r) (q.m) ((hrow.lower hsz).above (kept2 2 (.slice a5 fs.length c5))) (q.e) (q.i) (q.t) (q.F) (q.E)); clear k0 k1 k2 k3 k4 k5 k6 k7; obtain ⟨k0, k1, k2, k3, k4, k5, k6, k7⟩ := cell_eight DN.out.c; obtain ⟨f0, f1, f2, f3, f4, f5, f6, f7⟩ := free_eight DN.out.c; clear hrow hs hg))
  obtain ⟨W6, hW6⟩ : ∃ X, X = U5.setCell ⟨w.heap.size + 2, 2, none⟩ (.slice a5 fs.length c5) := ⟨_, rfl⟩
  rw [← hW6] at DQ DT
  rw [← hW6]
  clear hW6 DN DW DR k0 k1 k2 k3 k4 k5 k6 k7 f0 f1 f2 f3 f4 f5 f6 f7 K5
  have DW := DQ
  have DR := DT
  clear DQ DT
  obtain ⟨k0, k1, k2, k3, k4, k5, k6, k7⟩ := cell_eight DW.out.c
  go_upto_region 7 with (go_at_call 36; (refine (K6.out W6 DW.out.st).mono ?_; rintro e U6 ⟨v6, rfl, hrow, hs, hg⟩; obtain ⟨a6, c6, rfl⟩ := hrow.form; have DN := hid (DW.out.next hs hg); have DQ := hid (DN.out.put3 (.slice a6 es.length c6)); have DT := hid (by have q := DR.out.above (kept hg 3 (.slice a6 es.length c6)); have hsz := DW.out.sz; exact DeR.mk (q.r) (q.m) (q.f) ((hrow.lower hsz).above (kept2 3 (.slice a6 es.length c6))) (q.i) (q.t) (q.F) (q.E)); clear k0 k1 k2 k3 k4 k5 k6 k7; obtain ⟨k0, k1, k2, k3, k4, k5, k6, k7⟩ := cell_eight DN.out.c; obtain ⟨f0, f1, f2, f3, f4, f5, f6, f7⟩ := free_eight DN.out.c; clear hrow hs hg))
  obtain ⟨W7, hW7⟩ : ∃ X, X = U6.setCell ⟨w.heap.size + 2, 3, none⟩ (.slice a6 es.length c6) := ⟨_, rfl⟩
  rw [← hW7] at DQ DT
  rw [← hW7]
  clear hW7 DN DW DR k0 k1 k2 k3 k4 k5 k6 k7 f0 f1 f2 f3 f4 f5 f6 f7 K6
  have DW := DQ
  have DR := DT
  clear DQ DT
  obtain ⟨k0, k1, k2, k3, k4, k5, k6, k7⟩ := cell_eight DW.out.c
  go_upto_region 8 with (go_at_call 38; (refine (K7.out W7 DW.out.st).mono ?_; rintro e U7 ⟨v7, rfl, hrow, hs, hg⟩; obtain ⟨va7, vn7, vc7, rfl⟩ := hrow.form; have DN := hid (DW.out.next hs hg); have DQ := hid (DN.out.put4 (.slice va7 vn7 vc7)); have DT := hid (by have q := DR.out.above (kept hg 4 (.slice va7 vn7 vc7)); have hsz := DW.out.sz; exact DeR.mk (q.r) (q.m) (q.f) (q.e) ((hrow.lower hsz).above (kept2 4 (.slice va7 vn7 vc7))) (q.t) (q.F) (q.E)); clear k0 k1 k2 k3 k4 k5 k6 k7; obtain ⟨k0, k1, k2, k3, k4, k5, k6, k7⟩ := cell_eight DN.out.c; obtain ⟨f0, f1, f2, f3, f4, f5, f6, f7⟩ := free_eight DN.out.c; clear hrow hs hg))
  obtain ⟨W8, hW8⟩ : ∃ X, X = U7.setCell ⟨w.heap.size + 2, 4, none⟩ (.slice va7 vn7 vc7) := ⟨_, rfl⟩
  rw [← hW8] at DQ DT
  rw [← hW8]
  clear hW8 DN DW DR k0 k1 k2 k3 k4 k5 k6 k7 f0 f1 f2 f3 f4 f5 f6 f7 K7
  have DW := DQ
  have DR := DT
  clear DQ DT
  obtain ⟨k0, k1, k2, k3, k4, k5, k6, k7⟩ := cell_eight DW.out.c
  go_upto_region 9 with (go_at_call 40; (refine (K8.out W8 DW.out.st).mono ?_; rintro e U8 ⟨v8, rfl, hrow, hs, hg⟩; obtain ⟨va8, vn8, vc8, rfl⟩ := hrow.form; have DN := hid (DW.out.next hs hg); have DQ := hid (DN.out.put5 (.slice va8 vn8 vc8)); have DT := hid (by have q := DR.out.above (kept hg 5 (.slice va8 vn8 vc8)); have hsz := DW.out.sz; exact DeR.mk (q.r) (q.m) (q.f) (q.e) (q.i) ((hrow.lower hsz).above (kept2 5 (.slice va8 vn8 vc8))) (q.F) (q.E)); clear k0 k1 k2 k3 k4 k5 k6 k7; obtain ⟨k0, k1, k2, k3, k4, k5, k6, k7⟩ := cell_eight DN.out.c; obtain ⟨f0, f1, f2, f3, f4, f5, f6, f7⟩ := free_eight DN.out.c; clear hrow hs hg))
  obtain ⟨W9, hW9⟩ : ∃ X, X = U8.setCell ⟨w.heap.size + 2, 5, none⟩ (.slice va8 vn8 vc8) := ⟨_, rfl⟩
  rw [← hW9] at DQ DT
  rw [← hW9]
  clear hW9 DN DW DR k0 k1 k2 k3 k4 k5 k6 k7 f0 f1 f2 f3 f4 f5 f6 f7 K8
  have DW := DQ
  have DR := DT
  clear DQ DT
  obtain ⟨k0, k1, k2, k3, k4, k5, k6, k7⟩ := cell_eight DW.out.c
  go_upto_region 10 with (go_at_call 42; (refine (K9.out W9 a5 c5 DW.out.st).mono ?_; rintro e U9 ⟨v9, l9, rfl, hrow, hn9, he9, hs, hg⟩; obtain ⟨va9, vn9, vc9, rfl⟩ := hrow.form; have DN := hid (DW.out.next hs hg); have DQ := hid (DN.out.put6 (.slice va9 vn9 vc9)); have DT := hid (by have q := DR.out.above (kept hg 6 (.slice va9 vn9 vc9)); have hsz := DW.out.sz; exact DeR.mk (q.r) (q.m) (q.f) (q.e) (q.i) (q.t) ((FnsN.lower hrow hsz).above (kept2 6 (.slice va9 vn9 vc9))) (q.E)); clear k0 k1 k2 k3 k4 k5 k6 k7; obtain ⟨k0, k1, k2, k3, k4, k5, k6, k7⟩ := cell_eight DN.out.c; obtain ⟨f0, f1, f2, f3, f4, f5, f6, f7⟩ := free_eight DN.out.c; clear hrow hs hg))
  obtain ⟨W10, hW10⟩ : ∃ X, X = U9.setCell ⟨w.heap.size + 2, 6, none⟩ (.slice va9 vn9 vc9) := ⟨_, rfl⟩
  rw [← hW10] at DQ DT
  rw [← hW10]
  clear hW10 DN DW DR k0 k1 k2 k3 k4 k5 k6 k7 f0 f1 f2 f3 f4 f5 f6 f7 K9
  have DW := DQ
  have DR := DT
  clear DQ DT
  obtain ⟨k0, k1, k2, k3, k4, k5, k6, k7⟩ := cell_eight DW.out.c
  go_upto_region 11 with (go_at_call 42; (refine (K10.out W10 a6 c6 DW.out.st).mono ?_; rintro e U10 ⟨v10, l10, rfl, hrow, hn10, he10, hs, hg⟩; obtain ⟨va10, vn10, vc10, rfl⟩ := hrow.form; have DN := hid (DW.out.next hs hg); have DQ := hid (DN.out.put7 (.slice va10 vn10 vc10)); have DT := hid (by have q := DR.out.above (kept hg 7 (.slice va10 vn10 vc10)); have hsz := DW.out.sz; exact DeR.mk (q.r) (q.m) (q.f) (q.e) (q.i) (q.t) (q.F) ((FnsN.lower hrow hsz).above (kept2 7 (.slice va10 vn10 vc10)))); clear k0 k1 k2 k3 k4 k5 k6 k7; obtain ⟨k0, k1, k2, k3, k4, k5, k6, k7⟩ := cell_eight DN.out.c; obtain ⟨f0, f1, f2, f3, f4, f5, f6, f7⟩ := free_eight DN.out.c; clear hrow hs hg))
  obtain ⟨W11, hW11⟩ : ∃ X, X = U10.setCell ⟨w.heap.size + 2, 7, none⟩ (.slice va10 vn10 vc10) := ⟨_, rfl⟩
  rw [← hW11] at DQ DT
  rw [← hW11]
  clear hW11 DN DW DR k0 k1 k2 k3 k4 k5 k6 k7 f0 f1 f2 f3 f4 f5 f6 f7 K10
  have DW := DQ
  have DR := DT
  clear DQ DT
  obtain ⟨k0, k1, k2, k3, k4, k5, k6, k7⟩ := cell_eight DW.out.c
  obtain ⟨⟨ra, rn, rc, hR, hrd, _, hnil⟩, _, _, _⟩ := DW.out.st
  have r0 := cellOf hR 0
  have r1 := cellOf hR 1
  simp only [List.getElem?_toArray, List.getElem?_cons_zero, List.getElem?_cons_succ] at r0 r1
  have hrn : rn = (s8.getD []).length := by obtain ⟨_, _, e, _⟩ := hrd; cases e; rfl
  clear hR hrd hnil
  rcases s8 with _ | bl
  · simp only [Option.isNone_none] at r1
    clear hrn
    obtain ⟨d0, d1, d2, d3, d4, d5, d6, d7⟩ := cell_eight DW.out.p
    obtain ⟨y0, y1, y2, y3, y4, y5, y6, y7⟩ := free_eight DW.out.p
    have qq := hid (cell_eight (eight_new DW.out.p (.slice none 0 0) (.slice none 0 0) (.slice none 0 0) (.slice none 0 0) (.slice none 0 0) (.slice none 0 0) (.slice none 0 0) (.slice none 0 0)))
    have HB6 := hid (eight_below DW.out.bl (Nat.le_refl _) (.slice none 0 0) (.slice none 0 0) (.slice none 0 0) (.slice none 0 0) (.slice none 0 0) (.slice none 0 0) (.slice none 0 0) (.slice none 0 0))
    go_wp2
    obtain ⟨q0, q1, q2, q3, q4, q5, q6, q7⟩ := qq.out
    refine bodyPost_ret (w := eight W11 w.heap.size (.slice none 0 0) (.slice none 0 0) (.slice none 0 0) (.slice none 0 0) (.slice none 0 0) (.slice none 0 0) (.slice none 0 0) (.slice none 0 0)) (v := .tuple #[zeroC, .int .i64 90]) (by simp [zeroC, results, Tryz.results9, go_sem, q0, q1, q2, q3, q4, q5, q6, q7]) rfl ?_
    exact ⟨HB6.out, .inr ⟨(fun e => (by cases e)), rfl⟩⟩
  · simp only [Option.isNone_some, Option.getD_some] at r1 hrn
    by_cases hbl : 0 < bl.length
    · have rI : (0 : Int) < (rn : Int) := by omega
      have hne : some bl ≠ some [] := fun e => by injection e with e; subst e; simp at hbl
      clear hrn
      obtain ⟨d0, d1, d2, d3, d4, d5, d6, d7⟩ := cell_eight DW.out.p
      obtain ⟨y0, y1, y2, y3, y4, y5, y6, y7⟩ := free_eight DW.out.p
      have qq := hid (cell_eight (eight_new DW.out.p (.slice none 0 0) (.slice none 0 0) (.slice none 0 0) (.slice none 0 0) (.slice none 0 0) (.slice none 0 0) (.slice none 0 0) (.slice none 0 0)))
      have HB6 := hid (eight_below DW.out.bl (Nat.le_refl _) (.slice none 0 0) (.slice none 0 0) (.slice none 0 0) (.slice none 0 0) (.slice none 0 0) (.slice none 0 0) (.slice none 0 0) (.slice none 0 0))
      go_wp2
      obtain ⟨q0, q1, q2, q3, q4, q5, q6, q7⟩ := qq.out
      refine bodyPost_ret (w := eight W11 w.heap.size (.slice none 0 0) (.slice none 0 0) (.slice none 0 0) (.slice none 0 0) (.slice none 0 0) (.slice none 0 0) (.slice none 0 0) (.slice none 0 0)) (v := .tuple #[zeroC, .int .i64 90]) (by simp [zeroC, results, Tryz.results9, go_sem, q0, q1, q2, q3, q4, q5, q6, q7]) rfl ?_
      exact ⟨HB6.out, .inr ⟨(fun e => absurd e hne), rfl⟩⟩
    · have hbn : bl = [] := by cases bl with
        | nil => rfl
        | cons x l => simp at hbl
      subst hbn
      simp only [List.length_nil] at hrn
      subst hrn
      have e9 := he9 (S78.out (by simp))
      have e10 := he10 (by simp)
      subst e9 e10
      have sm := SM.out (by simp)
      obtain ⟨C, cx, fl, el, dx, de, ⟨e0, e1, e2, e3⟩, e4, e5, e6, e7⟩ := DR.out.opn
      have hC : C.v = .agg #[.slice va3 vn3 vc3, .slice va4 vn4 vc4, .slice a5 fs.length c5, .slice a6 es.length c6, .slice va7 vn7 vc7, .slice va8 vn8 vc8, .slice va9 vn9 vc9, .slice va10 vn10 vc10] := by simp only [CH.v, CH.cs]; rw [← e0, ← e1, ← e2, ← e3, ← e4, ← e5, ← e6, ← e7]
      obtain ⟨cd, jr, jn⟩ := dx.cd de sm
      have KJ := KI.out W11 C cx fl el cd
      rw [hC] at KJ
      have DE := hid de
      have FIN : Hid (∀ V, Below W11.heap.size W11 V → isB cx = true → DeQ w rs ms fs es is ts l9 l10 (some []) (.returned (.tuple #[.agg #[.slice va3 vn3 vc3, .slice va4 vn4 vc4, .slice a5 fs.length c5, .slice a6 es.length c6, .slice va7 vn7 vc7, .slice va8 vn8 vc8, .slice va9 vn9 vc9, .slice va10 vn10 vc10], .int .i64 0])) (eight V w.heap.size (.slice va3 vn3 vc3) (.slice va4 vn4 vc4) (.slice a5 fs.length c5) (.slice a6 es.length c6) (.slice va7 vn7 vc7) (.slice va8 vn8 vc8) (.slice va9 vn9 vc9) (.slice va10 vn10 vc10))) := hid (fun V hV hi => by
        have dw := DW.out.below hV
        refine ⟨eight_below dw.bl (Nat.le_refl _) (.slice va3 vn3 vc3) (.slice va4 vn4 vc4) (.slice a5 fs.length c5) (.slice a6 es.length c6) (.slice va7 vn7 vc7) (.slice va8 vn8 vc8) (.slice va9 vn9 vc9) (.slice va10 vn10 vc10), .inl ⟨rfl, C, cx, fl, el, (by rw [hC]), hi, de, ?_⟩⟩
        exact (dx.above (fun g h1 h2 => by rw [eight_other _ _ _ _ _ _ _ _ _ _ (show g ≠ w.heap.size by omega)]; exact hV.block g h2)).cd de sm)
      clear dx e0 e1 e2 e3 e4 e5 e6 e7 hC cd jr jn he9 he10 sm hn9 hn10 DR SM S78 KI
      cases hi : isB cx with
      | true =>
        rw [hi] at KJ
        have KJ := hid KJ
        go_upto_region 13 with (go_at_call 12; (refine (Hid.out KJ).mono ?_; rintro e V ⟨rfl, hV⟩; have DV := hid (DW.out.below hV); clear k0 k1 k2 k3 k4 k5 k6 k7; obtain ⟨k0, k1, k2, k3, k4, k5, k6, k7⟩ := cell_eight DV.out.c; have FF := hid (FIN.out V hV hi); clear hV))
        obtain ⟨d0, d1, d2, d3, d4, d5, d6, d7⟩ := cell_eight DV.out.p
        obtain ⟨y0, y1, y2, y3, y4, y5, y6, y7⟩ := free_eight DV.out.p
        have qq := hid (cell_eight (eight_new DV.out.p (.slice va3 vn3 vc3) (.slice va4 vn4 vc4) (.slice a5 fs.length c5) (.slice a6 es.length c6) (.slice va7 vn7 vc7) (.slice va8 vn8 vc8) (.slice va9 vn9 vc9) (.slice va10 vn10 vc10)))
        go_wp2
        obtain ⟨q0, q1, q2, q3, q4, q5, q6, q7⟩ := qq.out
        refine bodyPost_ret (w := eight V w.heap.size (.slice va3 vn3 vc3) (.slice va4 vn4 vc4) (.slice a5 fs.length c5) (.slice a6 es.length c6) (.slice va7 vn7 vc7) (.slice va8 vn8 vc8) (.slice va9 vn9 vc9) (.slice va10 vn10 vc10)) (v := .tuple #[.agg #[.slice va3 vn3 vc3, .slice va4 vn4 vc4, .slice a5 fs.length c5, .slice a6 es.length c6, .slice va7 vn7 vc7, .slice va8 vn8 vc8, .slice va9 vn9 vc9, .slice va10 vn10 vc10], .int .i64 0]) (by simp [results, Tryz.results9, go_sem, q0, q1, q2, q3, q4, q5, q6, q7]) rfl FF.out
      | false =>
        rw [hi] at KJ
        have KJ := hid KJ
        have hne : Hid (∃ c, DEq c rs ms fs es is ts l9 l10 ∧ isB c = false) := hid ⟨cx, DE.out, hi⟩
        go_upto_region 12 with (go_at_call 12; (refine (Hid.out KJ).mono ?_; rintro e V ⟨rfl, hV⟩; have DV := hid (DW.out.below hV); clear k0 k1 k2 k3 k4 k5 k6 k7 hV))
        obtain ⟨d0, d1, d2, d3, d4, d5, d6, d7⟩ := cell_eight DV.out.p
        obtain ⟨y0, y1, y2, y3, y4, y5, y6, y7⟩ := free_eight DV.out.p
        have qq := hid (cell_eight (eight_new DV.out.p (.slice none 0 0) (.slice none 0 0) (.slice none 0 0) (.slice none 0 0) (.slice none 0 0) (.slice none 0 0) (.slice none 0 0) (.slice none 0 0)))
        have HB6 := hid (eight_below DV.out.bl (Nat.le_refl _) (.slice none 0 0) (.slice none 0 0) (.slice none 0 0) (.slice none 0 0) (.slice none 0 0) (.slice none 0 0) (.slice none 0 0) (.slice none 0 0))
        go_wp2
        obtain ⟨q0, q1, q2, q3, q4, q5, q6, q7⟩ := qq.out
        refine bodyPost_ret (w := eight V w.heap.size (.slice none 0 0) (.slice none 0 0) (.slice none 0 0) (.slice none 0 0) (.slice none 0 0) (.slice none 0 0) (.slice none 0 0) (.slice none 0 0)) (v := .tuple #[zeroC, .int .i64 90]) (by simp [zeroC, results, Tryz.results9, go_sem, q0, q1, q2, q3, q4, q5, q6, q7]) rfl ?_
        exact ⟨HB6.out, .inr ⟨(fun _ => hne.out), rfl⟩⟩
end Go.Proofs.YthnolocldeokeaaGreatDoor

