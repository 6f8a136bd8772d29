/- Programs laid anew: what is owned. -/
import Derived.Test.YtmhjnfibpngpmaaJAR
namespace Go.Proofs.Ytmhjnfibpngpmaa
open Go.RowKit Go.Deep Go.Shelf
set_option linter.unusedVariables false
set_option linter.unusedSimpArgs false
/- What stands in the blocks from B on holds still. -/
def Kp (B : Nat) (w : World) (P : World → Prop) : Prop := ∀ X : World, (∀ g, B ≤ g → g < w.heap.size → X.heap[g]? = w.heap[g]?) → P X
def PNw (V : World) (p : Pg) (e : Ending) (w' : World) : Prop := ∃ (h : PH) (q : Pg), e = .returned h.v ∧ PEq q p ∧ Below V.heap.size V w' ∧ Kp V.heap.size w' (fun X => PRd X h q)
structure PNil (p : Pg) : Prop where
  r : ∀ x ∈ p.recs, x.1.ta = none → x.1.tc = 0
  f : ∀ x ∈ p.funcs, x.1.pa = none → x.1.pc = 0
  e : ∀ x ∈ p.events, x.1.pa = none → x.1.pc = 0
theorem KR.above {E : TypeId} {k : Nat} {w w' : World} {B : Nat} {v : Value} {l : List (List Value)} (h : KR E k w B v l) (e : ∀ g, B ≤ g → g < w.heap.size → w'.heap[g]? = w.heap[g]?) : KR E k w' B v l := h.keep fun g q => e g (h.own q).1 (h.own q).2
theorem KR.srd {w : World} {B : Nat} {a : Option Addr} {n c : Nat} {ss : List ByteArray} (h : KR 9 1 w B (.slice a n c) (ss.map stc)) (hs : ∀ s ∈ ss, s.size ≤ 1000000) : SRd w a ss := by
  obtain ⟨a', c', e, _, hr, _, _⟩ := h.rd
  cases e
  intro j s hj
  obtain ⟨b, off, rfl, hbl, hc⟩ := hr j (stc s) (by simp [hj])
  have h0 := hc 0 (by omega)
  simp only [stc, List.getElem?_cons_zero, Nat.add_zero, Nat.mul_one] at h0
  exact ⟨by have := hs s (List.mem_of_getElem? hj); omega, b, off, rfl, h0⟩
theorem KR.jrd {w : World} {B : Nat} {a : Option Addr} {n c : Nat} {xs : List Int} (h : KR 2 1 w B (.slice a n c) (xs.map inc)) : JRd w a xs := by
  obtain ⟨a', c', e, _, hr, _, _⟩ := h.rd
  cases e
  exact hr
/- Sizes of what is right. -/
theorem names_sm {f : Int → Bool} {ss : List ByteArray} (h : namesB f ss = true) : ∀ s ∈ ss, s.size ≤ 20 := fun s hs => by
  obtain ⟨i, hi⟩ := List.getElem?_of_mem hs
  unfold namesB at h
  have h1 := List.all_eq_true.1 h i (List.mem_range.2 (List.getElem?_eq_some_iff.1 hi).1)
  rw [okAt_some hi] at h1
  simp only [nameB, Bool.and_eq_true, decide_eq_true_eq] at h1
  exact h1.1.1.1.2
structure RcSm (r : Rc) : Prop where
  nm : r.name.size ≤ 20
  fl : r.fields.length ≤ 12
  tl : r.types.length ≤ 12
  fs : ∀ s ∈ r.fields, s.size ≤ 20
structure PgSm (p : Pg) : Prop where
  rl : p.recs.length ≤ 16
  r : ∀ x ∈ p.recs, RcSm x.2
  ml : p.maps.length ≤ 16
  m : ∀ x ∈ p.maps, x.name.size ≤ 20
  fl : p.funcs.length ≤ 16
  f : ∀ x ∈ p.funcs, x.2.name.size ≤ 20 ∧ x.2.params.length ≤ 12
  el : p.events.length ≤ 16
  e : ∀ x ∈ p.events, x.2.name.size ≤ 20 ∧ x.2.params.length ≤ 12
theorem sigs_sm {n : Nat} {l : List (GH × Sg)} (h : sigsB n (l.map (·.2)) = true) : l.length ≤ 16 ∧ ∀ x ∈ l, x.2.name.size ≤ 20 ∧ x.2.params.length ≤ 12 := by
  unfold sigsB at h
  simp only [Bool.and_eq_true, decide_eq_true_eq, List.length_map] at h
  refine ⟨h.1.1, fun x hx => ⟨names_sm h.2 _ (List.mem_map.2 ⟨x.2, List.mem_map.2 ⟨x, hx, rfl⟩, rfl⟩), ?_⟩⟩
  have h2 := List.all_eq_true.1 h.1.2 x.2 (List.mem_map.2 ⟨x, hx, rfl⟩)
  unfold sigB at h2
  simp only [Bool.and_eq_true, decide_eq_true_eq] at h2
  exact h2.1.1
theorem right_sm {p : Pg} (h : rightB p = true) : PgSm p := by
  unfold rightB at h
  simp only [Bool.and_eq_true] at h
  obtain ⟨⟨⟨⟨h1, h2⟩, h3⟩, h4⟩, _⟩ := h
  unfold recordsB at h1
  simp only [Bool.and_eq_true, decide_eq_true_eq, List.length_map] at h1
  unfold mapsB at h2
  simp only [Bool.and_eq_true, decide_eq_true_eq] at h2
  refine ⟨h1.1.1, fun x hx => ?_, h2.1.1, fun x hx => names_sm h2.2 _ (List.mem_map.2 ⟨x, hx, rfl⟩), (sigs_sm h3).1, (sigs_sm h3).2, (sigs_sm h4).1, (sigs_sm h4).2⟩
  have q := List.all_eq_true.1 h1.1.2 x.2 (List.mem_map.2 ⟨x, hx, rfl⟩)
  unfold fieldsB at q
  simp only [Bool.and_eq_true, decide_eq_true_eq] at q
  exact ⟨names_sm h1.2 _ (List.mem_map.2 ⟨x.2, List.mem_map.2 ⟨x, hx, rfl⟩, rfl⟩), q.1.1.1.2, by have := q.1.1.2; have := q.1.1.1.2; omega, names_sm q.2⟩
/- A record laid anew. -/
structure RNew (w : World) (B : Nat) (p : RH × Rc) : Prop where
  nm : p.1.name = p.2.name
  sm : RcSm p.2
  fr : KR 9 1 w B (.slice p.1.fa p.1.fn p.1.fc) (p.2.fields.map stc)
  tr : KR 24 2 w B (.slice p.1.ta p.1.tn p.1.tc) (p.2.types.map tyc)
theorem RNew.rd {w : World} {B : Nat} {p : RH × Rc} (h : RNew w B p) : RcRd w p.1 p.2 := by
  obtain ⟨⟨nm, fa, fn, fc, ta, tn, tc⟩, s⟩ := p
  obtain ⟨a1, cap1, e1, hc1, hr1, _, _⟩ := h.fr.rd
  obtain ⟨a2, cap2, e2, hc2, hr2, _, _⟩ := h.tr.rd
  have hs := h.fr.srd (fun s hs => by have := h.sm.fs s hs; omega)
  have h3 := h.nm
  have h4 := h.sm
  simp only at h3 h4 e1 e2 hs
  rw [List.length_map] at e1 e2 hc1
  cases e1
  cases e2
  exact ⟨h3, by show nm.size ≤ _; rw [h3]; have := h4.nm; omega, rfl, hc1, by show s.fields.length ≤ _; have := h4.fl; omega, hs, rfl, by show s.types.length ≤ _; have := h4.tl; omega, CRd.trd hr2⟩
theorem RNew.above {w w' : World} {B : Nat} {p : RH × Rc} (h : RNew w B p) (e : ∀ g, B ≤ g → g < w.heap.size → w'.heap[g]? = w.heap[g]?) : RNew w' B p := ⟨h.nm, h.sm, h.fr.above e, h.tr.above e⟩
theorem RNew.other {F : TypeId} (h1 : 9 ≠ F) (h2 : 24 ≠ F) {q : Nat} {w w' : World} {B C : Nat} {r : Value} {m : List (List Value)} {p : RH × Rc} (h : RNew w B p) (g : KR F q w C r m) (hg : w.grownBy w' r.ownBlock) : RNew w' B p := ⟨h.nm, h.sm, h.fr.other h1 g hg, h.tr.other h2 g hg⟩
theorem rk_rh (g : RH) : Rk 3 [g.cs] := ⟨fun r hr => by simp at hr; subst hr; rfl, fun r hr u hu => by
  simp at hr; subst hr
  simp [RH.cs] at hu
  rcases hu with rfl | rfl | rfl <;> rfl⟩
theorem rk_mp (g : Mp) : Rk 5 [g.cs] := ⟨fun r hr => by simp at hr; subst hr; rfl, fun r hr u hu => by
  simp at hr; subst hr
  simp [Mp.cs] at hu
  rcases hu with rfl | rfl | rfl | rfl | rfl <;> rfl⟩
def RcsN (w : World) (B : Nat) (v : Value) (rs : List Rc) : Prop := ∃ l : List (RH × Rc), l.map (·.2) = rs ∧ KR 32 3 w B v (l.map fun p => p.1.cs) ∧ ∀ p ∈ l, RNew w B p
theorem RcsN.above {w w' : World} {B : Nat} {v : Value} {rs : List Rc} (h : RcsN w B v rs) (e : ∀ g, B ≤ g → g < w.heap.size → w'.heap[g]? = w.heap[g]?) : RcsN w' B v rs := by
  obtain ⟨l, h1, h2, h3⟩ := h
  exact ⟨l, h1, h2.above e, fun p hp => (h3 p hp).above e⟩
theorem RcsN.below {w w' : World} {B : Nat} {v : Value} {rs : List Rc} (h : RcsN w B v rs) (e : Below w.heap.size w w') : RcsN w' B v rs := h.above fun g _ hg => e.block g hg
theorem RcsN.rd {w : World} {B : Nat} {v : Value} {rs : List Rc} (h : RcsN w B v rs) (hl : rs.length ≤ 1000000) : ∃ a n c l, v = .slice a n c ∧ l.map (·.2) = rs ∧ RRd w a n l := by
  obtain ⟨l, h1, h2, h3⟩ := h
  obtain ⟨a, cap, e, _, hr, _, _⟩ := h2.rd
  rw [List.length_map] at e
  have : l.length = rs.length := by rw [← h1, List.length_map]
  exact ⟨a, l.length, cap, l, e, h1, ⟨rfl, by omega, hr, fun p hp => (h3 p hp).rd⟩⟩
theorem RcsN.grown {F : TypeId} (h1 : 32 ≠ F) (h2 : 9 ≠ F) (h3 : 24 ≠ F) {q : Nat} {w w' : World} {B C : Nat} {r v : Value} {m : List (List Value)} {rs : List Rc} (h : RcsN w B v rs) (g : KR F q w C r m) (hg : w.grownBy w' r.ownBlock) : RcsN w' B v rs := by
  obtain ⟨l, k1, k2, k3⟩ := h
  exact ⟨l, k1, k2.other h1 g hg, fun p hp => (k3 p hp).other h2 h3 g hg⟩
def MpsN (w : World) (B : Nat) (v : Value) (ms : List Mp) : Prop := KR 120 5 w B v (ms.map Mp.cs)
theorem MpsN.above {w w' : World} {B : Nat} {v : Value} {ms : List Mp} (h : MpsN w B v ms) (e : ∀ g, B ≤ g → g < w.heap.size → w'.heap[g]? = w.heap[g]?) : MpsN w' B v ms := KR.above h e
theorem MpsN.below {w w' : World} {B : Nat} {v : Value} {ms : List Mp} (h : MpsN w B v ms) (e : Below w.heap.size w w') : MpsN w' B v ms := h.above fun g _ hg => e.block g hg
theorem MpsN.rd {w : World} {B : Nat} {v : Value} {ms : List Mp} (h : MpsN w B v ms) (hl : ms.length ≤ 1000000) (hs : ∀ m ∈ ms, m.name.size ≤ 20) : ∃ a n c, v = .slice a n c ∧ MRd w a n ms := by
  obtain ⟨a, cap, e, _, hr, _, _⟩ := KR.rd h
  rw [List.length_map] at e
  exact ⟨a, ms.length, cap, e, ⟨rfl, by omega, hr, fun m hm => by have := hs m hm; omega⟩⟩
theorem SgsN.above {w w' : World} {B : Nat} {v : Value} {ss : List Sg} (h : SgsN w B v ss) (e : ∀ g, B ≤ g → g < w.heap.size → w'.heap[g]? = w.heap[g]?) : SgsN w' B v ss := by
  obtain ⟨l, h1, h2, h3⟩ := h
  exact ⟨l, h1, h2.above e, fun p hp => ⟨(h3 p hp).nm, (h3 p hp).ns, (h3 p hp).pr.above e, (h3 p hp).rs⟩⟩
theorem SgsN.lower {w : World} {B C : Nat} {v : Value} {ss : List Sg} (h : SgsN w B v ss) (hC : C ≤ B) : SgsN w C v ss := by
  obtain ⟨l, h1, h2, h3⟩ := h
  exact ⟨l, h1, h2.lower hC, fun p hp => ⟨(h3 p hp).nm, (h3 p hp).ns, (h3 p hp).pr.lower hC, (h3 p hp).rs⟩⟩
theorem SgsN.rd {w : World} {B : Nat} {v : Value} {ss : List Sg} (h : SgsN w B v ss) (hl : ss.length ≤ 1000000) (hp : ∀ s ∈ ss, s.params.length ≤ 1000000) : ∃ a n c l, v = .slice a n c ∧ l.map (·.2) = ss ∧ GRd w a n l := by
  obtain ⟨l, h1, h2, h3⟩ := h
  obtain ⟨a, cap, e, _, hr, _, _⟩ := h2.rd
  rw [List.length_map] at e
  have : l.length = ss.length := by rw [← h1, List.length_map]
  exact ⟨a, l.length, cap, l, e, h1, ⟨rfl, by omega, hr, fun p hp' => (h3 p hp').rd (hp p.2 (by rw [← h1]; exact List.mem_map.2 ⟨p, hp', rfl⟩))⟩⟩
theorem rcs_rd {w : World} {B : Nat} {a : Option Addr} {n c : Nat} {l : List (RH × Rc)} (k : KR 32 3 w B (.slice a n c) (l.map fun p => p.1.cs)) (h : ∀ p ∈ l, RNew w B p) (hl : l.length ≤ 1000000) : RRd w a n l := by
  obtain ⟨a', cap, e, _, hr, _, _⟩ := k.rd
  rw [List.length_map] at e
  cases e
  exact ⟨rfl, by omega, hr, fun p hp => (h p hp).rd⟩
theorem sgs_rd {w : World} {B : Nat} {a : Option Addr} {n c : Nat} {l : List (GH × Sg)} (k : KR 29 4 w B (.slice a n c) (l.map fun p => p.1.cs)) (h : ∀ p ∈ l, GNew w B p) (hl : l.length ≤ 1000000) (hp : ∀ p ∈ l, p.2.params.length ≤ 1000000) : GRd w a n l := by
  obtain ⟨a', cap, e, _, hr, _, _⟩ := k.rd
  rw [List.length_map] at e
  cases e
  exact ⟨rfl, by omega, hr, fun p hq => (h p hq).rd (hp p hq)⟩
end Go.Proofs.Ytmhjnfibpngpmaa

namespace Go.Proofs.Ytmhjnfibpngpmaa
set_option maxRecDepth 100000
open Go.ChangeShapes Go.WideShapes Go.ChangeAt Go.RowKit Go.Deep
set_option linter.unusedVariables false
set_option linter.unusedSimpArgs false

theorem cellsUnit : Try.prog.cellsOf 48 = 8 := by kernel_rfl
theorem cellsGrs : Try.prog.cellsOf 46 = 1 := by kernel_rfl
theorem cellsI64s : Try.prog.cellsOf 45 = 1 := by kernel_rfl
theorem cellsI64 : Try.prog.cellsOf 2 = 1 := by kernel_rfl
theorem bytesGr : Try.prog.bytesOf 92 = 32 := by kernel_rfl
section
variable {H : Type} {enc : TypeId × Value → H} {W : World}
theorem nil_of {T E : TypeId} (hT : Try.prog.underlying T = some (.slice E)) {a : Option Addr} {n c : Nat} (h : TrdT enc W T [.slice a n c]) : a = none → c = 0 := by
  obtain ⟨fuel, x, hf⟩ := h
  rcases open_slice hT hf with ⟨hcs, _⟩ | ⟨a', l, c', m, n', D, Pl, hcs, _⟩
  · simp at hcs
    intro _; exact hcs.2.2
  · simp at hcs
    intro e; rw [hcs.1] at e; cases e
set_option maxRecDepth 100000 in
theorem rec_nil {cs : List Value} (hl : cs.length = 3) (h : TrdT enc W 32 cs) : ∃ p : RH × Rc, cs = p.1.cs ∧ RcRd W p.1 p.2 ∧ (p.1.ta = none → p.1.tc = 0) := by
  obtain ⟨fuel, x, hf⟩ := h
  obtain ⟨xs, n, _, rfl, _, hlen, hf⟩ := DataW.trod_struct Try.underlying32 hf
  match cs, hl with
  | [c0, c1, c2], _ =>
    match xs, hlen with
    | [y0, y1, y2], _ =>
      have h0 := hf 0 _ rfl
      have h1 := hf 1 _ rfl
      have h2 := hf 2 _ rfl
      simp [cells9, cells43, cells44] at h0 h1 h2
      obtain ⟨nm, rfl, hs⟩ := str_of ⟨_, _, h0⟩
      obtain ⟨fa, fn, fc, rfl⟩ := slice_of Try.underlying26 ⟨_, _, h1⟩
      obtain ⟨ta, tn, tc, rfl⟩ := slice_of Try.underlying25 ⟨_, _, h2⟩
      obtain ⟨ss, e1, e2, e3, e4⟩ := srd_of ⟨_, _, h1⟩
      obtain ⟨ts, q1, q2, q3⟩ := trd_of ⟨_, _, h2⟩
      exact ⟨(⟨nm, fa, fn, fc, ta, tn, tc⟩, ⟨nm, ss, ts⟩), rfl, ⟨rfl, hs, e1, e2, e3, e4, q1, q2, q3⟩, nil_of Try.underlying25 ⟨_, _, h2⟩⟩
set_option maxRecDepth 100000 in
theorem sig_nil {cs : List Value} (hl : cs.length = 4) (h : TrdT enc W 29 cs) : ∃ p : GH × Sg, cs = p.1.cs ∧ SgRd W p.1 p.2 ∧ (p.1.pa = none → p.1.pc = 0) := by
  obtain ⟨fuel, x, hf⟩ := h
  obtain ⟨xs, n, _, rfl, _, hlen, hf⟩ := DataW.trod_struct Try.underlying29 hf
  match cs, hl with
  | [c0, c1, c2, c3], _ =>
    match xs, hlen with
    | [y0, y1, y2], _ =>
      have h0 := hf 0 _ rfl
      have h1 := hf 1 _ rfl
      have h2 := hf 2 _ rfl
      simp [cells9, cells44, cells28] at h0 h1 h2
      obtain ⟨nm, rfl, hs⟩ := str_of ⟨_, _, h0⟩
      obtain ⟨pa, pn, pc, rfl⟩ := slice_of Try.underlying25 ⟨_, _, h1⟩
      obtain ⟨ts, q1, q2, q3⟩ := trd_of ⟨_, _, h1⟩
      obtain ⟨k, r, e1⟩ := type_of rfl ⟨_, _, h2⟩
      cases e1
      exact ⟨(⟨nm, pa, pn, pc, k, r⟩, ⟨nm, ts, (k, r)⟩), rfl, ⟨rfl, hs, q1, q2, q3, rfl⟩, nil_of Try.underlying25 ⟨_, _, h1⟩⟩
theorem rrd_nil {a : Option Addr} {n cap : Nat} (h : TrdT enc W 33 [.slice a n cap]) : ∃ rs, RRd W a n rs ∧ ∀ x ∈ rs, x.1.ta = none → x.1.tc = 0 := by
  obtain ⟨rows, hl, hrd, hel, hn, hc⟩ := rows_of Try.underlying33 cells46 (by omega) h
  obtain ⟨ps, hm, hr⟩ := list_of (R := fun r (p : RH × Rc) => r = p.1.cs ∧ RcRd W p.1 p.2 ∧ (p.1.ta = none → p.1.tc = 0)) rows (fun r hr => rec_nil (hel r hr).1 (hel r hr).2)
  have hel2 : ∀ p ∈ ps, RcRd W p.1 p.2 ∧ (p.1.ta = none → p.1.tc = 0) := fun p hp => by
    obtain ⟨j, hj⟩ := List.getElem?_of_mem hp
    obtain ⟨r, hrr⟩ := at_of hm hj
    obtain ⟨x, h1, _, h3⟩ := hr j r hrr
    rw [hj] at h1; cases h1; exact h3
  exact ⟨ps, ⟨by omega, hn, crd_map (fun p => p.1.cs) hrd hm (fun j r e => by obtain ⟨x, h1, h2, _⟩ := hr j r e; exact ⟨x, h1, h2⟩), fun p hp => (hel2 p hp).1⟩, fun p hp => (hel2 p hp).2⟩
theorem grd_nil {a : Option Addr} {n cap : Nat} (h : TrdT enc W 30 [.slice a n cap]) : ∃ gs, GRd W a n gs ∧ ∀ x ∈ gs, x.1.pa = none → x.1.pc = 0 := by
  obtain ⟨rows, hl, hrd, hel, hn, hc⟩ := rows_of Try.underlying30 cells48 (by omega) h
  obtain ⟨ps, hm, hr⟩ := list_of (R := fun r (p : GH × Sg) => r = p.1.cs ∧ SgRd W p.1 p.2 ∧ (p.1.pa = none → p.1.pc = 0)) rows (fun r hr => sig_nil (hel r hr).1 (hel r hr).2)
  have hel2 : ∀ p ∈ ps, SgRd W p.1 p.2 ∧ (p.1.pa = none → p.1.pc = 0) := fun p hp => by
    obtain ⟨j, hj⟩ := List.getElem?_of_mem hp
    obtain ⟨r, hrr⟩ := at_of hm hj
    obtain ⟨x, h1, _, h3⟩ := hr j r hrr
    rw [hj] at h1; cases h1; exact h3
  exact ⟨ps, ⟨by omega, hn, crd_map (fun p => p.1.cs) hrd hm (fun j r e => by obtain ⟨x, h1, h2, _⟩ := hr j r e; exact ⟨x, h1, h2⟩), fun p hp => (hel2 p hp).1⟩, fun p hp => (hel2 p hp).2⟩
set_option maxRecDepth 100000 in
theorem prog_nil {cs : List Value} (hl : cs.length = 4) (h : TrdT enc W 36 cs) : ∃ (g : PH) (p : Pg), cs = [.slice g.ra g.rn g.rc, .slice g.ma g.mn g.mc, .slice g.fa g.fn g.fc, .slice g.ea g.en g.ec] ∧ PRd W g p ∧ PNil p := by
  obtain ⟨fuel, x, hf⟩ := h
  obtain ⟨xs, n, _, rfl, _, hlen, hf⟩ := DataW.trod_struct Try.underlying36 hf
  match cs, hl with
  | [c0, c1, c2, c3], _ =>
    match xs, hlen with
    | [y0, y1, y2, y3], _ =>
      have h0 := hf 0 _ rfl
      have h1 := hf 1 _ rfl
      have h2 := hf 2 _ rfl
      have h3 := hf 3 _ rfl
      simp [cells22, cells23, cells24] at h0 h1 h2 h3
      obtain ⟨ra, rn, rc, rfl⟩ := slice_of Try.underlying33 ⟨_, _, h0⟩
      obtain ⟨ma, mn, mc, rfl⟩ := slice_of Try.underlying34 ⟨_, _, h1⟩
      obtain ⟨fa, fn, fc, rfl⟩ := slice_of Try.underlying30 ⟨_, _, h2⟩
      obtain ⟨ea, en, ec, rfl⟩ := slice_of Try.underlying30 ⟨_, _, h3⟩
      obtain ⟨rs, hr, nr⟩ := rrd_nil ⟨_, _, h0⟩
      obtain ⟨ms, hm⟩ := mrd_of ⟨_, _, h1⟩
      obtain ⟨gs, hg, ng⟩ := grd_nil ⟨_, _, h2⟩
      obtain ⟨es, he, ne⟩ := grd_nil ⟨_, _, h3⟩
      exact ⟨⟨ra, rn, rc, ma, mn, mc, fa, fn, fc, ea, en, ec⟩, ⟨rs, ms, gs, es⟩, rfl, ⟨hr, hm, hg, he⟩, ⟨nr, ng, ne⟩⟩
theorem i64_of {c : Value} (h : TrdT enc W 2 [c]) : ∃ n, c = .int .i64 n := by
  obtain ⟨fuel, x, hf⟩ := h
  obtain ⟨n, e, _, w⟩ := DataW.trod_int Try.underlying2 hf
  simp at e
  exact ⟨n, e⟩
theorem jrd_of {a : Option Addr} {n cap : Nat} (h : TrdT enc W 45 [.slice a n cap]) : ∃ xs : List Int, n = xs.length ∧ n ≤ 9223372036854775807 ∧ JRd W a xs := by
  obtain ⟨rows, hl, hrd, hel, hn, hc⟩ := rows_of Try.underlying45 cellsI64 (by omega) h
  obtain ⟨ss, hm, hr⟩ := list_of (R := fun r (s : Int) => r = inc s) rows (fun r hr => by
    obtain ⟨h1, h2⟩ := hel r hr
    match r, h1 with
    | [c], _ =>
      obtain ⟨s, rfl⟩ := i64_of h2
      exact ⟨s, rfl⟩)
  exact ⟨ss, by omega, hn, crd_map inc hrd hm hr⟩
theorem gw_of {a : Option Addr} {n cap : Nat} (h : TrdS enc W 46 [.slice a n cap]) : ∃ gl : List Gr, GwRd W a n gl := by
  obtain ⟨rows, hl, hrd, hel, hn, hc⟩ := rowsS_of Try.underlying46 f_cells24 (by omega) h
  rw [bytesGr, reach_is] at hn
  obtain ⟨gl, hm, hr⟩ := list_of (R := fun r (g : Gr) => r = g.cs ∧ g.n = g.bs.length ∧ g.n ≤ 140737488355328 ∧ BRw W g.a g.bs) rows (fun r hr => by
    obtain ⟨h1, h2⟩ := hel r hr
    obtain ⟨regs, a, n, cap, bs, e, k1, k2, k3⟩ := graph_of h1 h2
    exact ⟨⟨regs, a, n, cap, bs⟩, e, k1, k2, k3⟩)
  refine ⟨gl, by omega, by omega, crd_map Gr.cs hrd hm (fun j r e => by obtain ⟨x, h1, h2, _⟩ := hr j r e; exact ⟨x, h1, h2⟩), fun g hg => ?_⟩
  obtain ⟨j, hj⟩ := List.getElem?_of_mem hg
  obtain ⟨r, hrr⟩ := at_of hm hj
  obtain ⟨x, h1, _, h3⟩ := hr j r hrr
  rw [hj] at h1; cases h1; exact h3
/- All that is known of a unit that came in. -/
structure UwRd (W : World) (U : CH) (p : Pg) (xs : List Int) (ts : List ByteArray) (gl el : List Gr) : Prop where
  pp : PRd W U.h p
  pn : PNil p
  i1 : U.inn = xs.length
  i2 : U.inn ≤ 9223372036854775807
  ir : JRd W U.ia xs
  il : U.ia = none → U.ic = 0
  t1 : U.tn = ts.length
  t2 : U.tn ≤ 9223372036854775807
  tr : SRd W U.ta ts
  f : GwRd W U.fa U.fn gl
  e : GwRd W U.ea U.en el
set_option maxRecDepth 100000 in
theorem unit_of {cs : List Value} (hl : cs.length = 8) (h : TrdS enc W 48 cs) : ∃ (U : CH) (p : Pg) (xs : List Int) (ts : List ByteArray) (gl el : List Gr), cs.toArray = U.cs ∧ UwRd W U p xs ts gl el := by
  obtain ⟨fuel, x, hf, hsm⟩ := h
  obtain ⟨xs, n, _, rfl, _, hlen, hf⟩ := DataW.trod_struct Try.underlying48 hf
  match cs, hl with
  | [c0, c1, c2, c3, c4, c5, c6, c7], _ =>
    match xs, hlen with
    | [y0, y1, y2, y3, y4], _ =>
      have h0 := hf 0 _ rfl
      have h1 := hf 1 _ rfl
      have h2 := hf 2 _ rfl
      have h3 := hf 3 _ rfl
      have h4 := hf 4 _ rfl
      simp [cells26, cellsI64s, cells43, cellsGrs] at h0 h1 h2 h3 h4
      have s3 : f_Sm 46 y3.1 := fun n hn => hsm n (by
        simp only [DataW.weights, Try.underlying48]
        simp [DataW.weightsEach]
        exact .inr (.inr (.inr (.inl hn))))
      have s4 : f_Sm 46 y4.1 := fun n hn => hsm n (by
        simp only [DataW.weights, Try.underlying48]
        simp [DataW.weightsEach]
        exact .inr (.inr (.inr (.inr hn))))
      obtain ⟨g, p, e0, k0, k0'⟩ := prog_nil rfl ⟨_, _, h0⟩
      cases e0
      obtain ⟨ia, inn, ic, rfl⟩ := slice_of Try.underlying45 ⟨_, _, h1⟩
      obtain ⟨ta, tn, tc, rfl⟩ := slice_of Try.underlying26 ⟨_, _, h2⟩
      obtain ⟨fa, fn, fc, rfl⟩ := slice_of Try.underlying46 ⟨_, _, h3⟩
      obtain ⟨ea, en, ec, rfl⟩ := slice_of Try.underlying46 ⟨_, _, h4⟩
      obtain ⟨ys, i1, i2, i3⟩ := jrd_of ⟨_, _, h1⟩
      obtain ⟨ts, t1, _, t2, t3⟩ := srd_of ⟨_, _, h2⟩
      obtain ⟨gl, kf⟩ := gw_of ⟨_, _, h3, s3⟩
      obtain ⟨el, ke⟩ := gw_of ⟨_, _, h4, s4⟩
      exact ⟨⟨g, ia, inn, ic, ta, tn, tc, fa, fn, fc, ea, en, ec⟩, p, ys, ts, gl, el, rfl, ⟨k0, k0', i1, i2, i3, nil_of Try.underlying45 ⟨_, _, h1⟩, t1, t2, t3, kf, ke⟩⟩
set_option maxRecDepth 100000 in
theorem unit_arg {v : Value} {base : Nat} {d : DataW H} {p : List MemPlace} (hv : Value.okWide Try.prog W .any base 48 v) (h : DataW.Trod enc Try.prog W 0 (fun _ => true) true 48 v d p) (hs : f_Sm 48 d) : ∃ (U : CH) (q : Pg) (xs : List Int) (ts : List ByteArray) (gl el : List Gr), v = U.v ∧ UwRd W U q xs ts gl el := by
  obtain ⟨cs, rfl, hs'⟩ := okWide_struct Try.underlying48 hv
  obtain ⟨m, hm⟩ := h
  have hlen : cs.toList.length = 8 := by
    have hm' := hm
    obtain ⟨xs, n, _, _, hl, _, _⟩ := DataW.trod_struct Try.underlying48 hm'
    rw [cellsUnit] at hl; exact hl
  obtain ⟨U, q, xs, ts, gl, el, e, h2⟩ := unit_of (cs := cs.toList) hlen ⟨_, _, hm, hs⟩
  refine ⟨U, q, xs, ts, gl, el, ?_, h2⟩
  have : cs = U.cs := by rw [← e]
  rw [this]; rfl
end
theorem GwRd.ok {w : World} {a : Option Addr} {n : Nat} {gl : List Gr} (h : GwRd w a n gl) (ht : ∀ g ∈ gl, tot g.bs ≤ 2500) : GrsRd w a n gl := by
  refine ⟨h.n1, h.rd, fun g hg => ?_⟩
  obtain ⟨h1, h2, h3⟩ := h.el g hg
  have t1 := ht g hg
  have t2 := tot_len g.bs
  have t3 := lay_tot g.bs 0 (fun b hb => (h3.e b hb).n)
  exact ⟨h1, by omega, h3.few t1, fun b hb => (h3.e b hb).z, by omega⟩
end Go.Proofs.Ytmhjnfibpngpmaa

