/- Programs among the arguments. -/
import Derived.Test.YtnmbifoinponeaaGreatDoorX
import Derived.Test.YtnmbifoinponeaaGreatDoorG
namespace Go.Proofs.YtnmbifoinponeaaGreatDoor
open Go.ChangeShapes Go.WideShapes Go.ChangeAt Go.RowKit Go.Deep
set_option linter.unusedVariables false
set_option linter.unusedSimpArgs false

theorem cells28 : Tryz.prog.cellsOf 28 = 2 := by kernel_rfl
theorem cells46 : Tryz.prog.cellsOf 45 = 3 := by kernel_rfl
theorem cells79 : Tryz.prog.cellsOf 54 = 5 := by kernel_rfl
theorem cells48 : Tryz.prog.cellsOf 47 = 4 := by kernel_rfl
theorem cells43 : Tryz.prog.cellsOf 42 = 1 := by kernel_rfl
theorem cells44 : Tryz.prog.cellsOf 43 = 1 := by kernel_rfl
theorem cells22 : Tryz.prog.cellsOf 22 = 1 := by kernel_rfl
theorem cells23 : Tryz.prog.cellsOf 23 = 1 := by kernel_rfl
theorem cells24 : Tryz.prog.cellsOf 24 = 1 := by kernel_rfl
theorem cells26 : Tryz.prog.cellsOf 26 = 4 := by kernel_rfl

section
variable {H : Type} {enc : TypeId × Value → H} {W : World}

def TrdT (enc : TypeId × Value → H) (W : World) (T : TypeId) (cs : List Value) : Prop := ∃ fuel x, DataW.trod enc Tryz.prog W 0 (fun _ => true) true fuel T cs = some x

set_option maxRecDepth 100000 in
theorem rows_of {T E : TypeId} {k : Nat} (hT : Tryz.prog.underlying T = some (.slice E)) (hk : Tryz.prog.cellsOf E = k) (k0 : 0 < k) {a0 : Option Addr} {len cap : Nat} (h : TrdT enc W T [.slice a0 len cap]) :
    ∃ rows : List (List Value), rows.length = len ∧ CRd W a0 k rows ∧ (∀ r ∈ rows, r.length = k ∧ TrdT enc W E r) ∧ len ≤ 9223372036854775807 ∧ len ≤ cap := by
  obtain ⟨fuel, x, hf⟩ := h
  rcases open_slice hT hf with ⟨hcs, _⟩ | ⟨a, l, c, m, n, D, Pl, hcs, _, hl, hm', hm, _, hx⟩
  · simp at hcs
    obtain ⟨rfl, rfl, rfl⟩ := hcs
    exact ⟨[], rfl, fun j x hx => by simp at hx, fun h hh => by simp at hh, by omega, by omega⟩
  · simp at hcs
    obtain ⟨rfl, rfl, rfl⟩ := hcs
    simp at hm
    subst hm
    have hs : ∀ j, j < len → ∃ r : List Value, (∃ b off, some a = some ⟨b, off, none⟩ ∧ b < W.heap.size ∧ ∀ i, i < k → W.cell? ⟨b, off + j * k + i, none⟩ = r[i]?) ∧ r.length = k ∧ TrdT enc W E r := by
      intro j hj
      obtain ⟨cs, h1, h2⟩ := hx j (by omega)
      rw [hk] at h1
      obtain ⟨_, h3, h4⟩ := World.cells?_some h1
      obtain ⟨b, off, spot⟩ := a
      have hc0 : cs[0]? = some (cs[0]'(by omega)) := by rw [List.getElem?_eq_getElem]
      have hcell := (h4 0 k0).trans hc0
      have hspot : spot = none := by
        obtain ⟨cs', h1', h2'⟩ := hx 0 (by omega)
        rw [hk] at h1'
        obtain ⟨_, h3', h4'⟩ := World.cells?_some h1'
        have := World.cell?_spot ((h4' 0 k0).trans (show cs'[0]? = some (cs'[0]'(by omega)) by rw [List.getElem?_eq_getElem]))
        simpa [Addr.add] using this
      subst hspot
      have hb : b < W.heap.size := by
        have := World.block_lt_of_cell? W _ hcell
        simpa [Addr.add_lit] using this
      refine ⟨cs, ⟨b, off, rfl, hb, fun i hi => ?_⟩, h3, _, _, h2⟩
      have := h4 i hi
      simp only [Addr.add_lit] at this
      exact this
    refine ⟨(List.range len).map (fun j => if hj : j < len then Classical.choose (hs j hj) else []), by simp, ?_, ?_, by unfold maxLen at hm'; omega, by omega⟩
    · intro j h hjh
      simp only [List.getElem?_map, Option.map_eq_some_iff] at hjh
      obtain ⟨j', hj', rfl⟩ := hjh
      have hj : j < len := by have := (List.getElem?_eq_some_iff.1 hj').1; simpa using this
      have : j' = j := by simpa [hj] using hj'.symm
      subst this
      simp only [hj, dif_pos]
      exact (Classical.choose_spec (hs j' hj)).1
    · intro h hh
      simp only [List.mem_map, List.mem_range] at hh
      obtain ⟨j, hj, rfl⟩ := hh
      simp only [hj, dif_pos]
      exact (Classical.choose_spec (hs j hj)).2

theorem str_of {c : Value} (h : TrdT enc W 9 [c]) : ∃ s, c = .string s ∧ s.size ≤ 9223372036854775807 := by
  obtain ⟨fuel, x, hf⟩ := h
  obtain ⟨s, e, _, w⟩ := DataW.trod_string Tryz.underlying9 hf
  simp at e
  exact ⟨s, e, by unfold maxLen at w; omega⟩
theorem int_of {c : Value} (h : TrdT enc W 3 [c]) : ∃ n, c = .int .i64 n := by
  obtain ⟨fuel, x, hf⟩ := h
  obtain ⟨n, e, _, w⟩ := DataW.trod_int Tryz.underlying3 hf
  simp at e
  exact ⟨n, e⟩
set_option maxRecDepth 100000 in
theorem slice_of {T E : TypeId} (hT : Tryz.prog.underlying T = some (.slice E)) {c : Value} (h : TrdT enc W T [c]) : ∃ a n cap, c = .slice a n cap := by
  obtain ⟨fuel, x, hf⟩ := h
  rcases open_slice hT hf with ⟨hcs, _⟩ | ⟨a, l, c, m, n', D, Pl, hcs, _, hl, hm', hm, _, hx⟩
  · simp at hcs; exact ⟨_, _, _, hcs⟩
  · simp at hcs; exact ⟨_, _, _, hcs⟩
set_option maxRecDepth 100000 in
theorem type_of {cs : List Value} (hl : cs.length = 2) (h : TrdT enc W 28 cs) : ∃ k r, cs = [.int .i64 k, .int .i64 r] := by
  obtain ⟨fuel, x, hf⟩ := h
  obtain ⟨xs, n, _, rfl, _, hlen, hf⟩ := DataW.trod_struct Tryz.underlying28 hf
  match cs, hl with
  | [c0, c1], _ =>
    match xs, hlen with
    | [y0, y1], _ =>
      have h0 := hf 0 _ rfl
      have h1 := hf 1 _ rfl
      simp [cells3] at h0 h1
      obtain ⟨k, rfl⟩ := int_of ⟨_, _, h0⟩
      obtain ⟨r, rfl⟩ := int_of ⟨_, _, h1⟩
      exact ⟨k, r, rfl⟩

/- Rows out of their elements. -/
theorem list_of {α β : Type} {R : α → β → Prop} : ∀ (l : List α), (∀ a ∈ l, ∃ b, R a b) → ∃ m : List β, m.length = l.length ∧ ∀ (j : Nat) (a : α), l[j]? = some a → ∃ b, m[j]? = some b ∧ R a b
  | [], _ => ⟨[], rfl, fun j a e => by simp at e⟩
  | a :: l, h => by
    obtain ⟨b, hb⟩ := h a (by simp)
    obtain ⟨m, hm, hr⟩ := list_of l (fun x hx => h x (by simp [hx]))
    refine ⟨b :: m, by simp [hm], fun j x e => ?_⟩
    cases j with
    | zero => simp at e; subst e; exact ⟨b, rfl, hb⟩
    | succ j => simp at e; exact hr j x e
theorem at_of {α β : Type} {l : List α} {m : List β} (h : m.length = l.length) {j : Nat} {b : β} (e : m[j]? = some b) : ∃ a, l[j]? = some a := by
  have := (List.getElem?_eq_some_iff.1 e).1
  exact ⟨l[j]'(by omega), by rw [List.getElem?_eq_getElem]⟩

theorem srd_of {a : Option Addr} {n cap : Nat} (h : TrdT enc W 42 [.slice a n cap]) : ∃ ss : List ByteArray, n = ss.length ∧ n ≤ cap ∧ n ≤ 9223372036854775807 ∧ SRd W a ss := by
  obtain ⟨rows, hl, hrd, hel, hn, hc⟩ := rows_of Tryz.underlying42 cells9 (by omega) h
  obtain ⟨ss, hm, hr⟩ := list_of (R := fun r (s : ByteArray) => r = [.string s] ∧ s.size ≤ 9223372036854775807) rows (fun r hr => by
    obtain ⟨h1, h2⟩ := hel r hr
    match r, h1 with
    | [c], _ =>
      obtain ⟨s, rfl, hs⟩ := str_of h2
      exact ⟨s, rfl, hs⟩)
  refine ⟨ss, by omega, hc, hn, fun j s e => ?_⟩
  obtain ⟨r, hrr⟩ := at_of hm e
  obtain ⟨s', e', rfl, hz⟩ := hr j r hrr
  rw [e] at e'; cases e'
  obtain ⟨b, off, rfl, _, hcell⟩ := hrd j _ hrr
  have := hcell 0 (by omega)
  simp only [Nat.mul_one, Nat.add_zero, List.getElem?_cons_zero] at this
  exact ⟨hz, b, off, rfl, this⟩
theorem trd_of {a : Option Addr} {n cap : Nat} (h : TrdT enc W 43 [.slice a n cap]) : ∃ ts : List TyP, n = ts.length ∧ n ≤ 9223372036854775807 ∧ TRd W a ts := by
  obtain ⟨rows, hl, hrd, hel, hn, hc⟩ := rows_of Tryz.underlying43 cells28 (by omega) h
  obtain ⟨ts, hm, hr⟩ := list_of (R := fun r (t : TyP) => r = [.int .i64 t.1, .int .i64 t.2]) rows (fun r hr => by
    obtain ⟨h1, h2⟩ := hel r hr
    obtain ⟨k, q, rfl⟩ := type_of h1 h2
    exact ⟨(k, q), rfl⟩)
  refine ⟨ts, by omega, hn, fun j t e => ?_⟩
  obtain ⟨r, hrr⟩ := at_of hm e
  obtain ⟨t', e', rfl⟩ := hr j r hrr
  rw [e] at e'; cases e'
  obtain ⟨b, off, rfl, _, hcell⟩ := hrd j _ hrr
  have h0 := hcell 0 (by omega)
  have h1 := hcell 1 (by omega)
  simp only [Nat.add_zero, List.getElem?_cons_zero, List.getElem?_cons_succ] at h0 h1
  exact ⟨b, off, rfl, h0, h1⟩
set_option maxRecDepth 100000 in
theorem rec_of {cs : List Value} (hl : cs.length = 3) (h : TrdT enc W 45 cs) : ∃ p : RH × Rc, cs = p.1.cs ∧ RcRd W p.1 p.2 := by
  obtain ⟨fuel, x, hf⟩ := h
  obtain ⟨xs, n, _, rfl, _, hlen, hf⟩ := DataW.trod_struct Tryz.underlying45 hf
  match cs, hl with
  | [c0, c1, c2], _ =>
    match xs, hlen with
    | [y0, y1, y2], _ =>
      have h0 := hf 0 _ rfl
      have h1 := hf 1 _ rfl
      have h2 := hf 2 _ rfl
      simp [cells9, cells43, cells44] at h0 h1 h2
      obtain ⟨nm, rfl, hs⟩ := str_of ⟨_, _, h0⟩
      obtain ⟨fa, fn, fc, rfl⟩ := slice_of Tryz.underlying42 ⟨_, _, h1⟩
      obtain ⟨ta, tn, tc, rfl⟩ := slice_of Tryz.underlying43 ⟨_, _, h2⟩
      obtain ⟨ss, e1, e2, e3, e4⟩ := srd_of ⟨_, _, h1⟩
      obtain ⟨ts, q1, q2, q3⟩ := trd_of ⟨_, _, h2⟩
      exact ⟨(⟨nm, fa, fn, fc, ta, tn, tc⟩, ⟨nm, ss, ts⟩), rfl, rfl, hs, e1, e2, e3, e4, q1, q2, q3⟩
set_option maxRecDepth 100000 in
theorem map_of {cs : List Value} (hl : cs.length = 5) (h : TrdT enc W 54 cs) : ∃ m : Mp, cs = m.cs ∧ m.name.size ≤ 9223372036854775807 := by
  obtain ⟨fuel, x, hf⟩ := h
  obtain ⟨xs, n, _, rfl, _, hlen, hf⟩ := DataW.trod_struct Tryz.underlying54 hf
  match cs, hl with
  | [c0, c1, c2, c3, c4], _ =>
    match xs, hlen with
    | [y0, y1, y2], _ =>
      have h0 := hf 0 _ rfl
      have h1 := hf 1 _ rfl
      have h2 := hf 2 _ rfl
      simp [cells9, cells28] at h0 h1 h2
      obtain ⟨nm, rfl, hs⟩ := str_of ⟨_, _, h0⟩
      obtain ⟨k1, r1, e1⟩ := type_of rfl ⟨_, _, h1⟩
      obtain ⟨k2, r2, e2⟩ := type_of rfl ⟨_, _, h2⟩
      cases e1
      cases e2
      exact ⟨⟨nm, (k1, r1), (k2, r2)⟩, rfl, hs⟩
set_option maxRecDepth 100000 in
theorem sig_of {cs : List Value} (hl : cs.length = 4) (h : TrdT enc W 47 cs) : ∃ p : GH × Sg, cs = p.1.cs ∧ SgRd W p.1 p.2 := by
  obtain ⟨fuel, x, hf⟩ := h
  obtain ⟨xs, n, _, rfl, _, hlen, hf⟩ := DataW.trod_struct Tryz.underlying47 hf
  match cs, hl with
  | [c0, c1, c2, c3], _ =>
    match xs, hlen with
    | [y0, y1, y2], _ =>
      have h0 := hf 0 _ rfl
      have h1 := hf 1 _ rfl
      have h2 := hf 2 _ rfl
      simp [cells9, cells44, cells28] at h0 h1 h2
      obtain ⟨nm, rfl, hs⟩ := str_of ⟨_, _, h0⟩
      obtain ⟨pa, pn, pc, rfl⟩ := slice_of Tryz.underlying43 ⟨_, _, h1⟩
      obtain ⟨ts, q1, q2, q3⟩ := trd_of ⟨_, _, h1⟩
      obtain ⟨k, r, e1⟩ := type_of rfl ⟨_, _, h2⟩
      cases e1
      exact ⟨(⟨nm, pa, pn, pc, k, r⟩, ⟨nm, ts, (k, r)⟩), rfl, rfl, hs, q1, q2, q3, rfl⟩
theorem crd_map {α : Type} {a : Option Addr} {k : Nat} {rows : List (List Value)} {l : List α} (f : α → List Value) (h : CRd W a k rows) (hm : l.length = rows.length) (hr : ∀ (j : Nat) (r : List Value), rows[j]? = some r → ∃ x, l[j]? = some x ∧ r = f x) : CRd W a k (l.map f) := by
  intro j r e
  simp only [List.getElem?_map, Option.map_eq_some_iff] at e
  obtain ⟨x, hx, rfl⟩ := e
  obtain ⟨r, hrr⟩ := at_of hm hx
  obtain ⟨x', e', rfl⟩ := hr j r hrr
  rw [hx] at e'; cases e'
  exact h j _ hrr
theorem rrd_of {a : Option Addr} {n cap : Nat} (h : TrdT enc W 22 [.slice a n cap]) : ∃ rs, RRd W a n rs := by
  obtain ⟨rows, hl, hrd, hel, hn, hc⟩ := rows_of Tryz.underlying22 cells46 (by omega) h
  obtain ⟨ps, hm, hr⟩ := list_of (R := fun r (p : RH × Rc) => r = p.1.cs ∧ RcRd W p.1 p.2) rows (fun r hr => rec_of (hel r hr).1 (hel r hr).2)
  refine ⟨ps, by omega, hn, crd_map (fun p => p.1.cs) hrd hm (fun j r e => by obtain ⟨x, h1, h2, _⟩ := hr j r e; exact ⟨x, h1, h2⟩), fun p hp => ?_⟩
  obtain ⟨j, hj⟩ := List.getElem?_of_mem hp
  obtain ⟨r, hrr⟩ := at_of hm hj
  obtain ⟨x, h1, _, h3⟩ := hr j r hrr
  rw [hj] at h1; cases h1; exact h3
theorem mrd_of {a : Option Addr} {n cap : Nat} (h : TrdT enc W 23 [.slice a n cap]) : ∃ ms, MRd W a n ms := by
  obtain ⟨rows, hl, hrd, hel, hn, hc⟩ := rows_of Tryz.underlying23 cells79 (by omega) h
  obtain ⟨ps, hm, hr⟩ := list_of (R := fun r (p : Mp) => r = p.cs ∧ p.name.size ≤ 9223372036854775807) rows (fun r hr => map_of (hel r hr).1 (hel r hr).2)
  refine ⟨ps, by omega, hn, crd_map Mp.cs hrd hm (fun j r e => by obtain ⟨x, h1, h2, _⟩ := hr j r e; exact ⟨x, h1, h2⟩), fun p hp => ?_⟩
  obtain ⟨j, hj⟩ := List.getElem?_of_mem hp
  obtain ⟨r, hrr⟩ := at_of hm hj
  obtain ⟨x, h1, _, h3⟩ := hr j r hrr
  rw [hj] at h1; cases h1; exact h3
theorem grd_of {a : Option Addr} {n cap : Nat} (h : TrdT enc W 24 [.slice a n cap]) : ∃ gs, GRd W a n gs := by
  obtain ⟨rows, hl, hrd, hel, hn, hc⟩ := rows_of Tryz.underlying24 cells48 (by omega) h
  obtain ⟨ps, hm, hr⟩ := list_of (R := fun r (p : GH × Sg) => r = p.1.cs ∧ SgRd W p.1 p.2) rows (fun r hr => sig_of (hel r hr).1 (hel r hr).2)
  refine ⟨ps, by omega, hn, crd_map (fun p => p.1.cs) hrd hm (fun j r e => by obtain ⟨x, h1, h2, _⟩ := hr j r e; exact ⟨x, h1, h2⟩), fun p hp => ?_⟩
  obtain ⟨j, hj⟩ := List.getElem?_of_mem hp
  obtain ⟨r, hrr⟩ := at_of hm hj
  obtain ⟨x, h1, _, h3⟩ := hr j r hrr
  rw [hj] at h1; cases h1; exact h3
set_option maxRecDepth 100000 in
theorem prog_of {cs : List Value} (hl : cs.length = 4) (h : TrdT enc W 26 cs) : ∃ (g : PH) (p : Pg), cs.toArray = #[.slice g.ra g.rn g.rc, .slice g.ma g.mn g.mc, .slice g.fa g.fn g.fc, .slice g.ea g.en g.ec] ∧ PRd W g p := by
  obtain ⟨fuel, x, hf⟩ := h
  obtain ⟨xs, n, _, rfl, _, hlen, hf⟩ := DataW.trod_struct Tryz.underlying26 hf
  match cs, hl with
  | [c0, c1, c2, c3], _ =>
    match xs, hlen with
    | [y0, y1, y2, y3], _ =>
      have h0 := hf 0 _ rfl
      have h1 := hf 1 _ rfl
      have h2 := hf 2 _ rfl
      have h3 := hf 3 _ rfl
      simp [cells22, cells23, cells24] at h0 h1 h2 h3
      obtain ⟨ra, rn, rc, rfl⟩ := slice_of Tryz.underlying22 ⟨_, _, h0⟩
      obtain ⟨ma, mn, mc, rfl⟩ := slice_of Tryz.underlying23 ⟨_, _, h1⟩
      obtain ⟨fa, fn, fc, rfl⟩ := slice_of Tryz.underlying24 ⟨_, _, h2⟩
      obtain ⟨ea, en, ec, rfl⟩ := slice_of Tryz.underlying24 ⟨_, _, h3⟩
      obtain ⟨rs, hr⟩ := rrd_of ⟨_, _, h0⟩
      obtain ⟨ms, hm⟩ := mrd_of ⟨_, _, h1⟩
      obtain ⟨gs, hg⟩ := grd_of ⟨_, _, h2⟩
      obtain ⟨es, he⟩ := grd_of ⟨_, _, h3⟩
      exact ⟨⟨ra, rn, rc, ma, mn, mc, fa, fn, fc, ea, en, ec⟩, ⟨rs, ms, gs, es⟩, rfl, hr, hm, hg, he⟩
set_option maxRecDepth 100000 in
theorem prog_arg {v : Value} {base : Nat} {d : DataW H} {p : List MemPlace} (hv : Value.okWide Tryz.prog W .any base 26 v) (h : DataW.Trod enc Tryz.prog W 0 (fun _ => true) true 26 v d p) : ∃ (g : PH) (q : Pg), v = g.v ∧ PRd W g q := by
  obtain ⟨cs, rfl, hs⟩ := okWide_struct Tryz.underlying26 hv
  obtain ⟨m, hm⟩ := h
  have hlen : cs.toList.length = 4 := by
    have hm' := hm
    obtain ⟨xs, n, _, _, hl, _, _⟩ := DataW.trod_struct Tryz.underlying26 hm'
    rw [cells26] at hl; exact hl
  obtain ⟨g, q, e, hp⟩ := prog_of (cs := cs.toList) hlen ⟨_, _, hm⟩
  refine ⟨g, q, ?_, hp⟩
  have : cs = #[.slice g.ra g.rn g.rc, .slice g.ma g.mn g.mc, .slice g.fa g.fn g.fc, .slice g.ea g.en g.ec] := by rw [← e]
  rw [this]; rfl
set_option maxRecDepth 100000 in
theorem type_arg {v : Value} {base : Nat} {d : DataW H} {p : List MemPlace} (hv : Value.okWide Tryz.prog W .any base 28 v) (h : DataW.Trod enc Tryz.prog W 0 (fun _ => true) true 28 v d p) : ∃ k r, v = ty k r := by
  obtain ⟨cs, rfl, hs⟩ := okWide_struct Tryz.underlying28 hv
  obtain ⟨m, hm⟩ := h
  have hlen : cs.toList.length = 2 := by
    have hm' := hm
    obtain ⟨xs, n, _, _, hl, _, _⟩ := DataW.trod_struct Tryz.underlying28 hm'
    rw [cells28] at hl; exact hl
  obtain ⟨k, r, e⟩ := type_of (cs := cs.toList) hlen ⟨_, _, hm⟩
  refine ⟨k, r, ?_⟩
  have : cs = #[.int .i64 k, .int .i64 r] := by
    have := congrArg List.toArray e
    simpa using this
  rw [this]; rfl
end
end Go.Proofs.YtnmbifoinponeaaGreatDoor
