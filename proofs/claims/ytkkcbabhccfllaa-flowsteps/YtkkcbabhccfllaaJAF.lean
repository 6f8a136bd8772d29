/-
  FlowSteps returns true for every function, and its argument reads behind the call as it read before.
  No condition.
-/
import Derived.Test.YtkkcbabhccfllaaJAE
import Derived.ProofKit
import Derived.OpenShut
import Derived.ChangeOld
import Derived.ChangeSlices
import Derived.ChangeMaps5
import Derived.ChangeAt
import Derived.Below
import Derived.Deep.Slices
namespace Go.Proofs.Ytkkcbabhccfllaa
open Go.ChangeShapes Go.WideShapes Go.ChangeAt Go.RowKit Go.Deep
set_option linter.unusedVariables false
set_option linter.unusedSimpArgs false

theorem ownN : ownKnob Try.prog.godebug = none := by kernel_rfl
theorem laidOut : laidOutB Try.prog = true := by kernel_rfl
theorem cells3 : Try.prog.cellsOf 3 = 1 := by kernel_rfl
theorem cells36 : Try.prog.cellsOf 36 = 5 := by kernel_rfl
theorem cells27 : Try.prog.cellsOf 27 = 1 := by kernel_rfl
theorem cells29 : Try.prog.cellsOf 29 = 2 := by kernel_rfl
def CRd (w : World) (a : Option Addr) (k : Nat) (rows : List (List Value)) : Prop := ∀ (j : Nat) (r : List Value), rows[j]? = some r → ∃ b off, a = some ⟨b, off, none⟩ ∧ b < w.heap.size ∧ ∀ i, i < k → w.cell? ⟨b, off + j * k + i, none⟩ = r[i]?

section
variable {H : Type} {enc : TypeId × Value → H} {W : World}

def TrdT (enc : TypeId × Value → H) (W : World) (T : TypeId) (cs : List Value) : Prop := ∃ fuel x, DataW.trod enc Try.prog W 0 (fun _ => true) true fuel T cs = some x

set_option maxRecDepth 100000 in
theorem rows_of {T E : TypeId} {k : Nat} (hT : Try.prog.underlying T = some (.slice E)) (hk : Try.prog.cellsOf E = k) (k0 : 0 < k) {a0 : Option Addr} {len cap : Nat} (h : TrdT enc W T [.slice a0 len cap]) :
    ∃ rows : List (List Value), rows.length = len ∧ CRd W a0 k rows ∧ (∀ r ∈ rows, r.length = k ∧ TrdT enc W E r) ∧ len ≤ 9223372036854775807 ∧ len ≤ cap := by
  obtain ⟨fuel, x, hf⟩ := h
  rcases open_slice hT hf with ⟨hcs, _⟩ | ⟨a, l, c, m, n, D, Pl, hcs, _, hl, hm', hm, _, hx⟩
  · simp at hcs
    obtain ⟨rfl, rfl, rfl⟩ := hcs
    exact ⟨[], rfl, fun j x hx => by simp at hx, fun h hh => by simp at hh, by omega, by omega⟩
  · simp at hcs
    obtain ⟨rfl, rfl, rfl⟩ := hcs
    simp at hm
    subst hm
    have hs : ∀ j, j < len → ∃ r : List Value, (∃ b off, some a = some ⟨b, off, none⟩ ∧ b < W.heap.size ∧ ∀ i, i < k → W.cell? ⟨b, off + j * k + i, none⟩ = r[i]?) ∧ r.length = k ∧ TrdT enc W E r := by
      intro j hj
      obtain ⟨cs, h1, h2⟩ := hx j (by omega)
      rw [hk] at h1
      obtain ⟨_, h3, h4⟩ := World.cells?_some h1
      obtain ⟨b, off, spot⟩ := a
      have hc0 : cs[0]? = some (cs[0]'(by omega)) := by rw [List.getElem?_eq_getElem]
      have hcell := (h4 0 k0).trans hc0
      have hspot : spot = none := by
        obtain ⟨cs', h1', h2'⟩ := hx 0 (by omega)
        rw [hk] at h1'
        obtain ⟨_, h3', h4'⟩ := World.cells?_some h1'
        have := World.cell?_spot ((h4' 0 k0).trans (show cs'[0]? = some (cs'[0]'(by omega)) by rw [List.getElem?_eq_getElem]))
        simpa [Addr.add] using this
      subst hspot
      have hb : b < W.heap.size := by
        have := World.block_lt_of_cell? W _ hcell
        simpa [Addr.add_lit] using this
      refine ⟨cs, ⟨b, off, rfl, hb, fun i hi => ?_⟩, h3, _, _, h2⟩
      have := h4 i hi
      simp only [Addr.add_lit] at this
      exact this
    refine ⟨(List.range len).map (fun j => if hj : j < len then Classical.choose (hs j hj) else []), by simp, ?_, ?_, by unfold maxLen at hm'; omega, by omega⟩
    · intro j h hjh
      simp only [List.getElem?_map, Option.map_eq_some_iff] at hjh
      obtain ⟨j', hj', rfl⟩ := hjh
      have hj : j < len := by have := (List.getElem?_eq_some_iff.1 hj').1; simpa using this
      have : j' = j := by simpa [hj] using hj'.symm
      subst this
      simp only [hj, dif_pos]
      exact (Classical.choose_spec (hs j' hj)).1
    · intro h hh
      simp only [List.mem_map, List.mem_range] at hh
      obtain ⟨j, hj, rfl⟩ := hh
      simp only [hj, dif_pos]
      exact (Classical.choose_spec (hs j hj)).2

theorem int_of {c : Value} (h : TrdT enc W 3 [c]) : ∃ n, c = .int .i64 n := by
  obtain ⟨fuel, x, hf⟩ := h
  obtain ⟨n, e, _, w⟩ := DataW.trod_int Try.underlying3 hf
  simp at e
  exact ⟨n, e⟩
set_option maxRecDepth 100000 in
theorem slice_of {T E : TypeId} (hT : Try.prog.underlying T = some (.slice E)) {c : Value} (h : TrdT enc W T [c]) : ∃ a n cap, c = .slice a n cap := by
  obtain ⟨fuel, x, hf⟩ := h
  rcases open_slice hT hf with ⟨hcs, _⟩ | ⟨a, l, c, m, n', D, Pl, hcs, _, hl, hm', hm, _, hx⟩
  · simp at hcs; exact ⟨_, _, _, hcs⟩
  · simp at hcs; exact ⟨_, _, _, hcs⟩
set_option maxRecDepth 100000 in
theorem op_of {cs : List Value} (hl : cs.length = 5) (h : TrdT enc W 36 cs) : ∃ o : Opx, cs = o.cs.toList := by
  obtain ⟨fuel, x, hf⟩ := h
  obtain ⟨xs, n, _, rfl, _, hlen, hf⟩ := DataW.trod_struct Try.underlying36 hf
  match cs, hl with
  | [c0, c1, c2, c3, c4], _ =>
    match xs, hlen with
    | [y0, y1, y2, y3, y4], _ =>
      have h0 := hf 0 _ rfl
      have h1 := hf 1 _ rfl
      have h2 := hf 2 _ rfl
      have h3 := hf 3 _ rfl
      have h4 := hf 4 _ rfl
      simp [cells3] at h0 h1 h2 h3 h4
      obtain ⟨n0, rfl⟩ := int_of ⟨_, _, h0⟩
      obtain ⟨n1, rfl⟩ := int_of ⟨_, _, h1⟩
      obtain ⟨n2, rfl⟩ := int_of ⟨_, _, h2⟩
      obtain ⟨n3, rfl⟩ := int_of ⟨_, _, h3⟩
      obtain ⟨n4, rfl⟩ := int_of ⟨_, _, h4⟩
      exact ⟨⟨n0, n1, n2, n3, n4⟩, rfl⟩
/- Rows out of their elements. -/
theorem list_of {α β : Type} {R : α → β → Prop} : ∀ (l : List α), (∀ a ∈ l, ∃ b, R a b) → ∃ m : List β, m.length = l.length ∧ ∀ (j : Nat) (a : α), l[j]? = some a → ∃ b, m[j]? = some b ∧ R a b
  | [], _ => ⟨[], rfl, fun j a e => by simp at e⟩
  | a :: l, h => by
    obtain ⟨b, hb⟩ := h a (by simp)
    obtain ⟨m, hm, hr⟩ := list_of l (fun x hx => h x (by simp [hx]))
    refine ⟨b :: m, by simp [hm], fun j x e => ?_⟩
    cases j with
    | zero => simp at e; subst e; exact ⟨b, rfl, hb⟩
    | succ j => simp at e; exact hr j x e
theorem at_of {α β : Type} {l : List α} {m : List β} (h : m.length = l.length) {j : Nat} {b : β} (e : m[j]? = some b) : ∃ a, l[j]? = some a := by
  have := (List.getElem?_eq_some_iff.1 e).1
  exact ⟨l[j]'(by omega), by rw [List.getElem?_eq_getElem]⟩

theorem ord_of {a : Option Addr} {n cap : Nat} (h : TrdT enc W 27 [.slice a n cap]) : ∃ ops : List Opx, n = ops.length ∧ n ≤ 9223372036854775807 ∧ ORd W a ops := by
  obtain ⟨rows, hl, hrd, hel, hn, hc⟩ := rows_of Try.underlying27 cells36 (by omega) h
  obtain ⟨ts, hm, hr⟩ := list_of (R := fun r (t : Opx) => r = t.cs.toList) rows (fun r hr => by
    obtain ⟨h1, h2⟩ := hel r hr
    exact op_of h1 h2)
  refine ⟨ts, by omega, hn, fun j t e => ?_⟩
  obtain ⟨r, hrr⟩ := at_of hm e
  obtain ⟨t', e', rfl⟩ := hr j r hrr
  rw [e] at e'; cases e'
  obtain ⟨b, off, rfl, _, hcell⟩ := hrd j _ hrr
  exact ⟨b, off, rfl, fun i hi => by rw [hcell i hi]; simp⟩
set_option maxRecDepth 100000 in
theorem fn_of {cs : List Value} (hl : cs.length = 2) (h : TrdT enc W 29 cs) : ∃ (regs : Int) (a : Option Addr) (n cap : Nat) (ops : List Opx), cs = [.int .i64 regs, .slice a n cap] ∧ n = ops.length ∧ n ≤ 9223372036854775807 ∧ ORd W a ops := by
  obtain ⟨fuel, x, hf⟩ := h
  obtain ⟨xs, n, _, rfl, _, hlen, hf⟩ := DataW.trod_struct Try.underlying29 hf
  match cs, hl with
  | [c0, c1], _ =>
    match xs, hlen with
    | [y0, y1], _ =>
      have h0 := hf 0 _ rfl
      have h1 := hf 1 _ rfl
      simp [cells3, cells27] at h0 h1
      obtain ⟨regs, rfl⟩ := int_of ⟨_, _, h0⟩
      obtain ⟨a, m, cap, rfl⟩ := slice_of Try.underlying27 ⟨_, _, h1⟩
      obtain ⟨ops, h2, h3, h4⟩ := ord_of ⟨_, _, h1⟩
      exact ⟨regs, a, m, cap, ops, rfl, h2, h3, h4⟩
set_option maxRecDepth 100000 in
theorem fn_arg {v : Value} {base : Nat} {d : DataW H} {p : List MemPlace} (hv : Value.okWide Try.prog W .any base 29 v) (h : DataW.Trod enc Try.prog W 0 (fun _ => true) true 29 v d p) : ∃ (regs : Int) (a : Option Addr) (n cap : Nat) (ops : List Opx), v = .agg #[.int .i64 regs, .slice a n cap] ∧ n = ops.length ∧ n ≤ 9223372036854775807 ∧ ORd W a ops := by
  obtain ⟨cs, rfl, hs⟩ := okWide_struct Try.underlying29 hv
  obtain ⟨m, hm⟩ := h
  have hlen : cs.toList.length = 2 := by
    have hm' := hm
    obtain ⟨xs, n, _, _, hl, _, _⟩ := DataW.trod_struct Try.underlying29 hm'
    rw [cells29] at hl; exact hl
  obtain ⟨regs, a, n, cap, ops, e, h2⟩ := fn_of (cs := cs.toList) hlen ⟨_, _, hm⟩
  refine ⟨regs, a, n, cap, ops, ?_, h2⟩
  have : cs = #[.int .i64 regs, .slice a n cap] := by rw [← e]
  rw [this]
end
end Go.Proofs.Ytkkcbabhccfllaa

namespace Go.Proofs.Ytkkcbabhccfllaa
open Go.ChangeShapes Go.WideShapes Go.ChangeAt Go.RowKit Go.Deep
set_option linter.unusedVariables false
set_option linter.unusedSimpArgs false
set_option maxRecDepth 100000 in
theorem steps_lifted (os : Os) (started : os.Started) (H : Type) (enc : TypeId × Value → H) :
    ReturnsInHanded {} Try.checked os 4 .any (Rows.flowStepsSpec.pre6 enc Try.prog Try.f4 Rows.flowStepsRow.domain false) (Rows.flowStepsSpec.post enc Try.prog Try.f4 false true false false) := by
  refine returnsInHanded_of_change (C := Try.checked) ownN started (by kernel_rfl) Try.func4
    (ChangeSpec.witness6 (enc := enc) (C := Try.checked) false ⟨#[], #[.agg #[.int .i64 0, .slice none 0 0]], []⟩ 8 (by kernel_rfl) (by kernel_rfl) (by kernel_rfl) (by kernel_rfl)) ?_
  intro W base args ds gs before hval0 hW hcnd _
  have hval : ∀ (j : Nat) t v, Try.f4.params[j]? = some t → args[j]? = some v → Value.okWide Try.prog W .any base t v := hval0
  have hW' := hW
  obtain ⟨p, q, hA0, hV, rfl, hfz, hnd⟩ := hW
  have hA : DataW.TrodAll enc Try.prog W 0 (fun _ => true) true Try.f4.params.toList args.toList ds p := hA0
  rw [Try.params4] at hA hval
  obtain ⟨v0, vs0, d0, ds0, p0, q0, hargs, rfl, rfl, h0, r0⟩ := trodAll_cons hA
  obtain ⟨rfl, rfl, rfl⟩ := trodAll_nil r0
  obtain rfl : args = #[v0] := by cases args; simp_all
  obtain ⟨rfl, rfl⟩ := trodVars_none hV
  have lt0 : ∀ x ∈ p0, x.block < W.heap.size := by obtain ⟨m, hm⟩ := h0; exact DataW.trod_lt m _ _ _ hm
  obtain ⟨regs, a, n, c, ops, rfl, hn, hnm, hr⟩ := fn_arg (hval 0 29 v0 rfl rfl) h0
  clear hA0 hval0
  refine (flowSteps_any W regs a n c ops hn hnm hr).mono fun e W' ⟨he, bel⟩ => ?_
  subst he
  exact ⟨_, rfl, _, _, _, [], _, [], hW', trodAll_mk1 (shut_bool Try.underlying4 _), (trodAll_cons_mk (Below.trod laidOut (by kernel_rfl) (of_decide_eq_true (by kernel_rfl)) h0 bel lt0) trodAll_mk0), rfl, bel.frame _, fun h => by cases h⟩
theorem flowSteps_holds : Rows.FlowStepsSaid :=
  OpenClaim.holds_of_wide 4 Try.f4 rfl rfl rfl rfl rfl rfl rfl ⟨rfl, rfl, rfl, rfl, rfl⟩ rfl rfl rfl rfl rfl (by kernel_rfl) Try.func4 (by kernel_rfl)
    (of_decide_eq_true (by kernel_rfl)) (by unfold Func.isWrapper; first | (rw [if_pos (by decide +kernel)]; kernel_rfl) | (rw [if_neg (by decide +kernel)]; exact ⟨rfl, rfl⟩))
    (fun os started H enc _ => steps_lifted os started H enc)
end Go.Proofs.Ytkkcbabhccfllaa

