/-
  FlowLays returns true for every graph, and its argument reads behind the call as it read before.
  No condition.
-/
import Derived.Test.YtkkcbabhccfllaaJAF
import Derived.SizedLaws
namespace Go.Proofs.Ytkkcbabhccfllaa
open Go.ChangeShapes Go.WideShapes Go.ChangeAt Go.RowKit Go.Deep
set_option linter.unusedVariables false
set_option linter.unusedSimpArgs false
theorem cells47 : Try.prog.cellsOf 47 = 5 := by kernel_rfl
theorem cells22 : Try.prog.cellsOf 22 = 1 := by kernel_rfl
theorem cells24 : Try.prog.cellsOf 24 = 2 := by kernel_rfl
theorem bytes36 : Try.prog.bytesOf 36 = 40 := by kernel_rfl
theorem bytes47 : Try.prog.bytesOf 47 = 56 := by kernel_rfl
section
variable {H : Type} {enc : TypeId × Value → H} {W : World}
def Sm (T : TypeId) (d : DataW H) : Prop := ∀ n ∈ d.weights Try.prog T, n ≤ reachBytes
def TrdS (enc : TypeId × Value → H) (W : World) (T : TypeId) (cs : List Value) : Prop := ∃ fuel x, DataW.trod enc Try.prog W 0 (fun _ => true) true fuel T cs = some x ∧ Sm T x.1
theorem TrdS.t {T : TypeId} {cs : List Value} (h : TrdS enc W T cs) : TrdT enc W T cs := by
  obtain ⟨f, x, h1, _⟩ := h
  exact ⟨f, x, h1⟩
theorem mem_all {e : TypeId} : ∀ {l : List (DataW H)} {d : DataW H}, d ∈ l → ∀ n ∈ d.weights Try.prog e, n ∈ DataW.weightsAll Try.prog e l
  | x :: r, d, h, n, hn => by
    simp only [DataW.weightsAll, List.mem_append]
    rcases List.mem_cons.1 h with rfl | h
    · exact .inl hn
    · exact .inr (mem_all h n hn)
set_option maxRecDepth 100000 in
theorem rowsS_of {T E : TypeId} {k : Nat} (hT : Try.prog.underlying T = some (.slice E)) (hk : Try.prog.cellsOf E = k) (k0 : 0 < k) {a0 : Option Addr} {len cap : Nat} (h : TrdS enc W T [.slice a0 len cap]) :
    ∃ rows : List (List Value), rows.length = len ∧ CRd W a0 k rows ∧ (∀ r ∈ rows, r.length = k ∧ TrdS enc W E r) ∧ len * Try.prog.bytesOf E ≤ reachBytes ∧ (a0 = none → cap = 0) := by
  obtain ⟨fuel, x, hf, hsm⟩ := h
  rcases open_slice hT hf with ⟨hcs, _⟩ | ⟨a, l, c, m, n, D, Pl, hcs, _, hl, hm', hm, hxe, hx⟩
  · simp at hcs
    obtain ⟨rfl, rfl, rfl⟩ := hcs
    exact ⟨[], rfl, fun j x hx => by simp at hx, fun h hh => by simp at hh, by omega, fun _ => rfl⟩
  · simp at hcs
    obtain ⟨rfl, rfl, rfl⟩ := hcs
    simp at hm
    subst hm
    subst hxe
    have hD : ∀ i, i < len → Sm E (D i) := fun i hi n hn => hsm n (by
      simp only [DataW.weights, hT, List.mem_cons, List.mem_append]
      exact .inr (.inl (mem_all (List.mem_map.2 ⟨i, List.mem_range.2 hi, rfl⟩) n hn)))
    have hW : len * Try.prog.bytesOf E ≤ reachBytes := by
      have h1 := hsm ((((List.range len).map D).length + ((List.range (m - len)).map fun j => D (len + j)).length) * Try.prog.bytesOf E) (by simp only [DataW.weights, hT, List.mem_cons]; exact .inl trivial)
      refine Nat.le_trans (Nat.mul_le_mul_right _ ?_) h1
      simp
    have hs : ∀ j, j < len → ∃ r : List Value, (∃ b off, some a = some ⟨b, off, none⟩ ∧ b < W.heap.size ∧ ∀ i, i < k → W.cell? ⟨b, off + j * k + i, none⟩ = r[i]?) ∧ r.length = k ∧ TrdS enc W E r := by
      intro j hj
      obtain ⟨cs, h1, h2⟩ := hx j (by omega)
      rw [hk] at h1
      obtain ⟨_, h3, h4⟩ := World.cells?_some h1
      obtain ⟨b, off, spot⟩ := a
      have hc0 : cs[0]? = some (cs[0]'(by omega)) := by rw [List.getElem?_eq_getElem]
      have hcell := (h4 0 k0).trans hc0
      have hspot : spot = none := by
        obtain ⟨cs', h1', h2'⟩ := hx 0 (by omega)
        rw [hk] at h1'
        obtain ⟨_, h3', h4'⟩ := World.cells?_some h1'
        have := World.cell?_spot ((h4' 0 k0).trans (show cs'[0]? = some (cs'[0]'(by omega)) by rw [List.getElem?_eq_getElem]))
        simpa [Addr.add] using this
      subst hspot
      have hb : b < W.heap.size := by
        have := World.block_lt_of_cell? W _ hcell
        simpa [Addr.add_lit] using this
      refine ⟨cs, ⟨b, off, rfl, hb, fun i hi => ?_⟩, h3, _, _, h2, hD j hj⟩
      have := h4 i hi
      simp only [Addr.add_lit] at this
      exact this
    refine ⟨(List.range len).map (fun j => if hj : j < len then Classical.choose (hs j hj) else []), by simp, ?_, ?_, hW, fun e => by cases e⟩
    · intro j h hjh
      simp only [List.getElem?_map, Option.map_eq_some_iff] at hjh
      obtain ⟨j', hj', rfl⟩ := hjh
      have hj : j < len := by have := (List.getElem?_eq_some_iff.1 hj').1; simpa using this
      have : j' = j := by simpa [hj] using hj'.symm
      subst this
      simp only [hj, dif_pos]
      exact (Classical.choose_spec (hs j' hj)).1
    · intro h hh
      simp only [List.mem_map, List.mem_range] at hh
      obtain ⟨j, hj, rfl⟩ := hh
      simp only [hj, dif_pos]
      exact (Classical.choose_spec (hs j hj)).2
theorem reach_is : reachBytes = 140737488351232 := rfl
set_option maxRecDepth 100000 in
theorem blk_of {cs : List Value} (hl : cs.length = 5) (h : TrdS enc W 47 cs) : ∃ b : Blk, cs = b.cs.toList ∧ BkW W b := by
  obtain ⟨fuel, x, hf, hsm⟩ := h
  obtain ⟨xs, n, _, rfl, _, hlen, hf⟩ := DataW.trod_struct Try.underlying47 hf
  match cs, hl with
  | [c0, c1, c2, c3, c4], _ =>
    match xs, hlen with
    | [y0, y1, y2, y3, y4], _ =>
      have h0 := hf 0 _ rfl
      have h1 := hf 1 _ rfl
      have h2 := hf 2 _ rfl
      have h3 := hf 3 _ rfl
      have h4 := hf 4 _ rfl
      simp [cells3, cells27] at h0 h1 h2 h3 h4
      have s0 : Sm 27 y0.1 := fun n hn => hsm n (by
        simp only [DataW.weights, Try.underlying47]
        simp [DataW.weightsEach]
        exact .inl hn)
      obtain ⟨n1, rfl⟩ := int_of ⟨_, _, h1⟩
      obtain ⟨n2, rfl⟩ := int_of ⟨_, _, h2⟩
      obtain ⟨n3, rfl⟩ := int_of ⟨_, _, h3⟩
      obtain ⟨n4, rfl⟩ := int_of ⟨_, _, h4⟩
      obtain ⟨oa, on, oc, rfl⟩ := slice_of Try.underlying27 ⟨_, _, h0⟩
      obtain ⟨ops, e1, e2, e3⟩ := ord_of ⟨_, _, h0⟩
      obtain ⟨_, _, _, _, e4, e5⟩ := rowsS_of Try.underlying27 cells36 (by omega) ⟨_, _, h0, s0⟩
      rw [bytes36, reach_is] at e4
      exact ⟨⟨oa, on, oc, n1, n2, n3, n4, ops⟩, rfl, ⟨e1, by show on ≤ _; omega, e3, e5⟩⟩
theorem brw_of {a : Option Addr} {n cap : Nat} (h : TrdS enc W 22 [.slice a n cap]) : ∃ bs : List Blk, n = bs.length ∧ n ≤ 140737488355328 ∧ BRw W a bs := by
  obtain ⟨rows, hl, hrd, hel, hn, hc⟩ := rowsS_of Try.underlying22 cells47 (by omega) h
  rw [bytes47, reach_is] at hn
  obtain ⟨ts, hm, hr⟩ := list_of (R := fun r (t : Blk) => r = t.cs.toList ∧ BkW W t) rows (fun r hr => by
    obtain ⟨h1, h2⟩ := hel r hr
    exact blk_of h1 h2)
  refine ⟨ts, by omega, by omega, ⟨fun j t e => ?_, fun t ht => ?_⟩⟩
  · obtain ⟨r, hrr⟩ := at_of hm e
    obtain ⟨t', e', rfl, _⟩ := hr j r hrr
    rw [e] at e'; cases e'
    obtain ⟨b, off, rfl, _, hcell⟩ := hrd j _ hrr
    exact ⟨b, off, rfl, fun i hi => by rw [hcell i hi]; simp⟩
  · obtain ⟨j, hj⟩ := List.getElem?_of_mem ht
    obtain ⟨r, hrr⟩ := at_of hm hj
    obtain ⟨t', e', _, h2⟩ := hr j r hrr
    rw [hj] at e'; cases e'
    exact h2
set_option maxRecDepth 100000 in
theorem graph_of {cs : List Value} (hl : cs.length = 2) (h : TrdS enc W 24 cs) : ∃ (regs : Int) (a : Option Addr) (n cap : Nat) (bs : List Blk), cs = [.int .i64 regs, .slice a n cap] ∧ n = bs.length ∧ n ≤ 140737488355328 ∧ BRw W a bs := by
  obtain ⟨fuel, x, hf, hsm⟩ := h
  obtain ⟨xs, n, _, rfl, _, hlen, hf⟩ := DataW.trod_struct Try.underlying24 hf
  match cs, hl with
  | [c0, c1], _ =>
    match xs, hlen with
    | [y0, y1], _ =>
      have h0 := hf 0 _ rfl
      have h1 := hf 1 _ rfl
      simp [cells3, cells22] at h0 h1
      have s1 : Sm 22 y1.1 := fun n hn => hsm n (by
        simp only [DataW.weights, Try.underlying24]
        simp [DataW.weightsEach]
        exact .inr hn)
      obtain ⟨regs, rfl⟩ := int_of ⟨_, _, h0⟩
      obtain ⟨a, m, cap, rfl⟩ := slice_of Try.underlying22 ⟨_, _, h1⟩
      obtain ⟨bs, h2, h3, h4⟩ := brw_of ⟨_, _, h1, s1⟩
      exact ⟨regs, a, m, cap, bs, rfl, h2, h3, h4⟩
set_option maxRecDepth 100000 in
theorem graph_arg {v : Value} {base : Nat} {d : DataW H} {p : List MemPlace} (hv : Value.okWide Try.prog W .any base 24 v) (h : DataW.Trod enc Try.prog W 0 (fun _ => true) true 24 v d p) (hs : Sm 24 d) : ∃ (regs : Int) (a : Option Addr) (n cap : Nat) (bs : List Blk), v = .agg #[.int .i64 regs, .slice a n cap] ∧ n = bs.length ∧ n ≤ 140737488355328 ∧ BRw W a bs := by
  obtain ⟨cs, rfl, hs'⟩ := okWide_struct Try.underlying24 hv
  obtain ⟨m, hm⟩ := h
  have hlen : cs.toList.length = 2 := by
    have hm' := hm
    obtain ⟨xs, n, _, _, hl, _, _⟩ := DataW.trod_struct Try.underlying24 hm'
    rw [cells24] at hl; exact hl
  obtain ⟨regs, a, n, cap, bs, e, h2⟩ := graph_of (cs := cs.toList) hlen ⟨_, _, hm, hs⟩
  refine ⟨regs, a, n, cap, bs, ?_, h2⟩
  have : cs = #[.int .i64 regs, .slice a n cap] := by rw [← e]
  rw [this]
end
end Go.Proofs.Ytkkcbabhccfllaa

namespace Go.Proofs.Ytkkcbabhccfllaa
open Go.ChangeShapes Go.WideShapes Go.ChangeAt Go.RowKit Go.Deep
set_option linter.unusedVariables false
set_option linter.unusedSimpArgs false
set_option maxRecDepth 100000 in
theorem lays_lifted (os : Os) (started : os.Started) (H : Type) (enc : TypeId × Value → H) :
    ReturnsInHanded {} Try.checked os 3 .any (Rows.flowLaysSpec.pre6 enc Try.prog Try.f3 Rows.flowLaysRow.domain false) (Rows.flowLaysSpec.post enc Try.prog Try.f3 false true false false) := by
  refine returnsInHanded_of_change_sized (C := Try.checked) ownN started (by kernel_rfl) Try.func3
    (ChangeSpec.witness6 (enc := enc) (C := Try.checked) false ⟨#[], #[.agg #[.int .i64 0, .slice none 0 0]], []⟩ 8 (by kernel_rfl) (by kernel_rfl) (by kernel_rfl) (by kernel_rfl)) ?_
  intro W base args ds gs before hval0 hW hcnd hsz _
  have hval : ∀ (j : Nat) t v, Try.f3.params[j]? = some t → args[j]? = some v → Value.okWide Try.prog W .any base t v := hval0
  have hW' := hW
  obtain ⟨p, q, hA0, hV, rfl, hfz, hnd⟩ := hW
  have hA : DataW.TrodAll enc Try.prog W 0 (fun _ => true) true Try.f3.params.toList args.toList ds p := hA0
  rw [Try.params3] at hA hval
  obtain ⟨v0, vs0, d0, ds0, p0, q0, hargs, rfl, rfl, h0, r0⟩ := trodAll_cons hA
  obtain ⟨rfl, rfl, rfl⟩ := trodAll_nil r0
  obtain rfl : args = #[v0] := by cases args; simp_all
  obtain ⟨rfl, rfl⟩ := trodVars_none hV
  have lt0 : ∀ x ∈ p0, x.block < W.heap.size := by obtain ⟨m, hm⟩ := h0; exact DataW.trod_lt m _ _ _ hm
  have hs : Sm 24 d0 := fun n hn => by
    have h1 := List.all_eq_true.1 hsz n (DataW.weights_mem_each (j := 0) (t := 24) (d := d0) rfl rfl n hn)
    exact of_decide_eq_true h1
  obtain ⟨regs, a, n, c, bs, rfl, hn, hnm, hr⟩ := graph_arg (hval 0 24 v0 rfl rfl) h0 hs
  clear hA0 hval0
  refine (flowLays_any W regs a n c bs hn hnm hr).mono fun e W' ⟨he, bel⟩ => ?_
  subst he
  exact ⟨_, rfl, _, _, _, [], _, [], hW', trodAll_mk1 (shut_bool Try.underlying4 _), (trodAll_cons_mk (Below.trod laidOut (by kernel_rfl) (of_decide_eq_true (by kernel_rfl)) h0 bel lt0) trodAll_mk0), rfl, bel.frame _, fun h => by cases h⟩
theorem flowLays_holds : Rows.FlowLaysSaid :=
  OpenClaim.holds_of_wide 3 Try.f3 rfl rfl rfl rfl rfl rfl rfl ⟨rfl, rfl, rfl, rfl, rfl⟩ rfl rfl rfl rfl rfl (by kernel_rfl) Try.func3 (by kernel_rfl)
    (of_decide_eq_true (by kernel_rfl)) (by unfold Func.isWrapper; first | (rw [if_pos (by decide +kernel)]; kernel_rfl) | (rw [if_neg (by decide +kernel)]; exact ⟨rfl, rfl⟩))
    (fun os started H enc _ => lays_lifted os started H enc)
end Go.Proofs.Ytkkcbabhccfllaa

