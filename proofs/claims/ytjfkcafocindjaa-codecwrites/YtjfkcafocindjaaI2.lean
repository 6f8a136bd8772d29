/- Values among the arguments. -/
import Derived.Test.YtjfkcafocindjaaG2
import Derived.ProofKit
import Derived.OpenShut
import Derived.ChangeOld
import Derived.Below
import Derived.ChangeMaps5
import Derived.Deep.Slices
namespace Go.Proofs.Ytjfkcafocindjaa
open Go.ChangeShapes Go.WideShapes Go.ChangeAt Go.RowKit Go.Deep
set_option linter.unusedVariables false
set_option linter.unusedSimpArgs false

theorem cells45 : Try.prog.cellsOf 45 = 5 := by kernel_rfl
theorem cells3 : Try.prog.cellsOf 3 = 1 := by kernel_rfl
theorem cells2 : Try.prog.cellsOf 2 = 1 := by kernel_rfl
theorem cells9 : Try.prog.cellsOf 9 = 1 := by kernel_rfl
theorem cells43 : Try.prog.cellsOf 43 = 1 := by kernel_rfl

section
variable {H : Type} {enc : TypeId × Value → H} {W : World}

/- What the reading of a slice of values tells. -/
def Trd (enc : TypeId × Value → H) (W : World) (a : Option Addr) (n cap : Nat) : Prop := ∃ fuel x, DataW.trod enc Try.prog W 0 (fun _ => true) true fuel 43 [.slice a n cap] = some x

theorem val_of {fuel : Nat} {cs : List Value} {x : DataW H × List MemPlace} (h : DataW.trod enc Try.prog W 0 (fun _ => true) true fuel 45 cs = some x) :
    ∃ h : Hd, cs = h.cs ∧ h.In ∧ Trd enc W h.a h.n h.cap := by
  obtain ⟨xs, n, _, rfl, hl, hlen, hf⟩ := DataW.trod_struct Try.underlying45 h
  rw [cells45] at hl
  match cs, hl with
  | [c0, c1, c2, c3, c4], _ =>
    match xs, hlen with
    | [y0, y1, y2, y3, y4], _ =>
      have h0 := hf 0 _ rfl
      have h1 := hf 1 _ rfl
      have h2 := hf 2 _ rfl
      have h3 := hf 3 _ rfl
      have h4 := hf 4 _ rfl
      simp [cells3, cells2, cells9, cells43] at h0 h1 h2 h3 h4
      obtain ⟨n0, e0, _, w0⟩ := DataW.trod_int Try.underlying3 h0
      obtain ⟨n1, e1, _, w1⟩ := DataW.trod_int Try.underlying2 h1
      obtain ⟨n2, e2, _, w2⟩ := DataW.trod_string Try.underlying9 h2
      obtain ⟨n3, e3, _, w3⟩ := DataW.trod_int Try.underlying3 h3
      have b0 : -9223372036854775808 ≤ n0 ∧ n0 ≤ 9223372036854775807 := by simpa [Lit.wf, IntKind.min, IntKind.max, IntKind.signed, IntKind.bits] using w0
      have b1 : -9223372036854775808 ≤ n1 ∧ n1 ≤ 9223372036854775807 := by simpa [Lit.wf, IntKind.min, IntKind.max, IntKind.signed, IntKind.bits] using w1
      have b3 : -9223372036854775808 ≤ n3 ∧ n3 ≤ 9223372036854775807 := by simpa [Lit.wf, IntKind.min, IntKind.max, IntKind.signed, IntKind.bits] using w3
      simp at e0 e1 e2 e3
      subst e0 e1 e2 e3
      have ht : n2.size ≤ 9223372036854775807 := by unfold maxLen at w2; omega
      rcases open_slice Try.underlying43 h4 with ⟨hcs, _⟩ | ⟨a, l, c, m, n', D, Pl, hcs, _, hl, hm', hm, _, hx⟩
      · simp at hcs
        subst hcs
        exact ⟨⟨n0, n1, n2, n3, none, 0, 0⟩, rfl, ⟨b1.1, b1.2, b0.1, b0.2, b3.1, b3.2, ht, by simp⟩, _, _, h4⟩
      · simp at hcs
        subst hcs
        refine ⟨⟨n0, n1, n2, n3, some a, l, c⟩, rfl, ⟨b1.1, b1.2, b0.1, b0.2, b3.1, b3.2, ht, ?_⟩, _, _, h4⟩
        simp only
        unfold maxLen at hm'
        omega

theorem row_of {a0 : Option Addr} {len cap : Nat} (h : Trd enc W a0 len cap) : ∃ hs : List Hd, hs.length = len ∧ VRd W a0 hs ∧ ∀ h ∈ hs, h.In ∧ Trd enc W h.a h.n h.cap := by
  obtain ⟨fuel, x, hf⟩ := h
  rcases open_slice Try.underlying43 hf with ⟨hcs, _⟩ | ⟨a, l, c, m, n, D, Pl, hcs, _, hl, _, hm, _, hx⟩
  · simp at hcs
    obtain ⟨rfl, rfl, rfl⟩ := hcs
    exact ⟨[], rfl, fun j x hx => by simp at hx, fun h hh => by simp at hh⟩
  · simp at hcs
    obtain ⟨rfl, rfl, rfl⟩ := hcs
    simp at hm
    subst hm
    have hs : ∀ j, j < len → ∃ h : Hd, (∃ b off, some a = some ⟨b, off, none⟩ ∧ ∀ i, i < 5 → W.cell? ⟨b, off + j * 5 + i, none⟩ = h.cs[i]?) ∧ h.In ∧ Trd enc W h.a h.n h.cap := by
      intro j hj
      obtain ⟨cs, h1, h2⟩ := hx j (by omega)
      obtain ⟨s, rfl, h3, h3'⟩ := val_of h2
      rw [cells45] at h1
      obtain ⟨_, _, h4⟩ := World.cells?_some h1
      obtain ⟨b, off, spot⟩ := a
      have hspot : spot = none := by
        obtain ⟨cs', h1', h2'⟩ := hx 0 (by omega)
        rw [cells45] at h1'
        obtain ⟨s', rfl, _⟩ := val_of h2'
        obtain ⟨_, _, h4'⟩ := World.cells?_some h1'
        have := h4' 0 (by omega)
        simpa [Addr.add] using World.cell?_spot (v := .int .i64 s'.kind) (this.trans rfl)
      subst hspot
      refine ⟨s, ⟨b, off, rfl, fun i hi => ?_⟩, h3, h3'⟩
      have := h4 i hi
      simp only [Addr.add_lit] at this
      exact this
    refine ⟨(List.range len).map (fun j => if hj : j < len then Classical.choose (hs j hj) else ⟨0, 0, ByteArray.empty, 0, none, 0, 0⟩), by simp, ?_, ?_⟩
    · intro j h hjh
      simp only [List.getElem?_map, Option.map_eq_some_iff] at hjh
      obtain ⟨j', hj', rfl⟩ := hjh
      have hj : j < len := by have := (List.getElem?_eq_some_iff.1 hj').1; simpa using this
      have : j' = j := by simpa [hj] using hj'.symm
      subst this
      simp only [hj, dif_pos]
      exact (Classical.choose_spec (hs j' hj)).1
    · intro h hh
      simp only [List.mem_map, List.mem_range] at hh
      obtain ⟨j, hj, rfl⟩ := hh
      simp only [hj, dif_pos]
      exact (Classical.choose_spec (hs j hj)).2

theorem deep_of {h : Hd} (hin : h.In) (ht : Trd enc W h.a h.n h.cap) : ∃ fs gs, Deep W h fs gs := by
  obtain ⟨fs, h1, h2, h3⟩ := row_of ht
  have hg : ∀ j : Nat, ∃ g : List Hd, ∀ f, fs[j]? = some f → (f.n = g.length ∧ VRd W f.a g ∧ ∀ q ∈ g, q.In) := by
    intro j
    cases hj : fs[j]? with
    | none => exact ⟨[], fun f e => by cases e⟩
    | some f =>
      obtain ⟨g, g1, g2, g3⟩ := row_of (h3 f (List.mem_of_getElem? hj)).2
      exact ⟨g, fun f' e => by cases e; exact ⟨g1.symm, g2, fun q hq => (g3 q hq).1⟩⟩
  refine ⟨fs, fun j => if hj : j < fs.length then Classical.choose (hg j) else [], hin, h1.symm, h2, fun f hf => (h3 f hf).1, ?_, ?_, ?_⟩
  · intro j f e
    have hj : j < fs.length := (List.getElem?_eq_some_iff.1 e).1
    simp only [hj, dif_pos]
    exact (Classical.choose_spec (hg j) f e).1
  · intro j f e
    have hj : j < fs.length := (List.getElem?_eq_some_iff.1 e).1
    simp only [hj, dif_pos]
    exact (Classical.choose_spec (hg j) f e).2.1
  · intro j g hg'
    by_cases hj : j < fs.length
    · simp only [hj, dif_pos] at hg'
      exact (Classical.choose_spec (hg j) fs[j] (by simp [hj])).2.2 g hg'
    · simp [hj] at hg'
end
end Go.Proofs.Ytjfkcafocindjaa
