/- Smalls; rows of values put behind nothing; what came in, as trees. -/
import Derived.Test.YtenfgahedbeekaaC
import Derived.ProofKit
import Derived.OpenShut
import Derived.ChangeOld
import Derived.ChangeMaps5
import Derived.Deep.Slices
namespace Go.Proofs.Ytenfgahedbeekaa
open Go.ChangeShapes Go.WideShapes Go.ChangeAt Go.RowKit Go.Deep
set_option linter.unusedVariables false
set_option linter.unusedSimpArgs false

def SmL (w : World) (hs : List Hd) (e : Ending) : Prop := ∃ b, e = .returned (.bool b) ∧ (b = true → hs.length ≤ 20 ∧ ∀ h ∈ hs, Sm w h)
def DeepAll (w : World) (hs : List Hd) : Prop := ∀ (j : Nat) (h : Hd), hs[j]? = some h → ∃ fs gs, Deep w h fs gs

theorem cells31 : Try.prog.cellsOf 31 = 5 := by kernel_rfl
theorem cells3 : Try.prog.cellsOf 3 = 1 := by kernel_rfl
theorem cells2 : Try.prog.cellsOf 2 = 1 := by kernel_rfl
theorem cells9 : Try.prog.cellsOf 9 = 1 := by kernel_rfl
theorem cells29 : Try.prog.cellsOf 29 = 1 := by kernel_rfl

section
variable {H : Type} {enc : TypeId × Value → H} {W : World}

/- What the reading of a slice of values tells. -/
def Trd (enc : TypeId × Value → H) (W : World) (a : Option Addr) (n cap : Nat) : Prop := ∃ fuel x, DataW.trod enc Try.prog W 0 (fun _ => true) true fuel 29 [.slice a n cap] = some x

set_option maxRecDepth 100000 in
theorem val_of {fuel : Nat} {cs : List Value} {x : DataW H × List MemPlace} (h : DataW.trod enc Try.prog W 0 (fun _ => true) true fuel 31 cs = some x) :
    ∃ h : Hd, cs = h.cs ∧ h.In ∧ Trd enc W h.a h.n h.cap := by
  obtain ⟨xs, n, _, rfl, hl, hlen, hf⟩ := DataW.trod_struct Try.underlying31 h
  rw [cells31] at hl
  match cs, hl with
  | [c0, c1, c2, c3, c4], _ =>
    match xs, hlen with
    | [y0, y1, y2, y3, y4], _ =>
      have h0 := hf 0 _ rfl
      have h1 := hf 1 _ rfl
      have h2 := hf 2 _ rfl
      have h3 := hf 3 _ rfl
      have h4 := hf 4 _ rfl
      simp [cells3, cells2, cells9, cells29] at h0 h1 h2 h3 h4
      obtain ⟨n0, e0, _, w0⟩ := DataW.trod_int Try.underlying3 h0
      obtain ⟨n1, e1, _, w1⟩ := DataW.trod_int Try.underlying2 h1
      obtain ⟨n2, e2, _, w2⟩ := DataW.trod_string Try.underlying9 h2
      obtain ⟨n3, e3, _, w3⟩ := DataW.trod_int Try.underlying3 h3
      have b0 : -9223372036854775808 ≤ n0 ∧ n0 ≤ 9223372036854775807 := by simpa [Lit.wf, IntKind.min, IntKind.max, IntKind.signed, IntKind.bits] using w0
      have b1 : -9223372036854775808 ≤ n1 ∧ n1 ≤ 9223372036854775807 := by simpa [Lit.wf, IntKind.min, IntKind.max, IntKind.signed, IntKind.bits] using w1
      have b3 : -9223372036854775808 ≤ n3 ∧ n3 ≤ 9223372036854775807 := by simpa [Lit.wf, IntKind.min, IntKind.max, IntKind.signed, IntKind.bits] using w3
      simp at e0 e1 e2 e3
      subst e0 e1 e2 e3
      have ht : n2.size ≤ 9223372036854775807 := by unfold maxLen at w2; omega
      rcases open_slice Try.underlying29 h4 with ⟨hcs, _⟩ | ⟨a, l, c, m, n', D, Pl, hcs, _, hl, hm', hm, _, hx⟩
      · simp at hcs
        subst hcs
        exact ⟨⟨n0, n1, n2, n3, none, 0, 0⟩, rfl, ⟨b1.1, b1.2, b0.1, b0.2, b3.1, b3.2, ht, by simp⟩, _, _, h4⟩
      · simp at hcs
        subst hcs
        refine ⟨⟨n0, n1, n2, n3, some a, l, c⟩, rfl, ⟨b1.1, b1.2, b0.1, b0.2, b3.1, b3.2, ht, ?_⟩, _, _, h4⟩
        simp only
        unfold maxLen at hm'
        omega

set_option maxRecDepth 100000 in
theorem row_of {a0 : Option Addr} {len cap : Nat} (h : Trd enc W a0 len cap) : ∃ hs : List Hd, hs.length = len ∧ VRd W a0 hs ∧ ∀ h ∈ hs, h.In ∧ Trd enc W h.a h.n h.cap := by
  obtain ⟨fuel, x, hf⟩ := h
  rcases open_slice Try.underlying29 hf with ⟨hcs, _⟩ | ⟨a, l, c, m, n, D, Pl, hcs, _, hl, _, hm, _, hx⟩
  · simp at hcs
    obtain ⟨rfl, rfl, rfl⟩ := hcs
    exact ⟨[], rfl, fun j x hx => by simp at hx, fun h hh => by simp at hh⟩
  · simp at hcs
    obtain ⟨rfl, rfl, rfl⟩ := hcs
    simp at hm
    subst hm
    have hs : ∀ j, j < len → ∃ h : Hd, (∃ b off, some a = some ⟨b, off, none⟩ ∧ ∀ i, i < 5 → W.cell? ⟨b, off + j * 5 + i, none⟩ = h.cs[i]?) ∧ h.In ∧ Trd enc W h.a h.n h.cap := by
      intro j hj
      obtain ⟨cs, h1, h2⟩ := hx j (by omega)
      obtain ⟨s, rfl, h3, h3'⟩ := val_of h2
      rw [cells31] at h1
      obtain ⟨_, _, h4⟩ := World.cells?_some h1
      obtain ⟨b, off, spot⟩ := a
      have hspot : spot = none := by
        obtain ⟨cs', h1', h2'⟩ := hx 0 (by omega)
        rw [cells31] at h1'
        obtain ⟨s', rfl, _⟩ := val_of h2'
        obtain ⟨_, _, h4'⟩ := World.cells?_some h1'
        have := h4' 0 (by omega)
        simpa [Addr.add] using World.cell?_spot (v := .int .i64 s'.kind) (this.trans rfl)
      subst hspot
      refine ⟨s, ⟨b, off, rfl, fun i hi => ?_⟩, h3, h3'⟩
      have := h4 i hi
      simp only [Addr.add_lit] at this
      exact this
    refine ⟨(List.range len).map (fun j => if hj : j < len then Classical.choose (hs j hj) else ⟨0, 0, ByteArray.empty, 0, none, 0, 0⟩), by simp, ?_, ?_⟩
    · intro j h hjh
      simp only [List.getElem?_map, Option.map_eq_some_iff] at hjh
      obtain ⟨j', hj', rfl⟩ := hjh
      have hj : j < len := by have := (List.getElem?_eq_some_iff.1 hj').1; simpa using this
      have : j' = j := by simpa [hj] using hj'.symm
      subst this
      simp only [hj, dif_pos]
      exact (Classical.choose_spec (hs j' hj)).1
    · intro h hh
      simp only [List.mem_map, List.mem_range] at hh
      obtain ⟨j, hj, rfl⟩ := hh
      simp only [hj, dif_pos]
      exact (Classical.choose_spec (hs j hj)).2

theorem deep_of {h : Hd} (hin : h.In) (ht : Trd enc W h.a h.n h.cap) : ∃ fs gs, Deep W h fs gs := by
  obtain ⟨fs, h1, h2, h3⟩ := row_of ht
  have hg : ∀ j : Nat, ∃ g : List Hd, ∀ f, fs[j]? = some f → (f.n = g.length ∧ VRd W f.a g ∧ ∀ q ∈ g, q.In) := by
    intro j
    cases hj : fs[j]? with
    | none => exact ⟨[], fun f e => by cases e⟩
    | some f =>
      obtain ⟨g, g1, g2, g3⟩ := row_of (h3 f (List.mem_of_getElem? hj)).2
      exact ⟨g, fun f' e => by cases e; exact ⟨g1.symm, g2, fun q hq => (g3 q hq).1⟩⟩
  refine ⟨fs, fun j => if hj : j < fs.length then Classical.choose (hg j) else [], hin, h1.symm, h2, fun f hf => (h3 f hf).1, ?_, ?_, ?_⟩
  · intro j f e
    have hj : j < fs.length := (List.getElem?_eq_some_iff.1 e).1
    simp only [hj, dif_pos]
    exact (Classical.choose_spec (hg j) f e).1
  · intro j f e
    have hj : j < fs.length := (List.getElem?_eq_some_iff.1 e).1
    simp only [hj, dif_pos]
    exact (Classical.choose_spec (hg j) f e).2.1
  · intro j g hg'
    by_cases hj : j < fs.length
    · simp only [hj, dif_pos] at hg'
      exact (Classical.choose_spec (hg j) fs[j] (by simp [hj])).2.2 g hg'
    · simp [hj] at hg'
theorem len_trd {a : Option Addr} {n cap : Nat} (h : Trd enc W a n cap) : n ≤ 9223372036854775807 := by
  obtain ⟨fuel, x, hf⟩ := h
  rcases open_slice Try.underlying29 hf with ⟨hcs, _⟩ | ⟨a, l, c, m, n', D, Pl, hcs, _, hl, hm', hm, _, hx⟩
  · simp at hcs
    omega
  · simp at hcs
    unfold maxLen at hm'
    omega
theorem nil_trd {n cap : Nat} (h : Trd enc W none n cap) : n = 0 ∧ cap = 0 := by
  obtain ⟨fuel, x, hf⟩ := h
  rcases open_slice Try.underlying29 hf with ⟨hcs, _⟩ | ⟨a, l, c, m, n', D, Pl, hcs, _, hl, hm', hm, _, hx⟩
  · simp at hcs
    exact hcs
  · simp at hcs
theorem deepAll_trd {a : Option Addr} {n cap : Nat} (h : Trd enc W a n cap) : ∃ hs : List Hd, n = hs.length ∧ VRd W a hs ∧ DeepAll W hs := by
  obtain ⟨hs, h1, h2, h3⟩ := row_of h
  exact ⟨hs, h1.symm, h2, fun j h e => deep_of (h3 h (List.mem_of_getElem? e)).1 (h3 h (List.mem_of_getElem? e)).2⟩
end

/- A value that isn't great, as a tree of three levels. -/
def mkV (k : Nat) (h : Hd) (l : List (VT k)) : VT (k + 1) := (h, l)
theorem hd_mkV (k : Nat) (h : Hd) (l : List (VT k)) : hdT (k + 1) (mkV k h l) = h := rfl
theorem rds_mkV {k : Nat} {w : World} {h : Hd} {l : List (VT k)} (h1 : h.In) (h2 : h.n = l.length) (h3 : h.n ≤ 1000) (h4 : VRd w h.a (l.map (hdT k))) (h5 : ∀ u ∈ l, Rds k w u) : Rds (k + 1) w (mkV k h l) := ⟨h1, h2, h3, h4, h5⟩
theorem map_leaf (l : List Hd) : (l.map (fun g => mkV 0 g [])).map (hdT 1) = l := by
  induction l with
  | nil => rfl
  | cons x l ih => simp only [List.map_cons, hd_mkV, ih]
theorem map_two (fs : List Hd) (d : Hd) (f : Nat → List (VT 1)) : ((List.range fs.length).map (fun j => mkV 1 (fs.getD j d) (f j))).map (hdT 2) = fs := by
  apply List.ext_getElem?
  intro j
  simp only [List.getElem?_map]
  by_cases hj : j < fs.length
  · simp [hj, hd_mkV]
  · simp [hj]
theorem tree_of {w : World} {h : Hd} (s : Sm w h) : ∃ t : VT 3, hdT 3 t = h ∧ Rds 3 w t := by
  obtain ⟨fs, gs, d, n1, n2, n3⟩ := s
  refine ⟨mkV 2 h ((List.range fs.length).map (fun j => mkV 1 (fs.getD j h) ((gs j).map (fun g => mkV 0 g [])))), rfl, rds_mkV d.hin (by simp [d.n]) (by omega) (by rw [map_two]; exact d.rd) ?_⟩
  intro u hu
  simp only [List.mem_map, List.mem_range] at hu
  obtain ⟨j, hj, rfl⟩ := hu
  have hfj : fs[j]? = some fs[j] := by simp [hj]
  have hget : fs.getD j h = fs[j] := by simp [hj]
  rw [hget]
  refine rds_mkV (d.fin _ (List.getElem_mem hj)) (by rw [List.length_map]; exact d.gn j _ hfj) (by have := n2 _ (List.getElem_mem hj); omega) (by rw [map_leaf]; exact d.grd j _ hfj) ?_
  intro u hu
  simp only [List.mem_map] at hu
  obtain ⟨g, hg, rfl⟩ := hu
  have h0 := n3 j hj g hg
  exact rds_mkV (d.gin j g hg) h0 (by omega) (fun i x hx => by simp at hx) (fun u hu => by cases hu)
theorem trees_of {w : World} {hs : List Hd} (h : ∀ x ∈ hs, Sm w x) : ∃ ts : List (VT 3), ts.map (hdT 3) = hs ∧ ∀ t ∈ ts, Rds 3 w t := by
  induction hs with
  | nil => exact ⟨[], rfl, fun t ht => by cases ht⟩
  | cons x l ih =>
    obtain ⟨t, h1, h2⟩ := tree_of (h x (by simp))
    obtain ⟨ts, h3, h4⟩ := ih (fun y hy => h y (by simp [hy]))
    refine ⟨t :: ts, by simp [h1, h3], fun u hu => ?_⟩
    rcases List.mem_cons.1 hu with rfl | hu
    · exact h2
    · exact h4 u hu
end Go.Proofs.Ytenfgahedbeekaa
