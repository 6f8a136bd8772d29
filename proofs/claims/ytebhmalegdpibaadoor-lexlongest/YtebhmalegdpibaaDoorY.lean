/- Bytes among the arguments. -/
import Derived.Test.YtebhmalegdpibaaDoorS
import Derived.Test.YtebhmalegdpibaaDoorZ
import Derived.Deep.Slices
namespace Go.Proofs.YtebhmalegdpibaaDoor
open Go.ChangeShapes Go.WideShapes Go.ChangeAt Go.RowKit Go.Deep
set_option linter.unusedVariables false
set_option linter.unusedSimpArgs false

theorem cells5 : Tryd.prog.cellsOf 5 = 1 := by kernel_rfl
theorem rd_of {H : Type} {enc : TypeId × Value → H} {W : World} {v : Value} {d : DataW H} {ps : List MemPlace} {a0 : Option Addr} {len cap : Nat} (hv : v = .slice a0 len cap) (h : DataW.Trod enc Tryd.prog W 0 (fun _ => true) true 37 v d ps) :
    ∃ bs : Bs, bs.length = len ∧ BRd W a0 bs ∧ (a0 = none → bs = [] ∧ cap = 0) := by
  subst hv
  obtain ⟨fuel, hf⟩ := h
  rcases open_ints Tryd.underlying37 Tryd.underlying5 cells5 hf with ⟨hcs, _⟩ | ⟨a, l, c, zs, hcs, _, hl, hm, hz, _, hc, hwf⟩
  · simp [Value.cells] at hcs
    obtain ⟨rfl, rfl, rfl⟩ := hcs
    exact ⟨[], rfl, fun j c h => by simp at h, fun _ => ⟨rfl, rfl⟩⟩
  · simp [Value.cells] at hcs
    obtain ⟨rfl, rfl, rfl⟩ := hcs
    simp at hz
    have hzl : ((zs.take len).map fun z => UInt8.ofNat z.toNat).length = len := by simp; omega
    have hby : ∀ z ∈ zs, 0 ≤ z ∧ z ≤ 255 := fun z hz => by simpa [Lit.wf, IntKind.min, IntKind.max, IntKind.signed, IntKind.bits] using hwf z hz
    refine ⟨(zs.take len).map fun z => UInt8.ofNat z.toNat, hzl, ?_, fun e => by cases e⟩
    intro j x hx
    simp only [List.getElem?_map, Option.map_eq_some_iff] at hx
    obtain ⟨z, hz', rfl⟩ := hx
    have hz2 := List.mem_of_getElem? hz'
    rw [List.getElem?_take] at hz'
    split at hz'
    · rename_i hjl
      have h0 := hc 0 (by omega)
      have hj := hc j (by omega)
      have hspot := World.cell?_spot h0
      obtain ⟨b, off, spot⟩ := a
      simp [Addr.add] at hspot
      subst hspot
      refine ⟨b, off, rfl, ?_⟩
      rw [Addr.add_lit] at hj
      rw [hj]
      have := hby z (List.mem_of_mem_take hz2)
      have e : zs.getD j 0 = z := by simp [List.getD, hz']
      rw [e]
      congr 2
      rw [UInt8.toNat_ofNat']
      omega
    · cases hz'
end Go.Proofs.YtebhmalegdpibaaDoor
