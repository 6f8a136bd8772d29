/- ValuePrints: for every two values the call returns true. -/
import Derived.Test.YtnmbifoinponeaaGreatDoorE2
import Derived.Test.YtnmbifoinponeaaGreatDoorZ2
namespace Go.Proofs.YtnmbifoinponeaaGreatDoor
open Go.ChangeShapes Go.WideShapes Go.ChangeAt Go.RowKit Go.Deep
set_option linter.unusedVariables false
set_option linter.unusedSimpArgs false

set_option maxRecDepth 100000 in
theorem val_arg {H : Type} {enc : TypeId × Value → H} {W : World} {v : Value} {base : Nat} {d : DataW H} {p : List MemPlace} (hv : Value.okWide Tryz.prog W .any base 31 v) (h : DataW.Trod enc Tryz.prog W 0 (fun _ => true) true 31 v d p) : ∃ h : Hd, v = h.v ∧ ∃ fs gs, Deep W h fs gs := by
  obtain ⟨cs, rfl, hs⟩ := okWide_struct Tryz.underlying31 hv
  obtain ⟨m, hm⟩ := h
  obtain ⟨h, e, hin, ht⟩ := val_of hm
  refine ⟨h, ?_, deep_of hin ht⟩
  have : cs.toList = h.cs := e
  have e2 : cs = h.cs.toArray := by rw [← this]
  rw [e2]
  rfl

end Go.Proofs.YtnmbifoinponeaaGreatDoor
