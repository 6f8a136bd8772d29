/-
  No cell of these rows narrows 'for every input' (looked for: loops, veiled, ifaces, maps, wideKeys, modest, calm, conditions, laid).
  DERIVED. THE GIVEN ROWS OF THIS SEAT. 4 by the template 'for every input the law returns true; each argument reads behind the call as it read before'; 0 by the template 'total and deterministic' (their statements: YtmhjnfibpngpmaaTotals.lean).
  GIVEN WITH THE SEED: the statements are not yours to turn. If you find one false, say at which input.
  Laid BY PROGRAM, IN A SANDBOX (cutbox-rows.mjs): the forced cells as the released guide's own fill.sh prints them over the translation ab390fbb5d137ff8… (all of the seat's roots in one cut). By AI agents, Wed Nov 11 2026. No macro, syntax, notation, axiom, sorry.
-/
import Derived.Test.YtmhjnfibpngpmaaChecked
import GoSem.Claim
import GoSem.ClaimJoined
import GoSem.ClaimMapViews
import Derived.JoinedTies
import Derived.KernelRfl
namespace Go.Proofs.Ytmhjnfibpngpmaa
/- THE CELL 'sum', in the pinned program and in every row, IS THE sha256 OF THE DUMP (.gsa) THAT YtmhjnfibpngpmaaProg.lean LOADS. Nothing in Lean hashes anything: it is a label: what it is worth is what the hold of that sum in a sandbox is worth. -/
noncomputable def Try.pinned : Pinned := { name := "ytmhjnfibpngpmaa", sum := "ab390fbb5d137ff8cbf6a9ca769ba2688c028cc43af7b902e7c04db44904b790", checked := Try.checked }
namespace Rows
def none {H : Type} : Left H := { results := [], args := [] }

/-- 'windlasslaw9.CodeRows': WHATEVER THE INPUT: true; the input reads as it did. -/
def codeRowsSpec : ChangeSpec := { name := "codeRows", fn := fun _ => fun
  | [d1, d2] => { results := [.lit (.bool true)], args := [d1, d2] }
  | _ => none }
def codeRowsRow : OpenClaim := { program := "ytmhjnfibpngpmaa", sum := "ab390fbb5d137ff8cbf6a9ca769ba2688c028cc43af7b902e7c04db44904b790", func := "windlass/windlasslaw9.CodeRows", spec := "codeRows", unfollowed := true, recurses := true, apart := false }
def CodeRowsSaid : Prop := codeRowsRow.holds Try.pinned (OpenSpec.ofChange codeRowsSpec)

/-- ITS FALSE NEIGHBOUR: 'it returns false'. Refute it at one input. -/
def codeRowsWrong : ChangeSpec := { name := "codeRows", fn := fun _ => fun
  | [d1, d2] => { results := [.lit (.bool false)], args := [d1, d2] }
  | _ => none }
def CodeRowsWrongFalsely : Prop := codeRowsRow.holds Try.pinned (OpenSpec.ofChange codeRowsWrong)

/-- 'windlasslaw10.FlowUnits': WHATEVER THE INPUT: true; the input reads as it did. -/
def flowUnitsSpec : ChangeSpec := { name := "flowUnits", fn := fun _ => fun
  | [d] => { results := [.lit (.bool true)], args := [d] }
  | _ => none }
def flowUnitsRow : OpenClaim := { program := "ytmhjnfibpngpmaa", sum := "ab390fbb5d137ff8cbf6a9ca769ba2688c028cc43af7b902e7c04db44904b790", func := "windlass/windlasslaw10.FlowUnits", spec := "flowUnits", unfollowed := true, recurses := true, apart := false }
def FlowUnitsSaid : Prop := flowUnitsRow.holds Try.pinned (OpenSpec.ofChange flowUnitsSpec)

/-- ITS FALSE NEIGHBOUR: 'it returns false'. Refute it at one input. -/
def flowUnitsWrong : ChangeSpec := { name := "flowUnits", fn := fun _ => fun
  | [d] => { results := [.lit (.bool false)], args := [d] }
  | _ => none }
def FlowUnitsWrongFalsely : Prop := flowUnitsRow.holds Try.pinned (OpenSpec.ofChange flowUnitsWrong)

/-- 'windlasslaw11.VerifyHeights': WHATEVER THE INPUT: true; the input reads as it did. -/
def verifyHeightsSpec : ChangeSpec := { name := "verifyHeights", fn := fun _ => fun
  | [d] => { results := [.lit (.bool true)], args := [d] }
  | _ => none }
def verifyHeightsRow : OpenClaim := { program := "ytmhjnfibpngpmaa", sum := "ab390fbb5d137ff8cbf6a9ca769ba2688c028cc43af7b902e7c04db44904b790", func := "windlass/windlasslaw11.VerifyHeights", spec := "verifyHeights", unfollowed := true, recurses := true, apart := false }
def VerifyHeightsSaid : Prop := verifyHeightsRow.holds Try.pinned (OpenSpec.ofChange verifyHeightsSpec)

/-- ITS FALSE NEIGHBOUR: 'it returns false'. Refute it at one input. -/
def verifyHeightsWrong : ChangeSpec := { name := "verifyHeights", fn := fun _ => fun
  | [d] => { results := [.lit (.bool false)], args := [d] }
  | _ => none }
def VerifyHeightsWrongFalsely : Prop := verifyHeightsRow.holds Try.pinned (OpenSpec.ofChange verifyHeightsWrong)

/-- 'windlasslaw11.VerifyMeets': WHATEVER THE INPUT: true; the input reads as it did. -/
def verifyMeetsSpec : ChangeSpec := { name := "verifyMeets", fn := fun _ => fun
  | [d1, d2, d3] => { results := [.lit (.bool true)], args := [d1, d2, d3] }
  | _ => none }
def verifyMeetsRow : OpenClaim := { program := "ytmhjnfibpngpmaa", sum := "ab390fbb5d137ff8cbf6a9ca769ba2688c028cc43af7b902e7c04db44904b790", func := "windlass/windlasslaw11.VerifyMeets", spec := "verifyMeets", unfollowed := true, recurses := true, apart := false }
def VerifyMeetsSaid : Prop := verifyMeetsRow.holds Try.pinned (OpenSpec.ofChange verifyMeetsSpec)

/-- ITS FALSE NEIGHBOUR: 'it returns false'. Refute it at one input. -/
def verifyMeetsWrong : ChangeSpec := { name := "verifyMeets", fn := fun _ => fun
  | [d1, d2, d3] => { results := [.lit (.bool false)], args := [d1, d2, d3] }
  | _ => none }
def VerifyMeetsWrongFalsely : Prop := verifyMeetsRow.holds Try.pinned (OpenSpec.ofChange verifyMeetsWrong)

/- THE SECOND FORM. 'bulk': how many values and letters a reading holds, each counted each time it is reached (what is shared counts as often as it is met; a slice's spare places count too). A statement '..UptoSaid' is the law's where the arguments, and the package variables that the reading takes, are together of bulk at most 1048576: NARROWER than '..Said'. Prove '..Said' where nothing that the law and all that it calls make is longer than what came in: it says more and counts as full. Else prove '..UptoSaid'. A law counts once. -/
mutual
def uptoBulk {H : Type} : DataW H → Nat
  | .lit (.string bytes) => bytes.length + 1
  | .lit _ => 1
  | .nil => 1
  | .ptr d => uptoBulk d + 1
  | .slice elems spare => uptoBulkAll elems + uptoBulkAll spare + 1
  | .agg parts => uptoBulkAll parts + 1
  | .iface _ d => uptoBulk d + 1
  | .map entries => uptoBulkEntries entries + 1
  | .held _ => 1
def uptoBulkAll {H : Type} : List (DataW H) → Nat
  | [] => 0
  | d :: r => uptoBulk d + uptoBulkAll r
def uptoBulkEntries {H : Type} : List (Lit × DataW H) → Nat
  | [] => 0
  | x :: r => uptoBulkEntry x + uptoBulkEntries r
def uptoBulkEntry {H : Type} : Lit × DataW H → Nat
  | (.string bytes, d) => bytes.length + uptoBulk d + 1
  | (_, d) => uptoBulk d + 1
 end
def uptoSmall : (H : Type) → List (DataW H) → Bool := fun _ ds => decide (uptoBulkAll ds ≤ 1048576)
def OpenSpec.upto (s : _root_.Go.ChangeSpec) : _root_.Go.OpenSpec := { _root_.Go.OpenSpec.ofChange s with cond := some uptoSmall }

/-- 'windlasslaw9.CodeRows', WHERE WHAT IT READS IS OF BULK AT MOST 1048576: true; the input reads as it did. -/
def codeRowsUptoRow : OpenClaim := { program := "ytmhjnfibpngpmaa", sum := "ab390fbb5d137ff8cbf6a9ca769ba2688c028cc43af7b902e7c04db44904b790", func := "windlass/windlasslaw9.CodeRows", spec := "codeRows", unfollowed := true, recurses := true, apart := false, narrowed := true }
def CodeRowsUptoSaid : Prop := codeRowsUptoRow.holds Try.pinned (OpenSpec.upto codeRowsSpec)

/-- 'windlasslaw10.FlowUnits', WHERE WHAT IT READS IS OF BULK AT MOST 1048576: true; the input reads as it did. -/
def flowUnitsUptoRow : OpenClaim := { program := "ytmhjnfibpngpmaa", sum := "ab390fbb5d137ff8cbf6a9ca769ba2688c028cc43af7b902e7c04db44904b790", func := "windlass/windlasslaw10.FlowUnits", spec := "flowUnits", unfollowed := true, recurses := true, apart := false, narrowed := true }
def FlowUnitsUptoSaid : Prop := flowUnitsUptoRow.holds Try.pinned (OpenSpec.upto flowUnitsSpec)

/-- 'windlasslaw11.VerifyHeights', WHERE WHAT IT READS IS OF BULK AT MOST 1048576: true; the input reads as it did. -/
def verifyHeightsUptoRow : OpenClaim := { program := "ytmhjnfibpngpmaa", sum := "ab390fbb5d137ff8cbf6a9ca769ba2688c028cc43af7b902e7c04db44904b790", func := "windlass/windlasslaw11.VerifyHeights", spec := "verifyHeights", unfollowed := true, recurses := true, apart := false, narrowed := true }
def VerifyHeightsUptoSaid : Prop := verifyHeightsUptoRow.holds Try.pinned (OpenSpec.upto verifyHeightsSpec)

/-- 'windlasslaw11.VerifyMeets', WHERE WHAT IT READS IS OF BULK AT MOST 1048576: true; the input reads as it did. -/
def verifyMeetsUptoRow : OpenClaim := { program := "ytmhjnfibpngpmaa", sum := "ab390fbb5d137ff8cbf6a9ca769ba2688c028cc43af7b902e7c04db44904b790", func := "windlass/windlasslaw11.VerifyMeets", spec := "verifyMeets", unfollowed := true, recurses := true, apart := false, narrowed := true }
def VerifyMeetsUptoSaid : Prop := verifyMeetsUptoRow.holds Try.pinned (OpenSpec.upto verifyMeetsSpec)

end Rows
end Go.Proofs.Ytmhjnfibpngpmaa
