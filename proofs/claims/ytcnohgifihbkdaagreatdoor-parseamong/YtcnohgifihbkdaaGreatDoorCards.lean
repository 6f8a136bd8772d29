/-
  DERIVED. GIVEN WITH THE SEED: THE CARDS: each row of YtcnohgifihbkdaaGreatDoorRows.lean that lists a variable, with what it lists TIED to the program's text (the seventh form; the later family's looks); each row that meets fmt, with fmt's text TOLD by the authors' own Lean function (tested against real Go, not proved from fmt's source: count such statements apart). THE CARD IS WHAT COUNTS. Prove the row's statement (the work); the ties are given (YtcnohgifihbkdaaGreatDoorTie.lean); close each card by the builder's one call (the guide's Derived/Test/ToyasCard.lean, 'card_holds'). Laid BY PROGRAM, IN A SANDBOX (cutbox-door.mjs). By AI agents, Wed Nov 11 2026. No macro, syntax, notation, axiom, sorry.
-/
import Derived.Test.YtcnohgifihbkdaaGreatDoorRows
import GoSem.ClaimSeven
namespace Go.Proofs.YtcnohgifihbkdaaGreatDoor
namespace Rows

/-- THE TIED CARD OF 'windlasslaw7.ParseReads'. -/
def parseReadsCard : Claim7 := { stood := { row := parseReadsRow, standIns := [], harness := (true, "2af5a9e7df016a1072651139e68cb1b512803276da2c1de720d49070802bd75f"), looks := true }, kinds := [], alts := [], laidByText := true, laidKinds := [.data, .data, .data, .data, .sentinel, .sentinel, .pinned], laidTests := true, laidLooks := .later }
def ParseReadsCardSaid : Prop := Claim7.holds Tryz.pinned (.plain (OpenSpec.ofChange parseReadsSpec)) parseReadsCard

/-- THE TIED CARD OF 'windlasslaw7.ParseDeep'. -/
def parseDeepCard : Claim7 := { stood := { row := parseDeepRow, standIns := [], harness := (true, "2af5a9e7df016a1072651139e68cb1b512803276da2c1de720d49070802bd75f"), looks := true }, kinds := [], alts := [], laidByText := true, laidKinds := [.data, .data, .data, .data, .sentinel, .sentinel, .pinned], laidTests := true, laidLooks := .later }
def ParseDeepCardSaid : Prop := Claim7.holds Tryz.pinned (.plain (OpenSpec.ofChange parseDeepSpec)) parseDeepCard

/-- THE TIED CARD OF 'windlasslaw7.ParseBinds'. -/
def parseBindsCard : Claim7 := { stood := { row := parseBindsRow, standIns := [], harness := (true, "2af5a9e7df016a1072651139e68cb1b512803276da2c1de720d49070802bd75f"), looks := true }, kinds := [], alts := [], laidByText := true, laidKinds := [.data, .data, .data, .data, .sentinel, .sentinel, .pinned], laidTests := true, laidLooks := .later }
def ParseBindsCardSaid : Prop := Claim7.holds Tryz.pinned (.plain (OpenSpec.ofChange parseBindsSpec)) parseBindsCard

/-- THE TIED CARD OF 'windlasslaw7.ParseElses'. -/
def parseElsesCard : Claim7 := { stood := { row := parseElsesRow, standIns := [], harness := (true, "2af5a9e7df016a1072651139e68cb1b512803276da2c1de720d49070802bd75f"), looks := true }, kinds := [], alts := [], laidByText := true, laidKinds := [.data, .data, .data, .data, .sentinel, .sentinel, .pinned], laidTests := true, laidLooks := .later }
def ParseElsesCardSaid : Prop := Claim7.holds Tryz.pinned (.plain (OpenSpec.ofChange parseElsesSpec)) parseElsesCard

/-- THE TIED CARD OF 'windlasslaw7.ParseAmong'. -/
def parseAmongCard : Claim7 := { stood := { row := parseAmongRow, standIns := [], harness := (true, "2af5a9e7df016a1072651139e68cb1b512803276da2c1de720d49070802bd75f"), looks := true }, kinds := [], alts := [], laidByText := true, laidKinds := [.data, .data, .data, .data, .sentinel, .sentinel, .pinned], laidTests := true, laidLooks := .later }
def ParseAmongCardSaid : Prop := Claim7.holds Tryz.pinned (.plain (OpenSpec.ofChange parseAmongSpec)) parseAmongCard

/-- THE SECOND FORM's CARD OF 'windlasslaw7.ParseReads'. -/
def parseReadsUptoCard : Claim7 := { stood := { row := parseReadsUptoRow, standIns := [], harness := (true, "2af5a9e7df016a1072651139e68cb1b512803276da2c1de720d49070802bd75f"), looks := true }, kinds := [], alts := [], laidByText := true, laidKinds := [.data, .data, .data, .data, .sentinel, .sentinel, .pinned], laidTests := true, laidLooks := .later }
def ParseReadsUptoCardSaid : Prop := Claim7.holds Tryz.pinned (.plain (OpenSpec.upto parseReadsSpec)) parseReadsUptoCard

/-- THE SECOND FORM's CARD OF 'windlasslaw7.ParseDeep'. -/
def parseDeepUptoCard : Claim7 := { stood := { row := parseDeepUptoRow, standIns := [], harness := (true, "2af5a9e7df016a1072651139e68cb1b512803276da2c1de720d49070802bd75f"), looks := true }, kinds := [], alts := [], laidByText := true, laidKinds := [.data, .data, .data, .data, .sentinel, .sentinel, .pinned], laidTests := true, laidLooks := .later }
def ParseDeepUptoCardSaid : Prop := Claim7.holds Tryz.pinned (.plain (OpenSpec.upto parseDeepSpec)) parseDeepUptoCard

/-- THE SECOND FORM's CARD OF 'windlasslaw7.ParseBinds'. -/
def parseBindsUptoCard : Claim7 := { stood := { row := parseBindsUptoRow, standIns := [], harness := (true, "2af5a9e7df016a1072651139e68cb1b512803276da2c1de720d49070802bd75f"), looks := true }, kinds := [], alts := [], laidByText := true, laidKinds := [.data, .data, .data, .data, .sentinel, .sentinel, .pinned], laidTests := true, laidLooks := .later }
def ParseBindsUptoCardSaid : Prop := Claim7.holds Tryz.pinned (.plain (OpenSpec.upto parseBindsSpec)) parseBindsUptoCard

/-- THE SECOND FORM's CARD OF 'windlasslaw7.ParseElses'. -/
def parseElsesUptoCard : Claim7 := { stood := { row := parseElsesUptoRow, standIns := [], harness := (true, "2af5a9e7df016a1072651139e68cb1b512803276da2c1de720d49070802bd75f"), looks := true }, kinds := [], alts := [], laidByText := true, laidKinds := [.data, .data, .data, .data, .sentinel, .sentinel, .pinned], laidTests := true, laidLooks := .later }
def ParseElsesUptoCardSaid : Prop := Claim7.holds Tryz.pinned (.plain (OpenSpec.upto parseElsesSpec)) parseElsesUptoCard

/-- THE SECOND FORM's CARD OF 'windlasslaw7.ParseAmong'. -/
def parseAmongUptoCard : Claim7 := { stood := { row := parseAmongUptoRow, standIns := [], harness := (true, "2af5a9e7df016a1072651139e68cb1b512803276da2c1de720d49070802bd75f"), looks := true }, kinds := [], alts := [], laidByText := true, laidKinds := [.data, .data, .data, .data, .sentinel, .sentinel, .pinned], laidTests := true, laidLooks := .later }
def ParseAmongUptoCardSaid : Prop := Claim7.holds Tryz.pinned (.plain (OpenSpec.upto parseAmongSpec)) parseAmongUptoCard
end Rows
end Go.Proofs.YtcnohgifihbkdaaGreatDoor
