/-
  DERIVED. GIVEN WITH THE SEED: THE CARDS: each row of YtolciaheoanlbaaGreatDoorRows.lean that lists a variable, with what it lists TIED to the program's text (the seventh form; the later family's looks); each row that meets fmt, with fmt's text TOLD by the authors' own Lean function (tested against real Go, not proved from fmt's source: count such statements apart). THE CARD IS WHAT COUNTS. Prove the row's statement (the work); the ties are given (YtolciaheoanlbaaGreatDoorTie.lean); close each card by the builder's one call (the guide's Derived/Test/ToyasCard.lean, 'card_holds'). Laid BY PROGRAM, IN A SANDBOX (cutbox-door.mjs). By AI agents, Wed Nov 11 2026. No macro, syntax, notation, axiom, sorry.
-/
import Derived.Test.YtolciaheoanlbaaGreatDoorRows
import GoSem.ClaimSeven
namespace Go.Proofs.YtolciaheoanlbaaGreatDoor
namespace Rows

/-- THE TIED CARD OF 'laws.FnExactMend'. -/
def fnExactMendCard : Claim7 := { stood := { row := fnExactMendRow, standIns := [], harness := (true, "d6d4498d4118c187e1186e3eca8109b25dfce361e2708cdb6a1db25cc9b02b48"), looks := true }, kinds := [], alts := [], laidByText := true, laidKinds := [.data], laidTests := true, laidLooks := .later }
def FnExactMendCardSaid : Prop := Claim7.holds Tryz.pinned (.plain (OpenSpec.ofChange fnExactMendSpec)) fnExactMendCard

/-- THE TIED CARD OF 'laws.FnExactInstall'. -/
def fnExactInstallCard : Claim7 := { stood := { row := fnExactInstallRow, standIns := [], harness := (true, "d6d4498d4118c187e1186e3eca8109b25dfce361e2708cdb6a1db25cc9b02b48"), looks := true }, kinds := [], alts := [], laidByText := true, laidKinds := [.data, .data, .data], laidTests := true, laidLooks := .later }
def FnExactInstallCardSaid : Prop := Claim7.holds Tryz.pinned (.plain (OpenSpec.ofChange fnExactInstallSpec)) fnExactInstallCard

/-- THE TIED CARD OF 'laws.FnExactCurrent'. -/
def fnExactCurrentCard : Claim7 := { stood := { row := fnExactCurrentRow, standIns := [], harness := (true, "d6d4498d4118c187e1186e3eca8109b25dfce361e2708cdb6a1db25cc9b02b48"), looks := true }, kinds := [], alts := [], laidByText := true, laidKinds := [.data, .data, .data, .data, .sentinel, .sentinel, .listed, .data, .pinned], laidTests := true, laidLooks := .later }
def FnExactCurrentCardSaid : Prop := Claim7.holds Tryz.pinned (.plain (OpenSpec.ofChange fnExactCurrentSpec)) fnExactCurrentCard

/-- THE TIED CARD OF 'laws.FnExactParseMan'. -/
def fnExactParseManCard : Claim7 := { stood := { row := fnExactParseManRow, standIns := [], harness := (true, "d6d4498d4118c187e1186e3eca8109b25dfce361e2708cdb6a1db25cc9b02b48"), looks := true }, kinds := [], alts := [], laidByText := true, laidKinds := [.data, .data, .data, .data, .sentinel, .sentinel, .listed, .data, .pinned], laidTests := true, laidLooks := .later }
def FnExactParseManCardSaid : Prop := Claim7.holds Tryz.pinned (.plain (OpenSpec.ofChange fnExactParseManSpec)) fnExactParseManCard

/-- THE SECOND FORM's CARD OF 'laws.FnExactMend'. -/
def fnExactMendUptoCard : Claim7 := { stood := { row := fnExactMendUptoRow, standIns := [], harness := (true, "d6d4498d4118c187e1186e3eca8109b25dfce361e2708cdb6a1db25cc9b02b48"), looks := true }, kinds := [], alts := [], laidByText := true, laidKinds := [.data], laidTests := true, laidLooks := .later }
def FnExactMendUptoCardSaid : Prop := Claim7.holds Tryz.pinned (.plain (OpenSpec.upto fnExactMendSpec)) fnExactMendUptoCard

/-- THE SECOND FORM's CARD OF 'laws.FnExactInstall'. -/
def fnExactInstallUptoCard : Claim7 := { stood := { row := fnExactInstallUptoRow, standIns := [], harness := (true, "d6d4498d4118c187e1186e3eca8109b25dfce361e2708cdb6a1db25cc9b02b48"), looks := true }, kinds := [], alts := [], laidByText := true, laidKinds := [.data, .data, .data], laidTests := true, laidLooks := .later }
def FnExactInstallUptoCardSaid : Prop := Claim7.holds Tryz.pinned (.plain (OpenSpec.upto fnExactInstallSpec)) fnExactInstallUptoCard

/-- THE SECOND FORM's CARD OF 'laws.FnExactCurrent'. -/
def fnExactCurrentUptoCard : Claim7 := { stood := { row := fnExactCurrentUptoRow, standIns := [], harness := (true, "d6d4498d4118c187e1186e3eca8109b25dfce361e2708cdb6a1db25cc9b02b48"), looks := true }, kinds := [], alts := [], laidByText := true, laidKinds := [.data, .data, .data, .data, .sentinel, .sentinel, .listed, .data, .pinned], laidTests := true, laidLooks := .later }
def FnExactCurrentUptoCardSaid : Prop := Claim7.holds Tryz.pinned (.plain (OpenSpec.upto fnExactCurrentSpec)) fnExactCurrentUptoCard

/-- THE SECOND FORM's CARD OF 'laws.FnExactParseMan'. -/
def fnExactParseManUptoCard : Claim7 := { stood := { row := fnExactParseManUptoRow, standIns := [], harness := (true, "d6d4498d4118c187e1186e3eca8109b25dfce361e2708cdb6a1db25cc9b02b48"), looks := true }, kinds := [], alts := [], laidByText := true, laidKinds := [.data, .data, .data, .data, .sentinel, .sentinel, .listed, .data, .pinned], laidTests := true, laidLooks := .later }
def FnExactParseManUptoCardSaid : Prop := Claim7.holds Tryz.pinned (.plain (OpenSpec.upto fnExactParseManSpec)) fnExactParseManUptoCard
end Rows
end Go.Proofs.YtolciaheoanlbaaGreatDoor
