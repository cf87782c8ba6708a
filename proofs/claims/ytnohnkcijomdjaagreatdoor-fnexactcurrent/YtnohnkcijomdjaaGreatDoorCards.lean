/-
  DERIVED. GIVEN WITH THE SEED: THE CARDS: each row of YtnohnkcijomdjaaGreatDoorRows.lean that lists a variable, with what it lists TIED to the program's text (the seventh form; the later family's looks); each row that meets fmt, with fmt's text TOLD by the authors' own Lean function (tested against real Go, not proved from fmt's source: count such statements apart). THE CARD IS WHAT COUNTS. Prove the row's statement (the work); the ties are given (YtnohnkcijomdjaaGreatDoorTie.lean); close each card by the builder's one call (the guide's Derived/Test/ToyasCard.lean, 'card_holds'). Laid BY PROGRAM, IN A SANDBOX (cutbox-door.mjs). By AI agents, Wed Nov 11 2026. No macro, syntax, notation, axiom, sorry.
-/
import Derived.Test.YtnohnkcijomdjaaGreatDoorRows
import GoSem.ClaimSeven
namespace Go.Proofs.YtnohnkcijomdjaaGreatDoor
namespace Rows

/-- THE TIED CARD OF 'laws.FnExactParseMan'. -/
def fnExactParseManCard : Claim7 := { stood := { row := fnExactParseManRow, standIns := [], harness := (true, "05883ec7d68abb7c1b55e0d1e8631857b8999712ce0891ea5a8bf56d24ccaccd"), looks := true }, kinds := [], alts := [], laidByText := true, laidKinds := [.data, .data, .data, .data, .sentinel, .sentinel, .listed, .data, .pinned], laidTests := true, laidLooks := .later }
def FnExactParseManCardSaid : Prop := Claim7.holds Tryz.pinned (.plain (OpenSpec.ofChange fnExactParseManSpec)) fnExactParseManCard

/-- THE TIED CARD OF 'laws.FnExactCurrent'. -/
def fnExactCurrentCard : Claim7 := { stood := { row := fnExactCurrentRow, standIns := [], harness := (true, "05883ec7d68abb7c1b55e0d1e8631857b8999712ce0891ea5a8bf56d24ccaccd"), looks := true }, kinds := [], alts := [], laidByText := true, laidKinds := [.data, .data, .data, .data, .sentinel, .sentinel, .listed, .data, .pinned], laidTests := true, laidLooks := .later }
def FnExactCurrentCardSaid : Prop := Claim7.holds Tryz.pinned (.plain (OpenSpec.ofChange fnExactCurrentSpec)) fnExactCurrentCard

/-- THE SECOND FORM's CARD OF 'laws.FnExactParseMan'. -/
def fnExactParseManUptoCard : Claim7 := { stood := { row := fnExactParseManUptoRow, standIns := [], harness := (true, "05883ec7d68abb7c1b55e0d1e8631857b8999712ce0891ea5a8bf56d24ccaccd"), looks := true }, kinds := [], alts := [], laidByText := true, laidKinds := [.data, .data, .data, .data, .sentinel, .sentinel, .listed, .data, .pinned], laidTests := true, laidLooks := .later }
def FnExactParseManUptoCardSaid : Prop := Claim7.holds Tryz.pinned (.plain (OpenSpec.upto fnExactParseManSpec)) fnExactParseManUptoCard

/-- THE SECOND FORM's CARD OF 'laws.FnExactCurrent'. -/
def fnExactCurrentUptoCard : Claim7 := { stood := { row := fnExactCurrentUptoRow, standIns := [], harness := (true, "05883ec7d68abb7c1b55e0d1e8631857b8999712ce0891ea5a8bf56d24ccaccd"), looks := true }, kinds := [], alts := [], laidByText := true, laidKinds := [.data, .data, .data, .data, .sentinel, .sentinel, .listed, .data, .pinned], laidTests := true, laidLooks := .later }
def FnExactCurrentUptoCardSaid : Prop := Claim7.holds Tryz.pinned (.plain (OpenSpec.upto fnExactCurrentSpec)) fnExactCurrentUptoCard
end Rows
end Go.Proofs.YtnohnkcijomdjaaGreatDoor
