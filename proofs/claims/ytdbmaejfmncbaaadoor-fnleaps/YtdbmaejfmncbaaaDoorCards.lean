/-
  DERIVED. GIVEN WITH THE SEED: THE CARDS: each row of YtdbmaejfmncbaaaDoorRows.lean that lists a variable, with what it lists TIED to the program's text (the seventh form; the later family's looks); each row that meets fmt, with fmt's text TOLD by the authors' own Lean function (tested against real Go, not proved from fmt's source: count such statements apart). THE CARD IS WHAT COUNTS. Prove the row's statement (the work); the ties are given (YtdbmaejfmncbaaaDoorTie.lean); close each card by the builder's one call (the guide's Derived/Test/ToyasCard.lean, 'card_holds'). Laid BY PROGRAM, IN A SANDBOX (cutbox-door.mjs). By AI agents, Wed Nov 11 2026. No macro, syntax, notation, axiom, sorry.
-/
import Derived.Test.YtdbmaejfmncbaaaDoorRows
import GoSem.ClaimSeven
namespace Go.Proofs.YtdbmaejfmncbaaaDoor
namespace Rows

/-- THE TIED CARD OF 'laws.FnLeaps'. -/
def fnLeapsCard : Claim7 := { stood := { row := fnLeapsRow, standIns := [], harness := (true, "48232e0240505201f3e304511ea4235d26327907fc1c36d49ccf36c8f5740a4a"), looks := false }, kinds := [], alts := [], laidByText := true, laidKinds := [.data, .pinned], laidTests := true, laidLooks := .later }
def FnLeapsCardSaid : Prop := Claim7.holds Tryd.pinned (.plain (OpenSpec.ofChange fnLeapsSpec)) fnLeapsCard

/-- THE TIED CARD OF 'laws.FnMerged'. -/
def fnMergedCard : Claim7 := { stood := { row := fnMergedRow, standIns := [], harness := (true, "48232e0240505201f3e304511ea4235d26327907fc1c36d49ccf36c8f5740a4a"), looks := false }, kinds := [], alts := [], laidByText := true, laidKinds := [.data, .pinned], laidTests := true, laidLooks := .later }
def FnMergedCardSaid : Prop := Claim7.holds Tryd.pinned (.plain (OpenSpec.ofChange fnMergedSpec)) fnMergedCard

/-- THE SECOND FORM's CARD OF 'laws.FnLeaps'. -/
def fnLeapsUptoCard : Claim7 := { stood := { row := fnLeapsUptoRow, standIns := [], harness := (true, "48232e0240505201f3e304511ea4235d26327907fc1c36d49ccf36c8f5740a4a"), looks := false }, kinds := [], alts := [], laidByText := true, laidKinds := [.data, .pinned], laidTests := true, laidLooks := .later }
def FnLeapsUptoCardSaid : Prop := Claim7.holds Tryd.pinned (.plain (OpenSpec.upto fnLeapsSpec)) fnLeapsUptoCard

/-- THE SECOND FORM's CARD OF 'laws.FnMerged'. -/
def fnMergedUptoCard : Claim7 := { stood := { row := fnMergedUptoRow, standIns := [], harness := (true, "48232e0240505201f3e304511ea4235d26327907fc1c36d49ccf36c8f5740a4a"), looks := false }, kinds := [], alts := [], laidByText := true, laidKinds := [.data, .pinned], laidTests := true, laidLooks := .later }
def FnMergedUptoCardSaid : Prop := Claim7.holds Tryd.pinned (.plain (OpenSpec.upto fnMergedSpec)) fnMergedUptoCard
end Rows
end Go.Proofs.YtdbmaejfmncbaaaDoor
