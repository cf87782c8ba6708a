/-
  DERIVED. GIVEN WITH THE SEED: THE CARDS: each row of YtegonncmopecnaaGreatDoorRows.lean that lists a variable, with what it lists TIED to the program's text (the seventh form; the later family's looks); each row that meets fmt, with fmt's text TOLD by the authors' own Lean function (tested against real Go, not proved from fmt's source: count such statements apart). THE CARD IS WHAT COUNTS. Prove the row's statement (the work); the ties are given (YtegonncmopecnaaGreatDoorTie.lean); close each card by the builder's one call (the guide's Derived/Test/ToyasCard.lean, 'card_holds'). Laid BY PROGRAM, IN A SANDBOX (cutbox-door.mjs). By AI agents, Wed Nov 11 2026. No macro, syntax, notation, axiom, sorry.
-/
import Derived.Test.YtegonncmopecnaaGreatDoorRows
import GoSem.ClaimSeven
namespace Go.Proofs.YtegonncmopecnaaGreatDoor
namespace Rows

/-- THE TIED CARD OF 'laws.FnMended'. -/
def fnMendedCard : Claim7 := { stood := { row := fnMendedRow, standIns := [], harness := (true, "dad722c311e3a6a0748c08e0e7c2b52ef9b48352c92b9f7d6ce17f27606142f7"), looks := false }, kinds := [], alts := [], laidByText := true, laidKinds := [.data], laidTests := true, laidLooks := .later }
def FnMendedCardSaid : Prop := Claim7.holds Tryz.pinned (.plain (OpenSpec.ofChange fnMendedSpec)) fnMendedCard

/-- THE SECOND FORM's CARD OF 'laws.FnMended'. -/
def fnMendedUptoCard : Claim7 := { stood := { row := fnMendedUptoRow, standIns := [], harness := (true, "dad722c311e3a6a0748c08e0e7c2b52ef9b48352c92b9f7d6ce17f27606142f7"), looks := false }, kinds := [], alts := [], laidByText := true, laidKinds := [.data], laidTests := true, laidLooks := .later }
def FnMendedUptoCardSaid : Prop := Claim7.holds Tryz.pinned (.plain (OpenSpec.upto fnMendedSpec)) fnMendedUptoCard
end Rows
end Go.Proofs.YtegonncmopecnaaGreatDoor
