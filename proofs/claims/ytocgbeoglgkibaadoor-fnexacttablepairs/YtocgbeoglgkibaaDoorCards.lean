/-
  DERIVED. GIVEN WITH THE SEED: THE CARDS: each row of YtocgbeoglgkibaaDoorRows.lean that lists a variable, with what it lists TIED to the program's text (the seventh form; the later family's looks); each row that meets fmt, with fmt's text TOLD by the authors' own Lean function (tested against real Go, not proved from fmt's source: count such statements apart). THE CARD IS WHAT COUNTS. Prove the row's statement (the work); the ties are given (YtocgbeoglgkibaaDoorTie.lean); close each card by the builder's one call (the guide's Derived/Test/ToyasCard.lean, 'card_holds'). Laid BY PROGRAM, IN A SANDBOX (cutbox-door.mjs). By AI agents, Wed Nov 11 2026. No macro, syntax, notation, axiom, sorry.
-/
import Derived.Test.YtocgbeoglgkibaaDoorRows
import GoSem.ClaimSeven
namespace Go.Proofs.YtocgbeoglgkibaaDoor
namespace Rows

/-- THE TIED CARD OF 'laws.FnExactTablePairs'. -/
def fnExactTablePairsCard : Claim7 := { stood := { row := fnExactTablePairsRow, standIns := [], harness := (true, "b3881eb021c88971f3f5c2471ddedd3a94aced8fcfc30a3e13f99b9ec20e6da6"), looks := true }, kinds := [], alts := [], laidByText := true, laidKinds := [.data, .data, .sentinel, .pinned], laidTests := true, laidLooks := .later }
def FnExactTablePairsCardSaid : Prop := Claim7.holds Tryd.pinned (.plain (OpenSpec.ofChange fnExactTablePairsSpec)) fnExactTablePairsCard

/-- THE SECOND FORM's CARD OF 'laws.FnExactTablePairs'. -/
def fnExactTablePairsUptoCard : Claim7 := { stood := { row := fnExactTablePairsUptoRow, standIns := [], harness := (true, "b3881eb021c88971f3f5c2471ddedd3a94aced8fcfc30a3e13f99b9ec20e6da6"), looks := true }, kinds := [], alts := [], laidByText := true, laidKinds := [.data, .data, .sentinel, .pinned], laidTests := true, laidLooks := .later }
def FnExactTablePairsUptoCardSaid : Prop := Claim7.holds Tryd.pinned (.plain (OpenSpec.upto fnExactTablePairsSpec)) fnExactTablePairsUptoCard
end Rows
end Go.Proofs.YtocgbeoglgkibaaDoor
