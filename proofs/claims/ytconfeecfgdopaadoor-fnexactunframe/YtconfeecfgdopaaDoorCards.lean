/-
  DERIVED. GIVEN WITH THE SEED: THE CARDS: each row of YtconfeecfgdopaaDoorRows.lean that lists a variable, with what it lists TIED to the program's text (the seventh form; the later family's looks); each row that meets fmt, with fmt's text TOLD by the authors' own Lean function (tested against real Go, not proved from fmt's source: count such statements apart). THE CARD IS WHAT COUNTS. Prove the row's statement (the work); the ties are given (YtconfeecfgdopaaDoorTie.lean); close each card by the builder's one call (the guide's Derived/Test/ToyasCard.lean, 'card_holds'). Laid BY PROGRAM, IN A SANDBOX (cutbox-door.mjs). By AI agents, Wed Nov 11 2026. No macro, syntax, notation, axiom, sorry.
-/
import Derived.Test.YtconfeecfgdopaaDoorRows
import GoSem.ClaimSeven
namespace Go.Proofs.YtconfeecfgdopaaDoor
namespace Rows

/-- THE TIED CARD OF 'laws.FnExactSum'. -/
def fnExactSumCard : Claim7 := { stood := { row := fnExactSumRow, standIns := [], harness := (true, "d1e5d04ddd9f512b07b5bd466a272c2d3bac05c370ef3f79a3c07c55f9dc2d46"), looks := false }, kinds := [], alts := [], laidByText := true, laidKinds := [.data], laidTests := true, laidLooks := .later }
def FnExactSumCardSaid : Prop := Claim7.holds Tryd.pinned (.plain (OpenSpec.ofChange fnExactSumSpec)) fnExactSumCard

/-- THE TIED CARD OF 'laws.FnExactFrame'. -/
def fnExactFrameCard : Claim7 := { stood := { row := fnExactFrameRow, standIns := [], harness := (true, "d1e5d04ddd9f512b07b5bd466a272c2d3bac05c370ef3f79a3c07c55f9dc2d46"), looks := false }, kinds := [], alts := [], laidByText := true, laidKinds := [.data], laidTests := true, laidLooks := .later }
def FnExactFrameCardSaid : Prop := Claim7.holds Tryd.pinned (.plain (OpenSpec.ofChange fnExactFrameSpec)) fnExactFrameCard

/-- THE TIED CARD OF 'laws.FnExactUnframe'. -/
def fnExactUnframeCard : Claim7 := { stood := { row := fnExactUnframeRow, standIns := [], harness := (true, "d1e5d04ddd9f512b07b5bd466a272c2d3bac05c370ef3f79a3c07c55f9dc2d46"), looks := false }, kinds := [], alts := [], laidByText := true, laidKinds := [.data], laidTests := true, laidLooks := .later }
def FnExactUnframeCardSaid : Prop := Claim7.holds Tryd.pinned (.plain (OpenSpec.ofChange fnExactUnframeSpec)) fnExactUnframeCard

/-- THE SECOND FORM's CARD OF 'laws.FnExactSum'. -/
def fnExactSumUptoCard : Claim7 := { stood := { row := fnExactSumUptoRow, standIns := [], harness := (true, "d1e5d04ddd9f512b07b5bd466a272c2d3bac05c370ef3f79a3c07c55f9dc2d46"), looks := false }, kinds := [], alts := [], laidByText := true, laidKinds := [.data], laidTests := true, laidLooks := .later }
def FnExactSumUptoCardSaid : Prop := Claim7.holds Tryd.pinned (.plain (OpenSpec.upto fnExactSumSpec)) fnExactSumUptoCard

/-- THE SECOND FORM's CARD OF 'laws.FnExactFrame'. -/
def fnExactFrameUptoCard : Claim7 := { stood := { row := fnExactFrameUptoRow, standIns := [], harness := (true, "d1e5d04ddd9f512b07b5bd466a272c2d3bac05c370ef3f79a3c07c55f9dc2d46"), looks := false }, kinds := [], alts := [], laidByText := true, laidKinds := [.data], laidTests := true, laidLooks := .later }
def FnExactFrameUptoCardSaid : Prop := Claim7.holds Tryd.pinned (.plain (OpenSpec.upto fnExactFrameSpec)) fnExactFrameUptoCard

/-- THE SECOND FORM's CARD OF 'laws.FnExactUnframe'. -/
def fnExactUnframeUptoCard : Claim7 := { stood := { row := fnExactUnframeUptoRow, standIns := [], harness := (true, "d1e5d04ddd9f512b07b5bd466a272c2d3bac05c370ef3f79a3c07c55f9dc2d46"), looks := false }, kinds := [], alts := [], laidByText := true, laidKinds := [.data], laidTests := true, laidLooks := .later }
def FnExactUnframeUptoCardSaid : Prop := Claim7.holds Tryd.pinned (.plain (OpenSpec.upto fnExactUnframeSpec)) fnExactUnframeUptoCard
end Rows
end Go.Proofs.YtconfeecfgdopaaDoor
