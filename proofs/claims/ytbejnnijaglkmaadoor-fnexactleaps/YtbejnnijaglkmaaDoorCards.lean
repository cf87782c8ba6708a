/-
  DERIVED. GIVEN WITH THE SEED: THE CARDS: each row of YtbejnnijaglkmaaDoorRows.lean that lists a variable, with what it lists TIED to the program's text (the seventh form; the later family's looks); each row that meets fmt, with fmt's text TOLD by the authors' own Lean function (tested against real Go, not proved from fmt's source: count such statements apart). THE CARD IS WHAT COUNTS. Prove the row's statement (the work); the ties are given (YtbejnnijaglkmaaDoorTie.lean); close each card by the builder's one call (the guide's Derived/Test/ToyasCard.lean, 'card_holds'). Laid BY PROGRAM, IN A SANDBOX (cutbox-door.mjs). By AI agents, Wed Nov 11 2026. No macro, syntax, notation, axiom, sorry.
-/
import Derived.Test.YtbejnnijaglkmaaDoorRows
import GoSem.ClaimSeven
namespace Go.Proofs.YtbejnnijaglkmaaDoor
namespace Rows

/-- THE TIED CARD OF 'laws.FnExactManText'. -/
def fnExactManTextCard : Claim7 := { stood := { row := fnExactManTextRow, standIns := [], harness := (true, "c4901174ccac65d72a0764fc1d11e13c916ed9612edd4bfbb8965b921e00533b"), looks := true }, kinds := [], alts := [], laidByText := true, laidKinds := [.data, .data, .data], laidTests := true, laidLooks := .later }
def FnExactManTextCardSaid : Prop := Claim7.holds Tryd.pinned (.plain (OpenSpec.ofChange fnExactManTextSpec)) fnExactManTextCard

/-- THE TIED CARD OF 'laws.FnExactLeaps'. -/
def fnExactLeapsCard : Claim7 := { stood := { row := fnExactLeapsRow, standIns := [], harness := (true, "c4901174ccac65d72a0764fc1d11e13c916ed9612edd4bfbb8965b921e00533b"), looks := true }, kinds := [], alts := [], laidByText := true, laidKinds := [.data, .pinned], laidTests := true, laidLooks := .later }
def FnExactLeapsCardSaid : Prop := Claim7.holds Tryd.pinned (.plain (OpenSpec.ofChange fnExactLeapsSpec)) fnExactLeapsCard

/-- THE TIED CARD OF 'laws.FnExactTablePairs'. -/
def fnExactTablePairsCard : Claim7 := { stood := { row := fnExactTablePairsRow, standIns := [], harness := (true, "c4901174ccac65d72a0764fc1d11e13c916ed9612edd4bfbb8965b921e00533b"), looks := true }, kinds := [], alts := [], laidByText := true, laidKinds := [.data, .data, .sentinel, .pinned], laidTests := true, laidLooks := .later }
def FnExactTablePairsCardSaid : Prop := Claim7.holds Tryd.pinned (.plain (OpenSpec.ofChange fnExactTablePairsSpec)) fnExactTablePairsCard

/-- THE TIED CARD OF 'laws.FnExactRecords'. -/
def fnExactRecordsCard : Claim7 := { stood := { row := fnExactRecordsRow, standIns := [], harness := (true, "c4901174ccac65d72a0764fc1d11e13c916ed9612edd4bfbb8965b921e00533b"), looks := true }, kinds := [], alts := [], laidByText := true, laidKinds := [.data], laidTests := true, laidLooks := .later }
def FnExactRecordsCardSaid : Prop := Claim7.holds Tryd.pinned (.plain (OpenSpec.ofChange fnExactRecordsSpec)) fnExactRecordsCard

/-- THE SECOND FORM's CARD OF 'laws.FnExactManText'. -/
def fnExactManTextUptoCard : Claim7 := { stood := { row := fnExactManTextUptoRow, standIns := [], harness := (true, "c4901174ccac65d72a0764fc1d11e13c916ed9612edd4bfbb8965b921e00533b"), looks := true }, kinds := [], alts := [], laidByText := true, laidKinds := [.data, .data, .data], laidTests := true, laidLooks := .later }
def FnExactManTextUptoCardSaid : Prop := Claim7.holds Tryd.pinned (.plain (OpenSpec.upto fnExactManTextSpec)) fnExactManTextUptoCard

/-- THE SECOND FORM's CARD OF 'laws.FnExactLeaps'. -/
def fnExactLeapsUptoCard : Claim7 := { stood := { row := fnExactLeapsUptoRow, standIns := [], harness := (true, "c4901174ccac65d72a0764fc1d11e13c916ed9612edd4bfbb8965b921e00533b"), looks := true }, kinds := [], alts := [], laidByText := true, laidKinds := [.data, .pinned], laidTests := true, laidLooks := .later }
def FnExactLeapsUptoCardSaid : Prop := Claim7.holds Tryd.pinned (.plain (OpenSpec.upto fnExactLeapsSpec)) fnExactLeapsUptoCard

/-- THE SECOND FORM's CARD OF 'laws.FnExactTablePairs'. -/
def fnExactTablePairsUptoCard : Claim7 := { stood := { row := fnExactTablePairsUptoRow, standIns := [], harness := (true, "c4901174ccac65d72a0764fc1d11e13c916ed9612edd4bfbb8965b921e00533b"), looks := true }, kinds := [], alts := [], laidByText := true, laidKinds := [.data, .data, .sentinel, .pinned], laidTests := true, laidLooks := .later }
def FnExactTablePairsUptoCardSaid : Prop := Claim7.holds Tryd.pinned (.plain (OpenSpec.upto fnExactTablePairsSpec)) fnExactTablePairsUptoCard

/-- THE SECOND FORM's CARD OF 'laws.FnExactRecords'. -/
def fnExactRecordsUptoCard : Claim7 := { stood := { row := fnExactRecordsUptoRow, standIns := [], harness := (true, "c4901174ccac65d72a0764fc1d11e13c916ed9612edd4bfbb8965b921e00533b"), looks := true }, kinds := [], alts := [], laidByText := true, laidKinds := [.data], laidTests := true, laidLooks := .later }
def FnExactRecordsUptoCardSaid : Prop := Claim7.holds Tryd.pinned (.plain (OpenSpec.upto fnExactRecordsSpec)) fnExactRecordsUptoCard
end Rows
end Go.Proofs.YtbejnnijaglkmaaDoor
