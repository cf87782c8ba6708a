/-
  DERIVED. GIVEN WITH THE SEED: THE CARDS: each row of YtjaaaopbidmknaaDoorRows.lean that lists a variable, with what it lists TIED to the program's text (the seventh form; the later family's looks); each row that meets fmt, with fmt's text TOLD by the authors' own Lean function (tested against real Go, not proved from fmt's source: count such statements apart). THE CARD IS WHAT COUNTS. Prove the row's statement (the work); the ties are given (YtjaaaopbidmknaaDoorTie.lean); close each card by the builder's one call (the guide's Derived/Test/ToyasCard.lean, 'card_holds'). Laid BY PROGRAM, IN A SANDBOX (cutbox-door.mjs). By AI agents, Wed Nov 11 2026. No macro, syntax, notation, axiom, sorry.
-/
import Derived.Test.YtjaaaopbidmknaaDoorRows
import GoSem.ClaimSeven
namespace Go.Proofs.YtjaaaopbidmknaaDoor
namespace Rows

/-- THE TIED CARD OF 'laws.FnExactMark'. -/
def fnExactMarkCard : Claim7 := { stood := { row := fnExactMarkRow, standIns := [], harness := (true, "74d26351655d7a2289994f81eb47ae837c0f3bf28b83b5a42514464f59745d18"), looks := true }, kinds := [], alts := [], laidByText := true, laidKinds := [.data], laidTests := true, laidLooks := .later }
def FnExactMarkCardSaid : Prop := Claim7.holds Tryd.pinned (.plain (OpenSpec.ofChange fnExactMarkSpec)) fnExactMarkCard

/-- THE TIED CARD OF 'laws.FnExactFilter'. -/
def fnExactFilterCard : Claim7 := { stood := { row := fnExactFilterRow, standIns := [], harness := (true, "74d26351655d7a2289994f81eb47ae837c0f3bf28b83b5a42514464f59745d18"), looks := true }, kinds := [], alts := [], laidByText := true, laidKinds := [.data], laidTests := true, laidLooks := .later }
def FnExactFilterCardSaid : Prop := Claim7.holds Tryd.pinned (.plain (OpenSpec.ofChange fnExactFilterSpec)) fnExactFilterCard

/-- THE TIED CARD OF 'laws.FnExactMayHave'. -/
def fnExactMayHaveCard : Claim7 := { stood := { row := fnExactMayHaveRow, standIns := [], harness := (true, "74d26351655d7a2289994f81eb47ae837c0f3bf28b83b5a42514464f59745d18"), looks := true }, kinds := [], alts := [], laidByText := true, laidKinds := [.data], laidTests := true, laidLooks := .later }
def FnExactMayHaveCardSaid : Prop := Claim7.holds Tryd.pinned (.plain (OpenSpec.ofChange fnExactMayHaveSpec)) fnExactMayHaveCard

/-- THE TIED CARD OF 'laws.FnExactPutTable'. -/
def fnExactPutTableCard : Claim7 := { stood := { row := fnExactPutTableRow, standIns := [], harness := (true, "74d26351655d7a2289994f81eb47ae837c0f3bf28b83b5a42514464f59745d18"), looks := true }, kinds := [], alts := [], laidByText := true, laidKinds := [.data, .data, .pinned], laidTests := true, laidLooks := .later }
def FnExactPutTableCardSaid : Prop := Claim7.holds Tryd.pinned (.plain (OpenSpec.ofChange fnExactPutTableSpec)) fnExactPutTableCard

/-- THE TIED CARD OF 'laws.FnExactTableGet'. -/
def fnExactTableGetCard : Claim7 := { stood := { row := fnExactTableGetRow, standIns := [], harness := (true, "74d26351655d7a2289994f81eb47ae837c0f3bf28b83b5a42514464f59745d18"), looks := true }, kinds := [], alts := [], laidByText := true, laidKinds := [.data, .sentinel, .sentinel], laidTests := true, laidLooks := .later }
def FnExactTableGetCardSaid : Prop := Claim7.holds Tryd.pinned (.plain (OpenSpec.ofChange fnExactTableGetSpec)) fnExactTableGetCard

/-- THE TIED CARD OF 'laws.FnExactTablePairs'. -/
def fnExactTablePairsCard : Claim7 := { stood := { row := fnExactTablePairsRow, standIns := [], harness := (true, "74d26351655d7a2289994f81eb47ae837c0f3bf28b83b5a42514464f59745d18"), looks := true }, kinds := [], alts := [], laidByText := true, laidKinds := [.data, .data, .sentinel, .pinned], laidTests := true, laidLooks := .later }
def FnExactTablePairsCardSaid : Prop := Claim7.holds Tryd.pinned (.plain (OpenSpec.ofChange fnExactTablePairsSpec)) fnExactTablePairsCard

/-- THE TIED CARD OF 'laws.FnTables'. -/
def fnTablesCard : Claim7 := { stood := { row := fnTablesRow, standIns := [], harness := (true, "74d26351655d7a2289994f81eb47ae837c0f3bf28b83b5a42514464f59745d18"), looks := true }, kinds := [], alts := [], laidByText := true, laidKinds := [.data, .data, .sentinel, .sentinel, .pinned], laidTests := true, laidLooks := .later }
def FnTablesCardSaid : Prop := Claim7.holds Tryd.pinned (.plain (OpenSpec.ofChange fnTablesSpec)) fnTablesCard

/-- THE TIED CARD OF 'laws.FnExactMerge'. -/
def fnExactMergeCard : Claim7 := { stood := { row := fnExactMergeRow, standIns := [], harness := (true, "74d26351655d7a2289994f81eb47ae837c0f3bf28b83b5a42514464f59745d18"), looks := true }, kinds := [], alts := [], laidByText := true, laidKinds := [.data, .pinned], laidTests := true, laidLooks := .later }
def FnExactMergeCardSaid : Prop := Claim7.holds Tryd.pinned (.plain (OpenSpec.ofChange fnExactMergeSpec)) fnExactMergeCard

/-- THE TIED CARD OF 'laws.FnExactRecords'. -/
def fnExactRecordsCard : Claim7 := { stood := { row := fnExactRecordsRow, standIns := [], harness := (true, "74d26351655d7a2289994f81eb47ae837c0f3bf28b83b5a42514464f59745d18"), looks := true }, kinds := [], alts := [], laidByText := true, laidKinds := [.data], laidTests := true, laidLooks := .later }
def FnExactRecordsCardSaid : Prop := Claim7.holds Tryd.pinned (.plain (OpenSpec.ofChange fnExactRecordsSpec)) fnExactRecordsCard

/-- THE TIED CARD OF 'laws.FnFrames'. -/
def fnFramesCard : Claim7 := { stood := { row := fnFramesRow, standIns := [], harness := (true, "74d26351655d7a2289994f81eb47ae837c0f3bf28b83b5a42514464f59745d18"), looks := true }, kinds := [], alts := [], laidByText := true, laidKinds := [.data], laidTests := true, laidLooks := .later }
def FnFramesCardSaid : Prop := Claim7.holds Tryd.pinned (.plain (OpenSpec.ofChange fnFramesSpec)) fnFramesCard

/-- THE TIED CARD OF 'laws.FnExactLeaps'. -/
def fnExactLeapsCard : Claim7 := { stood := { row := fnExactLeapsRow, standIns := [], harness := (true, "74d26351655d7a2289994f81eb47ae837c0f3bf28b83b5a42514464f59745d18"), looks := true }, kinds := [], alts := [], laidByText := true, laidKinds := [.data, .pinned], laidTests := true, laidLooks := .later }
def FnExactLeapsCardSaid : Prop := Claim7.holds Tryd.pinned (.plain (OpenSpec.ofChange fnExactLeapsSpec)) fnExactLeapsCard

/-- THE SECOND FORM's CARD OF 'laws.FnExactMark'. -/
def fnExactMarkUptoCard : Claim7 := { stood := { row := fnExactMarkUptoRow, standIns := [], harness := (true, "74d26351655d7a2289994f81eb47ae837c0f3bf28b83b5a42514464f59745d18"), looks := true }, kinds := [], alts := [], laidByText := true, laidKinds := [.data], laidTests := true, laidLooks := .later }
def FnExactMarkUptoCardSaid : Prop := Claim7.holds Tryd.pinned (.plain (OpenSpec.upto fnExactMarkSpec)) fnExactMarkUptoCard

/-- THE SECOND FORM's CARD OF 'laws.FnExactFilter'. -/
def fnExactFilterUptoCard : Claim7 := { stood := { row := fnExactFilterUptoRow, standIns := [], harness := (true, "74d26351655d7a2289994f81eb47ae837c0f3bf28b83b5a42514464f59745d18"), looks := true }, kinds := [], alts := [], laidByText := true, laidKinds := [.data], laidTests := true, laidLooks := .later }
def FnExactFilterUptoCardSaid : Prop := Claim7.holds Tryd.pinned (.plain (OpenSpec.upto fnExactFilterSpec)) fnExactFilterUptoCard

/-- THE SECOND FORM's CARD OF 'laws.FnExactMayHave'. -/
def fnExactMayHaveUptoCard : Claim7 := { stood := { row := fnExactMayHaveUptoRow, standIns := [], harness := (true, "74d26351655d7a2289994f81eb47ae837c0f3bf28b83b5a42514464f59745d18"), looks := true }, kinds := [], alts := [], laidByText := true, laidKinds := [.data], laidTests := true, laidLooks := .later }
def FnExactMayHaveUptoCardSaid : Prop := Claim7.holds Tryd.pinned (.plain (OpenSpec.upto fnExactMayHaveSpec)) fnExactMayHaveUptoCard

/-- THE SECOND FORM's CARD OF 'laws.FnExactPutTable'. -/
def fnExactPutTableUptoCard : Claim7 := { stood := { row := fnExactPutTableUptoRow, standIns := [], harness := (true, "74d26351655d7a2289994f81eb47ae837c0f3bf28b83b5a42514464f59745d18"), looks := true }, kinds := [], alts := [], laidByText := true, laidKinds := [.data, .data, .pinned], laidTests := true, laidLooks := .later }
def FnExactPutTableUptoCardSaid : Prop := Claim7.holds Tryd.pinned (.plain (OpenSpec.upto fnExactPutTableSpec)) fnExactPutTableUptoCard

/-- THE SECOND FORM's CARD OF 'laws.FnExactTableGet'. -/
def fnExactTableGetUptoCard : Claim7 := { stood := { row := fnExactTableGetUptoRow, standIns := [], harness := (true, "74d26351655d7a2289994f81eb47ae837c0f3bf28b83b5a42514464f59745d18"), looks := true }, kinds := [], alts := [], laidByText := true, laidKinds := [.data, .sentinel, .sentinel], laidTests := true, laidLooks := .later }
def FnExactTableGetUptoCardSaid : Prop := Claim7.holds Tryd.pinned (.plain (OpenSpec.upto fnExactTableGetSpec)) fnExactTableGetUptoCard

/-- THE SECOND FORM's CARD OF 'laws.FnExactTablePairs'. -/
def fnExactTablePairsUptoCard : Claim7 := { stood := { row := fnExactTablePairsUptoRow, standIns := [], harness := (true, "74d26351655d7a2289994f81eb47ae837c0f3bf28b83b5a42514464f59745d18"), looks := true }, kinds := [], alts := [], laidByText := true, laidKinds := [.data, .data, .sentinel, .pinned], laidTests := true, laidLooks := .later }
def FnExactTablePairsUptoCardSaid : Prop := Claim7.holds Tryd.pinned (.plain (OpenSpec.upto fnExactTablePairsSpec)) fnExactTablePairsUptoCard

/-- THE SECOND FORM's CARD OF 'laws.FnTables'. -/
def fnTablesUptoCard : Claim7 := { stood := { row := fnTablesUptoRow, standIns := [], harness := (true, "74d26351655d7a2289994f81eb47ae837c0f3bf28b83b5a42514464f59745d18"), looks := true }, kinds := [], alts := [], laidByText := true, laidKinds := [.data, .data, .sentinel, .sentinel, .pinned], laidTests := true, laidLooks := .later }
def FnTablesUptoCardSaid : Prop := Claim7.holds Tryd.pinned (.plain (OpenSpec.upto fnTablesSpec)) fnTablesUptoCard

/-- THE SECOND FORM's CARD OF 'laws.FnExactMerge'. -/
def fnExactMergeUptoCard : Claim7 := { stood := { row := fnExactMergeUptoRow, standIns := [], harness := (true, "74d26351655d7a2289994f81eb47ae837c0f3bf28b83b5a42514464f59745d18"), looks := true }, kinds := [], alts := [], laidByText := true, laidKinds := [.data, .pinned], laidTests := true, laidLooks := .later }
def FnExactMergeUptoCardSaid : Prop := Claim7.holds Tryd.pinned (.plain (OpenSpec.upto fnExactMergeSpec)) fnExactMergeUptoCard

/-- THE SECOND FORM's CARD OF 'laws.FnExactRecords'. -/
def fnExactRecordsUptoCard : Claim7 := { stood := { row := fnExactRecordsUptoRow, standIns := [], harness := (true, "74d26351655d7a2289994f81eb47ae837c0f3bf28b83b5a42514464f59745d18"), looks := true }, kinds := [], alts := [], laidByText := true, laidKinds := [.data], laidTests := true, laidLooks := .later }
def FnExactRecordsUptoCardSaid : Prop := Claim7.holds Tryd.pinned (.plain (OpenSpec.upto fnExactRecordsSpec)) fnExactRecordsUptoCard

/-- THE SECOND FORM's CARD OF 'laws.FnFrames'. -/
def fnFramesUptoCard : Claim7 := { stood := { row := fnFramesUptoRow, standIns := [], harness := (true, "74d26351655d7a2289994f81eb47ae837c0f3bf28b83b5a42514464f59745d18"), looks := true }, kinds := [], alts := [], laidByText := true, laidKinds := [.data], laidTests := true, laidLooks := .later }
def FnFramesUptoCardSaid : Prop := Claim7.holds Tryd.pinned (.plain (OpenSpec.upto fnFramesSpec)) fnFramesUptoCard

/-- THE SECOND FORM's CARD OF 'laws.FnExactLeaps'. -/
def fnExactLeapsUptoCard : Claim7 := { stood := { row := fnExactLeapsUptoRow, standIns := [], harness := (true, "74d26351655d7a2289994f81eb47ae837c0f3bf28b83b5a42514464f59745d18"), looks := true }, kinds := [], alts := [], laidByText := true, laidKinds := [.data, .pinned], laidTests := true, laidLooks := .later }
def FnExactLeapsUptoCardSaid : Prop := Claim7.holds Tryd.pinned (.plain (OpenSpec.upto fnExactLeapsSpec)) fnExactLeapsUptoCard
end Rows
end Go.Proofs.YtjaaaopbidmknaaDoor
