/-
  DERIVED. GIVEN WITH THE SEED: THE CARDS: each row of YtcbhmbgmeodjdaaDoorRows.lean that lists a variable, with what it lists TIED to the program's text (the seventh form; the later family's looks); each row that meets fmt, with fmt's text TOLD by the authors' own Lean function (tested against real Go, not proved from fmt's source: count such statements apart). THE CARD IS WHAT COUNTS. Prove the row's statement (the work); the ties are given (YtcbhmbgmeodjdaaDoorTie.lean); close each card by the builder's one call (the guide's Derived/Test/ToyasCard.lean, 'card_holds'). Laid BY PROGRAM, IN A SANDBOX (cutbox-door.mjs). By AI agents, Wed Nov 11 2026. No macro, syntax, notation, axiom, sorry.
-/
import Derived.Test.YtcbhmbgmeodjdaaDoorRows
import GoSem.ClaimSeven
namespace Go.Proofs.YtcbhmbgmeodjdaaDoor
namespace Rows

/-- THE TIED CARD OF 'laws.FnFrames'. -/
def fnFramesCard : Claim7 := { stood := { row := fnFramesRow, standIns := [], harness := (true, "8fcce72a1535271e96380e3c5be9f6946bf9f60a5e6e0f526634e2cb8af4b6b2"), looks := false }, kinds := [], alts := [], laidByText := true, laidKinds := [.data], laidTests := true, laidLooks := .later }
def FnFramesCardSaid : Prop := Claim7.holds Tryd.pinned (.plain (OpenSpec.ofChange fnFramesSpec)) fnFramesCard

/-- THE TIED CARD OF 'laws.FnExactRecords'. -/
def fnExactRecordsCard : Claim7 := { stood := { row := fnExactRecordsRow, standIns := [], harness := (true, "8fcce72a1535271e96380e3c5be9f6946bf9f60a5e6e0f526634e2cb8af4b6b2"), looks := false }, kinds := [], alts := [], laidByText := true, laidKinds := [.data], laidTests := true, laidLooks := .later }
def FnExactRecordsCardSaid : Prop := Claim7.holds Tryd.pinned (.plain (OpenSpec.ofChange fnExactRecordsSpec)) fnExactRecordsCard

/-- THE TIED CARD OF 'laws.FnExactLog'. -/
def fnExactLogCard : Claim7 := { stood := { row := fnExactLogRow, standIns := [], harness := (true, "8fcce72a1535271e96380e3c5be9f6946bf9f60a5e6e0f526634e2cb8af4b6b2"), looks := false }, kinds := [], alts := [], laidByText := true, laidKinds := [.data], laidTests := true, laidLooks := .later }
def FnExactLogCardSaid : Prop := Claim7.holds Tryd.pinned (.plain (OpenSpec.ofChange fnExactLogSpec)) fnExactLogCard

/-- THE TIED CARD OF 'laws.FnMem'. -/
def fnMemCard : Claim7 := { stood := { row := fnMemRow, standIns := [], harness := (true, "8fcce72a1535271e96380e3c5be9f6946bf9f60a5e6e0f526634e2cb8af4b6b2"), looks := false }, kinds := [], alts := [], laidByText := true, laidKinds := [.data, .pinned], laidTests := true, laidLooks := .later }
def FnMemCardSaid : Prop := Claim7.holds Tryd.pinned (.plain (OpenSpec.ofChange fnMemSpec)) fnMemCard

/-- THE TIED CARD OF 'laws.FnLeaps'. -/
def fnLeapsCard : Claim7 := { stood := { row := fnLeapsRow, standIns := [], harness := (true, "8fcce72a1535271e96380e3c5be9f6946bf9f60a5e6e0f526634e2cb8af4b6b2"), looks := false }, kinds := [], alts := [], laidByText := true, laidKinds := [.data, .pinned], laidTests := true, laidLooks := .later }
def FnLeapsCardSaid : Prop := Claim7.holds Tryd.pinned (.plain (OpenSpec.ofChange fnLeapsSpec)) fnLeapsCard

/-- THE TIED CARD OF 'laws.FnMerged'. -/
def fnMergedCard : Claim7 := { stood := { row := fnMergedRow, standIns := [], harness := (true, "8fcce72a1535271e96380e3c5be9f6946bf9f60a5e6e0f526634e2cb8af4b6b2"), looks := false }, kinds := [], alts := [], laidByText := true, laidKinds := [.data, .pinned], laidTests := true, laidLooks := .later }
def FnMergedCardSaid : Prop := Claim7.holds Tryd.pinned (.plain (OpenSpec.ofChange fnMergedSpec)) fnMergedCard

/-- THE TIED CARD OF 'laws.FnExactMemOk'. -/
def fnExactMemOkCard : Claim7 := { stood := { row := fnExactMemOkRow, standIns := [], harness := (true, "8fcce72a1535271e96380e3c5be9f6946bf9f60a5e6e0f526634e2cb8af4b6b2"), looks := false }, kinds := [], alts := [], laidByText := true, laidKinds := [.data, .pinned], laidTests := true, laidLooks := .later }
def FnExactMemOkCardSaid : Prop := Claim7.holds Tryd.pinned (.plain (OpenSpec.ofChange fnExactMemOkSpec)) fnExactMemOkCard

/-- THE TIED CARD OF 'laws.FnExactMemPut'. -/
def fnExactMemPutCard : Claim7 := { stood := { row := fnExactMemPutRow, standIns := [], harness := (true, "8fcce72a1535271e96380e3c5be9f6946bf9f60a5e6e0f526634e2cb8af4b6b2"), looks := false }, kinds := [], alts := [], laidByText := true, laidKinds := [.data, .pinned], laidTests := true, laidLooks := .later }
def FnExactMemPutCardSaid : Prop := Claim7.holds Tryd.pinned (.plain (OpenSpec.ofChange fnExactMemPutSpec)) fnExactMemPutCard

/-- THE TIED CARD OF 'laws.FnExactLeaps'. -/
def fnExactLeapsCard : Claim7 := { stood := { row := fnExactLeapsRow, standIns := [], harness := (true, "8fcce72a1535271e96380e3c5be9f6946bf9f60a5e6e0f526634e2cb8af4b6b2"), looks := false }, kinds := [], alts := [], laidByText := true, laidKinds := [.data, .pinned], laidTests := true, laidLooks := .later }
def FnExactLeapsCardSaid : Prop := Claim7.holds Tryd.pinned (.plain (OpenSpec.ofChange fnExactLeapsSpec)) fnExactLeapsCard

/-- THE TIED CARD OF 'laws.FnExactMerge'. -/
def fnExactMergeCard : Claim7 := { stood := { row := fnExactMergeRow, standIns := [], harness := (true, "8fcce72a1535271e96380e3c5be9f6946bf9f60a5e6e0f526634e2cb8af4b6b2"), looks := false }, kinds := [], alts := [], laidByText := true, laidKinds := [.data, .pinned], laidTests := true, laidLooks := .later }
def FnExactMergeCardSaid : Prop := Claim7.holds Tryd.pinned (.plain (OpenSpec.ofChange fnExactMergeSpec)) fnExactMergeCard

/-- THE TIED CARD OF 'laws.FnExactRange'. -/
def fnExactRangeCard : Claim7 := { stood := { row := fnExactRangeRow, standIns := [], harness := (true, "8fcce72a1535271e96380e3c5be9f6946bf9f60a5e6e0f526634e2cb8af4b6b2"), looks := false }, kinds := [], alts := [], laidByText := true, laidKinds := [.data, .pinned], laidTests := true, laidLooks := .later }
def FnExactRangeCardSaid : Prop := Claim7.holds Tryd.pinned (.plain (OpenSpec.ofChange fnExactRangeSpec)) fnExactRangeCard

/-- THE SECOND FORM's CARD OF 'laws.FnFrames'. -/
def fnFramesUptoCard : Claim7 := { stood := { row := fnFramesUptoRow, standIns := [], harness := (true, "8fcce72a1535271e96380e3c5be9f6946bf9f60a5e6e0f526634e2cb8af4b6b2"), looks := false }, kinds := [], alts := [], laidByText := true, laidKinds := [.data], laidTests := true, laidLooks := .later }
def FnFramesUptoCardSaid : Prop := Claim7.holds Tryd.pinned (.plain (OpenSpec.upto fnFramesSpec)) fnFramesUptoCard

/-- THE SECOND FORM's CARD OF 'laws.FnExactRecords'. -/
def fnExactRecordsUptoCard : Claim7 := { stood := { row := fnExactRecordsUptoRow, standIns := [], harness := (true, "8fcce72a1535271e96380e3c5be9f6946bf9f60a5e6e0f526634e2cb8af4b6b2"), looks := false }, kinds := [], alts := [], laidByText := true, laidKinds := [.data], laidTests := true, laidLooks := .later }
def FnExactRecordsUptoCardSaid : Prop := Claim7.holds Tryd.pinned (.plain (OpenSpec.upto fnExactRecordsSpec)) fnExactRecordsUptoCard

/-- THE SECOND FORM's CARD OF 'laws.FnExactLog'. -/
def fnExactLogUptoCard : Claim7 := { stood := { row := fnExactLogUptoRow, standIns := [], harness := (true, "8fcce72a1535271e96380e3c5be9f6946bf9f60a5e6e0f526634e2cb8af4b6b2"), looks := false }, kinds := [], alts := [], laidByText := true, laidKinds := [.data], laidTests := true, laidLooks := .later }
def FnExactLogUptoCardSaid : Prop := Claim7.holds Tryd.pinned (.plain (OpenSpec.upto fnExactLogSpec)) fnExactLogUptoCard

/-- THE SECOND FORM's CARD OF 'laws.FnMem'. -/
def fnMemUptoCard : Claim7 := { stood := { row := fnMemUptoRow, standIns := [], harness := (true, "8fcce72a1535271e96380e3c5be9f6946bf9f60a5e6e0f526634e2cb8af4b6b2"), looks := false }, kinds := [], alts := [], laidByText := true, laidKinds := [.data, .pinned], laidTests := true, laidLooks := .later }
def FnMemUptoCardSaid : Prop := Claim7.holds Tryd.pinned (.plain (OpenSpec.upto fnMemSpec)) fnMemUptoCard

/-- THE SECOND FORM's CARD OF 'laws.FnLeaps'. -/
def fnLeapsUptoCard : Claim7 := { stood := { row := fnLeapsUptoRow, standIns := [], harness := (true, "8fcce72a1535271e96380e3c5be9f6946bf9f60a5e6e0f526634e2cb8af4b6b2"), looks := false }, kinds := [], alts := [], laidByText := true, laidKinds := [.data, .pinned], laidTests := true, laidLooks := .later }
def FnLeapsUptoCardSaid : Prop := Claim7.holds Tryd.pinned (.plain (OpenSpec.upto fnLeapsSpec)) fnLeapsUptoCard

/-- THE SECOND FORM's CARD OF 'laws.FnMerged'. -/
def fnMergedUptoCard : Claim7 := { stood := { row := fnMergedUptoRow, standIns := [], harness := (true, "8fcce72a1535271e96380e3c5be9f6946bf9f60a5e6e0f526634e2cb8af4b6b2"), looks := false }, kinds := [], alts := [], laidByText := true, laidKinds := [.data, .pinned], laidTests := true, laidLooks := .later }
def FnMergedUptoCardSaid : Prop := Claim7.holds Tryd.pinned (.plain (OpenSpec.upto fnMergedSpec)) fnMergedUptoCard

/-- THE SECOND FORM's CARD OF 'laws.FnExactMemOk'. -/
def fnExactMemOkUptoCard : Claim7 := { stood := { row := fnExactMemOkUptoRow, standIns := [], harness := (true, "8fcce72a1535271e96380e3c5be9f6946bf9f60a5e6e0f526634e2cb8af4b6b2"), looks := false }, kinds := [], alts := [], laidByText := true, laidKinds := [.data, .pinned], laidTests := true, laidLooks := .later }
def FnExactMemOkUptoCardSaid : Prop := Claim7.holds Tryd.pinned (.plain (OpenSpec.upto fnExactMemOkSpec)) fnExactMemOkUptoCard

/-- THE SECOND FORM's CARD OF 'laws.FnExactMemPut'. -/
def fnExactMemPutUptoCard : Claim7 := { stood := { row := fnExactMemPutUptoRow, standIns := [], harness := (true, "8fcce72a1535271e96380e3c5be9f6946bf9f60a5e6e0f526634e2cb8af4b6b2"), looks := false }, kinds := [], alts := [], laidByText := true, laidKinds := [.data, .pinned], laidTests := true, laidLooks := .later }
def FnExactMemPutUptoCardSaid : Prop := Claim7.holds Tryd.pinned (.plain (OpenSpec.upto fnExactMemPutSpec)) fnExactMemPutUptoCard

/-- THE SECOND FORM's CARD OF 'laws.FnExactLeaps'. -/
def fnExactLeapsUptoCard : Claim7 := { stood := { row := fnExactLeapsUptoRow, standIns := [], harness := (true, "8fcce72a1535271e96380e3c5be9f6946bf9f60a5e6e0f526634e2cb8af4b6b2"), looks := false }, kinds := [], alts := [], laidByText := true, laidKinds := [.data, .pinned], laidTests := true, laidLooks := .later }
def FnExactLeapsUptoCardSaid : Prop := Claim7.holds Tryd.pinned (.plain (OpenSpec.upto fnExactLeapsSpec)) fnExactLeapsUptoCard

/-- THE SECOND FORM's CARD OF 'laws.FnExactMerge'. -/
def fnExactMergeUptoCard : Claim7 := { stood := { row := fnExactMergeUptoRow, standIns := [], harness := (true, "8fcce72a1535271e96380e3c5be9f6946bf9f60a5e6e0f526634e2cb8af4b6b2"), looks := false }, kinds := [], alts := [], laidByText := true, laidKinds := [.data, .pinned], laidTests := true, laidLooks := .later }
def FnExactMergeUptoCardSaid : Prop := Claim7.holds Tryd.pinned (.plain (OpenSpec.upto fnExactMergeSpec)) fnExactMergeUptoCard

/-- THE SECOND FORM's CARD OF 'laws.FnExactRange'. -/
def fnExactRangeUptoCard : Claim7 := { stood := { row := fnExactRangeUptoRow, standIns := [], harness := (true, "8fcce72a1535271e96380e3c5be9f6946bf9f60a5e6e0f526634e2cb8af4b6b2"), looks := false }, kinds := [], alts := [], laidByText := true, laidKinds := [.data, .pinned], laidTests := true, laidLooks := .later }
def FnExactRangeUptoCardSaid : Prop := Claim7.holds Tryd.pinned (.plain (OpenSpec.upto fnExactRangeSpec)) fnExactRangeUptoCard
end Rows
end Go.Proofs.YtcbhmbgmeodjdaaDoor
