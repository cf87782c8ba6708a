/-
  NARROWER THAN 'FOR EVERY INPUT', by the rows' own cells (each row's printed sentence says how): FnExactMark: laid · FnExactFilter: laid · FnExactMayHave: laid · FnExactPutTable: laid · FnExactTableGet: ifaces, laid · FnExactTablePairs: ifaces, laid · FnTables: ifaces, laid · FnExactMerge: laid · FnExactRecords: laid · FnFrames: laid · FnExactLeaps: laid.
  DERIVED. THE GIVEN ROWS OF THIS SEAT. 11 by the template 'for every input the law returns true; each argument reads behind the call as it read before'; 0 by the template 'total and deterministic' (their statements: YtjaaaopbidmknaaDoorTotals.lean).
  GIVEN WITH THE SEED: the statements are not yours to turn. If you find one false, say at which input.
  Laid BY PROGRAM, IN A SANDBOX (cutbox-rows.mjs): the forced cells as the released guide's own fill.sh prints them over the translation 3af1c99786bc2458… (all of the seat's roots in one cut). By AI agents, Wed Nov 11 2026. No macro, syntax, notation, axiom, sorry.
-/
import Derived.Test.YtjaaaopbidmknaaDoorChecked
import GoSem.PinnedTables
import GoSem.Claim
import GoSem.ClaimJoined
import GoSem.ClaimMapViews
import Derived.JoinedTies
import Derived.KernelRfl
namespace Go.Proofs.YtjaaaopbidmknaaDoor
/- THE CELL 'sum', in the pinned program and in every row, IS THE sha256 OF THE DUMP (.gsa) THAT YtjaaaopbidmknaaDoorProg.lean LOADS. Nothing in Lean hashes anything: it is a label: what it is worth is what the hold of that sum in a sandbox is worth. -/
noncomputable def Tryd.pinned : Pinned := { name := "ytjaaaopbidmknaadoor", sum := "3af1c99786bc24589ea8d77bf860a38e3739a72e9b2eb110bd90b225ffcc62a5", checked := Tryd.checked }
namespace Rows
def none {H : Type} : Left H := { results := [], args := [] }

/- WHAT THE LISTED PACKAGE-LEVEL VARIABLES READ AS WHEN THE CALL BEGINS. Each datum BY PROGRAM (the guide's laid-datum.mjs) off the statement by which the dump's own 'gosem.cut.vars' lays the variable. In a bare row this is a premise. The card (YtjaaaopbidmknaaDoorCards.lean) ties it to the program's text. -/
def laid_loop_example_g00184_impl_sumTable {H : Type} : DataW H := .agg [.lit (.int .u32 0), .lit (.int .u32 274646895), .lit (.int .u32 549293790), .lit (.int .u32 820201905), .lit (.int .u32 1098587580), .lit (.int .u32 1361435347), .lit (.int .u32 1640403810), .lit (.int .u32 1905808397), .lit (.int .u32 2197175160), .lit (.int .u32 2460548119), .lit (.int .u32 2722870694), .lit (.int .u32 2987750089), .lit (.int .u32 3280807620), .lit (.int .u32 3553878443), .lit (.int .u32 3811616794), .lit (.int .u32 4084100981)]
def laid_unicode_utf8_acceptRanges {H : Type} : DataW H := .agg [.agg [.lit (.int .u8 128), .lit (.int .u8 191)], .agg [.lit (.int .u8 160), .lit (.int .u8 191)], .agg [.lit (.int .u8 128), .lit (.int .u8 159)], .agg [.lit (.int .u8 144), .lit (.int .u8 191)], .agg [.lit (.int .u8 128), .lit (.int .u8 143)], .agg [.lit (.int .u8 0), .lit (.int .u8 0)], .agg [.lit (.int .u8 0), .lit (.int .u8 0)], .agg [.lit (.int .u8 0), .lit (.int .u8 0)], .agg [.lit (.int .u8 0), .lit (.int .u8 0)], .agg [.lit (.int .u8 0), .lit (.int .u8 0)], .agg [.lit (.int .u8 0), .lit (.int .u8 0)], .agg [.lit (.int .u8 0), .lit (.int .u8 0)], .agg [.lit (.int .u8 0), .lit (.int .u8 0)], .agg [.lit (.int .u8 0), .lit (.int .u8 0)], .agg [.lit (.int .u8 0), .lit (.int .u8 0)], .agg [.lit (.int .u8 0), .lit (.int .u8 0)]]
/-- One of Go's own tables, pinned by name: the form's constant. -/
def laid_unicode_utf8_first : DataW Unit := Go.Pinned.utf8First
def laid_loop_example_g00184_impl_errNoTable {H : Type} : DataW H := .iface "*errors.errorString" (.ptr (.agg [.lit (.string [110, 111, 32, 116, 97, 98, 108, 101])]))
def laid_loop_example_g00184_impl_errNoPair {H : Type} : DataW H := .iface "*errors.errorString" (.ptr (.agg [.lit (.string [110, 111, 32, 112, 97, 105, 114, 32, 111, 102, 32, 116, 104, 105, 115, 32, 107, 101, 121])]))

/-- 'laws.FnExactMark': WHATEVER THE INPUT: true; the input reads as it did. -/
def fnExactMarkSpec : ChangeSpec := { name := "fnExactMark", vars := ["loop.example/g00184/impl.sumTable"], fn := fun _ => fun
  | [d, g1] => { results := [.lit (.bool true)], args := [d], vars := [g1] }
  | _ => none }
def fnExactMarkRow : OpenClaim := { program := "ytjaaaopbidmknaadoor", sum := "3af1c99786bc24589ea8d77bf860a38e3739a72e9b2eb110bd90b225ffcc62a5", func := "loop.example/g00184/laws.FnExactMark", spec := "fnExactMark", named := ["loop.example/g00184/impl.sumTable"], apart := false, laid := [("loop.example/g00184/impl.sumTable", laid_loop_example_g00184_impl_sumTable)] }
def FnExactMarkSaid : Prop := fnExactMarkRow.holds Tryd.pinned (OpenSpec.ofChange fnExactMarkSpec)

/-- ITS FALSE NEIGHBOUR: 'it returns false'. Refute it at one input. -/
def fnExactMarkWrong : ChangeSpec := { name := "fnExactMark", vars := ["loop.example/g00184/impl.sumTable"], fn := fun _ => fun
  | [d, g1] => { results := [.lit (.bool false)], args := [d], vars := [g1] }
  | _ => none }
def FnExactMarkWrongFalsely : Prop := fnExactMarkRow.holds Tryd.pinned (OpenSpec.ofChange fnExactMarkWrong)

/-- 'laws.FnExactFilter': WHATEVER THE INPUT: true; the input reads as it did. -/
def fnExactFilterSpec : ChangeSpec := { name := "fnExactFilter", vars := ["loop.example/g00184/impl.sumTable"], fn := fun _ => fun
  | [d, g1] => { results := [.lit (.bool true)], args := [d], vars := [g1] }
  | _ => none }
def fnExactFilterRow : OpenClaim := { program := "ytjaaaopbidmknaadoor", sum := "3af1c99786bc24589ea8d77bf860a38e3739a72e9b2eb110bd90b225ffcc62a5", func := "loop.example/g00184/laws.FnExactFilter", spec := "fnExactFilter", named := ["loop.example/g00184/impl.sumTable"], apart := false, laid := [("loop.example/g00184/impl.sumTable", laid_loop_example_g00184_impl_sumTable)] }
def FnExactFilterSaid : Prop := fnExactFilterRow.holds Tryd.pinned (OpenSpec.ofChange fnExactFilterSpec)

/-- ITS FALSE NEIGHBOUR: 'it returns false'. Refute it at one input. -/
def fnExactFilterWrong : ChangeSpec := { name := "fnExactFilter", vars := ["loop.example/g00184/impl.sumTable"], fn := fun _ => fun
  | [d, g1] => { results := [.lit (.bool false)], args := [d], vars := [g1] }
  | _ => none }
def FnExactFilterWrongFalsely : Prop := fnExactFilterRow.holds Tryd.pinned (OpenSpec.ofChange fnExactFilterWrong)

/-- 'laws.FnExactMayHave': WHATEVER THE INPUT: true; the input reads as it did. -/
def fnExactMayHaveSpec : ChangeSpec := { name := "fnExactMayHave", vars := ["loop.example/g00184/impl.sumTable"], fn := fun _ => fun
  | [d1, d2, g1] => { results := [.lit (.bool true)], args := [d1, d2], vars := [g1] }
  | _ => none }
def fnExactMayHaveRow : OpenClaim := { program := "ytjaaaopbidmknaadoor", sum := "3af1c99786bc24589ea8d77bf860a38e3739a72e9b2eb110bd90b225ffcc62a5", func := "loop.example/g00184/laws.FnExactMayHave", spec := "fnExactMayHave", named := ["loop.example/g00184/impl.sumTable"], apart := false, laid := [("loop.example/g00184/impl.sumTable", laid_loop_example_g00184_impl_sumTable)] }
def FnExactMayHaveSaid : Prop := fnExactMayHaveRow.holds Tryd.pinned (OpenSpec.ofChange fnExactMayHaveSpec)

/-- ITS FALSE NEIGHBOUR: 'it returns false'. Refute it at one input. -/
def fnExactMayHaveWrong : ChangeSpec := { name := "fnExactMayHave", vars := ["loop.example/g00184/impl.sumTable"], fn := fun _ => fun
  | [d1, d2, g1] => { results := [.lit (.bool false)], args := [d1, d2], vars := [g1] }
  | _ => none }
def FnExactMayHaveWrongFalsely : Prop := fnExactMayHaveRow.holds Tryd.pinned (OpenSpec.ofChange fnExactMayHaveWrong)

/-- 'laws.FnExactPutTable': WHATEVER THE INPUT: true; the input reads as it did. -/
def fnExactPutTableSpec : ChangeSpec := { name := "fnExactPutTable", vars := ["loop.example/g00184/impl.sumTable"], fn := fun _ => fun
  | [d, g1] => { results := [.lit (.bool true)], args := [d], vars := [g1] }
  | _ => none }
def fnExactPutTableRow : OpenClaim := { program := "ytjaaaopbidmknaadoor", sum := "3af1c99786bc24589ea8d77bf860a38e3739a72e9b2eb110bd90b225ffcc62a5", func := "loop.example/g00184/laws.FnExactPutTable", spec := "fnExactPutTable", named := ["unicode/utf8.first", "unicode/utf8.acceptRanges", "loop.example/g00184/impl.sumTable"], apart := false, laid := [("unicode/utf8.acceptRanges", laid_unicode_utf8_acceptRanges), ("loop.example/g00184/impl.sumTable", laid_loop_example_g00184_impl_sumTable), ("unicode/utf8.first", laid_unicode_utf8_first)] }
def FnExactPutTableSaid : Prop := fnExactPutTableRow.holds Tryd.pinned (OpenSpec.ofChange fnExactPutTableSpec)

/-- ITS FALSE NEIGHBOUR: 'it returns false'. Refute it at one input. -/
def fnExactPutTableWrong : ChangeSpec := { name := "fnExactPutTable", vars := ["loop.example/g00184/impl.sumTable"], fn := fun _ => fun
  | [d, g1] => { results := [.lit (.bool false)], args := [d], vars := [g1] }
  | _ => none }
def FnExactPutTableWrongFalsely : Prop := fnExactPutTableRow.holds Tryd.pinned (OpenSpec.ofChange fnExactPutTableWrong)

/-- 'laws.FnExactTableGet': WHATEVER THE INPUT: true; the input reads as it did. -/
def fnExactTableGetSpec : ChangeSpec := { name := "fnExactTableGet", vars := ["loop.example/g00184/impl.errNoTable", "loop.example/g00184/impl.errNoPair", "loop.example/g00184/impl.sumTable"], fn := fun _ => fun
  | [d1, d2, g1, g2, g3] => { results := [.lit (.bool true)], args := [d1, d2], vars := [g1, g2, g3] }
  | _ => none }
def fnExactTableGetRow : OpenClaim := { program := "ytjaaaopbidmknaadoor", sum := "3af1c99786bc24589ea8d77bf860a38e3739a72e9b2eb110bd90b225ffcc62a5", func := "loop.example/g00184/laws.FnExactTableGet", spec := "fnExactTableGet", inPlace := ["internal/reflectlite.TypeOf"], unfollowed := true, recurses := true, named := ["loop.example/g00184/impl.errNoTable", "loop.example/g00184/impl.errNoPair", "loop.example/g00184/impl.sumTable"], ifaces := true, apart := false, laid := [("loop.example/g00184/impl.sumTable", laid_loop_example_g00184_impl_sumTable), ("loop.example/g00184/impl.errNoTable", laid_loop_example_g00184_impl_errNoTable), ("loop.example/g00184/impl.errNoPair", laid_loop_example_g00184_impl_errNoPair)] }
def FnExactTableGetSaid : Prop := fnExactTableGetRow.holds Tryd.pinned (OpenSpec.ofChange fnExactTableGetSpec)

/-- ITS FALSE NEIGHBOUR: 'it returns false'. Refute it at one input. -/
def fnExactTableGetWrong : ChangeSpec := { name := "fnExactTableGet", vars := ["loop.example/g00184/impl.errNoTable", "loop.example/g00184/impl.errNoPair", "loop.example/g00184/impl.sumTable"], fn := fun _ => fun
  | [d1, d2, g1, g2, g3] => { results := [.lit (.bool false)], args := [d1, d2], vars := [g1, g2, g3] }
  | _ => none }
def FnExactTableGetWrongFalsely : Prop := fnExactTableGetRow.holds Tryd.pinned (OpenSpec.ofChange fnExactTableGetWrong)

/-- 'laws.FnExactTablePairs': WHATEVER THE INPUT: true; the input reads as it did. -/
def fnExactTablePairsSpec : ChangeSpec := { name := "fnExactTablePairs", vars := ["loop.example/g00184/impl.errNoTable", "loop.example/g00184/impl.sumTable"], fn := fun _ => fun
  | [d, g1, g2] => { results := [.lit (.bool true)], args := [d], vars := [g1, g2] }
  | _ => none }
def fnExactTablePairsRow : OpenClaim := { program := "ytjaaaopbidmknaadoor", sum := "3af1c99786bc24589ea8d77bf860a38e3739a72e9b2eb110bd90b225ffcc62a5", func := "loop.example/g00184/laws.FnExactTablePairs", spec := "fnExactTablePairs", inPlace := ["internal/reflectlite.TypeOf"], unfollowed := true, recurses := true, named := ["loop.example/g00184/impl.errNoTable", "loop.example/g00184/impl.sumTable", "unicode/utf8.first", "unicode/utf8.acceptRanges"], ifaces := true, apart := false, laid := [("unicode/utf8.acceptRanges", laid_unicode_utf8_acceptRanges), ("loop.example/g00184/impl.sumTable", laid_loop_example_g00184_impl_sumTable), ("loop.example/g00184/impl.errNoTable", laid_loop_example_g00184_impl_errNoTable), ("unicode/utf8.first", laid_unicode_utf8_first)] }
def FnExactTablePairsSaid : Prop := fnExactTablePairsRow.holds Tryd.pinned (OpenSpec.ofChange fnExactTablePairsSpec)

/-- ITS FALSE NEIGHBOUR: 'it returns false'. Refute it at one input. -/
def fnExactTablePairsWrong : ChangeSpec := { name := "fnExactTablePairs", vars := ["loop.example/g00184/impl.errNoTable", "loop.example/g00184/impl.sumTable"], fn := fun _ => fun
  | [d, g1, g2] => { results := [.lit (.bool false)], args := [d], vars := [g1, g2] }
  | _ => none }
def FnExactTablePairsWrongFalsely : Prop := fnExactTablePairsRow.holds Tryd.pinned (OpenSpec.ofChange fnExactTablePairsWrong)

/-- 'laws.FnTables': WHATEVER THE INPUT: true; the input reads as it did. -/
def fnTablesSpec : ChangeSpec := { name := "fnTables", vars := ["loop.example/g00184/impl.sumTable", "loop.example/g00184/impl.errNoTable", "loop.example/g00184/impl.errNoPair"], fn := fun _ => fun
  | [d, g1, g2, g3] => { results := [.lit (.bool true)], args := [d], vars := [g1, g2, g3] }
  | _ => none }
def fnTablesRow : OpenClaim := { program := "ytjaaaopbidmknaadoor", sum := "3af1c99786bc24589ea8d77bf860a38e3739a72e9b2eb110bd90b225ffcc62a5", func := "loop.example/g00184/laws.FnTables", spec := "fnTables", inPlace := ["internal/reflectlite.TypeOf"], unfollowed := true, recurses := true, named := ["unicode/utf8.first", "unicode/utf8.acceptRanges", "loop.example/g00184/impl.sumTable", "loop.example/g00184/impl.errNoTable", "loop.example/g00184/impl.errNoPair"], ifaces := true, apart := false, laid := [("unicode/utf8.acceptRanges", laid_unicode_utf8_acceptRanges), ("loop.example/g00184/impl.sumTable", laid_loop_example_g00184_impl_sumTable), ("loop.example/g00184/impl.errNoTable", laid_loop_example_g00184_impl_errNoTable), ("loop.example/g00184/impl.errNoPair", laid_loop_example_g00184_impl_errNoPair), ("unicode/utf8.first", laid_unicode_utf8_first)] }
def FnTablesSaid : Prop := fnTablesRow.holds Tryd.pinned (OpenSpec.ofChange fnTablesSpec)

/-- ITS FALSE NEIGHBOUR: 'it returns false'. Refute it at one input. -/
def fnTablesWrong : ChangeSpec := { name := "fnTables", vars := ["loop.example/g00184/impl.sumTable", "loop.example/g00184/impl.errNoTable", "loop.example/g00184/impl.errNoPair"], fn := fun _ => fun
  | [d, g1, g2, g3] => { results := [.lit (.bool false)], args := [d], vars := [g1, g2, g3] }
  | _ => none }
def FnTablesWrongFalsely : Prop := fnTablesRow.holds Tryd.pinned (OpenSpec.ofChange fnTablesWrong)

/-- 'laws.FnExactMerge': WHATEVER THE INPUT: true; the input reads as it did. -/
def fnExactMergeSpec : ChangeSpec := { name := "fnExactMerge", fn := fun _ => fun
  | [d1, d2] => { results := [.lit (.bool true)], args := [d1, d2] }
  | _ => none }
def fnExactMergeRow : OpenClaim := { program := "ytjaaaopbidmknaadoor", sum := "3af1c99786bc24589ea8d77bf860a38e3739a72e9b2eb110bd90b225ffcc62a5", func := "loop.example/g00184/laws.FnExactMerge", spec := "fnExactMerge", unfollowed := true, recurses := true, named := ["unicode/utf8.first", "unicode/utf8.acceptRanges"], apart := false, laid := [("unicode/utf8.acceptRanges", laid_unicode_utf8_acceptRanges), ("unicode/utf8.first", laid_unicode_utf8_first)] }
def FnExactMergeSaid : Prop := fnExactMergeRow.holds Tryd.pinned (OpenSpec.ofChange fnExactMergeSpec)

/-- ITS FALSE NEIGHBOUR: 'it returns false'. Refute it at one input. -/
def fnExactMergeWrong : ChangeSpec := { name := "fnExactMerge", fn := fun _ => fun
  | [d1, d2] => { results := [.lit (.bool false)], args := [d1, d2] }
  | _ => none }
def FnExactMergeWrongFalsely : Prop := fnExactMergeRow.holds Tryd.pinned (OpenSpec.ofChange fnExactMergeWrong)

/-- 'laws.FnExactRecords': WHATEVER THE INPUT: true; the input reads as it did. -/
def fnExactRecordsSpec : ChangeSpec := { name := "fnExactRecords", vars := ["loop.example/g00184/impl.sumTable"], fn := fun _ => fun
  | [d, g1] => { results := [.lit (.bool true)], args := [d], vars := [g1] }
  | _ => none }
def fnExactRecordsRow : OpenClaim := { program := "ytjaaaopbidmknaadoor", sum := "3af1c99786bc24589ea8d77bf860a38e3739a72e9b2eb110bd90b225ffcc62a5", func := "loop.example/g00184/laws.FnExactRecords", spec := "fnExactRecords", unfollowed := true, recurses := true, named := ["loop.example/g00184/impl.sumTable"], apart := false, laid := [("loop.example/g00184/impl.sumTable", laid_loop_example_g00184_impl_sumTable)] }
def FnExactRecordsSaid : Prop := fnExactRecordsRow.holds Tryd.pinned (OpenSpec.ofChange fnExactRecordsSpec)

/-- ITS FALSE NEIGHBOUR: 'it returns false'. Refute it at one input. -/
def fnExactRecordsWrong : ChangeSpec := { name := "fnExactRecords", vars := ["loop.example/g00184/impl.sumTable"], fn := fun _ => fun
  | [d, g1] => { results := [.lit (.bool false)], args := [d], vars := [g1] }
  | _ => none }
def FnExactRecordsWrongFalsely : Prop := fnExactRecordsRow.holds Tryd.pinned (OpenSpec.ofChange fnExactRecordsWrong)

/-- 'laws.FnFrames': WHATEVER THE INPUT: true; the input reads as it did. -/
def fnFramesSpec : ChangeSpec := { name := "fnFrames", vars := ["loop.example/g00184/impl.sumTable"], fn := fun _ => fun
  | [d, g1] => { results := [.lit (.bool true)], args := [d], vars := [g1] }
  | _ => none }
def fnFramesRow : OpenClaim := { program := "ytjaaaopbidmknaadoor", sum := "3af1c99786bc24589ea8d77bf860a38e3739a72e9b2eb110bd90b225ffcc62a5", func := "loop.example/g00184/laws.FnFrames", spec := "fnFrames", unfollowed := true, recurses := true, named := ["loop.example/g00184/impl.sumTable"], apart := false, laid := [("loop.example/g00184/impl.sumTable", laid_loop_example_g00184_impl_sumTable)] }
def FnFramesSaid : Prop := fnFramesRow.holds Tryd.pinned (OpenSpec.ofChange fnFramesSpec)

/-- ITS FALSE NEIGHBOUR: 'it returns false'. Refute it at one input. -/
def fnFramesWrong : ChangeSpec := { name := "fnFrames", vars := ["loop.example/g00184/impl.sumTable"], fn := fun _ => fun
  | [d, g1] => { results := [.lit (.bool false)], args := [d], vars := [g1] }
  | _ => none }
def FnFramesWrongFalsely : Prop := fnFramesRow.holds Tryd.pinned (OpenSpec.ofChange fnFramesWrong)

/-- 'laws.FnExactLeaps': WHATEVER THE INPUT: true; the input reads as it did. -/
def fnExactLeapsSpec : ChangeSpec := { name := "fnExactLeaps", fn := fun _ => fun
  | [d1, d2] => { results := [.lit (.bool true)], args := [d1, d2] }
  | _ => none }
def fnExactLeapsRow : OpenClaim := { program := "ytjaaaopbidmknaadoor", sum := "3af1c99786bc24589ea8d77bf860a38e3739a72e9b2eb110bd90b225ffcc62a5", func := "loop.example/g00184/laws.FnExactLeaps", spec := "fnExactLeaps", unfollowed := true, recurses := true, named := ["unicode/utf8.first", "unicode/utf8.acceptRanges"], apart := false, laid := [("unicode/utf8.acceptRanges", laid_unicode_utf8_acceptRanges), ("unicode/utf8.first", laid_unicode_utf8_first)] }
def FnExactLeapsSaid : Prop := fnExactLeapsRow.holds Tryd.pinned (OpenSpec.ofChange fnExactLeapsSpec)

/-- ITS FALSE NEIGHBOUR: 'it returns false'. Refute it at one input. -/
def fnExactLeapsWrong : ChangeSpec := { name := "fnExactLeaps", fn := fun _ => fun
  | [d1, d2] => { results := [.lit (.bool false)], args := [d1, d2] }
  | _ => none }
def FnExactLeapsWrongFalsely : Prop := fnExactLeapsRow.holds Tryd.pinned (OpenSpec.ofChange fnExactLeapsWrong)

/- THE SECOND FORM. 'bulk': how many values and letters a reading holds, each counted each time it is reached (what is shared counts as often as it is met; a slice's spare places count too). A statement '..UptoSaid' is the law's where the arguments, and the package variables that the reading takes, are together of bulk at most 1048576: NARROWER than '..Said'. Prove '..Said' where nothing that the law and all that it calls make is longer than what came in: it says more and counts as full. Else prove '..UptoSaid'. A law counts once. -/
mutual
def uptoBulk {H : Type} : DataW H → Nat
  | .lit (.string bytes) => bytes.length + 1
  | .lit _ => 1
  | .nil => 1
  | .ptr d => uptoBulk d + 1
  | .slice elems spare => uptoBulkAll elems + uptoBulkAll spare + 1
  | .agg parts => uptoBulkAll parts + 1
  | .iface _ d => uptoBulk d + 1
  | .map entries => uptoBulkEntries entries + 1
  | .held _ => 1
def uptoBulkAll {H : Type} : List (DataW H) → Nat
  | [] => 0
  | d :: r => uptoBulk d + uptoBulkAll r
def uptoBulkEntries {H : Type} : List (Lit × DataW H) → Nat
  | [] => 0
  | x :: r => uptoBulkEntry x + uptoBulkEntries r
def uptoBulkEntry {H : Type} : Lit × DataW H → Nat
  | (.string bytes, d) => bytes.length + uptoBulk d + 1
  | (_, d) => uptoBulk d + 1
 end
def uptoSmall : (H : Type) → List (DataW H) → Bool := fun _ ds => decide (uptoBulkAll ds ≤ 1048576)
def OpenSpec.upto (s : _root_.Go.ChangeSpec) : _root_.Go.OpenSpec := { _root_.Go.OpenSpec.ofChange s with cond := some uptoSmall }

/-- 'laws.FnExactMark', WHERE WHAT IT READS IS OF BULK AT MOST 1048576: true; the input reads as it did. -/
def fnExactMarkUptoRow : OpenClaim := { program := "ytjaaaopbidmknaadoor", sum := "3af1c99786bc24589ea8d77bf860a38e3739a72e9b2eb110bd90b225ffcc62a5", func := "loop.example/g00184/laws.FnExactMark", spec := "fnExactMark", named := ["loop.example/g00184/impl.sumTable"], apart := false, laid := [("loop.example/g00184/impl.sumTable", laid_loop_example_g00184_impl_sumTable)], narrowed := true }
def FnExactMarkUptoSaid : Prop := fnExactMarkUptoRow.holds Tryd.pinned (OpenSpec.upto fnExactMarkSpec)

/-- 'laws.FnExactFilter', WHERE WHAT IT READS IS OF BULK AT MOST 1048576: true; the input reads as it did. -/
def fnExactFilterUptoRow : OpenClaim := { program := "ytjaaaopbidmknaadoor", sum := "3af1c99786bc24589ea8d77bf860a38e3739a72e9b2eb110bd90b225ffcc62a5", func := "loop.example/g00184/laws.FnExactFilter", spec := "fnExactFilter", named := ["loop.example/g00184/impl.sumTable"], apart := false, laid := [("loop.example/g00184/impl.sumTable", laid_loop_example_g00184_impl_sumTable)], narrowed := true }
def FnExactFilterUptoSaid : Prop := fnExactFilterUptoRow.holds Tryd.pinned (OpenSpec.upto fnExactFilterSpec)

/-- 'laws.FnExactMayHave', WHERE WHAT IT READS IS OF BULK AT MOST 1048576: true; the input reads as it did. -/
def fnExactMayHaveUptoRow : OpenClaim := { program := "ytjaaaopbidmknaadoor", sum := "3af1c99786bc24589ea8d77bf860a38e3739a72e9b2eb110bd90b225ffcc62a5", func := "loop.example/g00184/laws.FnExactMayHave", spec := "fnExactMayHave", named := ["loop.example/g00184/impl.sumTable"], apart := false, laid := [("loop.example/g00184/impl.sumTable", laid_loop_example_g00184_impl_sumTable)], narrowed := true }
def FnExactMayHaveUptoSaid : Prop := fnExactMayHaveUptoRow.holds Tryd.pinned (OpenSpec.upto fnExactMayHaveSpec)

/-- 'laws.FnExactPutTable', WHERE WHAT IT READS IS OF BULK AT MOST 1048576: true; the input reads as it did. -/
def fnExactPutTableUptoRow : OpenClaim := { program := "ytjaaaopbidmknaadoor", sum := "3af1c99786bc24589ea8d77bf860a38e3739a72e9b2eb110bd90b225ffcc62a5", func := "loop.example/g00184/laws.FnExactPutTable", spec := "fnExactPutTable", named := ["unicode/utf8.first", "unicode/utf8.acceptRanges", "loop.example/g00184/impl.sumTable"], apart := false, laid := [("unicode/utf8.acceptRanges", laid_unicode_utf8_acceptRanges), ("loop.example/g00184/impl.sumTable", laid_loop_example_g00184_impl_sumTable), ("unicode/utf8.first", laid_unicode_utf8_first)], narrowed := true }
def FnExactPutTableUptoSaid : Prop := fnExactPutTableUptoRow.holds Tryd.pinned (OpenSpec.upto fnExactPutTableSpec)

/-- 'laws.FnExactTableGet', WHERE WHAT IT READS IS OF BULK AT MOST 1048576: true; the input reads as it did. -/
def fnExactTableGetUptoRow : OpenClaim := { program := "ytjaaaopbidmknaadoor", sum := "3af1c99786bc24589ea8d77bf860a38e3739a72e9b2eb110bd90b225ffcc62a5", func := "loop.example/g00184/laws.FnExactTableGet", spec := "fnExactTableGet", inPlace := ["internal/reflectlite.TypeOf"], unfollowed := true, recurses := true, named := ["loop.example/g00184/impl.errNoTable", "loop.example/g00184/impl.errNoPair", "loop.example/g00184/impl.sumTable"], ifaces := true, apart := false, laid := [("loop.example/g00184/impl.sumTable", laid_loop_example_g00184_impl_sumTable), ("loop.example/g00184/impl.errNoTable", laid_loop_example_g00184_impl_errNoTable), ("loop.example/g00184/impl.errNoPair", laid_loop_example_g00184_impl_errNoPair)], narrowed := true }
def FnExactTableGetUptoSaid : Prop := fnExactTableGetUptoRow.holds Tryd.pinned (OpenSpec.upto fnExactTableGetSpec)

/-- 'laws.FnExactTablePairs', WHERE WHAT IT READS IS OF BULK AT MOST 1048576: true; the input reads as it did. -/
def fnExactTablePairsUptoRow : OpenClaim := { program := "ytjaaaopbidmknaadoor", sum := "3af1c99786bc24589ea8d77bf860a38e3739a72e9b2eb110bd90b225ffcc62a5", func := "loop.example/g00184/laws.FnExactTablePairs", spec := "fnExactTablePairs", inPlace := ["internal/reflectlite.TypeOf"], unfollowed := true, recurses := true, named := ["loop.example/g00184/impl.errNoTable", "loop.example/g00184/impl.sumTable", "unicode/utf8.first", "unicode/utf8.acceptRanges"], ifaces := true, apart := false, laid := [("unicode/utf8.acceptRanges", laid_unicode_utf8_acceptRanges), ("loop.example/g00184/impl.sumTable", laid_loop_example_g00184_impl_sumTable), ("loop.example/g00184/impl.errNoTable", laid_loop_example_g00184_impl_errNoTable), ("unicode/utf8.first", laid_unicode_utf8_first)], narrowed := true }
def FnExactTablePairsUptoSaid : Prop := fnExactTablePairsUptoRow.holds Tryd.pinned (OpenSpec.upto fnExactTablePairsSpec)

/-- 'laws.FnTables', WHERE WHAT IT READS IS OF BULK AT MOST 1048576: true; the input reads as it did. -/
def fnTablesUptoRow : OpenClaim := { program := "ytjaaaopbidmknaadoor", sum := "3af1c99786bc24589ea8d77bf860a38e3739a72e9b2eb110bd90b225ffcc62a5", func := "loop.example/g00184/laws.FnTables", spec := "fnTables", inPlace := ["internal/reflectlite.TypeOf"], unfollowed := true, recurses := true, named := ["unicode/utf8.first", "unicode/utf8.acceptRanges", "loop.example/g00184/impl.sumTable", "loop.example/g00184/impl.errNoTable", "loop.example/g00184/impl.errNoPair"], ifaces := true, apart := false, laid := [("unicode/utf8.acceptRanges", laid_unicode_utf8_acceptRanges), ("loop.example/g00184/impl.sumTable", laid_loop_example_g00184_impl_sumTable), ("loop.example/g00184/impl.errNoTable", laid_loop_example_g00184_impl_errNoTable), ("loop.example/g00184/impl.errNoPair", laid_loop_example_g00184_impl_errNoPair), ("unicode/utf8.first", laid_unicode_utf8_first)], narrowed := true }
def FnTablesUptoSaid : Prop := fnTablesUptoRow.holds Tryd.pinned (OpenSpec.upto fnTablesSpec)

/-- 'laws.FnExactMerge', WHERE WHAT IT READS IS OF BULK AT MOST 1048576: true; the input reads as it did. -/
def fnExactMergeUptoRow : OpenClaim := { program := "ytjaaaopbidmknaadoor", sum := "3af1c99786bc24589ea8d77bf860a38e3739a72e9b2eb110bd90b225ffcc62a5", func := "loop.example/g00184/laws.FnExactMerge", spec := "fnExactMerge", unfollowed := true, recurses := true, named := ["unicode/utf8.first", "unicode/utf8.acceptRanges"], apart := false, laid := [("unicode/utf8.acceptRanges", laid_unicode_utf8_acceptRanges), ("unicode/utf8.first", laid_unicode_utf8_first)], narrowed := true }
def FnExactMergeUptoSaid : Prop := fnExactMergeUptoRow.holds Tryd.pinned (OpenSpec.upto fnExactMergeSpec)

/-- 'laws.FnExactRecords', WHERE WHAT IT READS IS OF BULK AT MOST 1048576: true; the input reads as it did. -/
def fnExactRecordsUptoRow : OpenClaim := { program := "ytjaaaopbidmknaadoor", sum := "3af1c99786bc24589ea8d77bf860a38e3739a72e9b2eb110bd90b225ffcc62a5", func := "loop.example/g00184/laws.FnExactRecords", spec := "fnExactRecords", unfollowed := true, recurses := true, named := ["loop.example/g00184/impl.sumTable"], apart := false, laid := [("loop.example/g00184/impl.sumTable", laid_loop_example_g00184_impl_sumTable)], narrowed := true }
def FnExactRecordsUptoSaid : Prop := fnExactRecordsUptoRow.holds Tryd.pinned (OpenSpec.upto fnExactRecordsSpec)

/-- 'laws.FnFrames', WHERE WHAT IT READS IS OF BULK AT MOST 1048576: true; the input reads as it did. -/
def fnFramesUptoRow : OpenClaim := { program := "ytjaaaopbidmknaadoor", sum := "3af1c99786bc24589ea8d77bf860a38e3739a72e9b2eb110bd90b225ffcc62a5", func := "loop.example/g00184/laws.FnFrames", spec := "fnFrames", unfollowed := true, recurses := true, named := ["loop.example/g00184/impl.sumTable"], apart := false, laid := [("loop.example/g00184/impl.sumTable", laid_loop_example_g00184_impl_sumTable)], narrowed := true }
def FnFramesUptoSaid : Prop := fnFramesUptoRow.holds Tryd.pinned (OpenSpec.upto fnFramesSpec)

/-- 'laws.FnExactLeaps', WHERE WHAT IT READS IS OF BULK AT MOST 1048576: true; the input reads as it did. -/
def fnExactLeapsUptoRow : OpenClaim := { program := "ytjaaaopbidmknaadoor", sum := "3af1c99786bc24589ea8d77bf860a38e3739a72e9b2eb110bd90b225ffcc62a5", func := "loop.example/g00184/laws.FnExactLeaps", spec := "fnExactLeaps", unfollowed := true, recurses := true, named := ["unicode/utf8.first", "unicode/utf8.acceptRanges"], apart := false, laid := [("unicode/utf8.acceptRanges", laid_unicode_utf8_acceptRanges), ("unicode/utf8.first", laid_unicode_utf8_first)], narrowed := true }
def FnExactLeapsUptoSaid : Prop := fnExactLeapsUptoRow.holds Tryd.pinned (OpenSpec.upto fnExactLeapsSpec)

end Rows
end Go.Proofs.YtjaaaopbidmknaaDoor
