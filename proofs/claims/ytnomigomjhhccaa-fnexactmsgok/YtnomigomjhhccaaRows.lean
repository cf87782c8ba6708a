/-
  No cell of these rows narrows 'for every input' (looked for: loops, veiled, ifaces, maps, wideKeys, modest, calm, conditions, laid).
  DERIVED. THE GIVEN ROWS OF THIS SEAT. 8 by the template 'for every input the law returns true; each argument reads behind the call as it read before'; 0 by the template 'total and deterministic' (their statements: YtnomigomjhhccaaTotals.lean).
  GIVEN WITH THE SEED: the statements are not yours to turn. If you find one false, say at which input.
  Laid BY PROGRAM, IN A SANDBOX (cutbox-rows.mjs): the forced cells as the released guide's own fill.sh prints them over the translation 015a6608e1579f90… (all of the seat's roots in one cut). By AI agents, Wed Nov 11 2026. No macro, syntax, notation, axiom, sorry.
-/
import Derived.Test.YtnomigomjhhccaaChecked
import GoSem.Claim
import GoSem.ClaimJoined
import GoSem.ClaimMapViews
import Derived.JoinedTies
import Derived.KernelRfl
namespace Go.Proofs.Ytnomigomjhhccaa
/- THE CELL 'sum', in the pinned program and in every row, IS THE sha256 OF THE DUMP (.gsa) THAT YtnomigomjhhccaaProg.lean LOADS. Nothing in Lean hashes anything: it is a label: what it is worth is what the hold of that sum in a sandbox is worth. -/
noncomputable def Try.pinned : Pinned := { name := "ytnomigomjhhccaa", sum := "015a6608e1579f90c2a7bf1df1e4f8ebed640e05ea017b2832334308439413aa", checked := Try.checked }
namespace Rows
def none {H : Type} : Left H := { results := [], args := [] }

/-- 'laws.FnExactCmdOk': WHATEVER THE INPUT: true; the input reads as it did. -/
def fnExactCmdOkSpec : ChangeSpec := { name := "fnExactCmdOk", fn := fun _ => fun
  | [d] => { results := [.lit (.bool true)], args := [d] }
  | _ => none }
def fnExactCmdOkRow : OpenClaim := { program := "ytnomigomjhhccaa", sum := "015a6608e1579f90c2a7bf1df1e4f8ebed640e05ea017b2832334308439413aa", func := "loop.example/g00184/laws.FnExactCmdOk", spec := "fnExactCmdOk", apart := false }
def FnExactCmdOkSaid : Prop := fnExactCmdOkRow.holds Try.pinned (OpenSpec.ofChange fnExactCmdOkSpec)

/-- ITS FALSE NEIGHBOUR: 'it returns false'. Refute it at one input. -/
def fnExactCmdOkWrong : ChangeSpec := { name := "fnExactCmdOk", fn := fun _ => fun
  | [d] => { results := [.lit (.bool false)], args := [d] }
  | _ => none }
def FnExactCmdOkWrongFalsely : Prop := fnExactCmdOkRow.holds Try.pinned (OpenSpec.ofChange fnExactCmdOkWrong)

/-- 'laws.FnExactMeet': WHATEVER THE INPUT: true; the input reads as it did. -/
def fnExactMeetSpec : ChangeSpec := { name := "fnExactMeet", fn := fun _ => fun
  | [d1, d2] => { results := [.lit (.bool true)], args := [d1, d2] }
  | _ => none }
def fnExactMeetRow : OpenClaim := { program := "ytnomigomjhhccaa", sum := "015a6608e1579f90c2a7bf1df1e4f8ebed640e05ea017b2832334308439413aa", func := "loop.example/g00184/laws.FnExactMeet", spec := "fnExactMeet", apart := false }
def FnExactMeetSaid : Prop := fnExactMeetRow.holds Try.pinned (OpenSpec.ofChange fnExactMeetSpec)

/-- ITS FALSE NEIGHBOUR: 'it returns false'. Refute it at one input. -/
def fnExactMeetWrong : ChangeSpec := { name := "fnExactMeet", fn := fun _ => fun
  | [d1, d2] => { results := [.lit (.bool false)], args := [d1, d2] }
  | _ => none }
def FnExactMeetWrongFalsely : Prop := fnExactMeetRow.holds Try.pinned (OpenSpec.ofChange fnExactMeetWrong)

/-- 'laws.FnExactReplicaNew': WHATEVER THE INPUT: true; the input reads as it did. -/
def fnExactReplicaNewSpec : ChangeSpec := { name := "fnExactReplicaNew", fn := fun _ => fun
  | [d1, d2] => { results := [.lit (.bool true)], args := [d1, d2] }
  | _ => none }
def fnExactReplicaNewRow : OpenClaim := { program := "ytnomigomjhhccaa", sum := "015a6608e1579f90c2a7bf1df1e4f8ebed640e05ea017b2832334308439413aa", func := "loop.example/g00184/laws.FnExactReplicaNew", spec := "fnExactReplicaNew", apart := false }
def FnExactReplicaNewSaid : Prop := fnExactReplicaNewRow.holds Try.pinned (OpenSpec.ofChange fnExactReplicaNewSpec)

/-- ITS FALSE NEIGHBOUR: 'it returns false'. Refute it at one input. -/
def fnExactReplicaNewWrong : ChangeSpec := { name := "fnExactReplicaNew", fn := fun _ => fun
  | [d1, d2] => { results := [.lit (.bool false)], args := [d1, d2] }
  | _ => none }
def FnExactReplicaNewWrongFalsely : Prop := fnExactReplicaNewRow.holds Try.pinned (OpenSpec.ofChange fnExactReplicaNewWrong)

/-- 'laws.FnExactDotOk': WHATEVER THE INPUT: true; the input reads as it did. -/
def fnExactDotOkSpec : ChangeSpec := { name := "fnExactDotOk", fn := fun _ => fun
  | [d] => { results := [.lit (.bool true)], args := [d] }
  | _ => none }
def fnExactDotOkRow : OpenClaim := { program := "ytnomigomjhhccaa", sum := "015a6608e1579f90c2a7bf1df1e4f8ebed640e05ea017b2832334308439413aa", func := "loop.example/g00184/laws.FnExactDotOk", spec := "fnExactDotOk", apart := false }
def FnExactDotOkSaid : Prop := fnExactDotOkRow.holds Try.pinned (OpenSpec.ofChange fnExactDotOkSpec)

/-- ITS FALSE NEIGHBOUR: 'it returns false'. Refute it at one input. -/
def fnExactDotOkWrong : ChangeSpec := { name := "fnExactDotOk", fn := fun _ => fun
  | [d] => { results := [.lit (.bool false)], args := [d] }
  | _ => none }
def FnExactDotOkWrongFalsely : Prop := fnExactDotOkRow.holds Try.pinned (OpenSpec.ofChange fnExactDotOkWrong)

/-- 'laws.FnExactDotLess': WHATEVER THE INPUT: true; the input reads as it did. -/
def fnExactDotLessSpec : ChangeSpec := { name := "fnExactDotLess", fn := fun _ => fun
  | [d1, d2] => { results := [.lit (.bool true)], args := [d1, d2] }
  | _ => none }
def fnExactDotLessRow : OpenClaim := { program := "ytnomigomjhhccaa", sum := "015a6608e1579f90c2a7bf1df1e4f8ebed640e05ea017b2832334308439413aa", func := "loop.example/g00184/laws.FnExactDotLess", spec := "fnExactDotLess", apart := false }
def FnExactDotLessSaid : Prop := fnExactDotLessRow.holds Try.pinned (OpenSpec.ofChange fnExactDotLessSpec)

/-- ITS FALSE NEIGHBOUR: 'it returns false'. Refute it at one input. -/
def fnExactDotLessWrong : ChangeSpec := { name := "fnExactDotLess", fn := fun _ => fun
  | [d1, d2] => { results := [.lit (.bool false)], args := [d1, d2] }
  | _ => none }
def FnExactDotLessWrongFalsely : Prop := fnExactDotLessRow.holds Try.pinned (OpenSpec.ofChange fnExactDotLessWrong)

/-- 'laws.FnExactGraphOk': WHATEVER THE INPUT: true; the input reads as it did. -/
def fnExactGraphOkSpec : ChangeSpec := { name := "fnExactGraphOk", fn := fun _ => fun
  | [d] => { results := [.lit (.bool true)], args := [d] }
  | _ => none }
def fnExactGraphOkRow : OpenClaim := { program := "ytnomigomjhhccaa", sum := "015a6608e1579f90c2a7bf1df1e4f8ebed640e05ea017b2832334308439413aa", func := "loop.example/g00184/laws.FnExactGraphOk", spec := "fnExactGraphOk", apart := false }
def FnExactGraphOkSaid : Prop := fnExactGraphOkRow.holds Try.pinned (OpenSpec.ofChange fnExactGraphOkSpec)

/-- ITS FALSE NEIGHBOUR: 'it returns false'. Refute it at one input. -/
def fnExactGraphOkWrong : ChangeSpec := { name := "fnExactGraphOk", fn := fun _ => fun
  | [d] => { results := [.lit (.bool false)], args := [d] }
  | _ => none }
def FnExactGraphOkWrongFalsely : Prop := fnExactGraphOkRow.holds Try.pinned (OpenSpec.ofChange fnExactGraphOkWrong)

/-- 'laws.FnExactGraphPut': WHATEVER THE INPUT: true; the input reads as it did. -/
def fnExactGraphPutSpec : ChangeSpec := { name := "fnExactGraphPut", fn := fun _ => fun
  | [d1, d2] => { results := [.lit (.bool true)], args := [d1, d2] }
  | _ => none }
def fnExactGraphPutRow : OpenClaim := { program := "ytnomigomjhhccaa", sum := "015a6608e1579f90c2a7bf1df1e4f8ebed640e05ea017b2832334308439413aa", func := "loop.example/g00184/laws.FnExactGraphPut", spec := "fnExactGraphPut", unfollowed := true, recurses := true, apart := false }
def FnExactGraphPutSaid : Prop := fnExactGraphPutRow.holds Try.pinned (OpenSpec.ofChange fnExactGraphPutSpec)

/-- ITS FALSE NEIGHBOUR: 'it returns false'. Refute it at one input. -/
def fnExactGraphPutWrong : ChangeSpec := { name := "fnExactGraphPut", fn := fun _ => fun
  | [d1, d2] => { results := [.lit (.bool false)], args := [d1, d2] }
  | _ => none }
def FnExactGraphPutWrongFalsely : Prop := fnExactGraphPutRow.holds Try.pinned (OpenSpec.ofChange fnExactGraphPutWrong)

/-- 'laws.FnExactMsgOk': WHATEVER THE INPUT: true; the input reads as it did. -/
def fnExactMsgOkSpec : ChangeSpec := { name := "fnExactMsgOk", fn := fun _ => fun
  | [d1, d2] => { results := [.lit (.bool true)], args := [d1, d2] }
  | _ => none }
def fnExactMsgOkRow : OpenClaim := { program := "ytnomigomjhhccaa", sum := "015a6608e1579f90c2a7bf1df1e4f8ebed640e05ea017b2832334308439413aa", func := "loop.example/g00184/laws.FnExactMsgOk", spec := "fnExactMsgOk", unfollowed := true, recurses := true, apart := false }
def FnExactMsgOkSaid : Prop := fnExactMsgOkRow.holds Try.pinned (OpenSpec.ofChange fnExactMsgOkSpec)

/-- ITS FALSE NEIGHBOUR: 'it returns false'. Refute it at one input. -/
def fnExactMsgOkWrong : ChangeSpec := { name := "fnExactMsgOk", fn := fun _ => fun
  | [d1, d2] => { results := [.lit (.bool false)], args := [d1, d2] }
  | _ => none }
def FnExactMsgOkWrongFalsely : Prop := fnExactMsgOkRow.holds Try.pinned (OpenSpec.ofChange fnExactMsgOkWrong)

/- THE SECOND FORM. 'bulk': how many values and letters a reading holds, each counted each time it is reached (what is shared counts as often as it is met; a slice's spare places count too). A statement '..UptoSaid' is the law's where the arguments, and the package variables that the reading takes, are together of bulk at most 1048576: NARROWER than '..Said'. Prove '..Said' where nothing that the law and all that it calls make is longer than what came in: it says more and counts as full. Else prove '..UptoSaid'. A law counts once. -/
mutual
def uptoBulk {H : Type} : DataW H → Nat
  | .lit (.string bytes) => bytes.length + 1
  | .lit _ => 1
  | .nil => 1
  | .ptr d => uptoBulk d + 1
  | .slice elems spare => uptoBulkAll elems + uptoBulkAll spare + 1
  | .agg parts => uptoBulkAll parts + 1
  | .iface _ d => uptoBulk d + 1
  | .map entries => uptoBulkEntries entries + 1
  | .held _ => 1
def uptoBulkAll {H : Type} : List (DataW H) → Nat
  | [] => 0
  | d :: r => uptoBulk d + uptoBulkAll r
def uptoBulkEntries {H : Type} : List (Lit × DataW H) → Nat
  | [] => 0
  | x :: r => uptoBulkEntry x + uptoBulkEntries r
def uptoBulkEntry {H : Type} : Lit × DataW H → Nat
  | (.string bytes, d) => bytes.length + uptoBulk d + 1
  | (_, d) => uptoBulk d + 1
 end
def uptoSmall : (H : Type) → List (DataW H) → Bool := fun _ ds => decide (uptoBulkAll ds ≤ 1048576)
def OpenSpec.upto (s : _root_.Go.ChangeSpec) : _root_.Go.OpenSpec := { _root_.Go.OpenSpec.ofChange s with cond := some uptoSmall }

/-- 'laws.FnExactCmdOk', WHERE WHAT IT READS IS OF BULK AT MOST 1048576: true; the input reads as it did. -/
def fnExactCmdOkUptoRow : OpenClaim := { program := "ytnomigomjhhccaa", sum := "015a6608e1579f90c2a7bf1df1e4f8ebed640e05ea017b2832334308439413aa", func := "loop.example/g00184/laws.FnExactCmdOk", spec := "fnExactCmdOk", apart := false, narrowed := true }
def FnExactCmdOkUptoSaid : Prop := fnExactCmdOkUptoRow.holds Try.pinned (OpenSpec.upto fnExactCmdOkSpec)

/-- 'laws.FnExactMeet', WHERE WHAT IT READS IS OF BULK AT MOST 1048576: true; the input reads as it did. -/
def fnExactMeetUptoRow : OpenClaim := { program := "ytnomigomjhhccaa", sum := "015a6608e1579f90c2a7bf1df1e4f8ebed640e05ea017b2832334308439413aa", func := "loop.example/g00184/laws.FnExactMeet", spec := "fnExactMeet", apart := false, narrowed := true }
def FnExactMeetUptoSaid : Prop := fnExactMeetUptoRow.holds Try.pinned (OpenSpec.upto fnExactMeetSpec)

/-- 'laws.FnExactReplicaNew', WHERE WHAT IT READS IS OF BULK AT MOST 1048576: true; the input reads as it did. -/
def fnExactReplicaNewUptoRow : OpenClaim := { program := "ytnomigomjhhccaa", sum := "015a6608e1579f90c2a7bf1df1e4f8ebed640e05ea017b2832334308439413aa", func := "loop.example/g00184/laws.FnExactReplicaNew", spec := "fnExactReplicaNew", apart := false, narrowed := true }
def FnExactReplicaNewUptoSaid : Prop := fnExactReplicaNewUptoRow.holds Try.pinned (OpenSpec.upto fnExactReplicaNewSpec)

/-- 'laws.FnExactDotOk', WHERE WHAT IT READS IS OF BULK AT MOST 1048576: true; the input reads as it did. -/
def fnExactDotOkUptoRow : OpenClaim := { program := "ytnomigomjhhccaa", sum := "015a6608e1579f90c2a7bf1df1e4f8ebed640e05ea017b2832334308439413aa", func := "loop.example/g00184/laws.FnExactDotOk", spec := "fnExactDotOk", apart := false, narrowed := true }
def FnExactDotOkUptoSaid : Prop := fnExactDotOkUptoRow.holds Try.pinned (OpenSpec.upto fnExactDotOkSpec)

/-- 'laws.FnExactDotLess', WHERE WHAT IT READS IS OF BULK AT MOST 1048576: true; the input reads as it did. -/
def fnExactDotLessUptoRow : OpenClaim := { program := "ytnomigomjhhccaa", sum := "015a6608e1579f90c2a7bf1df1e4f8ebed640e05ea017b2832334308439413aa", func := "loop.example/g00184/laws.FnExactDotLess", spec := "fnExactDotLess", apart := false, narrowed := true }
def FnExactDotLessUptoSaid : Prop := fnExactDotLessUptoRow.holds Try.pinned (OpenSpec.upto fnExactDotLessSpec)

/-- 'laws.FnExactGraphOk', WHERE WHAT IT READS IS OF BULK AT MOST 1048576: true; the input reads as it did. -/
def fnExactGraphOkUptoRow : OpenClaim := { program := "ytnomigomjhhccaa", sum := "015a6608e1579f90c2a7bf1df1e4f8ebed640e05ea017b2832334308439413aa", func := "loop.example/g00184/laws.FnExactGraphOk", spec := "fnExactGraphOk", apart := false, narrowed := true }
def FnExactGraphOkUptoSaid : Prop := fnExactGraphOkUptoRow.holds Try.pinned (OpenSpec.upto fnExactGraphOkSpec)

/-- 'laws.FnExactGraphPut', WHERE WHAT IT READS IS OF BULK AT MOST 1048576: true; the input reads as it did. -/
def fnExactGraphPutUptoRow : OpenClaim := { program := "ytnomigomjhhccaa", sum := "015a6608e1579f90c2a7bf1df1e4f8ebed640e05ea017b2832334308439413aa", func := "loop.example/g00184/laws.FnExactGraphPut", spec := "fnExactGraphPut", unfollowed := true, recurses := true, apart := false, narrowed := true }
def FnExactGraphPutUptoSaid : Prop := fnExactGraphPutUptoRow.holds Try.pinned (OpenSpec.upto fnExactGraphPutSpec)

/-- 'laws.FnExactMsgOk', WHERE WHAT IT READS IS OF BULK AT MOST 1048576: true; the input reads as it did. -/
def fnExactMsgOkUptoRow : OpenClaim := { program := "ytnomigomjhhccaa", sum := "015a6608e1579f90c2a7bf1df1e4f8ebed640e05ea017b2832334308439413aa", func := "loop.example/g00184/laws.FnExactMsgOk", spec := "fnExactMsgOk", unfollowed := true, recurses := true, apart := false, narrowed := true }
def FnExactMsgOkUptoSaid : Prop := fnExactMsgOkUptoRow.holds Try.pinned (OpenSpec.upto fnExactMsgOkSpec)

end Rows
end Go.Proofs.Ytnomigomjhhccaa
