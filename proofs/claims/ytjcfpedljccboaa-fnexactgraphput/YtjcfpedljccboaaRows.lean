/-
  No cell of these rows narrows 'for every input' (looked for: loops, veiled, ifaces, maps, wideKeys, modest, calm, conditions, laid).
  DERIVED. THE GIVEN ROWS OF THIS SEAT. 4 by the template 'for every input the law returns true; each argument reads behind the call as it read before'; 0 by the template 'total and deterministic' (their statements: YtjcfpedljccboaaTotals.lean).
  GIVEN WITH THE SEED: the statements are not yours to turn. If you find one false, say at which input.
  Laid BY PROGRAM, IN A SANDBOX (cutbox-rows.mjs): the forced cells as the released guide's own fill.sh prints them over the translation 573601d7e9e2d9cb… (all of the seat's roots in one cut). By AI agents, Wed Nov 11 2026. No macro, syntax, notation, axiom, sorry.
-/
import Derived.Test.YtjcfpedljccboaaChecked
import GoSem.Claim
import GoSem.ClaimJoined
import GoSem.ClaimMapViews
import Derived.JoinedTies
import Derived.KernelRfl
namespace Go.Proofs.Ytjcfpedljccboaa
/- THE CELL 'sum', in the pinned program and in every row, IS THE sha256 OF THE DUMP (.gsa) THAT YtjcfpedljccboaaProg.lean LOADS. Nothing in Lean hashes anything: it is a label: what it is worth is what the hold of that sum in a sandbox is worth. -/
noncomputable def Try.pinned : Pinned := { name := "ytjcfpedljccboaa", sum := "573601d7e9e2d9cbf75dbdf8b88099d93b9bc07ecb4cc2a715ec314a2990f971", checked := Try.checked }
namespace Rows
def none {H : Type} : Left H := { results := [], args := [] }

/-- 'laws.FnExactDotOk': WHATEVER THE INPUT: true; the input reads as it did. -/
def fnExactDotOkSpec : ChangeSpec := { name := "fnExactDotOk", fn := fun _ => fun
  | [d] => { results := [.lit (.bool true)], args := [d] }
  | _ => none }
def fnExactDotOkRow : OpenClaim := { program := "ytjcfpedljccboaa", sum := "573601d7e9e2d9cbf75dbdf8b88099d93b9bc07ecb4cc2a715ec314a2990f971", func := "loop.example/g00184/laws.FnExactDotOk", spec := "fnExactDotOk", apart := false }
def FnExactDotOkSaid : Prop := fnExactDotOkRow.holds Try.pinned (OpenSpec.ofChange fnExactDotOkSpec)

/-- ITS FALSE NEIGHBOUR: 'it returns false'. Refute it at one input. -/
def fnExactDotOkWrong : ChangeSpec := { name := "fnExactDotOk", fn := fun _ => fun
  | [d] => { results := [.lit (.bool false)], args := [d] }
  | _ => none }
def FnExactDotOkWrongFalsely : Prop := fnExactDotOkRow.holds Try.pinned (OpenSpec.ofChange fnExactDotOkWrong)

/-- 'laws.FnExactDotLess': WHATEVER THE INPUT: true; the input reads as it did. -/
def fnExactDotLessSpec : ChangeSpec := { name := "fnExactDotLess", fn := fun _ => fun
  | [d1, d2] => { results := [.lit (.bool true)], args := [d1, d2] }
  | _ => none }
def fnExactDotLessRow : OpenClaim := { program := "ytjcfpedljccboaa", sum := "573601d7e9e2d9cbf75dbdf8b88099d93b9bc07ecb4cc2a715ec314a2990f971", func := "loop.example/g00184/laws.FnExactDotLess", spec := "fnExactDotLess", apart := false }
def FnExactDotLessSaid : Prop := fnExactDotLessRow.holds Try.pinned (OpenSpec.ofChange fnExactDotLessSpec)

/-- ITS FALSE NEIGHBOUR: 'it returns false'. Refute it at one input. -/
def fnExactDotLessWrong : ChangeSpec := { name := "fnExactDotLess", fn := fun _ => fun
  | [d1, d2] => { results := [.lit (.bool false)], args := [d1, d2] }
  | _ => none }
def FnExactDotLessWrongFalsely : Prop := fnExactDotLessRow.holds Try.pinned (OpenSpec.ofChange fnExactDotLessWrong)

/-- 'laws.FnExactGraphOk': WHATEVER THE INPUT: true; the input reads as it did. -/
def fnExactGraphOkSpec : ChangeSpec := { name := "fnExactGraphOk", fn := fun _ => fun
  | [d] => { results := [.lit (.bool true)], args := [d] }
  | _ => none }
def fnExactGraphOkRow : OpenClaim := { program := "ytjcfpedljccboaa", sum := "573601d7e9e2d9cbf75dbdf8b88099d93b9bc07ecb4cc2a715ec314a2990f971", func := "loop.example/g00184/laws.FnExactGraphOk", spec := "fnExactGraphOk", apart := false }
def FnExactGraphOkSaid : Prop := fnExactGraphOkRow.holds Try.pinned (OpenSpec.ofChange fnExactGraphOkSpec)

/-- ITS FALSE NEIGHBOUR: 'it returns false'. Refute it at one input. -/
def fnExactGraphOkWrong : ChangeSpec := { name := "fnExactGraphOk", fn := fun _ => fun
  | [d] => { results := [.lit (.bool false)], args := [d] }
  | _ => none }
def FnExactGraphOkWrongFalsely : Prop := fnExactGraphOkRow.holds Try.pinned (OpenSpec.ofChange fnExactGraphOkWrong)

/-- 'laws.FnExactGraphPut': WHATEVER THE INPUT: true; the input reads as it did. -/
def fnExactGraphPutSpec : ChangeSpec := { name := "fnExactGraphPut", fn := fun _ => fun
  | [d1, d2] => { results := [.lit (.bool true)], args := [d1, d2] }
  | _ => none }
def fnExactGraphPutRow : OpenClaim := { program := "ytjcfpedljccboaa", sum := "573601d7e9e2d9cbf75dbdf8b88099d93b9bc07ecb4cc2a715ec314a2990f971", func := "loop.example/g00184/laws.FnExactGraphPut", spec := "fnExactGraphPut", unfollowed := true, recurses := true, apart := false }
def FnExactGraphPutSaid : Prop := fnExactGraphPutRow.holds Try.pinned (OpenSpec.ofChange fnExactGraphPutSpec)

/-- ITS FALSE NEIGHBOUR: 'it returns false'. Refute it at one input. -/
def fnExactGraphPutWrong : ChangeSpec := { name := "fnExactGraphPut", fn := fun _ => fun
  | [d1, d2] => { results := [.lit (.bool false)], args := [d1, d2] }
  | _ => none }
def FnExactGraphPutWrongFalsely : Prop := fnExactGraphPutRow.holds Try.pinned (OpenSpec.ofChange fnExactGraphPutWrong)

/- THE SECOND FORM. 'bulk': how many values and letters a reading holds, each counted each time it is reached (what is shared counts as often as it is met; a slice's spare places count too). A statement '..UptoSaid' is the law's where the arguments, and the package variables that the reading takes, are together of bulk at most 1048576: NARROWER than '..Said'. Prove '..Said' where nothing that the law and all that it calls make is longer than what came in: it says more and counts as full. Else prove '..UptoSaid'. A law counts once. -/
mutual
def uptoBulk {H : Type} : DataW H → Nat
  | .lit (.string bytes) => bytes.length + 1
  | .lit _ => 1
  | .nil => 1
  | .ptr d => uptoBulk d + 1
  | .slice elems spare => uptoBulkAll elems + uptoBulkAll spare + 1
  | .agg parts => uptoBulkAll parts + 1
  | .iface _ d => uptoBulk d + 1
  | .map entries => uptoBulkEntries entries + 1
  | .held _ => 1
def uptoBulkAll {H : Type} : List (DataW H) → Nat
  | [] => 0
  | d :: r => uptoBulk d + uptoBulkAll r
def uptoBulkEntries {H : Type} : List (Lit × DataW H) → Nat
  | [] => 0
  | x :: r => uptoBulkEntry x + uptoBulkEntries r
def uptoBulkEntry {H : Type} : Lit × DataW H → Nat
  | (.string bytes, d) => bytes.length + uptoBulk d + 1
  | (_, d) => uptoBulk d + 1
 end
def uptoSmall : (H : Type) → List (DataW H) → Bool := fun _ ds => decide (uptoBulkAll ds ≤ 1048576)
def OpenSpec.upto (s : _root_.Go.ChangeSpec) : _root_.Go.OpenSpec := { _root_.Go.OpenSpec.ofChange s with cond := some uptoSmall }

/-- 'laws.FnExactDotOk', WHERE WHAT IT READS IS OF BULK AT MOST 1048576: true; the input reads as it did. -/
def fnExactDotOkUptoRow : OpenClaim := { program := "ytjcfpedljccboaa", sum := "573601d7e9e2d9cbf75dbdf8b88099d93b9bc07ecb4cc2a715ec314a2990f971", func := "loop.example/g00184/laws.FnExactDotOk", spec := "fnExactDotOk", apart := false, narrowed := true }
def FnExactDotOkUptoSaid : Prop := fnExactDotOkUptoRow.holds Try.pinned (OpenSpec.upto fnExactDotOkSpec)

/-- 'laws.FnExactDotLess', WHERE WHAT IT READS IS OF BULK AT MOST 1048576: true; the input reads as it did. -/
def fnExactDotLessUptoRow : OpenClaim := { program := "ytjcfpedljccboaa", sum := "573601d7e9e2d9cbf75dbdf8b88099d93b9bc07ecb4cc2a715ec314a2990f971", func := "loop.example/g00184/laws.FnExactDotLess", spec := "fnExactDotLess", apart := false, narrowed := true }
def FnExactDotLessUptoSaid : Prop := fnExactDotLessUptoRow.holds Try.pinned (OpenSpec.upto fnExactDotLessSpec)

/-- 'laws.FnExactGraphOk', WHERE WHAT IT READS IS OF BULK AT MOST 1048576: true; the input reads as it did. -/
def fnExactGraphOkUptoRow : OpenClaim := { program := "ytjcfpedljccboaa", sum := "573601d7e9e2d9cbf75dbdf8b88099d93b9bc07ecb4cc2a715ec314a2990f971", func := "loop.example/g00184/laws.FnExactGraphOk", spec := "fnExactGraphOk", apart := false, narrowed := true }
def FnExactGraphOkUptoSaid : Prop := fnExactGraphOkUptoRow.holds Try.pinned (OpenSpec.upto fnExactGraphOkSpec)

/-- 'laws.FnExactGraphPut', WHERE WHAT IT READS IS OF BULK AT MOST 1048576: true; the input reads as it did. -/
def fnExactGraphPutUptoRow : OpenClaim := { program := "ytjcfpedljccboaa", sum := "573601d7e9e2d9cbf75dbdf8b88099d93b9bc07ecb4cc2a715ec314a2990f971", func := "loop.example/g00184/laws.FnExactGraphPut", spec := "fnExactGraphPut", unfollowed := true, recurses := true, apart := false, narrowed := true }
def FnExactGraphPutUptoSaid : Prop := fnExactGraphPutUptoRow.holds Try.pinned (OpenSpec.upto fnExactGraphPutSpec)

end Rows
end Go.Proofs.Ytjcfpedljccboaa
