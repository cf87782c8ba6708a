/-
  Pairs, as plain functions; no program is named here.
-/
import Derived.Test.YtadadkookbkkoaaDoorStrM
import Derived.Test.YtadadkookbkkoaaDoorPDatP
namespace Go.Proofs.YtadadkookbkkoaaDoor
open Go.RowKit
set_option linter.unusedVariables false
set_option linter.unusedSimpArgs false

def inR (x a b : Int) : Bool := decide (a ≤ x ∧ x ≤ b)
def keyOkP (s : ByteArray) : Bool := decide (1 ≤ s.size ∧ s.size ≤ 20)
def pairOkP (m : MPair) : Bool := keyOkP m.fKey && decide (m.fVal.size ≤ 20) && (!m.fGone || decide (m.fVal.size = 0))

end Go.Proofs.YtadadkookbkkoaaDoor
