/-
  Part 10 of the texts that the proof leans on.
-/
import Derived.Test.YtmigamgcmhdncaaDoorStb7
import Derived.Test.YtmigamgcmhdncaaDoorStb8
set_option linter.unusedVariables false
set_option linter.unusedSimpArgs false
set_option maxRecDepth 10000

namespace Go.Proofs.YtmigamgcmhdncaaDoor
open Go.RowKit

theorem wGraph_deps {m : MGraph} {B : Nat} (hw : wGraph m ≤ B) : ∀ k, (h : k < m.fItems.length) → m.fItems[k].fDeps.length ≤ B := fun k h => by
  have h1 : m.fItems.length + sumW wItem m.fItems ≤ B := hw
  have h2 := sumW_le (f := wItem) h
  have h3 : m.fItems[k].fDeps.length + sumW wDot m.fItems[k].fDeps ≤ sumW wItem m.fItems := h2
  omega
theorem implGraphOk_c (cs : List Value) (m : MGraph) (w : World) (hr : rGraph w.heap.size w cs m) (hw : wGraph m ≤ 1048576) :
    Calls Tryd.prog 28 #[.agg cs.toArray] w fun e w' => e = .returned (.bool (graphP m)) ∧ Below w.heap.size w w' :=
  implGraphOk_any cs m w hr (by omega) (wGraph_deps hw)
end Go.Proofs.YtmigamgcmhdncaaDoor
