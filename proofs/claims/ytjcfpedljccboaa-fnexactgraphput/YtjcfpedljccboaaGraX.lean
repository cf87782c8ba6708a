/-
  GraphPut, both sides, and what its answer weighs.
-/
import Derived.Test.YtjcfpedljccboaaGraU
import Derived.Test.YtjcfpedljccboaaGraW
namespace Go.Proofs.Ytjcfpedljccboaa
open Go.RowKit
set_option linter.unusedVariables false

theorem boundGraphPut_0 (m : MGraph) (it : MItem) (hw : wGraph m ≤ 1048576) (hwi : wItem it ≤ 1048576) : wGraph (putG m it) ≤ 1099511627776 := by
  unfold putG
  cases putOk m it
  · show wGraph m ≤ _; omega
  · have h1 := sumW_ins (l := m.fItems) (p := firstGt it.fD m.fItems) (it := it) wItem
    have h2 := insAt_length (l := m.fItems) (it := it) (firstGt_le it.fD m.fItems)
    have h3 : m.fItems.length + sumW wItem m.fItems ≤ 1048576 := hw
    show (insAt m.fItems (firstGt it.fD m.fItems) it).length + sumW wItem (insAt m.fItems (firstGt it.fD m.fItems) it) ≤ _
    omega

end Go.Proofs.Ytjcfpedljccboaa
