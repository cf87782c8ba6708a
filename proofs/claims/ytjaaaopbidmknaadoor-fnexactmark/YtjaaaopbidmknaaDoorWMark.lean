/-
  The exact law of Mark: at every key both answers are the same two numbers.
-/
import Derived.Test.YtjaaaopbidmknaaDoorMark
namespace Go.Proofs.YtjaaaopbidmknaaDoor
open Go.RowKit
set_option linter.unusedVariables false
set_option linter.unusedSimpArgs false

set_option maxHeartbeats 400000 in
theorem law_FnExactMark (m0 : ByteArray) (w : World) (hs0 : m0.size ≤ 9223372036854775807) (ht : TabAt w) :
    Calls Tryd.prog 3 #[.string m0] w fun e w' => e = .returned (.bool true) ∧ Below w.heap.size w w' := by
  have hsz : 0 < w.heap.size := ht.size
  by_cases hbig : 1048576 < m0.size
  · go_enter Tryd.func3, Tryd.ntmps3
    go_wp2_with fail
    go_ret
    exact ⟨rfl, Below.refl _ _⟩
  · go_enter Tryd.func3, Tryd.ntmps3
    go_wp2_with fail
    refine (specMark_any m0 _ (by omega)).mono ?_
    rintro e w1 ⟨rfl, hb1⟩
    have h1 := mk1_bd m0
    have h2 := mk2_bd m0
    have HM := implMark_any m0 w1 (by omega) (ht.below hb1 hsz)
    generalize mk1 m0 = x1 at *
    generalize mk2 m0 = x2 at *
    go_wp2_with fail
    refine HM.mono ?_
    rintro e w2 ⟨rfl, hb2⟩
    have hB2 := hb1.trans (hb2.mono hb1.size)
    go_wp2_with fail
    go_ret
    exact ⟨rfl, hB2⟩

end Go.Proofs.YtjaaaopbidmknaaDoor
