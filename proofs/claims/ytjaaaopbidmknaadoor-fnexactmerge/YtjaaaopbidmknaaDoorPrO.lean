/-
  Slices of slices of pairs as arguments, opened.
-/
import Derived.Test.YtjaaaopbidmknaaDoorPDatO
import Derived.Test.YtjaaaopbidmknaaDoorPairSS
namespace Go.Proofs.YtjaaaopbidmknaaDoor
open Go.RowKit
set_option linter.unusedVariables false
set_option maxRecDepth 10000

section
variable {H : Type} {enc : TypeId × Value → H} {w : World} {base fuel : Nat} {spare : Nat → Bool} {held : Bool} {cs : List Value} {x : DataW H × List MemPlace}

theorem openPr (h : DataW.trod enc Tryd.prog w base spare held fuel 36 cs = some x) : ∃ m, rPr w.heap.size w cs m := by
  obtain ⟨a, c, l, rfl, hl⟩ := openList (R := rPair) (size := 3) Tryd.underlying36 (by kernel_rfl) (by decide) openPair h
  exact ⟨l, a, c, rfl, hl⟩

theorem openPrs (h : DataW.trod enc Tryd.prog w base spare held fuel 56 cs = some x) :
    ∃ a c, ∃ l : List (List MPair), cs = [.slice a l.length c] ∧ LeafL 1 rPr w.heap.size w a c l :=
  openList (R := rPr) (size := 1) Tryd.underlying56 (by kernel_rfl) (by decide) openPr h
end

end Go.Proofs.YtjaaaopbidmknaaDoor
