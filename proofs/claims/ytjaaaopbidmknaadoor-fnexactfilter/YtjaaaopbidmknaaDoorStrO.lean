/-
  Slices of strings as arguments, opened.
-/
import Derived.Test.YtjaaaopbidmknaaDoorPDatO
import Derived.Test.YtjaaaopbidmknaaDoorStrL
namespace Go.Proofs.YtjaaaopbidmknaaDoor
open Go.RowKit
set_option linter.unusedVariables false
set_option maxRecDepth 10000

def rStr : Rep ByteArray := fun _ _ cs s => cs = [.string s] ∧ s.size ≤ 9223372036854775807
section
variable {H : Type} {enc : TypeId × Value → H} {w : World} {base fuel : Nat} {spare : Nat → Bool} {held : Bool} {cs : List Value} {x : DataW H × List MemPlace}

theorem openStr (h : DataW.trod enc Tryd.prog w base spare held fuel 9 cs = some x) : ∃ m, rStr w.heap.size w cs m := by
  obtain ⟨m0, he0, _, hw0⟩ := DataW.trod_string Tryd.underlying9 h
  exact ⟨m0, he0, by simpa [maxLen] using hw0⟩

theorem openStrs (h : DataW.trod enc Tryd.prog w base spare held fuel 25 cs = some x) :
    ∃ a c, ∃ l : List ByteArray, cs = [.slice a l.length c] ∧ rdT w.heap.size w (.slice a l.length c) l ∧ ∀ s, s ∈ l → s.size ≤ 9223372036854775807 := by
  obtain ⟨a, c, l, rfl, h1, h2, h3⟩ := openList (R := rStr) (size := 1) Tryd.underlying25 (by kernel_rfl) (by decide) openStr h
  refine ⟨a, c, l, rfl, ⟨a, c, rfl, h1, h2, fun j hj => ?_⟩, fun s hs => ?_⟩
  · obtain ⟨b, off, rfl, hb, cs', hl, hc, rfl, _⟩ := h3 j hj
    have := hc 0 _ rfl
    exact ⟨b, off, rfl, hb, by simpa using this⟩
  · obtain ⟨j, hj, rfl⟩ := List.getElem_of_mem hs
    obtain ⟨b, off, rfl, hb, cs', hl, hc, _, hz⟩ := h3 j hj
    exact hz
end

end Go.Proofs.YtjaaaopbidmknaaDoor
