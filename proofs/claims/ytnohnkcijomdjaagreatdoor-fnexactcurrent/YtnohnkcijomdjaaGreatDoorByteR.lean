/-
  Slices of bytes, read.
-/
import Derived.Test.YtnohnkcijomdjaaGreatDoorDatN
namespace Go.Proofs.YtnohnkcijomdjaaGreatDoor
open Go.RowKit
set_option linter.unusedVariables false
set_option linter.unusedSimpArgs false

def rdB (B : Nat) (w : World) (v : Value) (zs : List Int) : Prop := ∃ a c, v = .slice a zs.length c ∧ LeafB B w a c zs
theorem rdB.below {B : Nat} {w w' : World} {v : Value} {zs : List Int} (h : rdB B w v zs) (hb : Below B w w') : rdB B w' v zs := by
  obtain ⟨a, c, e, h1⟩ := h
  exact ⟨a, c, e, h1.below hb⟩
theorem rdB.mono {B B' : Nat} {w : World} {v : Value} {zs : List Int} (h : rdB B w v zs) (hB : B ≤ B') : rdB B' w v zs := by
  obtain ⟨a, c, e, h1⟩ := h
  exact ⟨a, c, e, h1.mono hB⟩
theorem rdB_own {e : TypeId} {w : World} {v : Value} {zs : List Int} {F : List Nat} (h : ownB e w v zs F) : rdB w.heap.size w v zs := h.read

end Go.Proofs.YtnohnkcijomdjaaGreatDoor
