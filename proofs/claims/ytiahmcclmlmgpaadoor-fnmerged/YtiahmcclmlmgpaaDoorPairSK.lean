/-
  Slices of slices of pairs: how they are read, and owned; no law's helper is named here.
-/
import Derived.Test.YtiahmcclmlmgpaaDoorPairK
namespace Go.Proofs.YtiahmcclmlmgpaaDoor
open Go.RowKit
set_option linter.unusedVariables false
set_option linter.unusedSimpArgs false
set_option maxRecDepth 10000

def rPr : Rep (List MPair) := fun B w cs l => ∃ a c, cs = [.slice a l.length c] ∧ LeafL 3 rPair B w a c l
theorem rPr_good : rPr.Good := ⟨fun ⟨a, c, e, h⟩ hb => ⟨a, c, e, h.below rPair_good hb⟩, fun ⟨a, c, e, h⟩ hB => ⟨a, c, e, LeafL.mono rPair_good h hB⟩⟩
def oPr : ORep (List MPair) := fun w cs l F => ∃ v, cs = [v] ∧ ownS 3 31 oPair w v l F
theorem oPr_good : oPr.Good rPr 1 := by
  refine ⟨?_, ?_, ?_, ?_⟩
  · rintro w w' cs m F ⟨v, rfl, h⟩ hb
    exact ⟨v, rfl, ownS.frame oPair_good h hb⟩
  · rintro w cs m F ⟨v, rfl, h⟩ k hk
    exact ownS.lt oPair_good h k hk
  · rintro w cs m F ⟨v, rfl, h⟩
    obtain ⟨a, c, rfl, hl⟩ := ownS.read oPair_good h
    exact ⟨a, c, rfl, hl⟩
  · rintro w cs m F ⟨v, rfl, h⟩
    rfl
def rdPss (B : Nat) (w : World) (v : Value) (l : List (List MPair)) : Prop := ∃ a c, v = .slice a l.length c ∧ LeafL 1 rPr B w a c l
theorem rdPss.below {B : Nat} {w w' : World} {v : Value} {l : List (List MPair)} (h : rdPss B w v l) (hb : Below B w w') : rdPss B w' v l := by
  obtain ⟨a, c, e, h1⟩ := h
  exact ⟨a, c, e, h1.below rPr_good hb⟩
theorem rdPss.mono {B B' : Nat} {w : World} {v : Value} {l : List (List MPair)} (h : rdPss B w v l) (hB : B ≤ B') : rdPss B' w v l := by
  obtain ⟨a, c, e, h1⟩ := h
  exact ⟨a, c, e, LeafL.mono rPr_good h1 hB⟩
theorem rdPss_own {e : TypeId} {w : World} {v : Value} {l : List (List MPair)} {F : List Nat} (h : ownS 1 e oPr w v l F) : rdPss w.heap.size w v l := ownS.read oPr_good h
def wPss (l : List (List MPair)) : Nat := l.length + sumW wPs l
theorem wPss_mem {l : List (List MPair)} {k : Nat} (h : k < l.length) : wPs l[k] ≤ wPss l := by
  have h1 := sumW_le (f := wPs) h
  unfold wPss
  omega


end Go.Proofs.YtiahmcclmlmgpaaDoor
