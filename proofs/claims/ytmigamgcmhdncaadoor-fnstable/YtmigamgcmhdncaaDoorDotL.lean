/-
  Lists of dots: read, compared, marked, found again.
-/
import Derived.Test.YtmigamgcmhdncaaDoorGDatE
import Derived.Test.YtmigamgcmhdncaaDoorGDatN
import Derived.Test.YtmigamgcmhdncaaDoorCatDot
namespace Go.Proofs.YtmigamgcmhdncaaDoor
open Go.RowKit
set_option linter.unusedVariables false
set_option linter.unusedSimpArgs false
set_option maxRecDepth 10000

def wDs (l : List MDot) : Nat := l.length + sumW wDot l
def rdDs (B : Nat) (w : World) (v : Value) (l : List MDot) : Prop := ∃ a c, v = .slice a l.length c ∧ LeafL 2 rDot B w a c l
theorem rdDs.below {B : Nat} {w w' : World} {v : Value} {l : List MDot} (h : rdDs B w v l) (hb : Below B w w') : rdDs B w' v l := by
  obtain ⟨a, c, e, h1⟩ := h
  exact ⟨a, c, e, h1.below rDot_good hb⟩
theorem rdDs.mono {B B' : Nat} {w : World} {v : Value} {l : List MDot} (h : rdDs B w v l) (hB : B ≤ B') : rdDs B' w v l := by
  obtain ⟨a, c, e, h1⟩ := h
  exact ⟨a, c, e, LeafL.mono rDot_good h1 hB⟩
theorem rdDs_own {e : TypeId} {w : World} {v : Value} {l : List MDot} {F : List Nat} (h : ownS 2 e oDot w v l F) : rdDs w.heap.size w v l := ownS.read oDot_good h
theorem rdDs_row {B : Nat} {w : World} {base e : Nat} {v : Value} {l : List MDot} (h : RowR 2 e rDot B w base v l) (hB : B ≤ w.heap.size) : rdDs w.heap.size w v l := by
  obtain ⟨a, c, rfl, hL⟩ := RowR.leaf rDot_good h hB
  exact ⟨a, c, rfl, hL⟩
theorem tcntDs_le (l : List MDot) : sumW cntDot l ≤ 32 * wDs l := sumW_cnt_le cntDot_le l
theorem sumW_dots (l : List MDot) : sumW wDot l = 0 := by
  induction l with
  | nil => rfl
  | cons a r ih => simp only [sumW, ih]; rfl
theorem eqDotS_yes_r (v1 v2 : Value) (l : List MDot) (w : World) (h1 : rdDs w.heap.size w v1 l) (h2 : rdDs w.heap.size w v2 l) (hsz : wDs l ≤ 1099511627776) :
    Calls Tryd.prog 13 #[v1, v2] w fun e w' => e = .returned (.bool true) ∧ Below w.heap.size w w' := by
  obtain ⟨a, c, rfl, ha⟩ := h1
  obtain ⟨b, d, rfl, hb⟩ := h2
  exact eqDotS_yes a b _ c d l w rfl ha hb hsz
theorem markDotS_r (v : Value) (l : List MDot) (F : List Nat) (q : Int) (w : World) (hq : 0 ≤ q) (hq2 : q + sumW cntDot l ≤ 70368744177664) (ho : ownS 2 40 oDot w v l F) (hN : F.Nodup) :
    Calls Tryd.prog 16 #[v, .int .i64 q] w fun e w' => ∃ (m' : List MDot) (q' : Int), e = .returned (.int .i64 q') ∧ q ≤ q' ∧ q' ≤ 70368744177664 ∧ ownS 2 40 oDot w' v m' F ∧ hdS hdDot m' q q' ∧ Turn F w w' := by
  refine (markDotS_any v l F q w hq hq2 ho hN).mono ?_
  rintro e w' ⟨rfl, l', h1, h2, h3, h4⟩
  exact ⟨l', _, rfl, by omega, hq2, h1, h3, h4⟩
theorem heldDotS_r (v : Value) (l : List MDot) (q q' : Int) (w : World) (hr : rdDs w.heap.size w v l) (hh : hdS hdDot l q q') (hq : 0 ≤ q) (hq' : q' ≤ 70368744177664) :
    Calls Tryd.prog 17 #[v, .int .i64 q] w fun e w' => e = .returned (.int .i64 q') ∧ Below w.heap.size w w' := by
  obtain ⟨a, c, rfl, h⟩ := hr
  exact heldDotS_any a _ c l q q' w rfl h hh hq hq'

end Go.Proofs.YtmigamgcmhdncaaDoor
