/-
  Lists of pairs: read, copied, compared, marked.
-/
import Derived.Test.YtembioiaeimegaaUPaK
import Derived.Test.YtembioiaeimegaaUDatT
import Derived.Test.YtembioiaeimegaaUDatE
import Derived.Test.YtembioiaeimegaaUDatM
import Derived.Test.YtembioiaeimegaaRowG
namespace Go.Proofs.Ytembioiaeimegaa
open Go.RowKit Go.Maps
set_option linter.unusedVariables false
set_option linter.unusedSimpArgs false
set_option maxRecDepth 10000

theorem tcntPs_le (l : List MPair) : sumW cntPair l ≤ 32 * wPs l := sumW_cnt_le cntPair_le l

theorem szPairS_r (v : Value) (l : List MPair) (left : Int) (w : World) (g0 : 0 ≤ left) (g1 : left ≤ 1048576) (hr : rdPs w.heap.size w v l) :
    Calls Try.prog 45 #[v, .int .i64 left] w fun e w' => e = .returned (.int .i64 (szRes left (wPs l))) ∧ Below w.heap.size w w' := by
  obtain ⟨a, c, rfl, h⟩ := hr
  exact szPairS_any a _ c l left w rfl g0 g1 (Nat.le_trans h.1 h.2.1) h.2.2
theorem toPairS_r (v : Value) (l : List MPair) (w : World) (hr : rdPs w.heap.size w v l) (hsz : wPs l ≤ 1048576) :
    Calls Try.prog 51 #[v] w fun e w' => ∃ (v' : Value) (F : List Nat), e = .returned v' ∧ ownS 3 55 oPair w' v' l F ∧ F.Nodup ∧ (∀ b, b ∈ F → w.heap.size ≤ b) ∧ Below w.heap.size w w' := by
  obtain ⟨a, c, rfl, h⟩ := hr
  exact toPairS_any a _ c l w rfl h hsz
theorem eqPairS_yes_r (v1 v2 : Value) (l : List MPair) (w : World) (h1 : rdPs w.heap.size w v1 l) (h2 : rdPs w.heap.size w v2 l) (hsz : wPs l ≤ 1099511627776) :
    Calls Try.prog 8 #[v1, v2] w fun e w' => e = .returned (.bool true) ∧ Below w.heap.size w w' := by
  obtain ⟨a, c, rfl, ha⟩ := h1
  obtain ⟨b, d, rfl, hb⟩ := h2
  exact eqPairS_yes a b _ c d l w rfl ha hb hsz
theorem markPairS_r (v : Value) (l : List MPair) (F : List Nat) (q : Int) (w : World) (hq : 0 ≤ q) (hq2 : q + sumW cntPair l ≤ 70368744177664) (ho : ownS 3 55 oPair w v l F) (hN : F.Nodup) :
    Calls Try.prog 11 #[v, .int .i64 q] w fun e w' => ∃ (m' : List MPair) (q' : Int), e = .returned (.int .i64 q') ∧ q ≤ q' ∧ q' ≤ 70368744177664 ∧ ownS 3 55 oPair w' v m' F ∧ hdS hdPair m' q q' ∧ Turn F w w' := by
  refine (markPairS_any v l F q w hq hq2 ho hN).mono ?_
  rintro e w' ⟨rfl, l', h1, h2, h3, h4⟩
  exact ⟨l', _, rfl, by omega, hq2, h1, h3, h4⟩
theorem heldPairS_r (v : Value) (l : List MPair) (q q' : Int) (w : World) (hr : rdPs w.heap.size w v l) (hh : hdS hdPair l q q') (hq : 0 ≤ q) (hq' : q' ≤ 70368744177664) :
    Calls Try.prog 12 #[v, .int .i64 q] w fun e w' => e = .returned (.int .i64 q') ∧ Below w.heap.size w w' := by
  obtain ⟨a, c, rfl, h⟩ := hr
  exact heldPairS_any a _ c l q q' w rfl h hh hq hq'

end Go.Proofs.Ytembioiaeimegaa
