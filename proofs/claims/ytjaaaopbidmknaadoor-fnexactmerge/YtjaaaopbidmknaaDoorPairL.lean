/-
  Lists of pairs: read, copied, compared, marked.
-/
import Derived.Test.YtjaaaopbidmknaaDoorPDatT
import Derived.Test.YtjaaaopbidmknaaDoorPDatE
import Derived.Test.YtjaaaopbidmknaaDoorPDatM
import Derived.Test.YtjaaaopbidmknaaDoorRowG
namespace Go.Proofs.YtjaaaopbidmknaaDoor
open Go.RowKit Go.Maps
set_option linter.unusedVariables false
set_option linter.unusedSimpArgs false
set_option maxRecDepth 10000

def wPs (l : List MPair) : Nat := l.length + sumW wPair l
def rdPs (B : Nat) (w : World) (v : Value) (l : List MPair) : Prop := ∃ a c, v = .slice a l.length c ∧ LeafL 3 rPair B w a c l
theorem rdPs.below {B : Nat} {w w' : World} {v : Value} {l : List MPair} (h : rdPs B w v l) (hb : Below B w w') : rdPs B w' v l := by
  obtain ⟨a, c, e, h1⟩ := h
  exact ⟨a, c, e, h1.below rPair_good hb⟩
theorem rdPs.mono {B B' : Nat} {w : World} {v : Value} {l : List MPair} (h : rdPs B w v l) (hB : B ≤ B') : rdPs B' w v l := by
  obtain ⟨a, c, e, h1⟩ := h
  exact ⟨a, c, e, LeafL.mono rPair_good h1 hB⟩
theorem rdPs_own {e : TypeId} {w : World} {v : Value} {l : List MPair} {F : List Nat} (h : ownS 3 e oPair w v l F) : rdPs w.heap.size w v l := ownS.read oPair_good h
theorem sumW_sublist' {α : Type} {f : α → Nat} {l k : List α} (h : l.Sublist k) : sumW f l ≤ sumW f k := by
  induction h with
  | slnil => exact Nat.le_refl _
  | cons a _ ih => simp only [sumW]; omega
  | cons_cons a _ ih => simp only [sumW]; omega
theorem tcntPs_le (l : List MPair) : sumW cntPair l ≤ 32 * wPs l := sumW_cnt_le cntPair_le l

/-- A row that was made is one's own. -/
theorem pairs_own {B base elem : Nat} {w : World} {v : Value} {l : List MPair} (h : RowR 3 elem rPair B w base v l) : ownS 3 elem oPair w v l v.ownBlock.toList ∧ v.ownBlock.toList.Nodup ∧ ∀ b, b ∈ v.ownBlock.toList → base ≤ b := by
  obtain ⟨css, h1, h2, h3, h4⟩ := h
  have hge : ∀ b, b ∈ v.ownBlock.toList → base ≤ b := fun b hb => (h4.lt b (by simpa using hb)).1
  refine ⟨?_, by cases v.ownBlock <;> simp, hge⟩
  rcases h4.2 with ⟨rfl, h0⟩ | ⟨g, cap, cur, rfl, hb, hg, hnc, hm, hs, ht⟩
  · exact .inl ⟨rfl, List.eq_nil_of_length_eq_zero h0, rfl⟩
  · refine .inr ⟨g, cap, cur, List.replicate l.length [], rfl, hg, hnc, hm, hs, by simp, ?_, by simp [Value.ownBlock]⟩
    intro j hj
    have hj2 : j < css.length := by omega
    have e0 : (cur.toList.drop (j * 3)).take 3 = css[j] := by
      rw [← flat_part h2 hj2, ← ht]
      apply List.ext_getElem?
      intro i
      rw [List.getElem?_take, List.getElem?_take, List.getElem?_drop, List.getElem?_drop, List.getElem?_take]
      by_cases hi : i < 3
      · rw [if_pos hi, if_pos hi, if_pos (by omega)]
      · rw [if_neg hi, if_neg hi]
    rw [e0]
    obtain ⟨e1, e2, e3, e4, _⟩ := h3 j hj hj2
    refine ⟨e1, e2, e3, trivial, ?_⟩
    rw [List.getD_eq_getElem?_getD]
    simp [hj]

theorem own_lit1 (w : World) (base e size : Nat) (h : base ≤ w.heap.size) : (w.alloc (.cells #[] e)).ownsRow base e size (.slice (some ⟨w.heap.size, 0, none⟩) 0 0) 0 [] :=
  ⟨by simp, .inr ⟨w.heap.size, 0, #[], rfl, h, (show (w.heap.push _)[w.heap.size]? = _ from Array.getElem?_push_size), by omega, by simp [maxLen], by simp, by simp⟩⟩
theorem szPairS_r (v : Value) (l : List MPair) (left : Int) (w : World) (g0 : 0 ≤ left) (g1 : left ≤ 1048576) (hr : rdPs w.heap.size w v l) :
    Calls Tryd.prog 28 #[v, .int .i64 left] w fun e w' => e = .returned (.int .i64 (szRes left (wPs l))) ∧ Below w.heap.size w w' := by
  obtain ⟨a, c, rfl, h⟩ := hr
  exact szPairS_any a _ c l left w rfl g0 g1 (Nat.le_trans h.1 h.2.1) h.2.2
theorem toPairS_r (v : Value) (l : List MPair) (w : World) (hr : rdPs w.heap.size w v l) (hsz : wPs l ≤ 1048576) :
    Calls Tryd.prog 30 #[v] w fun e w' => ∃ (v' : Value) (F : List Nat), e = .returned v' ∧ ownS 3 45 oPair w' v' l F ∧ F.Nodup ∧ (∀ b, b ∈ F → w.heap.size ≤ b) ∧ Below w.heap.size w w' := by
  obtain ⟨a, c, rfl, h⟩ := hr
  exact toPairS_any a _ c l w rfl h hsz
theorem eqPairS_yes_r (v1 v2 : Value) (l : List MPair) (w : World) (h1 : rdPs w.heap.size w v1 l) (h2 : rdPs w.heap.size w v2 l) (hsz : wPs l ≤ 1099511627776) :
    Calls Tryd.prog 32 #[v1, v2] w fun e w' => e = .returned (.bool true) ∧ Below w.heap.size w w' := by
  obtain ⟨a, c, rfl, ha⟩ := h1
  obtain ⟨b, d, rfl, hb⟩ := h2
  exact eqPairS_yes a b _ c d l w rfl ha hb hsz
theorem markPairS_r (v : Value) (l : List MPair) (F : List Nat) (q : Int) (w : World) (hq : 0 ≤ q) (hq2 : q + sumW cntPair l ≤ 70368744177664) (ho : ownS 3 45 oPair w v l F) (hN : F.Nodup) :
    Calls Tryd.prog 33 #[v, .int .i64 q] w fun e w' => ∃ (m' : List MPair) (q' : Int), e = .returned (.int .i64 q') ∧ q ≤ q' ∧ q' ≤ 70368744177664 ∧ ownS 3 45 oPair w' v m' F ∧ hdS hdPair m' q q' ∧ Turn F w w' := by
  refine (markPairS_any v l F q w hq hq2 ho hN).mono ?_
  rintro e w' ⟨rfl, l', h1, h2, h3, h4⟩
  exact ⟨l', _, rfl, by omega, hq2, h1, h3, h4⟩
theorem heldPairS_r (v : Value) (l : List MPair) (q q' : Int) (w : World) (hr : rdPs w.heap.size w v l) (hh : hdS hdPair l q q') (hq : 0 ≤ q) (hq' : q' ≤ 70368744177664) :
    Calls Tryd.prog 39 #[v, .int .i64 q] w fun e w' => e = .returned (.int .i64 q') ∧ Below w.heap.size w w' := by
  obtain ⟨a, c, rfl, h⟩ := hr
  exact heldPairS_any a _ c l q q' w rfl h hh hq hq'

end Go.Proofs.YtjaaaopbidmknaaDoor
