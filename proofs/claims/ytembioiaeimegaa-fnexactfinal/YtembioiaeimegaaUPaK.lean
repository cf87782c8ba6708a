/-
  Lists of pairs: how they are read, and owned; no law's helper is named here.
-/
import Derived.Test.YtembioiaeimegaaUDat
import Derived.Test.YtembioiaeimegaaDatN
import Derived.Test.YtembioiaeimegaaRowG
namespace Go.Proofs.Ytembioiaeimegaa
open Go.RowKit Go.Maps
set_option linter.unusedVariables false
set_option linter.unusedSimpArgs false
set_option maxRecDepth 10000

def wPs (l : List MPair) : Nat := l.length + sumW wPair l
def rdPs (B : Nat) (w : World) (v : Value) (l : List MPair) : Prop := ∃ a c, v = .slice a l.length c ∧ LeafL 3 rPair B w a c l
theorem rdPs.below {B : Nat} {w w' : World} {v : Value} {l : List MPair} (h : rdPs B w v l) (hb : Below B w w') : rdPs B w' v l := by
  obtain ⟨a, c, e, h1⟩ := h
  exact ⟨a, c, e, h1.below rPair_good hb⟩
theorem rdPs.mono {B B' : Nat} {w : World} {v : Value} {l : List MPair} (h : rdPs B w v l) (hB : B ≤ B') : rdPs B' w v l := by
  obtain ⟨a, c, e, h1⟩ := h
  exact ⟨a, c, e, LeafL.mono rPair_good h1 hB⟩
theorem rdPs_own {e : TypeId} {w : World} {v : Value} {l : List MPair} {F : List Nat} (h : ownS 3 e oPair w v l F) : rdPs w.heap.size w v l := ownS.read oPair_good h
theorem sumW_sublist' {α : Type} {f : α → Nat} {l k : List α} (h : l.Sublist k) : sumW f l ≤ sumW f k := by
  induction h with
  | slnil => exact Nat.le_refl _
  | cons a _ ih => simp only [sumW]; omega
  | cons_cons a _ ih => simp only [sumW]; omega

/-- A row that was made is one's own. -/
theorem pairs_own {B base elem : Nat} {w : World} {v : Value} {l : List MPair} (h : RowR 3 elem rPair B w base v l) : ownS 3 elem oPair w v l v.ownBlock.toList ∧ v.ownBlock.toList.Nodup ∧ ∀ b, b ∈ v.ownBlock.toList → base ≤ b := by
  obtain ⟨css, h1, h2, h3, h4⟩ := h
  have hge : ∀ b, b ∈ v.ownBlock.toList → base ≤ b := fun b hb => (h4.lt b (by simpa using hb)).1
  refine ⟨?_, by cases v.ownBlock <;> simp, hge⟩
  rcases h4.2 with ⟨rfl, h0⟩ | ⟨g, cap, cur, rfl, hb, hg, hnc, hm, hs, ht⟩
  · exact .inl ⟨rfl, List.eq_nil_of_length_eq_zero h0, rfl⟩
  · refine .inr ⟨g, cap, cur, List.replicate l.length [], rfl, hg, hnc, hm, hs, by simp, ?_, by simp [Value.ownBlock]⟩
    intro j hj
    have hj2 : j < css.length := by omega
    have e0 : (cur.toList.drop (j * 3)).take 3 = css[j] := by
      rw [← flat_part h2 hj2, ← ht]
      apply List.ext_getElem?
      intro i
      rw [List.getElem?_take, List.getElem?_take, List.getElem?_drop, List.getElem?_drop, List.getElem?_take]
      by_cases hi : i < 3
      · rw [if_pos hi, if_pos hi, if_pos (by omega)]
      · rw [if_neg hi, if_neg hi]
    rw [e0]
    obtain ⟨e1, e2, e3, e4, _⟩ := h3 j hj hj2
    refine ⟨e1, e2, e3, trivial, ?_⟩
    rw [List.getD_eq_getElem?_getD]
    simp [hj]


theorem own_lit1 (w : World) (base e size : Nat) (h : base ≤ w.heap.size) : (w.alloc (.cells #[] e)).ownsRow base e size (.slice (some ⟨w.heap.size, 0, none⟩) 0 0) 0 [] :=
  ⟨by simp, .inr ⟨w.heap.size, 0, #[], rfl, h, (show (w.heap.push _)[w.heap.size]? = _ from Array.getElem?_push_size), by omega, by simp [maxLen], by simp, by simp⟩⟩

end Go.Proofs.Ytembioiaeimegaa
