/-
  The records of a log: what both sides answer, and how great it can be.
-/
import Derived.Test.YtiahmcclmlmgpaaDoorRecI
namespace Go.Proofs.YtiahmcclmlmgpaaDoor
open Go.RowKit
set_option linter.unusedVariables false
set_option linter.unusedSimpArgs false
set_option maxRecDepth 10000

/-- A frame is longer than its body. -/
theorem unframe_more {zs : List Int} {p : Int} (h : (unframe zs p).2.2 = true) : p + 1 + (unframe zs p).1.length ≤ (unframe zs p).2.1 := by
  unfold unframe at h ⊢
  by_cases h1 : p < 0 ∨ (zs.length : Int) - 4 < p
  · rw [if_pos h1] at h; cases h
  · rw [if_neg h1] at h ⊢
    by_cases h2 : (getText zs (p + 4)).2.2 = true ∧ crc (getText zs (p + 4)).1 = rd4 zs p.toNat
    · rw [if_pos h2]
      have h3 := h2.1
      unfold getText at h3 ⊢
      by_cases h7 : (getNum zs (p + 4)).2.2 = true ∧ (getNum zs (p + 4)).1 ≤ zs.length - (getNum zs (p + 4)).2.1
      · rw [if_pos h7]
        have h5 := getNum_bounds h7.1
        have h6 := getNum_on h7.1
        show p + 1 + (((zs.drop _).take _).length : Int) ≤ (getNum zs (p + 4)).2.1 + (getNum zs (p + 4)).1
        have h8 : (((zs.drop (getNum zs (p + 4)).2.1.toNat).take (getNum zs (p + 4)).1.toNat).length : Int) ≤ (getNum zs (p + 4)).1 := by
          rw [List.length_take]
          omega
        omega
      · rw [if_neg h7] at h3; cases h3
    · rw [if_neg h2] at h; cases h
theorem recsF_bound {zs : List Int} (hb : BytesOk zs) : ∀ (f : Nat) (p : Int), 0 ≤ p → p ≤ zs.length → ((recsF f zs p).1.length + sumW List.length (recsF f zs p).1 : Nat) ≤ zs.length - p
  | 0, p, h0, h1 => by simp [recsF, sumW]; omega
  | f + 1, p, h0, h1 => by
    rw [recsF]
    by_cases hu : (unframe zs p).2.2 = true
    · rw [if_pos hu]
      have h2 := unframe_bd hb hu
      have h3 := unframe_more hu
      have h4 := recsF_bound hb f (unframe zs p).2.1 (by omega) h2.2.2.1
      simp only [List.length_cons, sumW, List.map_cons, List.sum_cons] at h4 ⊢
      omega
    · rw [if_neg hu]
      simp [sumW]
      omega
theorem boundRecords_0 (zs : List Int) (hb : BytesOk zs) (hw : zs.length ≤ 1048576) : wBs (recsP zs).1 ≤ 1099511627776 := by
  have h := recsF_bound hb (zs.length + 1) 0 (by omega) (by omega)
  unfold wBs recsP
  omega
theorem tcntBs_le (l : List (List Int)) : sumW cntBy l ≤ wBs l := by
  have : sumW cntBy l = sumW List.length l := rfl
  unfold wBs
  omega
theorem specRecords_c (v : Value) (zs : List Int) (w : World) (hr : rdB w.heap.size w v zs) (hw : zs.length ≤ 1048576) (ht : TabAt w) :
    Calls Tryd.prog 25 #[v] w fun e w' => ∃ v', e = .returned (.tuple #[v', .int .i64 (recsP zs).2]) ∧ rdBs w'.heap.size w' v' (recsP zs).1 ∧ Below w.heap.size w w' := by
  obtain ⟨a, c, rfl, h1, h2, h3, h4⟩ := hr
  refine (specRecords_any a _ c zs w rfl hw h1 h4 h3).mono ?_
  rintro e w' ⟨v, F, rfl, h5, h6, h7, h8⟩
  exact ⟨v, rfl, rdBs_own h5, h8⟩
theorem implRecords_c (v : Value) (zs : List Int) (w : World) (hr : rdB w.heap.size w v zs) (hw : zs.length ≤ 1048576) (ht : TabAt w) :
    Calls Tryd.prog 18 #[v] w fun e w' => ∃ v' F, e = .returned (.tuple #[v', .int .i64 (recsP zs).2]) ∧ ownS 1 22 oBy w' v' (recsP zs).1 F ∧ F.Nodup ∧ (∀ b, b ∈ F → w.heap.size ≤ b) ∧ Below w.heap.size w w' := by
  obtain ⟨a, c, rfl, h1, h2, h3, h4⟩ := hr
  exact implRecords_any a _ c zs w rfl hw h1 h4 h3 ht

end Go.Proofs.YtiahmcclmlmgpaaDoor
