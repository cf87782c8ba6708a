/-
  The specification's loops over a text, step by step, plainly.
-/
import Derived.Test.YtnohnkcijomdjaaGreatDoorParM
namespace Go.Proofs.YtnohnkcijomdjaaGreatDoor
open Go.RowKit
set_option linter.unusedVariables false
set_option linter.unusedSimpArgs false

/-- A text is split as far as i: the pieces D are done, the next begins at fr. -/
structure SpI (b : UInt8) (l : List UInt8) (D : List (List UInt8)) (fr i : Nat) : Prop where
  le : fr ≤ i
  il : i ≤ l.length
  eq : splitP b l = D ++ splitP b (l.drop fr)
  no : b ∉ (l.drop fr).take (i - fr)
section
variable {b : UInt8} {l : List UInt8} {D : List (List UInt8)} {fr i : Nat}
theorem SpI.start (b : UInt8) (l : List UInt8) : SpI b l [] 0 0 := ⟨Nat.le_refl _, Nat.zero_le _, rfl, by simp⟩
theorem drop_at (h : fr ≤ i) (hi : i < l.length) : l.drop fr = (l.drop fr).take (i - fr) ++ l[i] :: l.drop (i + 1) := by
  have h1 : i - fr < (l.drop fr).length := by rw [List.length_drop]; omega
  have h2 := List.take_append_drop (i - fr) (l.drop fr)
  rw [List.drop_drop, show fr + (i - fr) = i by omega] at h2
  rw [List.drop_eq_getElem_cons hi] at h2
  exact h2.symm
theorem SpI.skip (h : SpI b l D fr i) (hi : i < l.length) (hne : l[i] ≠ b) : SpI b l D fr (i + 1) := by
  refine ⟨by have := h.le; omega, hi, h.eq, ?_⟩
  have h1 : i - fr < (l.drop fr).length := by rw [List.length_drop]; have := h.le; omega
  rw [show i + 1 - fr = (i - fr) + 1 by have := h.le; omega, List.take_succ_eq_append_getElem h1]
  intro hm
  rcases List.mem_append.1 hm with hm | hm
  · exact h.no hm
  · rw [List.mem_singleton, List.getElem_drop] at hm
    have e : fr + (i - fr) = i := by have := h.le; omega
    simp only [e] at hm
    exact hne hm.symm
theorem SpI.cut (h : SpI b l D fr i) (hi : i < l.length) (he : l[i] = b) : SpI b l (D ++ [(l.drop fr).take (i - fr)]) (i + 1) (i + 1) := by
  refine ⟨Nat.le_refl _, hi, ?_, by simp⟩
  have h2 := h.eq
  rw [drop_at h.le hi, he, splitP_cut h.no] at h2
  rw [h2, List.append_assoc]
  rfl
theorem SpI.fin (h : SpI b l D fr l.length) : splitP b l = D ++ [(l.drop fr).take (l.length - fr)] := by
  have h1 : (l.drop fr).take (l.length - fr) = l.drop fr := List.take_of_length_le (by rw [List.length_drop]; omega)
  have h2 := h.no
  rw [h1] at h2 ⊢
  rw [h.eq, splitP_one h2]
end
theorem str_part (s : ByteArray) (fr i : Nat) (h : i ≤ s.size) : s.extract fr i = strB ((s.data.toList.drop fr).take (i - fr)) := by
  have h1 : (s.extract fr i).data.toList = (s.data.toList.drop fr).take (i - fr) := by
    rw [ByteArray.data_extract]
    simp [Array.toList_extract, List.extract]
  rw [← strB_of (s.extract fr i), h1]
theorem unhex_take : ∀ (k : Nat) (l : List UInt8), (h : 2 * k + 1 < l.length) → unhexP (l.take (2 * k + 2)) = unhexP (l.take (2 * k)) ++ [UInt8.ofNat ((digP l[2 * k] * 16 + digP l[2 * k + 1]) % 256).toNat]
  | 0, a :: b :: r, h => by simp [unhexP]
  | k + 1, a :: b :: r, h => by
    have h1 : 2 * k + 1 < r.length := by simp at h; omega
    have h2 := unhex_take k r h1
    have e1 : (a :: b :: r).take (2 * (k + 1) + 2) = a :: b :: r.take (2 * k + 2) := by
      rw [show 2 * (k + 1) + 2 = (2 * k + 2) + 1 + 1 by omega, List.take_succ_cons, List.take_succ_cons]
    have e2 : (a :: b :: r).take (2 * (k + 1)) = a :: b :: r.take (2 * k) := by
      rw [show 2 * (k + 1) = (2 * k) + 1 + 1 by omega, List.take_succ_cons, List.take_succ_cons]
    rw [e1, e2]
    simp only [unhexP, h2, List.cons_append]
    congr 2
  | 0, [], h => by simp at h
  | 0, [a], h => by simp at h
  | k + 1, [], h => by simp at h
  | k + 1, [a], h => by simp at h
theorem unhex_all (k : Nat) (l : List UInt8) (h : ¬ 2 * k + 1 < l.length) (h2 : 2 * k ≤ l.length) : unhexP (l.take (2 * k)) = unhexP l := by
  have key : ∀ (k : Nat) (l : List UInt8), 2 * k ≤ l.length → l.length ≤ 2 * k + 1 → unhexP (l.take (2 * k)) = unhexP l := by
    intro k
    induction k with
    | zero =>
      intro l h1 h2
      match l, h2 with
      | [], _ => rfl
      | [a], _ => rfl
    | succ k ih =>
      intro l h1 h2
      match l, h1 with
      | a :: b :: r, h1 =>
        rw [show 2 * (k + 1) = (2 * k) + 1 + 1 by omega, List.take_succ_cons, List.take_succ_cons]
        simp only [unhexP]
        rw [ih r (by simp at h1; omega) (by simp at h2; omega)]
  exact key k l h2 (by omega)
theorem val_take {l : List UInt8} {k : Nat} (h : k < l.length) : valD (l.take (k + 1)) 0 = valD (l.take k) 0 * 10 + ((l[k].toNat : Int) - 48) := by
  rw [List.take_succ_eq_append_getElem h]
  unfold valD
  rw [List.foldl_append]
  rfl
theorem val_bound (l : List UInt8) (h : l.all isDig = true) : 0 ≤ valD l 0 ∧ valD l 0 < 10 ^ l.length := by
  have key : ∀ (l : List UInt8) (n : Int) (k : Nat), l.all isDig = true → 0 ≤ n → n < 10 ^ k → 0 ≤ valD l n ∧ valD l n < 10 ^ (k + l.length) := by
    intro l
    induction l with
    | nil => intro n k _ h0 h1; exact ⟨h0, by simpa [valD] using h1⟩
    | cons x r ih =>
      intro n k ha h0 h1
      simp only [List.all_cons, Bool.and_eq_true] at ha
      have hx := of_decide_eq_true ha.1
      have := ih (n * 10 + ((x.toNat : Int) - 48)) (k + 1) ha.2 (by omega) (by rw [Int.pow_succ]; omega)
      refine ⟨this.1, ?_⟩
      have e : k + (x :: r).length = k + 1 + r.length := by simp; omega
      rw [e]
      exact this.2
  have := key l 0 0 h (by omega) (by decide)
  rw [Nat.zero_add] at this
  exact this

end Go.Proofs.YtnohnkcijomdjaaGreatDoor
