/-
  Texts behind their lengths, as plain functions on lists of integers.
-/
import Derived.Test.YtiahmcclmlmgpaaDoorNumM
namespace Go.Proofs.YtiahmcclmlmgpaaDoor

theorem gnS_bounds (f : Nat) (l : List Int) (n p : Int) (h0 : 0 ≤ n) (h : (gnS f l n p).2.2 = true) :
    0 ≤ (gnS f l n p).1 ∧ (gnS f l n p).1 ≤ 1000000000 ∧ p < (gnS f l n p).2.1 ∧ (gnS f l n p).2.1 ≤ p + l.length := by
  induction f generalizing l n p with
  | zero => simp [gnS, noNum] at h
  | succ f ih =>
    cases l with
    | nil => simp [gnS, noNum] at h
    | cons c r =>
      simp only [gnS] at h ⊢
      by_cases hc : c < 128
      · rw [if_pos hc] at h ⊢
        by_cases hn : 1000000000 < n * 128 + c % 128
        · rw [if_pos hn] at h; simp [noNum] at h
        · rw [if_neg hn]; simp only [List.length_cons]; omega
      · rw [if_neg hc] at h ⊢
        have := ih r (n * 128 + c % 128) (p + 1) (by omega) h
        simp only [List.length_cons]; omega

/-- A number that is read lies within the bytes. -/
theorem getNum_bounds {b : List Int} {p : Int} (h : (getNum b p).2.2 = true) :
    0 ≤ (getNum b p).1 ∧ (getNum b p).1 ≤ 1000000000 ∧ 0 < (getNum b p).2.1 ∧ (getNum b p).2.1 ≤ b.length := by
  simp only [getNum] at h ⊢
  by_cases h1 : p < 0 ∨ (b.length : Int) ≤ p
  · rw [if_pos h1] at h; simp [noNum] at h
  · rw [if_neg h1] at h ⊢
    by_cases h2 : b.getD p.toNat 0 = 128
    · rw [if_pos h2] at h; simp [noNum] at h
    · rw [if_neg h2] at h ⊢
      have := gnS_bounds 5 _ 0 p (by omega) h
      simp only [List.length_drop] at this
      omega

/-- What both programs answer of a text: its bytes, the place behind it, whether it is there. -/
def getText (b : List Int) (p : Int) : List Int × Int × Bool :=
  if (getNum b p).2.2 = true ∧ (getNum b p).1 ≤ b.length - (getNum b p).2.1 then ((b.drop (getNum b p).2.1.toNat).take (getNum b p).1.toNat, (getNum b p).2.1 + (getNum b p).1, true) else ([], 0, false)

theorem getText_yes {b : List Int} {p : Int} {m f : Nat} (h : getNum b p = ((m : Int), (f : Int), true)) (hm : f + m ≤ b.length) : getText b p = ((b.drop f).take m, ((f + m : Nat) : Int), true) := by
  simp only [getText, h]
  rw [if_pos ⟨trivial, by omega⟩]
  simp

theorem getText_no {b : List Int} {p : Int} (h : (getNum b p).2.2 = false ∨ (b.length : Int) - (getNum b p).2.1 < (getNum b p).1) : getText b p = ([], 0, false) := by
  simp only [getText]
  rw [if_neg]
  rintro ⟨h1, h2⟩
  rcases h with h | h
  · rw [h1] at h; cases h
  · omega

/-- The three ways of a text. -/
theorem text_cases (b : List Int) (p : Int) :
    (∃ r0 r1, getNum b p = (r0, r1, false) ∧ getText b p = ([], 0, false)) ∨
    (∃ m f : Nat, getNum b p = ((m : Int), (f : Int), true) ∧ f ≤ b.length ∧ m ≤ 1000000000 ∧ b.length < f + m ∧ getText b p = ([], 0, false)) ∨
    (∃ m f : Nat, getNum b p = ((m : Int), (f : Int), true) ∧ 0 < f ∧ m ≤ 1000000000 ∧ f + m ≤ b.length ∧ getText b p = ((b.drop f).take m, ((f + m : Nat) : Int), true)) := by
  have hbd := @getNum_bounds b p
  have hno := @getText_no b p
  have hyes := fun m f => @getText_yes b p m f
  generalize getNum b p = R at hbd hno hyes ⊢
  obtain ⟨r0, r1, r2⟩ := R
  cases r2 with
  | false => exact Or.inl ⟨r0, r1, rfl, hno (Or.inl rfl)⟩
  | true =>
    have h := hbd rfl
    simp only at h hno
    obtain ⟨m, rfl⟩ := Int.eq_ofNat_of_zero_le h.1
    obtain ⟨f, rfl⟩ := Int.eq_ofNat_of_zero_le (show 0 ≤ r1 by omega)
    by_cases hm : f + m ≤ b.length
    · exact Or.inr (Or.inr ⟨m, f, rfl, by omega, by omega, hm, hyes m f rfl hm⟩)
    · exact Or.inr (Or.inl ⟨m, f, rfl, by omega, by omega, by omega, hno (Or.inr (by omega))⟩)

theorem take_drop_getD {b : List Int} {f m i : Nat} (h : i < m) : ((b.drop f).take m).getD i 0 = b.getD (f + i) 0 := by
  simp only [List.getD_eq_getElem?_getD, List.getElem?_take, List.getElem?_drop, h, if_true]

theorem take_drop_length {b : List Int} {f m : Nat} (hf : f + m ≤ b.length) : ((b.drop f).take m).length = m := by simp; omega

end Go.Proofs.YtiahmcclmlmgpaaDoor
