/-
  Numbers in groups of seven bits, as plain functions on lists of integers: how they are read, two ways of reading that come to one.
-/
import Derived.Test.YtiahmcclmlmgpaaDoorKit
import Derived.Laws.BitsLemmas
namespace Go.Proofs.YtiahmcclmlmgpaaDoor

theorem BytesOk.getD {zs : List Int} (h : BytesOk zs) (j : Nat) : 0 ≤ zs.getD j 0 ∧ zs.getD j 0 ≤ 255 := by
  rw [List.getD_eq_getElem?_getD]
  by_cases hj : j < zs.length
  · rw [List.getElem?_eq_getElem hj]
    exact h _ (List.getElem_mem hj)
  · rw [List.getElem?_eq_none (by omega)]
    simp

def noNum : Int × Int × Bool := (0, 0, false)

/-- At most f groups more, n read so far, p the next place. -/
def gnS : Nat → List Int → Int → Int → Int × Int × Bool
  | 0, _, _, _ => noNum
  | _ + 1, [], _, _ => noNum
  | f + 1, c :: r, n, p => if c < 128 then (if 1000000000 < n * 128 + c % 128 then noNum else (n * 128 + c % 128, p + 1, true)) else gnS f r (n * 128 + c % 128) (p + 1)

/-- The same without a count of groups: too great a number ends it. -/
def gnI : List Int → Int → Int → Int × Int × Bool
  | [], _, _ => noNum
  | c :: r, n, p => if 1000000000 < n * 128 + c % 128 then noNum else if c < 128 then (n * 128 + c % 128, p + 1, true) else gnI r (n * 128 + c % 128) (p + 1)

theorem gnS_big (f : Nat) (l : List Int) (n p : Int) (h : 1000000000 < n) : gnS f l n p = noNum := by
  induction f generalizing l n p with
  | zero => rfl
  | succ f ih =>
    cases l with
    | nil => rfl
    | cons c r =>
      simp only [gnS]
      by_cases hc : c < 128
      · rw [if_pos hc, if_pos (by omega)]
      · rw [if_neg hc, ih _ _ _ (by omega)]

theorem gnI_eq (f : Nat) (l : List Int) (n p : Int) (h : 268435456 ≤ n * 128 ^ f) (h0 : 0 ≤ n) : gnI l n p = gnS f l n p := by
  induction f generalizing l n p with
  | zero =>
    cases l with
    | nil => rfl
    | cons c r =>
      simp only [gnI, gnS]
      rw [if_pos (by omega)]
  | succ f ih =>
    cases l with
    | nil => rfl
    | cons c r =>
      simp only [gnI, gnS]
      by_cases hc : c < 128
      · by_cases hn : 1000000000 < n * 128 + c % 128 <;> simp [hc, hn]
      · by_cases hn : 1000000000 < n * 128 + c % 128
        · rw [if_pos hn, if_neg hc, gnS_big _ _ _ _ hn]
        · rw [if_neg hn, if_neg hc, if_neg hc]
          refine ih _ _ _ ?_ (by omega)
          have h2 : n * 128 ^ (f + 1) = (n * 128) * 128 ^ f := by rw [Int.pow_succ, Int.mul_assoc, Int.mul_comm (128 ^ f) 128]
          have h3 : (n * 128) * 128 ^ f ≤ (n * 128 + c % 128) * 128 ^ f := Int.mul_le_mul_of_nonneg_right (by omega) (Int.pow_nonneg (by omega))
          omega

/-- What both programs answer. -/
def getNum (b : List Int) (p : Int) : Int × Int × Bool :=
  if p < 0 ∨ (b.length : Int) ≤ p then noNum else if b.getD p.toNat 0 = 128 then noNum else gnS 5 (b.drop p.toNat) 0 p

theorem getNum_out {b : List Int} {p : Int} (h : p < 0 ∨ (b.length : Int) ≤ p) : getNum b p = noNum := by simp only [getNum]; rw [if_pos h]

theorem drop_cons {b : List Int} {j : Nat} (h : j < b.length) : b.drop j = b.getD j 0 :: b.drop (j + 1) := by
  rw [List.drop_eq_getElem_cons h, List.getD_eq_getElem?_getD, List.getElem?_eq_getElem h]
  rfl

theorem getNum_128 {b : List Int} {p : Nat} (hp : p < b.length) (h : b.getD p 0 = 128) : getNum b p = noNum := by
  simp only [getNum]
  rw [if_neg (by omega), Int.toNat_natCast, if_pos h]

theorem getNum_S {b : List Int} {p : Nat} (hp : p < b.length) (h : b.getD p 0 ≠ 128) : getNum b p = gnS 5 (b.drop p) 0 p := by
  simp only [getNum]
  rw [if_neg (by omega), Int.toNat_natCast, if_neg h]

theorem getNum_I {b : List Int} {p : Nat} (hp : p < b.length) (h : b.getD p 0 ≠ 128) (hb : BytesOk b) : getNum b p = gnI (b.drop p) 0 p := by
  rw [getNum_S hp h, drop_cons hp]
  have hr := hb.getD p
  generalize b.getD p 0 = c at *
  simp only [gnS, gnI]
  by_cases hc : c < 128
  · rw [if_pos hc, if_neg (by omega), if_neg (by omega), if_pos hc]
  · rw [if_neg hc, if_neg (by omega), if_neg hc]
    exact (gnI_eq 4 _ _ _ (by omega) (by omega)).symm

theorem pow128_le {k : Nat} (h : k ≤ 5) : (128 : Int) ^ k ≤ 34359738368 := by
  rcases (show k = 0 ∨ k = 1 ∨ k = 2 ∨ k = 3 ∨ k = 4 ∨ k = 5 from by omega) with rfl | rfl | rfl | rfl | rfl | rfl <;> decide

theorem pow128_step {k : Nat} {M c : Int} (h : M < 128 ^ k) : M * 128 + c % 128 < 128 ^ (k + 1) := by
  have : (128 : Int) ^ (k + 1) = 128 ^ k * 128 := Int.pow_succ ..
  omega

theorem wraps_i64 (n : Int) (h₀ : 0 ≤ n) (h₁ : n < 2 ^ 63) : IntKind.i64.wrap n = n := by rw [IntKind.wrap_i64]; omega

theorem or_group {M c : Int} (h0 : 0 ≤ M) (h1 : M < 34359738368) : bits .or .i64 (M * 128) (c % 128) = M * 128 + c % 128 :=
  bits_join .i64 63 (by decide) wraps_i64 7 (M * 128) (c % 128) (by omega) (by omega) (by omega) (by omega) (by omega) (by omega)

/-- The steps of the reading, in the form in which the walks meet them. -/
theorem gnS_last {b : List Int} {j f : Nat} {M p c : Int} (hj : j < b.length) (hc : b.getD j 0 = c) (h : c < 128) (hn : ¬ 1000000000 < M * 128 + c % 128) : gnS (f + 1) (b.drop j) M p = (M * 128 + c % 128, p + 1, true) := by
  rw [drop_cons hj, hc]; simp only [gnS]; rw [if_pos h, if_neg hn]
theorem gnS_over {b : List Int} {j f : Nat} {M p c : Int} (hj : j < b.length) (hc : b.getD j 0 = c) (h : c < 128) (hn : 1000000000 < M * 128 + c % 128) : gnS (f + 1) (b.drop j) M p = noNum := by
  rw [drop_cons hj, hc]; simp only [gnS]; rw [if_pos h, if_pos hn]
theorem gnS_more {b : List Int} {j f : Nat} {M p c : Int} (hj : j < b.length) (hc : b.getD j 0 = c) (h : ¬ c < 128) : gnS (f + 1) (b.drop j) M p = gnS f (b.drop (j + 1)) (M * 128 + c % 128) (p + 1) := by
  rw [drop_cons hj, hc]; simp only [gnS]; rw [if_neg h]
theorem gnS_end {b : List Int} {j f : Nat} {M p : Int} (hj : b.length ≤ j) : gnS f (b.drop j) M p = noNum := by
  rw [List.drop_eq_nil_of_le hj]; cases f <;> rfl
theorem gnI_last {b : List Int} {j : Nat} {M p c : Int} (hj : j < b.length) (hc : b.getD j 0 = c) (h : c < 128) (hn : ¬ 1000000000 < M * 128 + c % 128) : gnI (b.drop j) M p = (M * 128 + c % 128, p + 1, true) := by
  rw [drop_cons hj, hc]; simp only [gnI]; rw [if_neg hn, if_pos h]
theorem gnI_over {b : List Int} {j : Nat} {M p c : Int} (hj : j < b.length) (hc : b.getD j 0 = c) (hn : 1000000000 < M * 128 + c % 128) : gnI (b.drop j) M p = noNum := by
  rw [drop_cons hj, hc]; simp only [gnI]; rw [if_pos hn]
theorem gnI_more {b : List Int} {j : Nat} {M p c : Int} (hj : j < b.length) (hc : b.getD j 0 = c) (h : ¬ c < 128) (hn : ¬ 1000000000 < M * 128 + c % 128) : gnI (b.drop j) M p = gnI (b.drop (j + 1)) (M * 128 + c % 128) (p + 1) := by
  rw [drop_cons hj, hc]; simp only [gnI]; rw [if_neg hn, if_neg h]
theorem gnI_end {b : List Int} {j : Nat} {M p : Int} (hj : b.length ≤ j) : gnI (b.drop j) M p = noNum := by
  rw [List.drop_eq_nil_of_le hj]; rfl

end Go.Proofs.YtiahmcclmlmgpaaDoor
