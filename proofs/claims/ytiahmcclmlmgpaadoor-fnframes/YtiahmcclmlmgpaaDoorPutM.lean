/-
  Numbers put in groups of seven bits, the highest first, no needless ones: as plain functions on lists of integers.
-/
import Derived.Test.YtiahmcclmlmgpaaDoorNumM
import Derived.Laws.BitsAllLaws
namespace Go.Proofs.YtiahmcclmlmgpaaDoor

/-- The nearest number that is kept. -/
def clampN (n : Int) : Int := if 1000000000 < n then 1000000000 else if n < 0 then 0 else n

theorem clampN_lo {n : Int} (h : n < 0) : clampN n = 0 := by unfold clampN; rw [if_neg (by omega), if_pos h]
theorem clampN_hi {n : Int} (h : 1000000000 < n) : clampN n = 1000000000 := by unfold clampN; rw [if_pos h]
theorem clampN_in {n : Int} (h : 0 ≤ n) (h' : n ≤ 1000000000) : clampN n = n := by unfold clampN; rw [if_neg (by omega), if_neg (by omega)]
theorem clampN_bd (n : Int) : 0 ≤ clampN n ∧ clampN n ≤ 1000000000 := by unfold clampN; split <;> (try split) <;> omega

def capHi (n : Int) : Int := if 1000000000 < n then 1000000000 else n
theorem capHi_hi {n : Int} (h : 1000000000 < n) : capHi n = 1000000000 := by unfold capHi; rw [if_pos h]
theorem capHi_in {n : Int} (h : n ≤ 1000000000) : capHi n = n := by unfold capHi; rw [if_neg (by omega)]
theorem clampN_of_capHi (n : Int) : clampN n = if capHi n < 0 then 0 else capHi n := by
  unfold clampN capHi
  by_cases h : 1000000000 < n
  · simp [h]
  · simp [h]

/-- The group at d (a power of 128), if it or a higher one is there. -/
def hiG (n d : Int) : List Int := if 0 < n / d then [n / d % 128 + 128] else []

theorem hiG_yes {n d : Int} (h : 0 < n / d) : hiG n d = [n / d % 128 + 128] := by unfold hiG; rw [if_pos h]
theorem hiG_no {n d : Int} (h : ¬ 0 < n / d) : hiG n d = [] := by unfold hiG; rw [if_neg h]

/-- The groups that the first j rounds lay. -/
def hiTo (n : Int) : Nat → List Int
  | 0 => []
  | 1 => hiG n 268435456
  | 2 => hiG n 268435456 ++ hiG n 2097152
  | 3 => hiG n 268435456 ++ hiG n 2097152 ++ hiG n 16384
  | _ => hiG n 268435456 ++ hiG n 2097152 ++ hiG n 16384 ++ hiG n 128

/-- The bytes of a number from 0 to MaxNum. -/
def putNum (n : Int) : List Int := hiTo n 4 ++ [n % 128]

theorem hiG_ok (n d : Int) : BytesOk (hiG n d) := by
  intro z hz
  unfold hiG at hz
  split at hz
  · simp at hz; omega
  · simp at hz

theorem hiG_length (n d : Int) : (hiG n d).length ≤ 1 := by unfold hiG; split <;> simp

theorem BytesOk.append {a b : List Int} (ha : BytesOk a) (hb : BytesOk b) : BytesOk (a ++ b) := by
  intro z hz
  rcases List.mem_append.1 hz with h | h
  · exact ha z h
  · exact hb z h

theorem putNum_ok (n : Int) : BytesOk (putNum n) := by
  refine BytesOk.append (BytesOk.append (BytesOk.append (BytesOk.append (hiG_ok _ _) (hiG_ok _ _)) (hiG_ok _ _)) (hiG_ok _ _)) ?_
  intro z hz
  simp at hz
  omega

theorem hiTo_length (n : Int) (j : Nat) : (hiTo n j).length ≤ 4 := by
  have h1 := hiG_length n 268435456
  have h2 := hiG_length n 2097152
  have h3 := hiG_length n 16384
  have h4 := hiG_length n 128
  unfold hiTo
  split <;> simp <;> omega

theorem putNum_length (n : Int) : 1 ≤ (putNum n).length ∧ (putNum n).length ≤ 5 := by
  have := hiTo_length n 4
  simp [putNum]
  omega

theorem or128_i64 (y : Int) : bits .or .i64 (y % 128) 128 = y % 128 + 128 := by
  have hc : bits .or .i64 (y % 128) 128 = bits .or .i64 128 (y % 128) := by simp only [bits, BitVec.or_comm]
  rw [hc, bits_join .i64 63 (by decide) wraps_i64 7 128 (y % 128) (by decide) (by decide) (by decide) (by omega) (by omega) (by omega)]
  omega

theorem or128_nat : ∀ z : Fin 256, (z.val ||| 128) = z.val % 128 + 128 := by decide +kernel

theorem or128_u8 (y : Int) : bits .or .u8 (y % 256) 128 = y % 128 + 128 := by
  rw [u8_or (y % 256) 128 (by omega) (by omega) (by omega) (by omega)]
  have h := or128_nat ⟨(y % 256).toNat, by omega⟩
  simp only at h
  have e : (128 : Int).toNat = 128 := rfl
  rw [e, h]
  omega

/-- The bytes of several numbers, one behind the other. -/
def putNums (l : List Int) : List Int := (l.map (fun n => putNum (clampN n))).flatten

theorem putNums_snoc (l : List Int) (n : Int) : putNums (l ++ [n]) = putNums l ++ putNum (clampN n) := by simp [putNums]

theorem putNums_length (l : List Int) : (putNums l).length ≤ 5 * l.length := by
  induction l with
  | nil => simp [putNums]
  | cons a r ih =>
    have := putNum_length (clampN a)
    simp only [putNums, List.map_cons, List.flatten_cons, List.length_append, List.length_cons] at ih ⊢
    omega

theorem clamp_minmax (n : Int) : (if 1000000000 < (if 0 < n then n else 0) then 1000000000 else (if 0 < n then n else 0)) = clampN n := by
  unfold clampN
  split <;> split <;> (try split) <;> omega

end Go.Proofs.YtiahmcclmlmgpaaDoor
