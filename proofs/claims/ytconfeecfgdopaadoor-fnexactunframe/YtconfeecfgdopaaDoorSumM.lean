/-
  The sum of bytes, bit by bit and by a table of sixteen: plain arithmetic; the two come to one.
-/
import Derived.Test.YtconfeecfgdopaaDoorNumM
import Derived.Laws.BitsAllLaws
namespace Go.Proofs.YtconfeecfgdopaaDoor

/-- 'xor' of two numbers that are not negative. -/
def xr (a b : Int) : Int := ((a.toNat ^^^ b.toNat : Nat) : Int)

theorem xr_lt {a b : Int} (ha : a < 4294967296) (hb : b < 4294967296) : 0 ≤ xr a b ∧ xr a b < 4294967296 := by
  have h := Nat.xor_lt_two_pow (x := a.toNat) (y := b.toNat) (n := 32) (by omega) (by omega)
  unfold xr
  omega

theorem xor_i64 (a b : Int) (h1 : 0 ≤ a) (h2 : a < 4294967296) (h3 : 0 ≤ b) (h4 : b < 4294967296) : bits .xor .i64 a b = xr a b := by
  obtain ⟨a, rfl⟩ := Int.eq_ofNat_of_zero_le h1
  obtain ⟨b, rfl⟩ := Int.eq_ofNat_of_zero_le h3
  have h := Nat.xor_lt_two_pow (x := a) (y := b) (n := 32) (by omega) (by omega)
  have ea : a % 2 ^ 64 = a := Nat.mod_eq_of_lt (by omega)
  have eb : b % 2 ^ 64 = b := Nat.mod_eq_of_lt (by omega)
  show IntKind.i64.wrap ((BitVec.ofInt 64 a ^^^ BitVec.ofInt 64 b).toNat : Nat) = _
  rw [BitVec.ofInt_natCast, BitVec.ofInt_natCast, BitVec.toNat_xor, BitVec.toNat_ofNat, BitVec.toNat_ofNat, ea, eb]
  rw [wraps_i64 _ (by omega) (by omega)]
  rfl

theorem xor_u32 (a b : Int) (h1 : 0 ≤ a) (h2 : a < 4294967296) (h3 : 0 ≤ b) (h4 : b < 4294967296) : bits .xor .u32 a b = xr a b := u32_xor a b h1 h2 h3 h4

theorem and1_i64 (n : Int) : bits .and .i64 n 1 = n % 2 := by
  have h1 : (BitVec.ofInt 64 1).toNat = 2 ^ 1 - 1 := by decide
  have key : (BitVec.ofInt 64 n &&& BitVec.ofInt 64 1).toNat = (n % ((2 ^ 64 : Nat) : Int)).toNat % 2 ^ 1 := by
    rw [BitVec.toNat_and, BitVec.toNat_ofInt, h1, Nat.and_two_pow_sub_one_eq_mod]
  show IntKind.i64.wrap ((BitVec.ofInt 64 n &&& BitVec.ofInt 64 1).toNat : Nat) = n % 2
  rw [key, IntKind.wrap_i64]
  omega

/-! ### In natural numbers -/
def stN (x : Nat) : Nat := x / 2 ^^^ (if x % 2 = 1 then 2197175160 else 0)
def tabN (r : Nat) : Nat := [0, 274646895, 549293790, 820201905, 1098587580, 1361435347, 1640403810, 1905808397, 2197175160, 2460548119, 2722870694, 2987750089, 3280807620, 3553878443, 3811616794, 4084100981].getD r 0

theorem stN_xor (a b : Nat) : stN (a ^^^ b) = stN a ^^^ stN b := by
  have h1 : (a ^^^ b) / 2 = a / 2 ^^^ b / 2 := Nat.xor_div_two
  have h2 : (a ^^^ b) % 2 = a % 2 ^^^ b % 2 := Nat.xor_mod_two_pow (n := 1)
  unfold stN
  rw [h1, h2]
  rcases Nat.mod_two_eq_zero_or_one a with ha | ha <;> rcases Nat.mod_two_eq_zero_or_one b with hb | hb <;> simp only [ha, hb] <;> simp
  · rw [Nat.xor_assoc]
  · rw [Nat.xor_assoc, Nat.xor_assoc, Nat.xor_comm (b / 2)]
  · rw [Nat.xor_assoc, Nat.xor_comm 2197175160, Nat.xor_assoc, Nat.xor_self, Nat.xor_zero]

theorem stN_even (a : Nat) : stN (2 * a) = a := by
  unfold stN
  rw [if_neg (by omega), Nat.xor_zero]
  omega

theorem split16 (x : Nat) : x = 16 * (x / 16) ^^^ x % 16 := by
  have h : x = 2 ^ 4 * (x / 2 ^ 4) ^^^ x % 2 ^ 4 := by
    apply Nat.eq_of_testBit_eq
    intro i
    rw [Nat.testBit_xor, Nat.testBit_two_pow_mul, Nat.testBit_mod_two_pow, Nat.testBit_div_two_pow]
    by_cases hi : 4 ≤ i
    · rw [show i - 4 + 4 = i from by omega]
      simp [hi, show ¬ i < 4 from by omega]
    · simp [hi, show i < 4 from by omega]
  exact h

theorem st4_small : ∀ r : Fin 16, stN (stN (stN (stN r.val))) = tabN r.val := by decide +kernel

theorem st4 (x : Nat) : stN (stN (stN (stN x))) = x / 16 ^^^ tabN (x % 16) := by
  have h := split16 x
  generalize x / 16 = q at h ⊢
  generalize hr : x % 16 = r at h ⊢
  have hs := st4_small ⟨r, by omega⟩
  simp only at hs
  rw [h, stN_xor, stN_xor, stN_xor, stN_xor, hs, show 16 * q = 2 * (2 * (2 * (2 * q))) from by omega, stN_even, stN_even, stN_even, stN_even]

/-! ### In integers, as the walks meet them -/
def stI (x : Int) : Int := if x % 2 = 1 then xr (x / 2) 2197175160 else x / 2
theorem stI_odd {x : Int} (h : x % 2 = 1) : stI x = xr (x / 2) 2197175160 := by unfold stI; rw [if_pos h]
theorem stI_even {x : Int} (h : ¬ x % 2 = 1) : stI x = x / 2 := by unfold stI; rw [if_neg h]

theorem stI_cast (x : Nat) : stI x = (stN x : Nat) := by
  unfold stN
  by_cases h : x % 2 = 1
  · rw [stI_odd (by omega), if_pos h]
    unfold xr
    rw [show ((x : Int) / 2).toNat = x / 2 from by omega]
    rfl
  · rw [stI_even (by omega), if_neg h, Nat.xor_zero]
    omega

theorem stI_bd {x : Int} (h0 : 0 ≤ x) (h1 : x < 4294967296) : 0 ≤ stI x ∧ stI x < 4294967296 := by
  by_cases h : x % 2 = 1
  · rw [stI_odd h]; exact xr_lt (by omega) (by omega)
  · rw [stI_even h]; omega

def itI : Nat → Int → Int
  | 0, y => y
  | k + 1, y => stI (itI k y)

theorem itI_bd (k : Nat) {y : Int} (h0 : 0 ≤ y) (h1 : y < 4294967296) : 0 ≤ itI k y ∧ itI k y < 4294967296 := by
  induction k with
  | zero => exact ⟨h0, h1⟩
  | succ k ih => exact stI_bd ih.1 ih.2

def tabI (r : Int) : Int := (tabN r.toNat : Nat)
theorem tabN_lt : ∀ r : Fin 16, tabN r.val < 4294967296 := by decide +kernel
theorem tabI_bd {r : Int} (h0 : 0 ≤ r) (h1 : r < 16) : 0 ≤ tabI r ∧ tabI r < 4294967296 := by
  have := tabN_lt ⟨r.toNat, by omega⟩
  simp only at this
  unfold tabI
  omega

/-- Half a byte at once. -/
def hfI (y : Int) : Int := xr (y / 16) (tabI (y % 16))
theorem hfI_bd {y : Int} (h1 : y < 4294967296) : 0 ≤ hfI y ∧ hfI y < 4294967296 :=
  xr_lt (by omega) (tabI_bd (by omega) (by omega)).2

theorem hfI_cast (y : Nat) : hfI y = (y / 16 ^^^ tabN (y % 16) : Nat) := by
  unfold hfI xr tabI
  rw [show ((y : Int) / 16).toNat = y / 16 from by omega, show ((y : Int) % 16).toNat = y % 16 from by omega, Int.toNat_natCast]

theorem it4 (y : Nat) : itI 4 y = hfI y := by
  simp only [itI]
  rw [stI_cast, stI_cast, stI_cast, stI_cast, st4, hfI_cast]

theorem it_add (j k : Nat) (y : Int) : itI (j + k) y = itI j (itI k y) := by
  induction j with
  | zero => rw [Nat.zero_add]; rfl
  | succ j ih => rw [Nat.succ_add]; simp only [itI]; rw [ih]

theorem it8 {y : Int} (h0 : 0 ≤ y) : itI 8 y = hfI (hfI y) := by
  obtain ⟨y, rfl⟩ := Int.eq_ofNat_of_zero_le h0
  rw [show 8 = 4 + 4 from rfl, it_add, it4, hfI_cast, it4]

def byI (x c : Int) : Int := itI 8 (xr x c)
def runI (zs : List Int) : Int := zs.foldl byI 4294967295
/-- What both programs answer of a sum. -/
def crc (zs : List Int) : Int := xr (runI zs) 4294967295

theorem runI_snoc (l : List Int) (c : Int) : runI (l ++ [c]) = byI (runI l) c := by simp [runI]

theorem foldl_bd (zs : List Int) (hb : BytesOk zs) (x : Int) (h0 : 0 ≤ x) (h1 : x < 4294967296) : 0 ≤ zs.foldl byI x ∧ zs.foldl byI x < 4294967296 := by
  induction zs generalizing x with
  | nil => exact ⟨h0, h1⟩
  | cons c r ih =>
    have hc := hb c (by simp)
    have hx := xr_lt (a := x) (b := c) h1 (by omega)
    have := itI_bd 8 hx.1 hx.2
    exact ih (fun z hz => hb z (by simp [hz])) _ this.1 this.2

theorem runI_bd {zs : List Int} (hb : BytesOk zs) : 0 ≤ runI zs ∧ runI zs < 4294967296 := foldl_bd zs hb _ (by omega) (by omega)

theorem crc_bd {zs : List Int} (hb : BytesOk zs) : 0 ≤ crc zs ∧ crc zs < 4294967296 := xr_lt (runI_bd hb).2 (by omega)

theorem BytesOk.take {zs : List Int} (h : BytesOk zs) (k : Nat) : BytesOk (zs.take k) := fun z hz => h z (List.mem_of_mem_take hz)

theorem runI_step {zs : List Int} {k n : Nat} {c : Int} (hx : zs.length = n) (hk : k < n) (hc : zs.getD k 0 = c) : runI (zs.take (k + 1)) = byI (runI (zs.take k)) c := by
  rw [← hc, ← runI_snoc]
  congr 1
  rw [List.take_succ_eq_append_getElem (by omega), List.getD_eq_getElem?_getD, List.getElem?_eq_getElem (by omega)]
  rfl

theorem not_u32 {X : Int} (h0 : 0 ≤ X) (h1 : X < 4294967296) : bits .xor .u32 IntKind.u32.max X = xr X 4294967295 := by
  rw [show IntKind.u32.max = 4294967295 from by decide, xor_u32 4294967295 X (by omega) (by omega) h0 h1]
  unfold xr
  rw [Nat.xor_comm]

end Go.Proofs.YtconfeecfgdopaaDoor
