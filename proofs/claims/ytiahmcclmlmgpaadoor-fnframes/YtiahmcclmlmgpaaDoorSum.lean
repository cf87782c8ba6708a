/-
  Sum, the specification's and the program's: both answer what 'crc' says.
-/
import Derived.Test.YtiahmcclmlmgpaaDoorRows
import Derived.Test.YtiahmcclmlmgpaaDoorKit
import Derived.Test.YtiahmcclmlmgpaaDoorNumM
import Derived.Laws.BitsAllLaws
namespace Go.Proofs.YtiahmcclmlmgpaaDoor

/-- 'xor' of two numbers that are not negative. -/
def xr (a b : Int) : Int := ((a.toNat ^^^ b.toNat : Nat) : Int)

theorem xr_lt {a b : Int} (ha : a < 4294967296) (hb : b < 4294967296) : 0 ≤ xr a b ∧ xr a b < 4294967296 := by
  have h := Nat.xor_lt_two_pow (x := a.toNat) (y := b.toNat) (n := 32) (by omega) (by omega)
  unfold xr
  omega

theorem xor_i64 (a b : Int) (h1 : 0 ≤ a) (h2 : a < 4294967296) (h3 : 0 ≤ b) (h4 : b < 4294967296) : bits .xor .i64 a b = xr a b := by
  obtain ⟨a, rfl⟩ := Int.eq_ofNat_of_zero_le h1
  obtain ⟨b, rfl⟩ := Int.eq_ofNat_of_zero_le h3
  have h := Nat.xor_lt_two_pow (x := a) (y := b) (n := 32) (by omega) (by omega)
  have ea : a % 2 ^ 64 = a := Nat.mod_eq_of_lt (by omega)
  have eb : b % 2 ^ 64 = b := Nat.mod_eq_of_lt (by omega)
  show IntKind.i64.wrap ((BitVec.ofInt 64 a ^^^ BitVec.ofInt 64 b).toNat : Nat) = _
  rw [BitVec.ofInt_natCast, BitVec.ofInt_natCast, BitVec.toNat_xor, BitVec.toNat_ofNat, BitVec.toNat_ofNat, ea, eb]
  rw [wraps_i64 _ (by omega) (by omega)]
  rfl

theorem xor_u32 (a b : Int) (h1 : 0 ≤ a) (h2 : a < 4294967296) (h3 : 0 ≤ b) (h4 : b < 4294967296) : bits .xor .u32 a b = xr a b := u32_xor a b h1 h2 h3 h4

theorem and1_i64 (n : Int) : bits .and .i64 n 1 = n % 2 := by
  have h1 : (BitVec.ofInt 64 1).toNat = 2 ^ 1 - 1 := by decide
  have key : (BitVec.ofInt 64 n &&& BitVec.ofInt 64 1).toNat = (n % ((2 ^ 64 : Nat) : Int)).toNat % 2 ^ 1 := by
    rw [BitVec.toNat_and, BitVec.toNat_ofInt, h1, Nat.and_two_pow_sub_one_eq_mod]
  show IntKind.i64.wrap ((BitVec.ofInt 64 n &&& BitVec.ofInt 64 1).toNat : Nat) = n % 2
  rw [key, IntKind.wrap_i64]
  omega

/-! ### In natural numbers -/
def stN (x : Nat) : Nat := x / 2 ^^^ (if x % 2 = 1 then 2197175160 else 0)
def tabN (r : Nat) : Nat := [0, 274646895, 549293790, 820201905, 1098587580, 1361435347, 1640403810, 1905808397, 2197175160, 2460548119, 2722870694, 2987750089, 3280807620, 3553878443, 3811616794, 4084100981].getD r 0

theorem stN_xor (a b : Nat) : stN (a ^^^ b) = stN a ^^^ stN b := by
  have h1 : (a ^^^ b) / 2 = a / 2 ^^^ b / 2 := Nat.xor_div_two
  have h2 : (a ^^^ b) % 2 = a % 2 ^^^ b % 2 := Nat.xor_mod_two_pow (n := 1)
  unfold stN
  rw [h1, h2]
  rcases Nat.mod_two_eq_zero_or_one a with ha | ha <;> rcases Nat.mod_two_eq_zero_or_one b with hb | hb <;> simp only [ha, hb] <;> simp
  · rw [Nat.xor_assoc]
  · rw [Nat.xor_assoc, Nat.xor_assoc, Nat.xor_comm (b / 2)]
  · rw [Nat.xor_assoc, Nat.xor_comm 2197175160, Nat.xor_assoc, Nat.xor_self, Nat.xor_zero]

theorem stN_even (a : Nat) : stN (2 * a) = a := by
  unfold stN
  rw [if_neg (by omega), Nat.xor_zero]
  omega

theorem split16 (x : Nat) : x = 16 * (x / 16) ^^^ x % 16 := by
  have h : x = 2 ^ 4 * (x / 2 ^ 4) ^^^ x % 2 ^ 4 := by
    apply Nat.eq_of_testBit_eq
    intro i
    rw [Nat.testBit_xor, Nat.testBit_two_pow_mul, Nat.testBit_mod_two_pow, Nat.testBit_div_two_pow]
    by_cases hi : 4 ≤ i
    · rw [show i - 4 + 4 = i from by omega]
      simp [hi, show ¬ i < 4 from by omega]
    · simp [hi, show i < 4 from by omega]
  exact h

theorem st4_small : ∀ r : Fin 16, stN (stN (stN (stN r.val))) = tabN r.val := by decide +kernel

theorem st4 (x : Nat) : stN (stN (stN (stN x))) = x / 16 ^^^ tabN (x % 16) := by
  have h := split16 x
  generalize x / 16 = q at h ⊢
  generalize hr : x % 16 = r at h ⊢
  have hs := st4_small ⟨r, by omega⟩
  simp only at hs
  rw [h, stN_xor, stN_xor, stN_xor, stN_xor, hs, show 16 * q = 2 * (2 * (2 * (2 * q))) from by omega, stN_even, stN_even, stN_even, stN_even]

/-! ### In integers, as the walks meet them -/
def stI (x : Int) : Int := if x % 2 = 1 then xr (x / 2) 2197175160 else x / 2
theorem stI_odd {x : Int} (h : x % 2 = 1) : stI x = xr (x / 2) 2197175160 := by unfold stI; rw [if_pos h]
theorem stI_even {x : Int} (h : ¬ x % 2 = 1) : stI x = x / 2 := by unfold stI; rw [if_neg h]

theorem stI_cast (x : Nat) : stI x = (stN x : Nat) := by
  unfold stN
  by_cases h : x % 2 = 1
  · rw [stI_odd (by omega), if_pos h]
    unfold xr
    rw [show ((x : Int) / 2).toNat = x / 2 from by omega]
    rfl
  · rw [stI_even (by omega), if_neg h, Nat.xor_zero]
    omega

theorem stI_bd {x : Int} (h0 : 0 ≤ x) (h1 : x < 4294967296) : 0 ≤ stI x ∧ stI x < 4294967296 := by
  by_cases h : x % 2 = 1
  · rw [stI_odd h]; exact xr_lt (by omega) (by omega)
  · rw [stI_even h]; omega

def itI : Nat → Int → Int
  | 0, y => y
  | k + 1, y => stI (itI k y)

theorem itI_bd (k : Nat) {y : Int} (h0 : 0 ≤ y) (h1 : y < 4294967296) : 0 ≤ itI k y ∧ itI k y < 4294967296 := by
  induction k with
  | zero => exact ⟨h0, h1⟩
  | succ k ih => exact stI_bd ih.1 ih.2

def tabI (r : Int) : Int := (tabN r.toNat : Nat)
theorem tabN_lt : ∀ r : Fin 16, tabN r.val < 4294967296 := by decide +kernel
theorem tabI_bd {r : Int} (h0 : 0 ≤ r) (h1 : r < 16) : 0 ≤ tabI r ∧ tabI r < 4294967296 := by
  have := tabN_lt ⟨r.toNat, by omega⟩
  simp only at this
  unfold tabI
  omega

/-- Half a byte at once. -/
def hfI (y : Int) : Int := xr (y / 16) (tabI (y % 16))
theorem hfI_bd {y : Int} (h1 : y < 4294967296) : 0 ≤ hfI y ∧ hfI y < 4294967296 :=
  xr_lt (by omega) (tabI_bd (by omega) (by omega)).2

theorem hfI_cast (y : Nat) : hfI y = (y / 16 ^^^ tabN (y % 16) : Nat) := by
  unfold hfI xr tabI
  rw [show ((y : Int) / 16).toNat = y / 16 from by omega, show ((y : Int) % 16).toNat = y % 16 from by omega, Int.toNat_natCast]

theorem it4 (y : Nat) : itI 4 y = hfI y := by
  simp only [itI]
  rw [stI_cast, stI_cast, stI_cast, stI_cast, st4, hfI_cast]

theorem it_add (j k : Nat) (y : Int) : itI (j + k) y = itI j (itI k y) := by
  induction j with
  | zero => rw [Nat.zero_add]; rfl
  | succ j ih => rw [Nat.succ_add]; simp only [itI]; rw [ih]

theorem it8 {y : Int} (h0 : 0 ≤ y) : itI 8 y = hfI (hfI y) := by
  obtain ⟨y, rfl⟩ := Int.eq_ofNat_of_zero_le h0
  rw [show 8 = 4 + 4 from rfl, it_add, it4, hfI_cast, it4]

def byI (x c : Int) : Int := itI 8 (xr x c)
def runI (zs : List Int) : Int := zs.foldl byI 4294967295
/-- What both programs answer of a sum. -/
def crc (zs : List Int) : Int := xr (runI zs) 4294967295

theorem runI_snoc (l : List Int) (c : Int) : runI (l ++ [c]) = byI (runI l) c := by simp [runI]

theorem foldl_bd (zs : List Int) (hb : BytesOk zs) (x : Int) (h0 : 0 ≤ x) (h1 : x < 4294967296) : 0 ≤ zs.foldl byI x ∧ zs.foldl byI x < 4294967296 := by
  induction zs generalizing x with
  | nil => exact ⟨h0, h1⟩
  | cons c r ih =>
    have hc := hb c (by simp)
    have hx := xr_lt (a := x) (b := c) h1 (by omega)
    have := itI_bd 8 hx.1 hx.2
    exact ih (fun z hz => hb z (by simp [hz])) _ this.1 this.2

theorem runI_bd {zs : List Int} (hb : BytesOk zs) : 0 ≤ runI zs ∧ runI zs < 4294967296 := foldl_bd zs hb _ (by omega) (by omega)

theorem crc_bd {zs : List Int} (hb : BytesOk zs) : 0 ≤ crc zs ∧ crc zs < 4294967296 := xr_lt (runI_bd hb).2 (by omega)

theorem BytesOk.take {zs : List Int} (h : BytesOk zs) (k : Nat) : BytesOk (zs.take k) := fun z hz => h z (List.mem_of_mem_take hz)

theorem runI_step {zs : List Int} {k n : Nat} {c : Int} (hx : zs.length = n) (hk : k < n) (hc : zs.getD k 0 = c) : runI (zs.take (k + 1)) = byI (runI (zs.take k)) c := by
  rw [← hc, ← runI_snoc]
  congr 1
  rw [List.take_succ_eq_append_getElem (by omega), List.getD_eq_getElem?_getD, List.getElem?_eq_getElem (by omega)]
  rfl

theorem not_u32 {X : Int} (h0 : 0 ≤ X) (h1 : X < 4294967296) : bits .xor .u32 IntKind.u32.max X = xr X 4294967295 := by
  rw [show IntKind.u32.max = 4294967295 from by decide, xor_u32 4294967295 X (by omega) (by omega) h0 h1]
  unfold xr
  rw [Nat.xor_comm]

open Go.RowKit
set_option maxRecDepth 10000

set_option maxHeartbeats 400000 in
theorem specSum_any (a : Option Addr) (n cap : Nat) (zs : List Int) (w : World) (B : Nat) (hx : zs.length = n) (hlen : n ≤ 140737488351232) (hb : BytesOk zs) (hra : Rd .u8 B w a zs) :
    Calls Tryd.prog 82 #[.slice a n cap] w fun e w' => e = .returned (.int .i64 (crc zs)) ∧ w' = w := by
  have HX : Hid (zs.length = n) := hx
  clear hx
  go_enter Tryd.func82, Tryd.ntmps82
  go_wp2
  go_loop [3, 4, 5, 6] (fun x i q l => ∃ k : Nat, k ≤ n ∧ i = .int .i64 k ∧ x = .int .i64 (runI (zs.take k))) (fun _ i _ _ => n - (intOf i).toNat)
  case atStart => exact ⟨0, Nat.zero_le _, rfl, rfl⟩
  case round =>
    obtain ⟨k, hk, rfl, rfl⟩ := hrel
    have hbd := runI_bd (hb.take k)
    by_cases hlt : k < n
    · obtain ⟨b1, o1, rfl, _, hc1⟩ := hra k (by rw [HX.out]; exact hlt)
      have hcr := hb.getD k
      generalize hC : zs.getD k 0 = c at hc1 hcr
      have HS := Hid.mk (runI_step HX.out hlt hC)
      clear hC hra hb
      generalize runI (zs.take k) = X at hbd HS
      have hx1 := xor_i64 X c hbd.1 hbd.2 hcr.1 (by omega)
      have hxb := xr_lt (a := X) (b := c) hbd.2 (by omega)
      have HB : Hid (byI X c = itI 8 (xr X c)) := rfl
      generalize xr X c = Y at hx1 hxb HB
      go_wp2
      go_loop [3, 5, 6] (fun x q l => ∃ j : Nat, j ≤ 8 ∧ q = .int .i64 j ∧ x = .int .i64 (itI j Y)) (fun _ q _ => 8 - (intOf q).toNat)
      case atStart => exact ⟨0, Nat.zero_le _, rfl, rfl⟩
      case round =>
        obtain ⟨j, hj, rfl, rfl⟩ := hrel
        have hib := itI_bd j hxb.1 hxb.2
        by_cases hj8 : j < 8
        · have HI : Hid (itI (j + 1) Y = stI (itI j Y)) := rfl
          generalize itI j Y = Z at hib HI
          have hand := and1_i64 Z
          by_cases ho : Z % 2 = 1
          · have hx2 := xor_i64 (Z / 2) 2197175160 (by omega) (by omega) (by omega) (by omega)
            have HO := Hid.mk ho
            have hob : (Z % 2 == 1) = true := by simp [ho]
            clear ho
            go_wp2
            go_round
            case rel => exact ⟨j + 1, by omega, by go_num, by rw [HI.out, stI_odd HO.out]⟩
            case measure => simp [intOf]; omega
          · have hob : (Z % 2 == 1) = false := by simp [ho]
            go_wp2
            go_round
            case rel => exact ⟨j + 1, by omega, by go_num, by rw [HI.out, stI_even ho]⟩
            case measure => simp [intOf]; omega
        · have hj' : j = 8 := by omega
          subst hj'
          have HI := HB.out
          generalize itI 8 Y = Z at HI
          have HI' := Hid.mk HI
          clear HI
          go_wp2
          go_round
          case rel => exact ⟨k + 1, by omega, by go_num, by rw [HS.out, HI'.out]⟩
          case measure => simp [intOf]; omega
    · have hkn : k = n := by omega
      have HT : Hid (crc zs = xr (runI (zs.take k)) 4294967295) := by unfold Hid crc; rw [List.take_of_length_le (by rw [HX.out]; omega)]
      generalize runI (zs.take k) = X at hbd HT
      have hx1 := xor_i64 X 4294967295 hbd.1 hbd.2 (by omega) (by omega)
      go_wp2
      go_ret
      exact ⟨by rw [HT.out]; rfl, rfl⟩

/-- What the table's variable holds. -/
def TabAt (w : World) : Prop := ∀ r : Nat, r < 16 → w.cell? ⟨0, r, none⟩ = some (.int .u32 (tabI r))

theorem TabAt.size {w : World} (h : TabAt w) : 0 < w.heap.size := Nat.lt_of_le_of_lt (Nat.zero_le _) (World.block_lt_of_cell? _ _ (h 0 (by decide)))
theorem TabAt.below {w w' : World} (h : TabAt w) (hb : Below w.heap.size w w') (_hB : 0 < w.heap.size) : TabAt w' := fun r hr => (hb.cell (p := ⟨0, r, none⟩) (World.block_lt_of_cell? _ _ (h r hr))).trans (h r hr)

set_option maxHeartbeats 400000 in
theorem implSum_any (a : Option Addr) (n cap : Nat) (zs : List Int) (w : World) (B : Nat) (hx : zs.length = n) (hlen : n ≤ 140737488351232) (hb : BytesOk zs) (hra : Rd .u8 B w a zs) (ht : TabAt w) :
    Calls Tryd.prog 48 #[.slice a n cap] w fun e w' => e = .returned (.int .i64 (crc zs)) ∧ w' = w := by
  have HX : Hid (zs.length = n) := hx
  clear hx
  go_enter Tryd.func48, Tryd.ntmps48
  go_wp2
  go_loop [3, 5, 8] (fun x q i => ∃ k : Nat, k ≤ n ∧ i = .int .i64 k ∧ x = .int .u32 (runI (zs.take k))) (fun _ _ i => n - (intOf i).toNat)
  case atStart => exact ⟨0, Nat.zero_le _, rfl, rfl⟩
  case round =>
    obtain ⟨k, hk, rfl, rfl⟩ := hrel
    have hbd := runI_bd (hb.take k)
    by_cases hlt : k < n
    · obtain ⟨b1, o1, rfl, _, hc1⟩ := hra k (by rw [HX.out]; exact hlt)
      have hcr := hb.getD k
      generalize hC : zs.getD k 0 = c at hc1 hcr
      have HS := Hid.mk (runI_step HX.out hlt hC)
      clear hC hra hb
      generalize runI (zs.take k) = X at hbd HS
      have hx1 := xor_u32 X c hbd.1 hbd.2 hcr.1 (by omega)
      have hxb := xr_lt (a := X) (b := c) hbd.2 (by omega)
      have HB : Hid (byI X c = hfI (hfI (xr X c))) := it8 hxb.1
      generalize xr X c = Y at hx1 hxb HB
      have ht1 := ht (Y % 16).toNat (by omega)
      rw [show (((Y % 16).toNat : Nat) : Int) = Y % 16 from by omega] at ht1
      have htb := tabI_bd (r := Y % 16) (by omega) (by omega)
      have hx2 := xor_u32 (Y / 16) (tabI (Y % 16)) (by omega) (by omega) htb.1 htb.2
      have hyb := hfI_bd hxb.2
      have e2 : xr (Y / 16) (tabI (Y % 16)) = hfI Y := rfl
      rw [e2] at hx2
      generalize hfI Y = Z at hx2 hyb HB
      generalize tabI (Y % 16) = t1 at ht1 htb hx2
      have ht2 := ht (Z % 16).toNat (by omega)
      rw [show (((Z % 16).toNat : Nat) : Int) = Z % 16 from by omega] at ht2
      have htb2 := tabI_bd (r := Z % 16) (by omega) (by omega)
      have hx3 := xor_u32 (Z / 16) (tabI (Z % 16)) (by omega) (by omega) htb2.1 htb2.2
      have e3 : xr (Z / 16) (tabI (Z % 16)) = hfI Z := rfl
      rw [e3] at hx3
      generalize hfI Z = V at hx3 HB
      generalize tabI (Z % 16) = t2 at ht2 htb2 hx3
      clear ht e2 e3
      go_wp2
      go_round
      case rel => exact ⟨k + 1, by omega, by go_num, by rw [HS.out, HB.out]⟩
      case measure => simp [intOf]; omega
    · have hkn : k = n := by omega
      have HT : Hid (crc zs = xr (runI (zs.take k)) 4294967295) := by unfold Hid crc; rw [List.take_of_length_le (by rw [HX.out]; omega)]
      generalize runI (zs.take k) = X at hbd HT
      have hx1 := not_u32 hbd.1 hbd.2
      have hxb := xr_lt (a := X) (b := 4294967295) hbd.2 (by omega)
      generalize xr X 4294967295 = V at hx1 hxb HT
      go_wp2
      go_ret
      refine ⟨?_, rfl⟩
      rw [HT.out]
      show Ending.returned (Value.int .i64 (wrap64 V)) = _
      rw [show wrap64 V = V from by unfold wrap64; omega]

end Go.Proofs.YtiahmcclmlmgpaaDoor
