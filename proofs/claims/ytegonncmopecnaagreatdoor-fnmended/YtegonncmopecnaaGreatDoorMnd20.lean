/-
  Part 21 of the texts that the proof leans on.
-/
import Derived.Test.YtegonncmopecnaaGreatDoorRows
import Derived.Test.YtegonncmopecnaaGreatDoorMnd0
import Derived.Test.YtegonncmopecnaaGreatDoorMnd19
import Derived.Test.YtegonncmopecnaaGreatDoorMnd19p
import Derived.Laws.BitsAllLaws
import Derived.Test.YtegonncmopecnaaGreatDoorMnd14
set_option linter.unusedVariables false
set_option linter.unusedSimpArgs false
set_option maxRecDepth 10000

namespace Go.Proofs.YtegonncmopecnaaGreatDoor
def xr (a b : Int) : Int := ((a.toNat ^^^ b.toNat : Nat) : Int)
theorem xr_lt {a b : Int} (ha : a < 4294967296) (hb : b < 4294967296) : 0 <= xr a b /\ xr a b < 4294967296 := by
 have h := Nat.xor_lt_two_pow (x := a.toNat) (y := b.toNat) (n := 32) (by omega) (by omega)
 unfold xr
 omega
theorem xor_i64 (a b : Int) (h1 : 0 <= a) (h2 : a < 4294967296) (h3 : 0 <= b) (h4 : b < 4294967296) : bits .xor .i64 a b = xr a b := by
 obtain ⟨a, rfl⟩ := Int.eq_ofNat_of_zero_le h1
 obtain ⟨b, rfl⟩ := Int.eq_ofNat_of_zero_le h3
 have h := Nat.xor_lt_two_pow (x := a) (y := b) (n := 32) (by omega) (by omega)
 have ea : a % 2 ^ 64 = a := Nat.mod_eq_of_lt (by omega)
 have eb : b % 2 ^ 64 = b := Nat.mod_eq_of_lt (by omega)
 show IntKind.i64.wrap ((BitVec.ofInt 64 a ^^^ BitVec.ofInt 64 b).toNat : Nat) = _
 rw [BitVec.ofInt_natCast, BitVec.ofInt_natCast, BitVec.toNat_xor, BitVec.toNat_ofNat, BitVec.toNat_ofNat, ea, eb]
 rw [wraps_i64 _ (by omega) (by omega)]
 rfl
theorem xor_u32 (a b : Int) (h1 : 0 <= a) (h2 : a < 4294967296) (h3 : 0 <= b) (h4 : b < 4294967296) : bits .xor .u32 a b = xr a b := u32_xor a b h1 h2 h3 h4
theorem and1_i64 (n : Int) : bits .and .i64 n 1 = n % 2 := by
 have h1 : (BitVec.ofInt 64 1).toNat = 2 ^ 1 - 1 := by decide
 have key : (BitVec.ofInt 64 n &&& BitVec.ofInt 64 1).toNat = (n % ((2 ^ 64 : Nat) : Int)).toNat % 2 ^ 1 := by
  rw [BitVec.toNat_and, BitVec.toNat_ofInt, h1, Nat.and_two_pow_sub_one_eq_mod]
 show IntKind.i64.wrap ((BitVec.ofInt 64 n &&& BitVec.ofInt 64 1).toNat : Nat) = n % 2
 rw [key, IntKind.wrap_i64]
 omega
def stN (x : Nat) : Nat := x / 2 ^^^ (if x % 2 = 1 then 2197175160 else 0)
def tabN (r : Nat) : Nat := [0, 274646895, 549293790, 820201905, 1098587580, 1361435347, 1640403810, 1905808397, 2197175160, 2460548119, 2722870694, 2987750089, 3280807620, 3553878443, 3811616794, 4084100981].getD r 0
theorem stN_xor (a b : Nat) : stN (a ^^^ b) = stN a ^^^ stN b := by
 have h1 : (a ^^^ b) / 2 = a / 2 ^^^ b / 2 := Nat.xor_div_two
 have h2 : (a ^^^ b) % 2 = a % 2 ^^^ b % 2 := Nat.xor_mod_two_pow (n := 1)
 unfold stN
 rw [h1, h2]
 rcases Nat.mod_two_eq_zero_or_one a with ha | ha <;> rcases Nat.mod_two_eq_zero_or_one b with hb | hb <;> simp only [ha, hb] <;> simp
 ·rw [Nat.xor_assoc]
 ·rw [Nat.xor_assoc, Nat.xor_assoc, Nat.xor_comm (b / 2)]
 ·rw [Nat.xor_assoc, Nat.xor_comm 2197175160, Nat.xor_assoc, Nat.xor_self, Nat.xor_zero]
theorem stN_even (a : Nat) : stN (2 * a) = a := by
 unfold stN
 rw [if_neg (by omega), Nat.xor_zero]
 omega
theorem split16 (x : Nat) : x = 16 * (x / 16) ^^^ x % 16 := by
 have h : x = 2 ^ 4 * (x / 2 ^ 4) ^^^ x % 2 ^ 4 := by
  apply Nat.eq_of_testBit_eq
  intro i
  rw [Nat.testBit_xor, Nat.testBit_two_pow_mul, Nat.testBit_mod_two_pow, Nat.testBit_div_two_pow]
  by_cases hi : 4 <= i
  ·rw [show i - 4 + 4 = i from by omega]
   simp [hi, show ¬ i < 4 from by omega]
  ·simp [hi, show i < 4 from by omega]
 exact h
theorem st4_small : ∀ r : Fin 16, stN (stN (stN (stN r.val))) = tabN r.val := by decide +kernel
theorem st4 (x : Nat) : stN (stN (stN (stN x))) = x / 16 ^^^ tabN (x % 16) := by
 have h := split16 x
 generalize x / 16 = q at h ⊢
 generalize hr : x % 16 = r at h ⊢
 have hs := st4_small ⟨r, by omega⟩
 simp only at hs
 rw [h, stN_xor, stN_xor, stN_xor, stN_xor, hs, show 16 * q = 2 * (2 * (2 * (2 * q))) from by omega, stN_even, stN_even, stN_even, stN_even]
def stI (x : Int) : Int := if x % 2 = 1 then xr (x / 2) 2197175160 else x / 2
theorem stI_odd {x : Int} (h : x % 2 = 1) : stI x = xr (x / 2) 2197175160 := by unfold stI; rw [if_pos h]
theorem stI_even {x : Int} (h : ¬ x % 2 = 1) : stI x = x / 2 := by unfold stI; rw [if_neg h]
theorem stI_cast (x : Nat) : stI x = (stN x : Nat) := by
 unfold stN
 by_cases h : x % 2 = 1
 ·rw [stI_odd (by omega), if_pos h]
  unfold xr
  rw [show ((x : Int) / 2).toNat = x / 2 from by omega]
  rfl
 ·rw [stI_even (by omega), if_neg h, Nat.xor_zero]
  omega
theorem stI_bd {x : Int} (h0 : 0 <= x) (h1 : x < 4294967296) : 0 <= stI x /\ stI x < 4294967296 := by
 by_cases h : x % 2 = 1
 ·rw [stI_odd h]; exact xr_lt (by omega) (by omega)
 ·rw [stI_even h]; omega
def itI : Nat -> Int -> Int
 | 0, y => y
 | k + 1, y => stI (itI k y)
theorem itI_bd (k : Nat) {y : Int} (h0 : 0 <= y) (h1 : y < 4294967296) : 0 <= itI k y /\ itI k y < 4294967296 := by
 induction k with
 | zero => exact ⟨h0, h1⟩
 | succ k ih => exact stI_bd ih.1 ih.2
def tabI (r : Int) : Int := (tabN r.toNat : Nat)
theorem tabN_lt : ∀ r : Fin 16, tabN r.val < 4294967296 := by decide +kernel
theorem tabI_bd {r : Int} (h0 : 0 <= r) (h1 : r < 16) : 0 <= tabI r /\ tabI r < 4294967296 := by
 have := tabN_lt ⟨r.toNat, by omega⟩
 simp only at this
 unfold tabI
 omega
def hfI (y : Int) : Int := xr (y / 16) (tabI (y % 16))
theorem hfI_bd {y : Int} (h1 : y < 4294967296) : 0 <= hfI y /\ hfI y < 4294967296 :=
 xr_lt (by omega) (tabI_bd (by omega) (by omega)).2
theorem hfI_cast (y : Nat) : hfI y = (y / 16 ^^^ tabN (y % 16) : Nat) := by
 unfold hfI xr tabI
 rw [show ((y : Int) / 16).toNat = y / 16 from by omega, show ((y : Int) % 16).toNat = y % 16 from by omega, Int.toNat_natCast]
theorem it4 (y : Nat) : itI 4 y = hfI y := by
 simp only [itI]
 rw [stI_cast, stI_cast, stI_cast, stI_cast, st4, hfI_cast]
theorem it_add (j k : Nat) (y : Int) : itI (j + k) y = itI j (itI k y) := by
 induction j with
 | zero => rw [Nat.zero_add]; rfl
 | succ j ih => rw [Nat.succ_add]; simp only [itI]; rw [ih]
theorem it8 {y : Int} (h0 : 0 <= y) : itI 8 y = hfI (hfI y) := by
 obtain ⟨y, rfl⟩ := Int.eq_ofNat_of_zero_le h0
 rw [show 8 = 4 + 4 from rfl, it_add, it4, hfI_cast, it4]
def byI (x c : Int) : Int := itI 8 (xr x c)
def runI (zs : List Int) : Int := zs.foldl byI 4294967295
def crc (zs : List Int) : Int := xr (runI zs) 4294967295
theorem runI_snoc (l : List Int) (c : Int) : runI (l ++ [c]) = byI (runI l) c := by simp [runI]
theorem foldl_bd (zs : List Int) (hb : BytesOk zs) (x : Int) (h0 : 0 <= x) (h1 : x < 4294967296) : 0 <= zs.foldl byI x /\ zs.foldl byI x < 4294967296 := by
 induction zs generalizing x with
 | nil => exact ⟨h0, h1⟩
 | cons c r ih =>
  have hc := hb c (by simp)
  have hx := xr_lt (a := x) (b := c) h1 (by omega)
  have := itI_bd 8 hx.1 hx.2
  exact ih (fun z hz => hb z (by simp [hz])) _ this.1 this.2
theorem runI_bd {zs : List Int} (hb : BytesOk zs) : 0 <= runI zs /\ runI zs < 4294967296 := foldl_bd zs hb _ (by omega) (by omega)
theorem crc_bd {zs : List Int} (hb : BytesOk zs) : 0 <= crc zs /\ crc zs < 4294967296 := xr_lt (runI_bd hb).2 (by omega)
theorem BytesOk.take {zs : List Int} (h : BytesOk zs) (k : Nat) : BytesOk (zs.take k) := fun z hz => h z (List.mem_of_mem_take hz)
theorem runI_step {zs : List Int} {k n : Nat} {c : Int} (hx : zs.length = n) (hk : k < n) (hc : zs.getD k 0 = c) : runI (zs.take (k + 1)) = byI (runI (zs.take k)) c := by
 rw [<- hc, <- runI_snoc]
 congr 1
 rw [List.take_succ_eq_append_getElem (by omega), List.getD_eq_getElem?_getD, List.getElem?_eq_getElem (by omega)]
 rfl
theorem not_u32 {X : Int} (h0 : 0 <= X) (h1 : X < 4294967296) : bits .xor .u32 IntKind.u32.max X = xr X 4294967295 := by
 rw [show IntKind.u32.max = 4294967295 from by decide, xor_u32 4294967295 X (by omega) (by omega) h0 h1]
 unfold xr
 rw [Nat.xor_comm]
open Go.RowKit
set_option maxHeartbeats 400000 in
theorem specSum_any (a : Option Addr) (n cap : Nat) (zs : List Int) (w : World) (B : Nat) (hx : zs.length = n) (hlen : n <= 140737488351232) (hb : BytesOk zs) (hra : Rd .u8 B w a zs) :
  Calls Tryz.prog 87 #[.slice a n cap] w fun e w' => e = .returned (.int .i64 (crc zs)) /\ w' = w := by
 have HX : Hid (zs.length = n) := hx
 clear hx
 go_enter Tryz.func87, Tryz.ntmps87
 go_wp2
 go_loop [3, 4, 5, 6] (fun x i q l => ∃ k : Nat, k <= n /\ i = .int .i64 k /\ x = .int .i64 (runI (zs.take k))) (fun _ i _ _ => n - (intOf i).toNat)
 case atStart => exact ⟨0, Nat.zero_le _, rfl, rfl⟩
 case round =>
  obtain ⟨k, hk, rfl, rfl⟩ := hrel
  have hbd := runI_bd (hb.take k)
  by_cases hlt : k < n
  ·obtain ⟨b1, o1, rfl, _, hc1⟩ := hra k (by rw [HX.out]; exact hlt)
   have hcr := hb.getD k
   generalize hC : zs.getD k 0 = c at hc1 hcr
   have HS := Hm (runI_step HX.out hlt hC)
   clear hC hra hb
   generalize runI (zs.take k) = X at hbd HS
   have hx1 := xor_i64 X c hbd.1 hbd.2 hcr.1 (by omega)
   have hxb := xr_lt (a := X) (b := c) hbd.2 (by omega)
   have HB : Hid (byI X c = itI 8 (xr X c)) := rfl
   generalize xr X c = Y at hx1 hxb HB
   go_wp2
   go_loop [3, 5, 6] (fun x q l => ∃ j : Nat, j <= 8 /\ q = .int .i64 j /\ x = .int .i64 (itI j Y)) (fun _ q _ => 8 - (intOf q).toNat)
   case atStart => exact ⟨0, Nat.zero_le _, rfl, rfl⟩
   case round =>
    obtain ⟨j, hj, rfl, rfl⟩ := hrel
    have hib := itI_bd j hxb.1 hxb.2
    by_cases hj8 : j < 8
    ·have HI : Hid (itI (j + 1) Y = stI (itI j Y)) := rfl
     generalize itI j Y = Z at hib HI
     have hand := and1_i64 Z
     by_cases ho : Z % 2 = 1
     ·have hx2 := xor_i64 (Z / 2) 2197175160 (by omega) (by omega) (by omega) (by omega)
      have HO := Hm ho
      have hob : (Z % 2 == 1) = true := by simp [ho]
      clear ho
      go_wp2
      go_round
      case rel => exact ⟨j + 1, by omega, by go_num, by rw [HI.out, stI_odd HO.out]⟩
      case measure => simp [intOf]; omega
     ·have hob : (Z % 2 == 1) = false := by simp [ho]
      go_wp2
      go_round
      case rel => exact ⟨j + 1, by omega, by go_num, by rw [HI.out, stI_even ho]⟩
      case measure => simp [intOf]; omega
    ·have hj' : j = 8 := by omega
     subst hj'
     have HI := HB.out
     generalize itI 8 Y = Z at HI
     have HI' := Hm HI
     clear HI
     go_wp2
     go_round
     case rel => exact ⟨k + 1, by omega, by go_num, by rw [HS.out, HI'.out]⟩
     case measure => simp [intOf]; omega
  ·have hkn : k = n := by omega
   have HT : Hid (crc zs = xr (runI (zs.take k)) 4294967295) := by unfold Hid crc; rw [List.take_of_length_le (by rw [HX.out]; omega)]
   generalize runI (zs.take k) = X at hbd HT
   have hx1 := xor_i64 X 4294967295 hbd.1 hbd.2 (by omega) (by omega)
   go_wp2
   go_ret
   exact ⟨by rw [HT.out]; rfl, rfl⟩
def TabAt (w : World) : Prop := ∀ r : Nat, r < 16 -> w.cell? ⟨0, r, none⟩ = some (.int .u32 (tabI r))
theorem TabAt.size {w : World} (h : TabAt w) : 0 < w.heap.size := Nat.lt_of_le_of_lt (Nat.zero_le _) (World.block_lt_of_cell? _ _ (h 0 (by decide)))
theorem TabAt.below {w w' : World} (h : TabAt w) (hb : Below w.heap.size w w') (_hB : 0 < w.heap.size) : TabAt w' := fun r hr => (hb.cell (p := ⟨0, r, none⟩) (World.block_lt_of_cell? _ _ (h r hr))).trans (h r hr)
set_option maxHeartbeats 400000 in
theorem implSum_any (a : Option Addr) (n cap : Nat) (zs : List Int) (w : World) (B : Nat) (hx : zs.length = n) (hlen : n <= 140737488351232) (hb : BytesOk zs) (hra : Rd .u8 B w a zs) (ht : TabAt w) :
  Calls Tryz.prog 69 #[.slice a n cap] w fun e w' => e = .returned (.int .i64 (crc zs)) /\ w' = w := by
 have HX : Hid (zs.length = n) := hx
 clear hx
 go_enter Tryz.func69, Tryz.ntmps69
 go_wp2
 go_loop [3, 5, 8] (fun x q i => ∃ k : Nat, k <= n /\ i = .int .i64 k /\ x = .int .u32 (runI (zs.take k))) (fun _ _ i => n - (intOf i).toNat)
 case atStart => exact ⟨0, Nat.zero_le _, rfl, rfl⟩
 case round =>
  obtain ⟨k, hk, rfl, rfl⟩ := hrel
  have hbd := runI_bd (hb.take k)
  by_cases hlt : k < n
  ·obtain ⟨b1, o1, rfl, _, hc1⟩ := hra k (by rw [HX.out]; exact hlt)
   have hcr := hb.getD k
   generalize hC : zs.getD k 0 = c at hc1 hcr
   have HS := Hm (runI_step HX.out hlt hC)
   clear hC hra hb
   generalize runI (zs.take k) = X at hbd HS
   have hx1 := xor_u32 X c hbd.1 hbd.2 hcr.1 (by omega)
   have hxb := xr_lt (a := X) (b := c) hbd.2 (by omega)
   have HB : Hid (byI X c = hfI (hfI (xr X c))) := it8 hxb.1
   generalize xr X c = Y at hx1 hxb HB
   have ht1 := ht (Y % 16).toNat (by omega)
   rw [show (((Y % 16).toNat : Nat) : Int) = Y % 16 from by omega] at ht1
   have htb := tabI_bd (r := Y % 16) (by omega) (by omega)
   have hx2 := xor_u32 (Y / 16) (tabI (Y % 16)) (by omega) (by omega) htb.1 htb.2
   have hyb := hfI_bd hxb.2
   have e2 : xr (Y / 16) (tabI (Y % 16)) = hfI Y := rfl
   rw [e2] at hx2
   generalize hfI Y = Z at hx2 hyb HB
   generalize tabI (Y % 16) = t1 at ht1 htb hx2
   have ht2 := ht (Z % 16).toNat (by omega)
   rw [show (((Z % 16).toNat : Nat) : Int) = Z % 16 from by omega] at ht2
   have htb2 := tabI_bd (r := Z % 16) (by omega) (by omega)
   have hx3 := xor_u32 (Z / 16) (tabI (Z % 16)) (by omega) (by omega) htb2.1 htb2.2
   have e3 : xr (Z / 16) (tabI (Z % 16)) = hfI Z := rfl
   rw [e3] at hx3
   generalize hfI Z = V at hx3 HB
   generalize tabI (Z % 16) = t2 at ht2 htb2 hx3
   clear ht e2 e3
   go_wp2
   go_round
   case rel => exact ⟨k + 1, by omega, by go_num, by rw [HS.out, HB.out]⟩
   case measure => simp [intOf]; omega
  ·have hkn : k = n := by omega
   have HT : Hid (crc zs = xr (runI (zs.take k)) 4294967295) := by unfold Hid crc; rw [List.take_of_length_le (by rw [HX.out]; omega)]
   generalize runI (zs.take k) = X at hbd HT
   have hx1 := not_u32 hbd.1 hbd.2
   have hxb := xr_lt (a := X) (b := 4294967295) hbd.2 (by omega)
   generalize xr X 4294967295 = V at hx1 hxb HT
   go_wp2
   go_ret
   refine ⟨?_, rfl⟩
   rw [HT.out]
   show Ending.returned (Value.int .i64 (wrap64 V)) = _
   rw [show wrap64 V = V from by unfold wrap64; omega]
end Go.Proofs.YtegonncmopecnaaGreatDoor

namespace Go.Proofs.YtegonncmopecnaaGreatDoor
open Go.RowKit
def four (x : Int) : List Int := [x / 16777216, x / 65536 % 256, x / 256 % 256, x % 256]
theorem four_length (x : Int) : (four x).length = 4 := rfl
theorem four_ok {x : Int} (h0 : 0 <= x) (h1 : x < 4294967296) : BytesOk (four x) := by
 intro z hz
 simp only [four, List.mem_cons, List.not_mem_nil, or_false] at hz
 omega
def frame (zs : List Int) : List Int := four (crc zs) ++ putNum (clampN zs.length) ++ zs
theorem frame_own {w : World} {base e n : Nat} {v : Value} {zs : List Int} (hn : zs.length = n) {m : Nat} {l : List Value} (h : w.ownsRow base e 1 v m l)
  (hm : m = (four (crc zs) ++ putNum (clampN n)).length + n) (hl : l = (four (crc zs) ++ putNum (clampN n)).map (Value.int .u8) ++ zs.map (Value.int .u8)) :
  w.ownsRow base e 1 v (frame zs).length ((frame zs).map (Value.int .u8)) := by
 refine own_congr h ?_ ?_
 ·rw [hm]; simp only [frame, List.length_append, hn]
 ·rw [hl]; simp [frame, hn]
set_option maxHeartbeats 400000 in
theorem implFour_any (x : Int) (w : World) (h0 : 0 <= x) (h1 : x < 4294967296) :
  Calls Tryz.prog 68 #[.int .i64 x] w fun e w' => e = .returned (.slice (some ⟨w.heap.size, 0, none⟩) 4 4) /\
   w'.ownsRow w.heap.size 5 1 (.slice (some ⟨w.heap.size, 0, none⟩) 4 4) 4 ((four x).map (Value.int .u8)) /\ Below w.heap.size w w' := by
 go_enter Tryz.func68, Tryz.ntmps68
 go_wp2
 go_ret
 exact ⟨rfl, World.ownsRow_lit w _ 4 rN (by decide) rfl, rB.alloc rN _⟩
set_option maxHeartbeats 400000 in
theorem implFrame_R (a : Option Addr) (n cap : Nat) (zs : List Int) (w : World) (hx : zs.length = n) (hlen : n <= 35184372088832) (hr : Rd .u8 w.heap.size w a zs) (hb : BytesOk zs) (ht : TabAt w) :
  Calls Tryz.prog 31 #[.slice a n cap] w fun e w' => ∃ v, e = .returned v /\
   w'.ownsRow w.heap.size 5 1 v (frame zs).length ((frame zs).map (Value.int .u8)) /\ Below w.heap.size w w' := by
 obtain ⟨i0, hi, hz0, hz1, hz2⟩ := info_parts Tryz.info5
 have HX : Hid (zs.length = n) := hx
 clear hx
 have hpl := putNum_length (clampN n)
 have hcb := crc_bd hb
 go_enter Tryz.func31, Tryz.ntmps31
 go_wp2_with fail
 refine (implSum_any a n cap zs _ _ HX.out (by omega) hb (by exact hr) ht).mono ?_
 rintro e w0 ⟨rfl, rfl⟩
 go_wp2_with fail
 refine (implFour_any (crc zs) _ hcb.1 hcb.2).mono ?_
 rintro e w1 ⟨rfl, hown1, hb1⟩
 go_wp2_with fail
 have hb1' : Below w1.heap.size w1 (w1.alloc (.cells #[.int .i64 n] 3)) := rB.alloc rN _
 refine (putNums_any _ _ 4 4 1 1 (four (crc zs)) [(n : Int)] _ rfl rfl (by omega) (by omega) (((Rd.own rfl hown1).below hb1').mono (by simp)) (by simpa using rd_one .i64 w1 n 3)).mono ?_
 rintro e w2 ⟨v2, rfl, hown2, hb2⟩
 have hown2' : w2.ownsRow w0.heap.size 5 1 v2 (four (crc zs) ++ putNum (clampN n)).length ((four (crc zs) ++ putNum (clampN n)).map (Value.int .u8)) :=
  own_base (own_congr hown2 (by simp [putNums, four_length]) (by simp [putNums])) (by simpa using Nat.le_trans hb1.size (Nat.le_succ _))
 have hB2 := hb1.trans ((hb1'.trans (hb2.mono (by simp))).mono hb1.size)
 have hr2 := hr.below hB2
 have hl : (four (crc zs) ++ putNum (clampN n)).length <= 9 := by rw [List.length_append, four_length]; omega
 clear hown1 hown2 hb1 hb2 hb1'
 go_wp2_with (at_builtin; refine wpList_append_src _ rfl _ _ 22 22 rfl w0.heap.size 5 i0 (.int .u8 0) 1 1 Tryz.underlying22 hi hz0 hz1 hz2 rfl _ _ _ rfl hown2' n (zs.map (Value.int .u8)) (Src.rd Tryz.underlying22 HX.out hr2) (by unfold maxLen; omega) (by omega) hB2.size ?_)
 intro v3 w3 hown3 hgr3
 have hown4 := frame_own HX.out hown3 (by simp) (by simp)
 have hb3 := hB2.grown hgr3 hB2.size (fun k h => (hown2'.lt k h).1)
 clear hown3 hown2' hgr3 hB2
 go_wp2
 go_ret
 exact ⟨v3, rfl, hown4, hb3⟩
set_option maxHeartbeats 400000 in
theorem specFour_any (x : Int) (w : World) (h0 : 0 <= x) (h1 : x < 4294967296) :
  Calls Tryz.prog 93 #[.int .i64 x] w fun e w' => e = .returned (.slice (some ⟨w.heap.size, 0, none⟩) 4 4) /\
   w'.ownsRow w.heap.size 5 1 (.slice (some ⟨w.heap.size, 0, none⟩) 4 4) 4 ((four x).map (Value.int .u8)) /\ Below w.heap.size w w' := by
 go_enter Tryz.func93, Tryz.ntmps93
 go_wp2
 go_ret
 exact ⟨rfl, World.ownsRow_lit w _ 4 rN (by decide) rfl, rB.alloc rN _⟩
set_option maxHeartbeats 400000 in
theorem specFrame_Q (a : Option Addr) (n cap : Nat) (zs : List Int) (w : World) (hx : zs.length = n) (hlen : n <= 35184372088832) (hr : Rd .u8 w.heap.size w a zs) (hb : BytesOk zs) :
  Calls Tryz.prog 75 #[.slice a n cap] w fun e w' => ∃ v, e = .returned v /\
   w'.ownsRow w.heap.size 5 1 v (frame zs).length ((frame zs).map (Value.int .u8)) /\ Below w.heap.size w w' := by
 obtain ⟨i0, hi, hz0, hz1, hz2⟩ := info_parts Tryz.info5
 have HX : Hid (zs.length = n) := hx
 clear hx
 have hpl := putNum_length (clampN n)
 have hcb := crc_bd hb
 go_enter Tryz.func75, Tryz.ntmps75
 go_wp2_with fail
 refine (specSum_any a n cap zs _ _ HX.out (by omega) hb (by exact hr)).mono ?_
 rintro e w0 ⟨rfl, rfl⟩
 go_wp2_with fail
 refine (specFour_any (crc zs) _ hcb.1 hcb.2).mono ?_
 rintro e w1 ⟨rfl, hown1, hb1⟩
 go_wp2_with fail
 refine (specPutNum_R _ 4 4 (four (crc zs)) _ _ rfl (by omega) (by exact Rd.own rfl hown1)).mono ?_
 rintro e w2 ⟨v2, rfl, hown2, hb2⟩
 have hown2' := own_base hown2 hb1.size
 have hB2 := hb1.trans (hb2.mono hb1.size)
 have hr2 := hr.below hB2
 have hl : (four (crc zs) ++ putNum (clampN n)).length <= 9 := by rw [List.length_append, four_length]; omega
 clear hown1 hown2 hb1 hb2
 go_wp2_with (at_builtin; refine wpList_append_src _ rfl _ _ 22 22 rfl w0.heap.size 5 i0 (.int .u8 0) 1 1 Tryz.underlying22 hi hz0 hz1 hz2 rfl _ _ _ rfl hown2' n (zs.map (Value.int .u8)) (Src.rd Tryz.underlying22 HX.out hr2) (by unfold maxLen; omega) (by omega) hB2.size ?_)
 intro v3 w3 hown3 hgr3
 have hown4 := frame_own HX.out hown3 (by simp) (by simp)
 have hb3 := hB2.grown hgr3 hB2.size (fun k h => (hown2'.lt k h).1)
 clear hown3 hown2' hgr3 hB2
 go_wp2
 go_ret
 exact ⟨v3, rfl, hown4, hb3⟩
end Go.Proofs.YtegonncmopecnaaGreatDoor

namespace Go.Proofs.YtegonncmopecnaaGreatDoor
open Go.RowKit Go.Maps
abbrev q24c_12_1_0 : Oper := ⟨some 8, .load 27 (.tmp 3), 27, "l03_log.go:43", #[], none⟩
abbrev q24c_12_1_1 : Oper := ⟨some 9, .move (.tmp 1), 9, "l03_log.go:43", #[], none⟩
abbrev q24c_12_1_2 : Oper := ⟨some 10, .move (.tmp 2), 22, "l03_log.go:43", #[], none⟩
abbrev q24c_12_1_3 : Oper := ⟨some 11, .call { callee := .value (.func 31), args := #[.tmp 10], argTypes := #[22] }, 22, "l03_log.go:43", #[⟨2, .data⟩], none⟩
abbrev q24c_12_1_4 : Oper := ⟨some 12, .call { callee := .value (.func 30), args := #[.tmp 8, .tmp 9, .tmp 11], argTypes := #[27, 9, 22] }, 39, "l03_log.go:43", #[⟨0, .data⟩, ⟨1, .data⟩, ⟨3, .data⟩, ⟨3, .chain⟩], none⟩
abbrev q24c_12_1_5 : Oper := ⟨some 13, .extract (.tmp 12) 0, 27, "l03_log.go:43", #[⟨4, .data⟩], none⟩
abbrev q24c_12_1_6 : Oper := ⟨some 14, .extract (.tmp 12) 1, 3, "l03_log.go:43", #[⟨4, .data⟩], none⟩
abbrev q24c_12_1_7 : Oper := ⟨none, .store 27 (.tmp 6) (.tmp 13), 0, "l03_log.go:43", #[⟨5, .data⟩, ⟨4, .chain⟩, ⟨0, .phase⟩, ⟨1, .phase⟩, ⟨2, .phase⟩, ⟨3, .phase⟩, ⟨4, .phase⟩, ⟨5, .phase⟩, ⟨6, .phase⟩], none⟩
abbrev q24c_12_1_8 : Oper := ⟨some 7, .assign (.tmp 14), 3, "l03_log.go:43", #[⟨6, .data⟩, ⟨7, .chain⟩, ⟨0, .phase⟩, ⟨1, .phase⟩, ⟨2, .phase⟩, ⟨3, .phase⟩, ⟨4, .phase⟩, ⟨5, .phase⟩, ⟨6, .phase⟩, ⟨7, .phase⟩], none⟩
abbrev q24c_36_1_0 : Oper := ⟨some 8, .load 27 (.tmp 3), 27, "l03_log.go:18", #[], none⟩
abbrev q24c_36_1_1 : Oper := ⟨some 9, .move (.tmp 1), 9, "l03_log.go:18", #[], none⟩
abbrev q24c_36_1_2 : Oper := ⟨some 10, .move (.tmp 2), 22, "l03_log.go:18", #[], none⟩
abbrev q24c_36_1_3 : Oper := ⟨some 11, .call { callee := .value (.func 75), args := #[.tmp 10], argTypes := #[22] }, 22, "l03_log.go:18", #[⟨2, .data⟩], none⟩
abbrev q24c_36_1_4 : Oper := ⟨some 12, .call { callee := .value (.func 41), args := #[.tmp 8, .tmp 9, .tmp 11], argTypes := #[27, 9, 22] }, 39, "l03_log.go:18", #[⟨0, .data⟩, ⟨1, .data⟩, ⟨3, .data⟩, ⟨3, .chain⟩], none⟩
abbrev q24c_36_1_5 : Oper := ⟨some 13, .extract (.tmp 12) 0, 27, "l03_log.go:18", #[⟨4, .data⟩], none⟩
abbrev q24c_36_1_6 : Oper := ⟨some 14, .extract (.tmp 12) 1, 3, "l03_log.go:18", #[⟨4, .data⟩], none⟩
abbrev q24c_36_1_7 : Oper := ⟨none, .store 27 (.tmp 6) (.tmp 13), 0, "l03_log.go:18", #[⟨5, .data⟩, ⟨4, .chain⟩, ⟨0, .phase⟩, ⟨1, .phase⟩, ⟨2, .phase⟩, ⟨3, .phase⟩, ⟨4, .phase⟩, ⟨5, .phase⟩, ⟨6, .phase⟩], none⟩
abbrev q24c_36_1_8 : Oper := ⟨some 7, .assign (.tmp 14), 3, "l03_log.go:18", #[⟨6, .data⟩, ⟨7, .chain⟩, ⟨0, .phase⟩, ⟨1, .phase⟩, ⟨2, .phase⟩, ⟨3, .phase⟩, ⟨4, .phase⟩, ⟨5, .phase⟩, ⟨6, .phase⟩, ⟨7, .phase⟩], none⟩
theorem frameL_len (zs : List Int) : (frame zs).length <= zs.length + 16 := by
 have h1 := putNum_length (clampN zs.length)
 simp only [frame, List.length_append, four_length]
 omega
theorem frame_bytes {zs : List Int} (h : BytesOk zs) : BytesOk (frame zs) := by
 have hc := crc_bd h
 exact BytesOk.append (BytesOk.append (four_ok hc.1 hc.2) (putNum_ok _)) h
theorem frame_rd {B : Nat} {w : World} {v : Value} {zs : List Int} (h : w.ownsRow B 5 1 v (frame zs).length ((frame zs).map (Value.int .u8))) (hb : BytesOk zs) : rdB w.heap.size w v (frame zs) :=
 rdB_own (e := 5) ⟨own_base h (Nat.zero_le _), frame_bytes hb, rfl⟩
set_option maxHeartbeats 4000000 in
theorem implLog_c (cs : List Value) (m : MDisk) (s : ByteArray) (vb : Value) (zb : List Int) (w : World) (hr : rDisk w.heap.size w cs m) (hs : s.size <= 9223372036854775807) (hrb : rdB w.heap.size w vb zb) (hw : wDisk m <= 1048576) (hw1 : s.size <= 1048576) (hwb : zb.length <= 1048576) (ht : TabAt w) :
  Calls Tryz.prog 12 #[.agg cs.toArray, .string s, vb] w fun e w' => ∃ (cs' : List Value) (F : List Nat), e = .returned (.tuple #[.agg cs'.toArray, .int .i64 (appendC m s (frame zb))]) /\ oDisk w' cs' (appendP m s (frame zb)) F /\ F.Nodup /\ (∀ b, b ∈ F -> w.heap.size <= b) /\ Below w.heap.size w w' := by
 have hsz := ht.size
 have HTB := Hm ht
 clear ht
 obtain ⟨ab, cb, rfl, hlb⟩ := hrb
 have HLB := Hm hlb
 clear hlb
 have hq := hr
 obtain ⟨a0, c0, a1, c1, a2, c2, rfl, hI, hNm, hSf, hnx, _⟩ := hq
 have hw2 : m.fInodes.length + sumW wInode m.fInodes + (m.fNames.length + sumW wEntry m.fNames) + (m.fSafe.length + sumW wEntry m.fSafe) <= 1048576 := hw
 have HW := Hm hw
 have HR := Hm hr
 clear hr hI hNm hSf hw
 go_enter Tryz.func12, Tryz.ntmps12
 go_wp2_with fail
 obtain ⟨wq, hwq⟩ : ∃ wq, wq = ((w.alloc (.cells #[.slice a0 m.fInodes.length c0, .slice a1 m.fNames.length c1, .slice a2 m.fSafe.length c2, .int .i64 m.fNext] 27)).alloc (.cells #[.slice none 0 0, .slice none 0 0, .slice none 0 0, .int .i64 0] 27)) := ⟨_, rfl⟩
 have hbW : Below w.heap.size w wq := by rw [hwq]; exact Below.alloc (Below.alloc rB (by exact rN) _) (by simp; try omega) _
 have hbd : Bw wq (w.heap.size) 27 [.slice a0 m.fInodes.length c0, .slice a1 m.fNames.length c1, .slice a2 m.fSafe.length c2, .int .i64 m.fNext] := by rw [hwq]; exact Bw.alloc (Bw.new' _ _ _ (by simp)) _
 have hbr : Bw wq (w.heap.size + 1) 27 [.slice none 0 0, .slice none 0 0, .slice none 0 0, .int .i64 0] := by rw [hwq]; exact Bw.new' _ _ _ (by simp)
 rw [<- hwq]
 clear hwq
 have hzW := hbW.size
 have hlr := hbr.lt
 have hld := hbd.lt
 have p0 : ∀ W, Turn [w.heap.size + 1] wq W -> W.cell? ⟨w.heap.size, 0, none⟩ = some (.slice a0 m.fInodes.length c0) := fun W hb => (hbd.turn hb (by simp)).cell 0 _ rfl
 have p1 : ∀ W, Turn [w.heap.size + 1] wq W -> W.cell? ⟨w.heap.size, 1, none⟩ = some (.slice a1 m.fNames.length c1) := fun W hb => (hbd.turn hb (by simp)).cell 1 _ rfl
 have p2 : ∀ W, Turn [w.heap.size + 1] wq W -> W.cell? ⟨w.heap.size, 2, none⟩ = some (.slice a2 m.fSafe.length c2) := fun W hb => (hbd.turn hb (by simp)).cell 2 _ rfl
 have p3 : ∀ W, Turn [w.heap.size + 1] wq W -> W.cell? ⟨w.heap.size, 3, none⟩ = some (.int .i64 m.fNext) := fun W hb => (hbd.turn hb (by simp)).cell 3 _ rfl
 have hfl := frameL_len zb
 have hCf := fun W (hb : Below wq.heap.size wq W) => implFrame_R ab zb.length cb zb W rfl (by omega) ((HLB.out.2.2.1.below (bthen hbW hb)).mono (bthen hbW hb).size) HLB.out.2.2.2 (HTB.out.below (bthen hbW hb) hsz)
 have hCa := fun W v (hb : Below wq.heap.size wq W) (hv : rdB W.heap.size W v (frame zb)) => implAppend_b _ m s v (frame zb) W (rDisk_good.mono (rDisk_good.below HR.out (bthen hbW hb)) (bthen hbW hb).size) hs hv HW.out hw1 (by omega)
 obtain ⟨fz, hfz⟩ : ∃ fz, fz = frame zb := ⟨_, rfl⟩
 have HFR := Hm (fun (B : Nat) (W : World) (v : Value) h => frame_rd (B := B) (w := W) (v := v) h HLB.out.2.2.2)
 rw [<- hfz] at hCf hCa HFR hfl
 have HFZ := Hm hfz
 clear hfz
 obtain ⟨D2, hD2⟩ : ∃ D2, D2 = appendP m s fz := ⟨_, rfl⟩
 obtain ⟨C2, hC2⟩ : ∃ C2, C2 = appendC m s fz := ⟨_, rfl⟩
 rw [<- hD2, <- hC2] at hCa
 have HD2 := Hm hD2
 have HC2 := Hm hC2
 clear hD2 hC2
 refine wp_region_held_drew (S := fun W => Turn [w.heap.size + 1] wq W) (by kernel_rfl) (Turn.ofBelow (Below.drew rB)) (fun hZ => ?_)
 refine uq 0 q24c_12_1_0 8 hZ ?_
 refine uq 1 q24c_12_1_1 9 hZ ?_
 refine uq 2 q24c_12_1_2 10 hZ ?_
 refine ar1 3 q24c_12_1_3 fun K hK => ?_
 go_simp
 refine Calls.mono (hCf _ (Below.drew rB)) ?_
 rintro e wy1 ⟨vf, rfl, hof, hy1⟩
 have hY1 : Below wq.heap.size wq wy1 := bthen (Below.drew rB) hy1
 have hCa1 := hCa wy1 vf hY1 (HFR.out _ _ _ hof)
 clear hof
 go_wp2_with fail
 refine hK.out _ _ (Turn.ofBelow hY1) (fun hZ => ?_)
 clear hK K
 try simp only[Act.put,sa,s0,s1]
 refine ar1 4 q24c_12_1_4 fun K hK => ?_
 go_simp
 refine Calls.mono hCa1 ?_
 rintro e wy2 ⟨cs4, F4, rfl, ho4, hN4, hge4, hy2⟩
 have hY2 : Below wq.heap.size wq wy2 := bthen hY1 hy2
 obtain ⟨q0, p0', q1, p1', q2, p2', E0, E1, E2, rfl, _, _, _, _, rfl⟩ := oDisk_cells ho4
 have hbr2 := hbr.under hY2
 have hl2 := hbr2.lt
 obtain ⟨ze0, ze1, ze2, ze3⟩ := hbr2.c4
 obtain ⟨zf0, zf1, zf2, zf3⟩ := hbr2.f4
 go_wp2_with fail
 refine hK.out _ _ (Turn.ofBelow hY2) (fun hZ => ?_)
 clear hK K
 try simp only[Act.put,sa,s0,s1]
 refine uq 5 q24c_12_1_5 13 hZ ?_
 refine uq 6 q24c_12_1_6 14 hZ ?_
 refine ar1 7 q24c_12_1_7 fun K hK => ?_
 go_simp
 go_simp
 refine hK.out _ _ ((Turn.ofBelow hY2).trans (turn4 _ _ _ _ _ _)) (fun hZ => ?_)
 clear hK K
 try simp only[Act.put,sa,s0,s1]
 refine uq 8 q24c_12_1_8 7 hZ ?_
 refine wpAnyH_done (by kernel_rfl) ?_ _
 have hT := hZ
 have HBF : Below w.heap.size w ((((wy2.setCell ⟨w.heap.size + 1, 0, none⟩ (.slice q0 D2.fInodes.length p0')).setCell ⟨w.heap.size + 1, 1, none⟩ (.slice q1 D2.fNames.length p1')).setCell ⟨w.heap.size + 1, 2, none⟩ (.slice q2 D2.fSafe.length p2')).setCell ⟨w.heap.size + 1, 3, none⟩ (.int .i64 D2.fNext)) := hbW.trans (hT.below (fun k hk => by simp at hk; omega) hbW.size)
 have hgE : ∀ b, b ∈ E0 ++ E1 ++ E2 ++ [] -> w.heap.size + 2 <= b := fun b hb => by have := hge4 b hb; have := hY1.size; omega
 have HOF : oDisk ((((wy2.setCell ⟨w.heap.size + 1, 0, none⟩ (.slice q0 D2.fInodes.length p0')).setCell ⟨w.heap.size + 1, 1, none⟩ (.slice q1 D2.fNames.length p1')).setCell ⟨w.heap.size + 1, 2, none⟩ (.slice q2 D2.fSafe.length p2')).setCell ⟨w.heap.size + 1, 3, none⟩ (.int .i64 D2.fNext)) [.slice q0 D2.fInodes.length p0', .slice q1 D2.fNames.length p1', .slice q2 D2.fSafe.length p2', .int .i64 D2.fNext] D2 (E0 ++ E1 ++ E2 ++ []) := oDisk_good.frame ho4 (fun b hb => (turn4 wy2 (w.heap.size + 1) _ _ _ _).block b (oDisk_good.lt ho4 b hb) (by intro h; simp at h; have := hgE b hb; omega))
 have HB := Hm HBF
 have HO := Hm HOF
 have HG := Hm hgE
 have HN := Hm hN4
 clear HBF HOF hgE ho4 hge4 hZ hT hN4
 go_wp2_with fail
 exact bodyPost_ret (v := .tuple #[.agg #[.slice q0 D2.fInodes.length p0', .slice q1 D2.fNames.length p1', .slice q2 D2.fSafe.length p2', .int .i64 D2.fNext], .int .i64 C2]) (by simp [results, Tryz.results12, go_sem, *]) rfl ⟨[.slice q0 D2.fInodes.length p0', .slice q1 D2.fNames.length p1', .slice q2 D2.fSafe.length p2', .int .i64 D2.fNext], _, by rw [<- HFZ.out, <- HC2.out], by rw [<- HFZ.out, <- HD2.out]; exact HO.out, HN.out, (fun b hb => by have := HG.out b hb; omega), HB.out⟩
set_option maxHeartbeats 4000000 in
theorem specLog_o (cs : List Value) (m : MDisk) (s : ByteArray) (vb : Value) (zb : List Int) (w : World) (hr : rDisk w.heap.size w cs m) (hs : s.size <= 9223372036854775807) (hrb : rdB w.heap.size w vb zb) (hw : wDisk m <= 1048576) (hw1 : s.size <= 1048576) (hwb : zb.length <= 1048576) :
  Calls Tryz.prog 36 #[.agg cs.toArray, .string s, vb] w fun e w' => ∃ (cs' : List Value), e = .returned (.tuple #[.agg cs'.toArray, .int .i64 (appendC m s (frame zb))]) /\ (∃ F, oDisk w' cs' (appendP m s (frame zb)) F /\ ∀ b, b ∈ F -> w.heap.size <= b) /\ Below w.heap.size w w' := by
 obtain ⟨ab, cb, rfl, hlb⟩ := hrb
 have HLB := Hm hlb
 clear hlb
 have hq := hr
 obtain ⟨a0, c0, a1, c1, a2, c2, rfl, hI, hNm, hSf, hnx, _⟩ := hq
 have hw2 : m.fInodes.length + sumW wInode m.fInodes + (m.fNames.length + sumW wEntry m.fNames) + (m.fSafe.length + sumW wEntry m.fSafe) <= 1048576 := hw
 have HW := Hm hw
 have HR := Hm hr
 clear hr hI hNm hSf hw
 go_enter Tryz.func36, Tryz.ntmps36
 go_wp2_with fail
 obtain ⟨wq, hwq⟩ : ∃ wq, wq = ((w.alloc (.cells #[.slice a0 m.fInodes.length c0, .slice a1 m.fNames.length c1, .slice a2 m.fSafe.length c2, .int .i64 m.fNext] 27)).alloc (.cells #[.slice none 0 0, .slice none 0 0, .slice none 0 0, .int .i64 0] 27)) := ⟨_, rfl⟩
 have hbW : Below w.heap.size w wq := by rw [hwq]; exact Below.alloc (Below.alloc rB (by exact rN) _) (by simp; try omega) _
 have hbd : Bw wq (w.heap.size) 27 [.slice a0 m.fInodes.length c0, .slice a1 m.fNames.length c1, .slice a2 m.fSafe.length c2, .int .i64 m.fNext] := by rw [hwq]; exact Bw.alloc (Bw.new' _ _ _ (by simp)) _
 have hbr : Bw wq (w.heap.size + 1) 27 [.slice none 0 0, .slice none 0 0, .slice none 0 0, .int .i64 0] := by rw [hwq]; exact Bw.new' _ _ _ (by simp)
 rw [<- hwq]
 clear hwq
 have hzW := hbW.size
 have hlr := hbr.lt
 have hld := hbd.lt
 have p0 : ∀ W, Turn [w.heap.size + 1] wq W -> W.cell? ⟨w.heap.size, 0, none⟩ = some (.slice a0 m.fInodes.length c0) := fun W hb => (hbd.turn hb (by simp)).cell 0 _ rfl
 have p1 : ∀ W, Turn [w.heap.size + 1] wq W -> W.cell? ⟨w.heap.size, 1, none⟩ = some (.slice a1 m.fNames.length c1) := fun W hb => (hbd.turn hb (by simp)).cell 1 _ rfl
 have p2 : ∀ W, Turn [w.heap.size + 1] wq W -> W.cell? ⟨w.heap.size, 2, none⟩ = some (.slice a2 m.fSafe.length c2) := fun W hb => (hbd.turn hb (by simp)).cell 2 _ rfl
 have p3 : ∀ W, Turn [w.heap.size + 1] wq W -> W.cell? ⟨w.heap.size, 3, none⟩ = some (.int .i64 m.fNext) := fun W hb => (hbd.turn hb (by simp)).cell 3 _ rfl
 have hfl := frameL_len zb
 have hCf := fun W (hb : Below wq.heap.size wq W) => specFrame_Q ab zb.length cb zb W rfl (by omega) ((HLB.out.2.2.1.below (bthen hbW hb)).mono (bthen hbW hb).size) HLB.out.2.2.2
 have hCa := fun W v (hb : Below wq.heap.size wq W) (hv : rdB W.heap.size W v (frame zb)) => specAppend_o _ m s v (frame zb) W (rDisk_good.mono (rDisk_good.below HR.out (bthen hbW hb)) (bthen hbW hb).size) hs hv HW.out hw1 (by omega)
 obtain ⟨fz, hfz⟩ : ∃ fz, fz = frame zb := ⟨_, rfl⟩
 have HFR := Hm (fun (B : Nat) (W : World) (v : Value) h => frame_rd (B := B) (w := W) (v := v) h HLB.out.2.2.2)
 rw [<- hfz] at hCf hCa HFR hfl
 have HFZ := Hm hfz
 clear hfz
 obtain ⟨D2, hD2⟩ : ∃ D2, D2 = appendP m s fz := ⟨_, rfl⟩
 obtain ⟨C2, hC2⟩ : ∃ C2, C2 = appendC m s fz := ⟨_, rfl⟩
 rw [<- hD2, <- hC2] at hCa
 have HD2 := Hm hD2
 have HC2 := Hm hC2
 clear hD2 hC2
 refine wp_region_held_drew (S := fun W => Turn [w.heap.size + 1] wq W) (by kernel_rfl) (Turn.ofBelow (Below.drew rB)) (fun hZ => ?_)
 refine uq 0 q24c_36_1_0 8 hZ ?_
 refine uq 1 q24c_36_1_1 9 hZ ?_
 refine uq 2 q24c_36_1_2 10 hZ ?_
 refine ar1 3 q24c_36_1_3 fun K hK => ?_
 go_simp
 refine Calls.mono (hCf _ (Below.drew rB)) ?_
 rintro e wy1 ⟨vf, rfl, hof, hy1⟩
 have hY1 : Below wq.heap.size wq wy1 := bthen (Below.drew rB) hy1
 have hCa1 := hCa wy1 vf hY1 (HFR.out _ _ _ hof)
 clear hof
 go_wp2_with fail
 refine hK.out _ _ (Turn.ofBelow hY1) (fun hZ => ?_)
 clear hK K
 try simp only[Act.put,sa,s0,s1]
 refine ar1 4 q24c_36_1_4 fun K hK => ?_
 go_simp
 refine Calls.mono hCa1 ?_
 rintro e wy2 ⟨cs4, F4, rfl, ho4, hge4, hy2⟩
 have hY2 : Below wq.heap.size wq wy2 := bthen hY1 hy2
 obtain ⟨q0, p0', q1, p1', q2, p2', E0, E1, E2, rfl, _, _, _, _, rfl⟩ := oDisk_cells ho4
 have hbr2 := hbr.under hY2
 have hl2 := hbr2.lt
 obtain ⟨ze0, ze1, ze2, ze3⟩ := hbr2.c4
 obtain ⟨zf0, zf1, zf2, zf3⟩ := hbr2.f4
 go_wp2_with fail
 refine hK.out _ _ (Turn.ofBelow hY2) (fun hZ => ?_)
 clear hK K
 try simp only[Act.put,sa,s0,s1]
 refine uq 5 q24c_36_1_5 13 hZ ?_
 refine uq 6 q24c_36_1_6 14 hZ ?_
 refine ar1 7 q24c_36_1_7 fun K hK => ?_
 go_simp
 go_simp
 refine hK.out _ _ ((Turn.ofBelow hY2).trans (turn4 _ _ _ _ _ _)) (fun hZ => ?_)
 clear hK K
 try simp only[Act.put,sa,s0,s1]
 refine uq 8 q24c_36_1_8 7 hZ ?_
 refine wpAnyH_done (by kernel_rfl) ?_ _
 have hT := hZ
 have HBF : Below w.heap.size w ((((wy2.setCell ⟨w.heap.size + 1, 0, none⟩ (.slice q0 D2.fInodes.length p0')).setCell ⟨w.heap.size + 1, 1, none⟩ (.slice q1 D2.fNames.length p1')).setCell ⟨w.heap.size + 1, 2, none⟩ (.slice q2 D2.fSafe.length p2')).setCell ⟨w.heap.size + 1, 3, none⟩ (.int .i64 D2.fNext)) := hbW.trans (hT.below (fun k hk => by simp at hk; omega) hbW.size)
 have hgE : ∀ b, b ∈ E0 ++ E1 ++ E2 ++ [] -> w.heap.size + 2 <= b := fun b hb => by have := hge4 b hb; have := hY1.size; omega
 have HOF : oDisk ((((wy2.setCell ⟨w.heap.size + 1, 0, none⟩ (.slice q0 D2.fInodes.length p0')).setCell ⟨w.heap.size + 1, 1, none⟩ (.slice q1 D2.fNames.length p1')).setCell ⟨w.heap.size + 1, 2, none⟩ (.slice q2 D2.fSafe.length p2')).setCell ⟨w.heap.size + 1, 3, none⟩ (.int .i64 D2.fNext)) [.slice q0 D2.fInodes.length p0', .slice q1 D2.fNames.length p1', .slice q2 D2.fSafe.length p2', .int .i64 D2.fNext] D2 (E0 ++ E1 ++ E2 ++ []) := oDisk_good.frame ho4 (fun b hb => (turn4 wy2 (w.heap.size + 1) _ _ _ _).block b (oDisk_good.lt ho4 b hb) (by intro h; simp at h; have := hgE b hb; omega))
 have HB := Hm HBF
 have HO := Hm HOF
 have HG := Hm hgE
 clear HBF HOF hgE ho4 hge4 hZ hT
 go_wp2_with fail
 exact bodyPost_ret (v := .tuple #[.agg #[.slice q0 D2.fInodes.length p0', .slice q1 D2.fNames.length p1', .slice q2 D2.fSafe.length p2', .int .i64 D2.fNext], .int .i64 C2]) (by simp [results, Tryz.results36, go_sem, *]) rfl ⟨[.slice q0 D2.fInodes.length p0', .slice q1 D2.fNames.length p1', .slice q2 D2.fSafe.length p2', .int .i64 D2.fNext], by rw [<- HFZ.out, <- HC2.out], ⟨_, by rw [<- HFZ.out, <- HD2.out]; exact HO.out, fun b hb => by have := HG.out b hb; omega⟩, HB.out⟩
end Go.Proofs.YtegonncmopecnaaGreatDoor
