/-
  Sum, the specification's and the program's: both answer what 'crc' says.
-/
import Derived.Test.YtconfeecfgdopaaDoorRows
import Derived.Test.YtconfeecfgdopaaDoorKit
import Derived.Test.YtconfeecfgdopaaDoorSumM
namespace Go.Proofs.YtconfeecfgdopaaDoor
open Go.RowKit

set_option maxHeartbeats 400000 in
theorem specSum_any (a : Option Addr) (n cap : Nat) (zs : List Int) (w : World) (B : Nat) (hx : zs.length = n) (hlen : n ≤ 140737488351232) (hb : BytesOk zs) (hra : Rd .u8 B w a zs) :
    Calls Tryd.prog 6 #[.slice a n cap] w fun e w' => e = .returned (.int .i64 (crc zs)) ∧ w' = w := by
  have HX : Hid (zs.length = n) := hx
  clear hx
  go_enter Tryd.func6, Tryd.ntmps6
  go_wp2
  go_loop [3, 4, 5, 6] (fun x i q l => ∃ k : Nat, k ≤ n ∧ i = .int .i64 k ∧ x = .int .i64 (runI (zs.take k))) (fun _ i _ _ => n - (intOf i).toNat)
  case atStart => exact ⟨0, Nat.zero_le _, rfl, rfl⟩
  case round =>
    obtain ⟨k, hk, rfl, rfl⟩ := hrel
    have hbd := runI_bd (hb.take k)
    by_cases hlt : k < n
    · obtain ⟨b1, o1, rfl, _, hc1⟩ := hra k (by rw [HX.out]; exact hlt)
      have hcr := hb.getD k
      generalize hC : zs.getD k 0 = c at hc1 hcr
      have HS := Hid.mk (runI_step HX.out hlt hC)
      clear hC hra hb
      generalize runI (zs.take k) = X at hbd HS
      have hx1 := xor_i64 X c hbd.1 hbd.2 hcr.1 (by omega)
      have hxb := xr_lt (a := X) (b := c) hbd.2 (by omega)
      have HB : Hid (byI X c = itI 8 (xr X c)) := rfl
      generalize xr X c = Y at hx1 hxb HB
      go_wp2
      go_loop [3, 5, 6] (fun x q l => ∃ j : Nat, j ≤ 8 ∧ q = .int .i64 j ∧ x = .int .i64 (itI j Y)) (fun _ q _ => 8 - (intOf q).toNat)
      case atStart => exact ⟨0, Nat.zero_le _, rfl, rfl⟩
      case round =>
        obtain ⟨j, hj, rfl, rfl⟩ := hrel
        have hib := itI_bd j hxb.1 hxb.2
        by_cases hj8 : j < 8
        · have HI : Hid (itI (j + 1) Y = stI (itI j Y)) := rfl
          generalize itI j Y = Z at hib HI
          have hand := and1_i64 Z
          by_cases ho : Z % 2 = 1
          · have hx2 := xor_i64 (Z / 2) 2197175160 (by omega) (by omega) (by omega) (by omega)
            have HO := Hid.mk ho
            have hob : (Z % 2 == 1) = true := by simp [ho]
            clear ho
            go_wp2
            go_round
            case rel => exact ⟨j + 1, by omega, by go_num, by rw [HI.out, stI_odd HO.out]⟩
            case measure => simp [intOf]; omega
          · have hob : (Z % 2 == 1) = false := by simp [ho]
            go_wp2
            go_round
            case rel => exact ⟨j + 1, by omega, by go_num, by rw [HI.out, stI_even ho]⟩
            case measure => simp [intOf]; omega
        · have hj' : j = 8 := by omega
          subst hj'
          have HI := HB.out
          generalize itI 8 Y = Z at HI
          have HI' := Hid.mk HI
          clear HI
          go_wp2
          go_round
          case rel => exact ⟨k + 1, by omega, by go_num, by rw [HS.out, HI'.out]⟩
          case measure => simp [intOf]; omega
    · have hkn : k = n := by omega
      have HT : Hid (crc zs = xr (runI (zs.take k)) 4294967295) := by unfold Hid crc; rw [List.take_of_length_le (by rw [HX.out]; omega)]
      generalize runI (zs.take k) = X at hbd HT
      have hx1 := xor_i64 X 4294967295 hbd.1 hbd.2 (by omega) (by omega)
      go_wp2
      go_ret
      exact ⟨by rw [HT.out]; rfl, rfl⟩

/-- What the table's variable holds. -/
def TabAt (w : World) : Prop := ∀ r : Nat, r < 16 → w.cell? ⟨0, r, none⟩ = some (.int .u32 (tabI r))

theorem TabAt.below {B : Nat} {w w' : World} (h : TabAt w) (hb : Below B w w') (hB : 0 < B) : TabAt w' := fun r hr => (hb.cell (p := ⟨0, r, none⟩) hB).trans (h r hr)

set_option maxHeartbeats 400000 in
theorem implSum_any (a : Option Addr) (n cap : Nat) (zs : List Int) (w : World) (B : Nat) (hx : zs.length = n) (hlen : n ≤ 140737488351232) (hb : BytesOk zs) (hra : Rd .u8 B w a zs) (ht : TabAt w) :
    Calls Tryd.prog 8 #[.slice a n cap] w fun e w' => e = .returned (.int .i64 (crc zs)) ∧ w' = w := by
  have HX : Hid (zs.length = n) := hx
  clear hx
  go_enter Tryd.func8, Tryd.ntmps8
  go_wp2
  go_loop [3, 5, 8] (fun x q i => ∃ k : Nat, k ≤ n ∧ i = .int .i64 k ∧ x = .int .u32 (runI (zs.take k))) (fun _ _ i => n - (intOf i).toNat)
  case atStart => exact ⟨0, Nat.zero_le _, rfl, rfl⟩
  case round =>
    obtain ⟨k, hk, rfl, rfl⟩ := hrel
    have hbd := runI_bd (hb.take k)
    by_cases hlt : k < n
    · obtain ⟨b1, o1, rfl, _, hc1⟩ := hra k (by rw [HX.out]; exact hlt)
      have hcr := hb.getD k
      generalize hC : zs.getD k 0 = c at hc1 hcr
      have HS := Hid.mk (runI_step HX.out hlt hC)
      clear hC hra hb
      generalize runI (zs.take k) = X at hbd HS
      have hx1 := xor_u32 X c hbd.1 hbd.2 hcr.1 (by omega)
      have hxb := xr_lt (a := X) (b := c) hbd.2 (by omega)
      have HB : Hid (byI X c = hfI (hfI (xr X c))) := it8 hxb.1
      generalize xr X c = Y at hx1 hxb HB
      have ht1 := ht (Y % 16).toNat (by omega)
      rw [show (((Y % 16).toNat : Nat) : Int) = Y % 16 from by omega] at ht1
      have htb := tabI_bd (r := Y % 16) (by omega) (by omega)
      have hx2 := xor_u32 (Y / 16) (tabI (Y % 16)) (by omega) (by omega) htb.1 htb.2
      have hyb := hfI_bd hxb.2
      have e2 : xr (Y / 16) (tabI (Y % 16)) = hfI Y := rfl
      rw [e2] at hx2
      generalize hfI Y = Z at hx2 hyb HB
      generalize tabI (Y % 16) = t1 at ht1 htb hx2
      have ht2 := ht (Z % 16).toNat (by omega)
      rw [show (((Z % 16).toNat : Nat) : Int) = Z % 16 from by omega] at ht2
      have htb2 := tabI_bd (r := Z % 16) (by omega) (by omega)
      have hx3 := xor_u32 (Z / 16) (tabI (Z % 16)) (by omega) (by omega) htb2.1 htb2.2
      have e3 : xr (Z / 16) (tabI (Z % 16)) = hfI Z := rfl
      rw [e3] at hx3
      generalize hfI Z = V at hx3 HB
      generalize tabI (Z % 16) = t2 at ht2 htb2 hx3
      clear ht e2 e3
      go_wp2
      go_round
      case rel => exact ⟨k + 1, by omega, by go_num, by rw [HS.out, HB.out]⟩
      case measure => simp [intOf]; omega
    · have hkn : k = n := by omega
      have HT : Hid (crc zs = xr (runI (zs.take k)) 4294967295) := by unfold Hid crc; rw [List.take_of_length_le (by rw [HX.out]; omega)]
      generalize runI (zs.take k) = X at hbd HT
      have hx1 := not_u32 hbd.1 hbd.2
      have hxb := xr_lt (a := X) (b := 4294967295) hbd.2 (by omega)
      generalize xr X 4294967295 = V at hx1 hxb HT
      go_wp2
      go_ret
      refine ⟨?_, rfl⟩
      rw [HT.out]
      show Ending.returned (Value.int .i64 (wrap64 V)) = _
      rw [show wrap64 V = V from by unfold wrap64; omega]

end Go.Proofs.YtconfeecfgdopaaDoor
