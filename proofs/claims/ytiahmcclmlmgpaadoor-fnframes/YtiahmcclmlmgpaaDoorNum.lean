/-
  GetNum, the program's and the specification's: both answer what 'getNum' says, at every slice of bytes and every place.
-/
import Derived.Test.YtiahmcclmlmgpaaDoorRows
import Derived.Test.YtiahmcclmlmgpaaDoorKit
import Derived.Test.YtiahmcclmlmgpaaDoorNumM
import Derived.Laws.Bits128
namespace Go.Proofs.YtiahmcclmlmgpaaDoor
open Go.RowKit
set_option maxRecDepth 10000

def numVal (r : Int × Int × Bool) : Value := .tuple #[.int .i64 r.1, .int .i64 r.2.1, .bool r.2.2]

set_option maxHeartbeats 400000 in
theorem specGetNum_any (a : Option Addr) (n cap : Nat) (zs : List Int) (p : Int) (w : World) (B : Nat) (hx : zs.length = n) (hlen : n ≤ 140737488351232) (hb : BytesOk zs) (hra : Rd .u8 B w a zs) :
    Calls Tryd.prog 81 #[.slice a n cap, .int .i64 p] w fun e w' => e = .returned (numVal (getNum zs p)) ∧ w' = w := by
  have HX : Hid (zs.length = n) := hx
  clear hx
  by_cases h0 : 0 ≤ p
  · obtain ⟨p, rfl⟩ := Int.eq_ofNat_of_zero_le h0
    by_cases h1 : p < n
    · go_enter Tryd.func81, Tryd.ntmps81
      go_wp2
      go_loop [7, 8] (fun N i => ∃ (k : Nat) (M : Int), k ≤ 5 ∧ i = .int .i64 k ∧ N = .int .i64 M ∧ 0 ≤ M ∧ M < 128 ^ k ∧ (0 < k → getNum zs p = gnS (5 - k) (zs.drop (p + k)) M (p + k : Nat))) (fun _ i => 5 - (intOf i).toNat)
      case atStart => exact ⟨0, 0, by omega, rfl, rfl, by omega, by omega, fun h => by omega⟩
      case round =>
        obtain ⟨k, M, hk, rfl, rfl, hM0, hM1, hD⟩ := hrel
        have HD : Hid (0 < k → getNum zs p = gnS (5 - k) (zs.drop (p + k)) M (p + k : Nat)) := hD
        clear hD
        have hM2 : M < 34359738368 := by have := pow128_le hk; omega
        by_cases hk5 : k < 5
        · by_cases hpk : p + k < n
          · obtain ⟨b1, o1, rfl, _, hc1⟩ := hra (p + k) (by rw [HX.out]; exact hpk)
            have hcr := hb.getD (p + k)
            generalize hC : zs.getD (p + k) 0 = c at hc1 hcr
            have HC : Hid (zs.getD (p + k) 0 = c) := hC
            obtain ⟨hc0, hc255⟩ := hcr
            clear hC hra hb
            have hand := i64_and127 c
            have hor := or_group (c := c) hM0 hM2
            by_cases hk0 : k = 0 ∧ c = 128
            · have hkb : ((k : Int) == 0) = true := by simp; exact hk0.1
              have hcb : (c == 128) = true := by simp; exact hk0.2
              have hv : Hid (getNum zs p = noNum) := getNum_128 (by rw [HX.out]; exact h1) (by have := HC.out; rw [hk0.1, hk0.2] at this; exact this)
              clear hand hor hk0
              go_wp2
              go_ret3
              exact ⟨by rw [hv.out]; rfl, rfl⟩
            · have hv : getNum zs p = gnS (5 - k) (zs.drop (p + k)) M (p + k : Nat) := by
                by_cases hkz : k = 0
                · subst hkz
                  have hM : M = 0 := by simp at hM1; omega
                  subst hM
                  exact getNum_S (by rw [HX.out]; exact h1) (fun h => hk0 ⟨rfl, by rw [← HC.out]; exact h⟩)
                · exact HD.out (by omega)
              have HV : Hid (getNum zs p = gnS (5 - k) (zs.drop (p + k)) M (p + k : Nat)) := hv
              have hj : p + k < zs.length := by rw [HX.out]; exact hpk
              obtain ⟨f, hf⟩ : ∃ f, 5 - k = f + 1 := ⟨4 - k, by omega⟩
              have HF : Hid (5 - k = f + 1) := hf
              clear hv hf HD
              have hguard : ((k : Int) == 0) = false ∨ (c == 128) = false := by
                by_cases hkz : k = 0
                · right; simp; intro h; exact hk0 ⟨hkz, h⟩
                · left; simp; omega
              by_cases h7 : c < 128
              · by_cases hN : 1000000000 < M * 128 + c % 128
                · have hv : Hid (getNum zs p = noNum) := by unfold Hid; rw [HV.out, HF.out]; exact gnS_over hj HC.out h7 hN
                  rcases hguard with hg | hg
                  all_goals
                    go_wp2
                    all_goals
                      go_ret3
                      exact ⟨by rw [hv.out]; rfl, rfl⟩
                · have hv : Hid (getNum zs p = (M * 128 + c % 128, ((p + k : Nat) : Int) + 1, true)) := by unfold Hid; rw [HV.out, HF.out]; exact gnS_last hj HC.out h7 hN
                  rcases hguard with hg | hg
                  all_goals
                    go_wp2
                    all_goals
                      go_ret3
                      exact ⟨by rw [hv.out]; simp [numVal] <;> omega, rfl⟩
              · have hv : Hid (getNum zs p = gnS f (zs.drop (p + k + 1)) (M * 128 + c % 128) (((p + k : Nat) : Int) + 1)) := by unfold Hid; rw [HV.out, HF.out]; exact gnS_more hj HC.out h7
                rcases hguard with hg | hg
                all_goals
                  go_wp2
                  all_goals
                    go_round
                    case rel =>
                      refine ⟨k + 1, M * 128 + c % 128, by omega, by go_num, rfl, by omega, pow128_step hM1, fun _ => ?_⟩
                      rw [hv.out, show 5 - (k + 1) = f from by have := HF.out; omega]
                      rfl
                    case measure => simp [intOf]; omega
          · have hv : Hid (getNum zs p = noNum) := by
              unfold Hid
              rw [HD.out (by omega)]
              exact gnS_end (by rw [HX.out]; omega)
            go_wp2
            all_goals
              go_ret3
              exact ⟨by rw [hv.out]; rfl, rfl⟩
        · have hk55 : k = 5 := by omega
          have hv : Hid (getNum zs p = noNum) := by
            unfold Hid
            rw [HD.out (by omega)]
            subst hk55
            rfl
          go_wp2
          all_goals
            go_ret3
            exact ⟨by rw [hv.out]; rfl, rfl⟩
    · have hv : Hid (getNum zs p = noNum) := getNum_out (by right; rw [HX.out]; omega)
      go_enter Tryd.func81, Tryd.ntmps81
      go_wp2
      refine wp_loop_rounds 1 ?_
      rw [rounds_succ]
      go_wp2
      all_goals
        go_ret3
        exact ⟨by rw [hv.out]; rfl, rfl⟩
  · have hv : Hid (getNum zs p = noNum) := getNum_out (by left; omega)
    go_enter Tryd.func81, Tryd.ntmps81
    go_wp2
    refine wp_loop_rounds 1 ?_
    rw [rounds_succ]
    go_wp2
    all_goals
      go_ret3
      exact ⟨by rw [hv.out]; rfl, rfl⟩

set_option maxHeartbeats 400000 in
theorem implGetNum_any (a : Option Addr) (n cap : Nat) (zs : List Int) (p : Int) (w : World) (B : Nat) (hx : zs.length = n) (hlen : n ≤ 140737488351232) (hb : BytesOk zs) (hra : Rd .u8 B w a zs) :
    Calls Tryd.prog 49 #[.slice a n cap, .int .i64 p] w fun e w' => e = .returned (numVal (getNum zs p)) ∧ w' = w := by
  have HX : Hid (zs.length = n) := hx
  clear hx
  by_cases h0 : 0 ≤ p
  · obtain ⟨p, rfl⟩ := Int.eq_ofNat_of_zero_le h0
    by_cases h1 : p < n
    · obtain ⟨b1, o1, rfl, _, hc1⟩ := hra p (by rw [HX.out]; exact h1)
      by_cases h128 : zs.getD p 0 = 128
      · have hv : Hid (getNum zs p = noNum) := getNum_128 (by rw [HX.out]; exact h1) h128
        rw [h128] at hc1
        clear h128 hra
        go_enter Tryd.func49, Tryd.ntmps49
        go_wp2
        go_ret3
        exact ⟨by rw [hv.out]; rfl, rfl⟩
      · have hv : Hid (getNum zs p = gnI (zs.drop p) 0 p) := getNum_I (by rw [HX.out]; exact h1) h128 hb
        have hne : (zs.getD p 0 == 128) = false := by simp; simpa using h128
        generalize zs.getD p 0 = c0 at hc1 hne
        clear h128
        go_enter Tryd.func49, Tryd.ntmps49
        go_wp2
        go_loop [7, 8] (fun N i => ∃ (k : Nat) (M : Int), k ≤ n ∧ i = .int .i64 k ∧ N = .int .i64 M ∧ 0 ≤ M ∧ M ≤ 1000000000 ∧ getNum zs p = gnI (zs.drop k) M k) (fun _ i => n - (intOf i).toNat)
        case atStart => exact ⟨p, 0, by omega, rfl, rfl, by omega, by omega, hv.out⟩
        case round =>
          obtain ⟨k, M, hk, rfl, rfl, hM0, hM1, hD⟩ := hrel
          have HD : Hid (getNum zs p = gnI (zs.drop k) M k) := hD
          clear hD hv hc1 hne
          by_cases hlt : k < n
          · obtain ⟨b1, o1, he, _, hc1⟩ := hra k (by rw [HX.out]; exact hlt)
            simp only [Option.some.injEq, Addr.mk.injEq, and_true] at he
            obtain ⟨rfl, rfl⟩ := he
            have hcr := hb.getD k
            generalize hC : zs.getD k 0 = c at hc1 hcr
            have HC : Hid (zs.getD k 0 = c) := hC
            obtain ⟨hc0, hc255⟩ := hcr
            have hj : k < zs.length := by rw [HX.out]; exact hlt
            clear hC hra hb
            by_cases hN : 1000000000 < M * 128 + c % 128
            · have hv : Hid (getNum zs p = noNum) := by unfold Hid; rw [HD.out]; exact gnI_over hj HC.out hN
              go_wp2
              all_goals
                go_ret3
                exact ⟨by rw [hv.out]; rfl, rfl⟩
            · by_cases h7 : c < 128
              · have hv : Hid (getNum zs p = (M * 128 + c % 128, (k : Int) + 1, true)) := by unfold Hid; rw [HD.out]; exact gnI_last hj HC.out h7 hN
                go_wp2
                all_goals
                  go_ret3
                  exact ⟨by rw [hv.out]; rfl, rfl⟩
              · have hv : Hid (getNum zs p = gnI (zs.drop (k + 1)) (M * 128 + c % 128) ((k : Int) + 1)) := by unfold Hid; rw [HD.out]; exact gnI_more hj HC.out h7 hN
                go_wp2
                all_goals
                  go_round
                  case rel => exact ⟨k + 1, M * 128 + c % 128, by omega, by go_num, rfl, by omega, by omega, by rw [hv.out]; rfl⟩
                  case measure => simp [intOf]; omega
          · have hv : Hid (getNum zs p = noNum) := by
              unfold Hid
              rw [HD.out]
              exact gnI_end (by rw [HX.out]; omega)
            go_wp2
            all_goals
              go_ret3
              exact ⟨by rw [hv.out]; rfl, rfl⟩
    · have hv : Hid (getNum zs p = noNum) := getNum_out (by right; rw [HX.out]; omega)
      go_enter Tryd.func49, Tryd.ntmps49
      go_wp2
      all_goals
        go_ret3
        exact ⟨by rw [hv.out]; rfl, rfl⟩
  · have hv : Hid (getNum zs p = noNum) := getNum_out (by left; omega)
    go_enter Tryd.func49, Tryd.ntmps49
    go_wp2
    all_goals
      go_ret3
      exact ⟨by rw [hv.out]; rfl, rfl⟩

end Go.Proofs.YtiahmcclmlmgpaaDoor
