/-
  Mark: both answers are the two numbers of the sum of the key's bytes.
-/
import Derived.Test.YtjaaaopbidmknaaDoorStrB
import Derived.Test.YtjaaaopbidmknaaDoorSum
namespace Go.Proofs.YtjaaaopbidmknaaDoor
open Go.RowKit
set_option linter.unusedVariables false
set_option linter.unusedSimpArgs false
set_option maxRecDepth 10000

def mk1 (s : ByteArray) : Int := crc (byteInts s) % 64
def mk2 (s : ByteArray) : Int := crc (byteInts s) / 64 % 64
theorem mk1_bd (s : ByteArray) : 0 ≤ mk1 s ∧ mk1 s < 64 := by unfold mk1; omega
theorem mk2_bd (s : ByteArray) : 0 ≤ mk2 s ∧ mk2 s < 64 := by unfold mk2; omega

set_option maxHeartbeats 800000 in
theorem specMark_any (s : ByteArray) (w : World) (hs : s.size ≤ 140737488351232) :
    Calls Tryd.prog 14 #[.string s] w fun e w' => e = .returned (.tuple #[.int .i64 (mk1 s), .int .i64 (mk2 s)]) ∧ Below w.heap.size w w' := by
  obtain ⟨w1, cap, hcv, hb1, hr1⟩ := strRd s w
  have hR := crc_bd (byteInts_ok s)
  go_enter Tryd.func14, Tryd.ntmps14
  go_wp2_with fail
  refine (specSum_any _ s.size cap (byteInts s) w1 w1.heap.size (byteInts_length s) hs (byteInts_ok s) hr1).mono ?_
  rintro e w2 ⟨rfl, rfl⟩
  obtain ⟨R, hRR⟩ : ∃ R, R = crc (byteInts s) := ⟨_, rfl⟩
  have HM : Hid (mk1 s = R % 64 ∧ mk2 s = R / 64 % 64) := ⟨by rw [hRR]; rfl, by rw [hRR]; rfl⟩
  rw [← hRR] at hR ⊢
  clear hRR
  have e1 : R.tmod 64 = R % 64 := Int.tmod_eq_emod_of_nonneg hR.1
  have e2 : R.tdiv 64 = R / 64 := Int.tdiv_eq_ediv_of_nonneg hR.1
  have e3 : (R / 64).tmod 64 = R / 64 % 64 := Int.tmod_eq_emod_of_nonneg (by omega)
  go_wp2_with fail
  go_ret2
  exact ⟨by rw [HM.out.1, HM.out.2]; rfl, hb1⟩

set_option maxHeartbeats 800000 in
theorem implMark_any (s : ByteArray) (w : World) (hs : s.size ≤ 140737488351232) (ht : TabAt w) :
    Calls Tryd.prog 15 #[.string s] w fun e w' => e = .returned (.tuple #[.int .i64 (mk1 s), .int .i64 (mk2 s)]) ∧ Below w.heap.size w w' := by
  obtain ⟨w1, cap, hcv, hb1, hr1⟩ := strRd s w
  have hR := crc_bd (byteInts_ok s)
  have hsz : 0 < w.heap.size := ht.size
  go_enter Tryd.func15, Tryd.ntmps15
  go_wp2_with fail
  refine (implSum_any _ s.size cap (byteInts s) w1 w1.heap.size (byteInts_length s) hs (byteInts_ok s) hr1 (ht.below hb1 hsz)).mono ?_
  rintro e w2 ⟨rfl, rfl⟩
  obtain ⟨R, hRR⟩ : ∃ R, R = crc (byteInts s) := ⟨_, rfl⟩
  have HM : Hid (mk1 s = R % 64 ∧ mk2 s = R / 64 % 64) := ⟨by rw [hRR]; rfl, by rw [hRR]; rfl⟩
  rw [← hRR] at hR ⊢
  clear hRR
  have e1 : R.tmod 64 = R % 64 := Int.tmod_eq_emod_of_nonneg hR.1
  have e2 : R.tdiv 64 = R / 64 := Int.tdiv_eq_ediv_of_nonneg hR.1
  have e3 : (R / 64).tmod 64 = R / 64 % 64 := Int.tmod_eq_emod_of_nonneg (by omega)
  go_wp2_with fail
  go_ret2
  exact ⟨by rw [HM.out.1, HM.out.2]; rfl, hb1⟩

end Go.Proofs.YtjaaaopbidmknaaDoor
