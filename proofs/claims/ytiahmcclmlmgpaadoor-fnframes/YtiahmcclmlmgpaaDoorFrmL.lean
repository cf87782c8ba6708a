/-
  The draw of a body; a byte of the code; bytes held against bytes: what the law of frames leans on.
-/
import Derived.Test.YtiahmcclmlmgpaaDoorDrawB
import Derived.Test.YtiahmcclmlmgpaaDoorFrmP
namespace Go.Proofs.YtiahmcclmlmgpaaDoor
open Go.RowKit
set_option linter.unusedVariables false
set_option linter.unusedSimpArgs false
set_option maxRecDepth 10000

set_option maxHeartbeats 400000 in
theorem bigF_any (a : Option Addr) (n cap : Nat) (w : World) :
    Calls Tryd.prog 7 #[.slice a n cap] w fun e w' => e = .returned (.bool (decide (1048576 < (n : Int)))) ∧ w' = w := by
  go_enter Tryd.func7, Tryd.ntmps7
  go_wp2_with fail
  go_ret
  exact ⟨rfl, rfl⟩

set_option maxHeartbeats 400000 in
theorem drawFrame_ok (a : Option Addr) (n cap : Nat) (zs : List Int) (w : World) (hx : zs.length = n) (hlen : n ≤ 1048576) (hr : Rd .u8 w.heap.size w a zs) :
    Calls Tryd.prog 13 #[.slice a n cap] w fun e w' => ∃ (v : Value) (bs : List Int), e = .returned v ∧ bs.length ≤ 9 ∧ BytesOk bs ∧ w'.ownsRow w.heap.size 5 1 v bs.length (bs.map (Value.int .u8)) ∧ Below w.heap.size w w' := by
  go_enter Tryd.func13, Tryd.ntmps13
  go_wp2_with fail
  refine (l1New_any a n cap zs _ hx (by omega) (by exact hr)).mono ?_
  rintro e w1 ⟨rfl, hc1, hb1⟩
  go_wp2_with fail
  refine (l1Some_ok hc1).mono ?_
  rintro e w2 ⟨v2, rfl, bs, hbl, hbo, hown2, hc2, hg2⟩
  have hb2 := hb1.grown hg2 hb1.size (fun k h => by simp at h; omega)
  have hown3 := own_base hown2 hb1.size
  clear hg2 hc1 hown2
  go_wp2_with fail
  go_ret
  exact ⟨v2, bs, rfl, hbl, hbo, hown3, hb2⟩

set_option maxHeartbeats 400000 in
theorem at_any (a : Option Addr) (n cap i : Nat) (zs : List Int) (w : World) (hx : zs.length = n) (hlen : n ≤ 1048576) (hi : i ≤ 1000) (hb : BytesOk zs) (hr : Rd .u8 w.heap.size w a zs) :
    Calls Tryd.prog 17 #[.slice a n cap, .int .i64 i] w fun e w' => ∃ x : Nat, (e = .returned (.int .i64 x) ∧ x ≤ 255) ∧ w' = w := by
  have HX := Hid.mk hx
  clear hx
  by_cases hlt : i < n
  · obtain ⟨b1, o1, rfl, _, hc1⟩ := hr i (by rw [HX.out]; exact hlt)
    have hbd := hb.getD i
    generalize zs.getD i 0 = z at hc1 hbd
    go_enter Tryd.func17, Tryd.ntmps17
    go_wp2_with fail
    go_ret
    obtain ⟨x, rfl⟩ := Int.eq_ofNat_of_zero_le hbd.1
    exact ⟨x, ⟨by go_num, by omega⟩, rfl⟩
  · go_enter Tryd.func17, Tryd.ntmps17
    go_wp2_with fail
    go_ret
    exact ⟨(i * 31 + n * 7) % 256, ⟨by go_num, by omega⟩, rfl⟩

set_option maxHeartbeats 400000 in
theorem sameBytes_yes (a b : Option Addr) (n ca cb : Nat) (xs : List Int) (w : World) (B : Nat) (hx : xs.length = n) (hlen : n ≤ 1048576) (hra : Rd .u8 B w a xs) (hrb : Rd .u8 B w b xs) :
    Calls Tryd.prog 16 #[.slice a n ca, .slice b n cb] w fun e w' => e = .returned (.bool true) ∧ ∃ d, w' = w.drewN d := by
  have HX : Hid (xs.length = n) := hx
  clear hx
  go_enter Tryd.func16, Tryd.ntmps16
  go_wp2
  go_loopw [5] (fun i wr => ∃ k : Nat, k ≤ n ∧ i = .int .i64 k ∧ ∃ d, wr = w.drewN d) (fun i _ => n - (intOf i).toNat)
  case atStart => exact ⟨0, Nat.zero_le _, rfl, 0, rfl⟩
  case round =>
    obtain ⟨k, hk, rfl, d, rfl⟩ := hrel
    by_cases hlt : k < n
    · obtain ⟨b1, o1, rfl, _, hc1⟩ := hra k (by rw [HX.out]; exact hlt)
      obtain ⟨b2, o2, rfl, _, hc2⟩ := hrb k (by rw [HX.out]; exact hlt)
      clear hra hrb
      generalize xs.getD k 0 = x at hc1 hc2
      go_wp2
      go_quiet (fail)
      go_wp2
      go_roundw
      case rel => exact ⟨k + 1, by omega, by go_num, _, rfl⟩
      case measure => simp [intOf]; omega
    · go_wp2
      go_ret
      exact ⟨rfl, d, rfl⟩

end Go.Proofs.YtiahmcclmlmgpaaDoor
