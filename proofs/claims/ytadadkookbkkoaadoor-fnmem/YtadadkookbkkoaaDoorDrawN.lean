/-
  A new cursor.
-/
import Derived.Test.YtadadkookbkkoaaDoorDrawA
import Derived.Deep.RegionWith
import Derived.Laws.BytesArg
namespace Go.Proofs.YtadadkookbkkoaaDoor
open Go.RowKit

set_option maxRecDepth 100000 in
set_option maxHeartbeats 400000 in
theorem l1New_any (a : Option Addr) (n cap : Nat) (zs : List Int) (w : World) (hx : zs.length = n) (hlen : n ≤ 140737488351232) (hr : Rd .u8 w.heap.size w a zs) :
    Calls Tryd.prog 25 #[.slice a n cap] w fun e w' => e = .returned (.pointer (some ⟨w.heap.size, 0, none⟩)) ∧ CurOk w' w.heap.size ∧ Below w.heap.size w w' := by
  have HX : Hid (zs.length = n) := hx
  clear hx
  go_enter Tryd.func25, Tryd.ntmps25
  go_wp2
  go_loop [3, 4] (fun h i => ∃ (k : Nat) (H : Int), k ≤ n ∧ i = .int .i64 k ∧ h = .int .i64 H) (fun _ i => n - (intOf i).toNat)
  case atStart => exact ⟨0, _, Nat.zero_le _, rfl, rfl⟩
  case round =>
    obtain ⟨k, H, hk, rfl, rfl⟩ := hrel
    have fin : ∀ H : Int, CurOk (w.alloc (.cells #[.slice a n cap, .int .i64 0, .int .i64 H] 82)) w.heap.size := fun H =>
      ⟨a, n, cap, w.heap.size, zs, HX.out, hlen, Nat.le_refl _, hr.below ((Below.refl _ _).alloc (Nat.le_refl _) _), ⟨0, H, by omega, by omega, heap_alloc_new w _⟩, by simp⟩
    by_cases hlt : k < n
    · by_cases h4 : k < 4000
      · obtain ⟨b1, o1, rfl, _, hc1⟩ := hr k (by rw [HX.out]; exact hlt)
        generalize zs.getD k 0 = c at hc1
        clear fin hr
        go_wp2
        go_round
        case rel => exact ⟨k + 1, _, by omega, by go_num, rfl⟩
        case measure => simp [intOf]; omega
      · go_wp2
        go_ret
        exact ⟨rfl, fin _, (Below.refl _ _).alloc (Nat.le_refl _) _⟩
    · go_wp2
      go_ret
      exact ⟨rfl, fin _, (Below.refl _ _).alloc (Nat.le_refl _) _⟩

end Go.Proofs.YtadadkookbkkoaaDoor
