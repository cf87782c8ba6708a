/-
  The specification's search for a name.
-/
import Derived.Test.YtnohnkcijomdjaaGreatDoorDskN
import Derived.Test.YtnohnkcijomdjaaGreatDoorDatI
namespace Go.Proofs.YtnohnkcijomdjaaGreatDoor
open Go.RowKit
set_option linter.unusedVariables false
set_option linter.unusedSimpArgs false
set_option maxRecDepth 10000

set_option maxHeartbeats 400000 in
theorem l2At_any (a : Option Addr) (n cap : Nat) (l : List MEntry) (s : ByteArray) (w : World) (B : Nat) (hx : l.length = n) (hlen : n ≤ 1099511627776) (hr : RdS 2 rEntry B w a l) :
    Calls Tryz.prog 58 #[.slice a n cap, .string s] w fun e w' => e = .returned (.int .i64 (nameZ l s)) ∧ w' = w := by
  have HX := Hid.mk hx
  clear hx
  go_enter Tryz.func58, Tryz.ntmps58
  go_wp2
  go_loop [5] (fun i => ∃ k : Nat, k ≤ n ∧ i = .int .i64 k ∧ ∀ j, (hj : j < l.length) → j < k → l[j].fName ≠ s) (fun i => n - (intOf i).toNat)
  case atStart => exact ⟨0, Nat.zero_le _, rfl, fun j _ hj => by omega⟩
  case round =>
    obtain ⟨k, hk, rfl, hno⟩ := hrel
    have HNo := Hid.mk hno
    clear hno
    by_cases hlt : k < n
    · have hkl : k < l.length := by rw [HX.out]; exact hlt
      obtain ⟨b1, o1, rfl, _, cs, hcl, hcell, rfl, _⟩ := hr k hkl
      have k1 := hcell 0 _ rfl
      rw [Nat.add_zero] at k1
      by_cases he : l[k].fName = s
      · have HV := Hid.mk (nameZ_at hkl he HNo.out)
        have heb := str_same he
        generalize l[k].fName = y at k1 heb
        clear hr hcell hcl he HNo
        go_wp2
        go_ret
        exact ⟨by rw [HV.out]; rfl, rfl⟩
      · have heb := str_ne he
        have HNo' : Hid (∀ j, (hj : j < l.length) → j < k + 1 → l[j].fName ≠ s) := fun j hj hjk => by
          by_cases hjk' : j = k
          · subst hjk'; exact he
          · exact HNo.out j hj (by omega)
        generalize l[k].fName = y at k1 heb
        clear hr hcell hcl he HNo
        go_wp2
        go_round
        case rel => exact ⟨k + 1, by omega, by go_num, HNo'.out⟩
        case measure => simp [intOf]; omega
    · have HV := Hid.mk (nameZ_no (l := l) (s := s) (fun j hj => HNo.out j hj (by have := HX.out; omega)))
      clear HNo
      go_wp2
      go_ret
      exact ⟨by rw [HV.out]; rfl, rfl⟩

end Go.Proofs.YtnohnkcijomdjaaGreatDoor
