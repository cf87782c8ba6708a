/-
  How many first bytes two texts have in common: the program's and the specification's count.
-/
import Derived.Test.YtjaaaopbidmknaaDoorTabM
import Derived.Deep.RegionHeld3
namespace Go.Proofs.YtjaaaopbidmknaaDoor
open Go.RowKit
set_option linter.unusedVariables false
set_option linter.unusedSimpArgs false
set_option maxRecDepth 10000

theorem com_eq {a b : ByteArray} {k : Nat} (ha : k ≤ a.size) (hb : k ≤ b.size) (h : ∀ j, j < k → a.data.toList[j]? = b.data.toList[j]?) (he : k = a.size ∨ k = b.size ∨ a.data.toList[k]? ≠ b.data.toList[k]?) : com a b = k :=
  comL_eq _ _ k (by simpa using ha) (by simpa using hb) h (by simpa using he)
theorem byte_at {s : ByteArray} {k : Nat} (h : k < s.size) : s.data.toList[k]? = some s[k] := by
  have h2 : k < s.data.toList.length := by simpa using h
  rw [List.getElem?_eq_getElem h2]
  rfl

set_option maxHeartbeats 800000 in
theorem implCom_any (a b : ByteArray) (w : World) (ha : a.size ≤ 9223372036854775807) (hb : b.size ≤ 9223372036854775807) :
    Calls Tryd.prog 116 #[.string a, .string b] w fun e w' => e = .returned (.int .i64 (com a b)) ∧ Below w.heap.size w w' := by
  go_enter Tryd.func116, Tryd.ntmps116
  go_wp2_with fail
  go_loopw [5] (fun i wr => ∃ k : Nat, k ≤ a.size ∧ k ≤ b.size ∧ i = .int .i64 k ∧ (∀ j, j < k → a.data.toList[j]? = b.data.toList[j]?) ∧ Below w.heap.size w wr) (fun i _ => a.size - (intOf i).toNat)
  case atStart => exact ⟨0, Nat.zero_le _, Nat.zero_le _, rfl, fun j hj => by omega, Below.refl _ _⟩
  case round =>
    obtain ⟨k, hka, hkb, rfl, hj, hbk⟩ := hrel
    have HJ := Hid.mk hj
    clear hj
    by_cases h1 : k < a.size
    · by_cases h2 : k < b.size
      · have HA := Hid.mk (byte_at h1)
        have HB := Hid.mk (byte_at h2)
        have g1 : a[k].toNat < 256 := a[k].toNat_lt
        have g2 : b[k].toNat < 256 := b[k].toNat_lt
        by_cases h3 : a[k] = b[k]
        · have HE := Hid.mk h3
          have h4 : a[k].toNat = b[k].toNat := by rw [h3]
          have h5 : ((a[k].toNat : Int) == (b[k].toNat : Int)) = true := beq_iff_eq.2 (by omega)
          clear h3 h4
          go_wp2_with fail
          go_region
          all_goals
            go_wp2_with fail
            go_roundw
            case rel => exact ⟨k + 1, by omega, by omega, by go_num, fun j hj => by
              by_cases hjk : j = k
              · subst hjk; rw [HA.out, HB.out, HE.out]
              · exact HJ.out j (by omega), Below.drew hbk⟩
            case measure => simp [intOf]; omega
        · have HE := Hid.mk h3
          have h4 : ¬ a[k].toNat = b[k].toNat := fun h => h3 (UInt8.toNat_inj.1 h)
          have HV : Hid (com a b = k) := com_eq hka hkb HJ.out (.inr (.inr (by rw [HA.out, HB.out]; simpa using h3)))
          have h5 : ((a[k].toNat : Int) == (b[k].toNat : Int)) = false := beq_eq_false_iff_ne.2 (by omega)
          clear h3
          go_wp2_with fail
          go_region
          all_goals
            go_wp2_with fail
            go_ret
            exact ⟨by rw [HV.out]; rfl, Below.drew hbk⟩
      · have HV : Hid (com a b = k) := com_eq hka hkb HJ.out (.inr (.inl (by omega)))
        go_wp2_with fail
        go_region
        all_goals
          go_wp2_with fail
          go_ret
          exact ⟨by rw [HV.out]; rfl, Below.drew hbk⟩
    · have HV : Hid (com a b = k) := com_eq hka hkb HJ.out (.inl (by omega))
      go_wp2_with fail
      go_region
      all_goals
        go_wp2_with fail
        go_ret
        exact ⟨by rw [HV.out]; rfl, Below.drew hbk⟩

set_option maxHeartbeats 800000 in
theorem specCom_any (a b : ByteArray) (w : World) (ha : a.size ≤ 9223372036854775807) (hb : b.size ≤ 9223372036854775807) :
    Calls Tryd.prog 114 #[.string a, .string b] w fun e w' => e = .returned (.int .i64 (com a b)) ∧ Below w.heap.size w w' := by
  go_enter Tryd.func114, Tryd.ntmps114
  go_wp2_with fail
  go_loopw [5] (fun i wr => ∃ k : Nat, k ≤ a.size ∧ k ≤ b.size ∧ i = .int .i64 k ∧ (∀ j, j < k → a.data.toList[j]? = b.data.toList[j]?) ∧ Below w.heap.size w wr) (fun i _ => a.size - (intOf i).toNat)
  case atStart => exact ⟨0, Nat.zero_le _, Nat.zero_le _, rfl, fun j hj => by omega, Below.refl _ _⟩
  case round =>
    obtain ⟨k, hka, hkb, rfl, hj, hbk⟩ := hrel
    have HJ := Hid.mk hj
    clear hj
    by_cases h1 : k < a.size
    · by_cases h2 : k < b.size
      · have HA := Hid.mk (byte_at h1)
        have HB := Hid.mk (byte_at h2)
        have g1 : a[k].toNat < 256 := a[k].toNat_lt
        have g2 : b[k].toNat < 256 := b[k].toNat_lt
        by_cases h3 : a[k] = b[k]
        · have HE := Hid.mk h3
          have h4 : a[k].toNat = b[k].toNat := by rw [h3]
          have h5 : ((a[k].toNat : Int) == (b[k].toNat : Int)) = true := beq_iff_eq.2 (by omega)
          clear h3 h4
          go_wp2_with fail
          go_region
          all_goals
            go_wp2_with fail
            go_roundw
            case rel => exact ⟨k + 1, by omega, by omega, by go_num, fun j hj => by
              by_cases hjk : j = k
              · subst hjk; rw [HA.out, HB.out, HE.out]
              · exact HJ.out j (by omega), Below.drew hbk⟩
            case measure => simp [intOf]; omega
        · have HE := Hid.mk h3
          have h4 : ¬ a[k].toNat = b[k].toNat := fun h => h3 (UInt8.toNat_inj.1 h)
          have HV : Hid (com a b = k) := com_eq hka hkb HJ.out (.inr (.inr (by rw [HA.out, HB.out]; simpa using h3)))
          have h5 : ((a[k].toNat : Int) == (b[k].toNat : Int)) = false := beq_eq_false_iff_ne.2 (by omega)
          clear h3
          go_wp2_with fail
          go_region
          all_goals
            go_wp2_with fail
            go_ret
            exact ⟨by rw [HV.out]; rfl, Below.drew hbk⟩
      · have HV : Hid (com a b = k) := com_eq hka hkb HJ.out (.inr (.inl (by omega)))
        go_wp2_with fail
        go_region
        all_goals
          go_wp2_with fail
          go_ret
          exact ⟨by rw [HV.out]; rfl, Below.drew hbk⟩
    · have HV : Hid (com a b = k) := com_eq hka hkb HJ.out (.inl (by omega))
      go_wp2_with fail
      go_region
      all_goals
        go_wp2_with fail
        go_ret
        exact ⟨by rw [HV.out]; rfl, Below.drew hbk⟩

end Go.Proofs.YtjaaaopbidmknaaDoor
