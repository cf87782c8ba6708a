/-
  The specification's functions that ask whether a disk is right.
-/
import Derived.Test.YtnohnkcijomdjaaGreatDoorDskP
import Derived.Test.YtnohnkcijomdjaaGreatDoorDatI
namespace Go.Proofs.YtnohnkcijomdjaaGreatDoor
open Go.RowKit
set_option linter.unusedVariables false
set_option maxRecDepth 10000

set_option maxHeartbeats 800000 in
theorem l2Name_any (s : ByteArray) (w : World) (hs : s.size ≤ 9223372036854775807) :
    Calls Tryz.prog 80 #[.string s] w fun e w' => e = .returned (.bool (nameOk s)) ∧ w' = w := by
  by_cases hr : 1 ≤ s.size ∧ s.size ≤ 12
  · have hin : inRange s.size 1 12 = true := inRange_yes (by omega) (by omega)
    have HR := Hid.mk hr
    obtain ⟨hr1, hr2⟩ := hr
    go_enter Tryz.func80, Tryz.ntmps80
    go_wp2_with (go_at_call 37; refine (l1In_any _ _ _ _).mono ?_; rintro e w' ⟨rfl, rfl⟩)
    go_loop [3] (fun i => ∃ k : Nat, k ≤ s.size ∧ i = .int .i64 k ∧ ∀ j, (hj : j < (byteInts s).length) → j < k → nameByte (byteInts s)[j] = true) (fun i => s.size - (intOf i).toNat)
    case atStart => exact ⟨0, Nat.zero_le _, rfl, fun j _ hj => by omega⟩
    case round =>
      obtain ⟨k, hk, rfl, hno⟩ := hrel
      have HNo := Hid.mk hno
      clear hno
      by_cases hlt : k < s.size
      · have hcl : k < (byteInts s).length := by rw [byteInts_length]; exact hlt
        have hc : ∃ c : Int, wrap64 (s[k].toNat : Int) = c ∧ (byteInts s)[k] = c := by
          refine ⟨_, rfl, ?_⟩
          have h1 : (byteInts s)[k] = (s[k].toNat : Int) := by simp [byteInts]; rfl
          have h2 : s[k].toNat < 256 := s[k].toNat_lt
          rw [h1]
          unfold wrap64
          omega
        obtain ⟨c, hc, hcb⟩ := hc
        have HCB := Hid.mk hcb
        have HNX : Hid (nameByte c = true → ∀ j, (hj : j < (byteInts s).length) → j < k + 1 → nameByte (byteInts s)[j] = true) := fun hb j hj hjk => by
          by_cases hjk' : j = k
          · subst hjk'; rw [hcb]; exact hb
          · exact HNo.out j hj (by omega)
        have HBX : Hid (nameByte c = false → nameOk s = false) := fun hb => nameOk_bad hcl (by rw [hcb]; exact hb)
        clear hcb HNo
        by_cases h1 : 97 ≤ c ∧ c ≤ 122
        · have e1 : inRange c 97 122 = true := inRange_yes h1.1 h1.2
          have HB : Hid (nameByte c = true) := decide_eq_true (by omega)
          clear h1
          go_wp2_with (go_at_call 37; refine (l1In_any _ _ _ _).mono ?_; rintro e w' ⟨rfl, rfl⟩)
          go_round
          case rel => exact ⟨k + 1, by omega, by go_num, HNX.out HB.out⟩
          case measure => simp [intOf]; omega
        · have e1 : inRange c 97 122 = false := inRange_no h1
          by_cases h2 : 48 ≤ c ∧ c ≤ 57
          · have e2 : inRange c 48 57 = true := inRange_yes h2.1 h2.2
            have HB : Hid (nameByte c = true) := decide_eq_true (by omega)
            clear h1 h2
            go_wp2_with (go_at_call 37; refine (l1In_any _ _ _ _).mono ?_; rintro e w' ⟨rfl, rfl⟩)
            go_round
            case rel => exact ⟨k + 1, by omega, by go_num, HNX.out HB.out⟩
            case measure => simp [intOf]; omega
          · have e2 : inRange c 48 57 = false := inRange_no h2
            by_cases h3 : c = 45
            · have HB : Hid (nameByte c = true) := decide_eq_true (by omega)
              have e3 : (c != 45) = false := by simp [h3]
              clear h1 h2 h3
              go_wp2_with (go_at_call 37; refine (l1In_any _ _ _ _).mono ?_; rintro e w' ⟨rfl, rfl⟩)
              go_round
              case rel => exact ⟨k + 1, by omega, by go_num, HNX.out HB.out⟩
              case measure => simp [intOf]; omega
            · have e3 : (c != 45) = true := by simp [h3]
              by_cases h4 : c = 46
              · have HB : Hid (nameByte c = true) := decide_eq_true (by omega)
                have e4 : (c != 46) = false := by simp [h4]
                clear h1 h2 h3 h4
                go_wp2_with (go_at_call 37; refine (l1In_any _ _ _ _).mono ?_; rintro e w' ⟨rfl, rfl⟩)
                go_round
                case rel => exact ⟨k + 1, by omega, by go_num, HNX.out HB.out⟩
                case measure => simp [intOf]; omega
              · have e4 : (c != 46) = true := by simp [h4]
                have HB : Hid (nameByte c = false) := decide_eq_false (by omega)
                clear h1 h2 h3 h4
                go_wp2_with (go_at_call 37; refine (l1In_any _ _ _ _).mono ?_; rintro e w' ⟨rfl, rfl⟩)
                go_ret
                exact ⟨by rw [HBX.out HB.out]; rfl, rfl⟩
      · have HV := Hid.mk (nameOk_good HR.out (fun j hj => HNo.out j hj (by have := byteInts_length s; omega)))
        go_wp2_with fail
        go_ret
        exact ⟨by rw [HV.out]; rfl, rfl⟩
  · have hin : inRange s.size 1 12 = false := inRange_no (by omega)
    have HV := Hid.mk (nameOk_long hr)
    go_enter Tryz.func80, Tryz.ntmps80
    go_wp2_with (go_at_call 37; refine (l1In_any _ _ _ _).mono ?_; rintro e w' ⟨rfl, rfl⟩)
    go_ret
    exact ⟨by rw [HV.out]; rfl, rfl⟩

set_option maxHeartbeats 400000 in
theorem l2Named_any (a : Option Addr) (n cap : Nat) (l : List MEntry) (id : Int) (w : World) (B : Nat) (hx : l.length = n) (hlen : n ≤ 1099511627776) (hr : RdS 2 rEntry B w a l) :
    Calls Tryz.prog 97 #[.slice a n cap, .int .i64 id] w fun e w' => e = .returned (.bool (named l id)) ∧ w' = w := by
  have HX := Hid.mk hx
  clear hx
  go_enter Tryz.func97, Tryz.ntmps97
  go_wp2
  go_loop [5] (fun i => ∃ k : Nat, k ≤ n ∧ i = .int .i64 k ∧ ∀ j, (hj : j < l.length) → j < k → l[j].fId ≠ id) (fun i => n - (intOf i).toNat)
  case atStart => exact ⟨0, Nat.zero_le _, rfl, fun j _ hj => by omega⟩
  case round =>
    obtain ⟨k, hk, rfl, hno⟩ := hrel
    have HNo := Hid.mk hno
    clear hno
    by_cases hlt : k < n
    · have hkl : k < l.length := by rw [HX.out]; exact hlt
      obtain ⟨b1, o1, rfl, _, cs, hcl, hcell, rfl, _⟩ := hr k hkl
      have k1 := hcell 1 _ rfl
      have HE := Hid.mk (rfl : l[k].fId = l[k].fId)
      by_cases he : l[k].fId = id
      · have HV := Hid.mk (named_yes hkl he)
        have heb : (l[k].fId == id) = true := by simp [he]
        generalize l[k].fId = y at k1 heb
        clear hr hcell hcl he HE HNo
        go_wp2
        go_ret
        exact ⟨by rw [HV.out]; rfl, rfl⟩
      · have heb : (l[k].fId == id) = false := by simp [he]
        have HNe := Hid.mk he
        clear he
        have HNo' : Hid (∀ j, (hj : j < l.length) → j < k + 1 → l[j].fId ≠ id) := fun j hj hjk => by
          by_cases hjk' : j = k
          · subst hjk'; exact HNe.out
          · exact HNo.out j hj (by omega)
        generalize l[k].fId = y at k1 heb
        clear hr hcell hcl HE HNo HNe
        go_wp2
        go_round
        case rel => exact ⟨k + 1, by omega, by go_num, HNo'.out⟩
        case measure => simp [intOf]; omega
    · have HV := Hid.mk (named_no (l := l) (id := id) (fun j hj => HNo.out j hj (by have := HX.out; omega)))
      clear HNo
      go_wp2
      go_ret
      exact ⟨by rw [HV.out]; rfl, rfl⟩

set_option maxHeartbeats 400000 in
theorem l2Inode_any (cs : List Value) (m : MDisk) (id : Int) (w : World) (hr : rDisk w.heap.size w cs m) (hlen : m.fInodes.length ≤ 1099511627776) :
    Calls Tryz.prog 57 #[.agg cs.toArray, .int .i64 id] w fun e w' => e = .returned (.int .i64 (placeZ m.fInodes id)) ∧ Below w.heap.size w w' := by
  obtain ⟨a0, c0, a1, c1, a2, c2, rfl, hI, _, _, _, _⟩ := hr
  have hrs := hI.2.2
  clear hI
  generalize m.fInodes = l at *
  obtain ⟨n, hn⟩ : ∃ n, l.length = n := ⟨_, rfl⟩
  have HX := Hid.mk hn
  rw [hn] at hlen ⊢
  clear hn
  go_enter Tryz.func57, Tryz.ntmps57
  go_wp2
  go_loop [5] (fun i => ∃ k : Nat, k ≤ n ∧ i = .int .i64 k ∧ ∀ j, (hj : j < l.length) → j < k → l[j].fId ≠ id) (fun i => n - (intOf i).toNat)
  case atStart => exact ⟨0, Nat.zero_le _, rfl, fun j _ hj => by omega⟩
  case round =>
    obtain ⟨k, hk, rfl, hno⟩ := hrel
    have HNo := Hid.mk hno
    clear hno
    by_cases hlt : k < n
    · have hkl : k < l.length := by rw [HX.out]; exact hlt
      obtain ⟨b1, o1, rfl, hB, cs, hcl, hcell, b1', c1', rfl, _⟩ := hrs k hkl
      have k0 := hcell 0 _ rfl
      rw [Nat.add_zero] at k0
      by_cases he : l[k].fId = id
      · have HV := Hid.mk (placeZ_at hkl he HNo.out)
        have heb : (l[k].fId == id) = true := by simp [he]
        generalize l[k].fId = y at k0 heb
        clear hrs hcell hcl he HNo
        go_wp2
        go_ret
        exact ⟨by rw [HV.out]; rfl, (Below.refl _ _).alloc (Nat.le_refl _) _⟩
      · have heb : (l[k].fId == id) = false := by simp [he]
        have HNe := Hid.mk he
        clear he
        have HNo' : Hid (∀ j, (hj : j < l.length) → j < k + 1 → l[j].fId ≠ id) := fun j hj hjk => by
          by_cases hjk' : j = k
          · subst hjk'; exact HNe.out
          · exact HNo.out j hj (by omega)
        generalize l[k].fId = y at k0 heb
        clear hrs hcell hcl HNo HNe
        go_wp2
        go_round
        case rel => exact ⟨k + 1, by omega, by go_num, HNo'.out⟩
        case measure => simp [intOf]; omega
    · have HV := Hid.mk (placeZ_no (l := l) (id := id) (fun j hj => HNo.out j hj (by have := HX.out; omega)))
      clear HNo
      go_wp2
      go_ret
      exact ⟨by rw [HV.out]; rfl, (Below.refl _ _).alloc (Nat.le_refl _) _⟩

end Go.Proofs.YtnohnkcijomdjaaGreatDoor
