/-
  Part 8 of the texts that the proof leans on.
-/
import Derived.Test.YtegonncmopecnaaGreatDoorMnd1
import Derived.Test.YtegonncmopecnaaGreatDoorMnd4
import Derived.Test.YtegonncmopecnaaGreatDoorRows
import Derived.Test.YtegonncmopecnaaGreatDoorMnd0
import Derived.Test.YtegonncmopecnaaGreatDoorChecked
import Derived.Lib.ConvBytes
import Derived.Test.YtegonncmopecnaaGreatDoorMnd2
import Derived.Maps.OwnSet
import Derived.Maps.OwnOps
import Derived.OwnWalk
set_option linter.unusedVariables false
set_option linter.unusedSimpArgs false
set_option maxRecDepth 10000

namespace Go.Proofs.YtegonncmopecnaaGreatDoor
open Go.RowKit
set_option maxHeartbeats 800000 in
theorem l2Name_any (s : ByteArray) (w : World) (hs : s.size <= 9223372036854775807) :
  Calls Tryz.prog 57 #[.string s] w fun e w' => e = .returned (.bool (nameOk s)) /\ w' = w := by
 by_cases hr : 1 <= s.size /\ s.size <= 12
 ·have hin : inRange s.size 1 12 = true := inRange_yes (by omega) (by omega)
  have HR := Hm hr
  obtain ⟨hr1, hr2⟩ := hr
  go_enter Tryz.func57, Tryz.ntmps57
  go_wp2_with (go_at_call 82; refine (l1In_any _ _ _ _).mono ?_; rintro e w' ⟨rfl, rfl⟩)
  go_loop [3] (fun i => ∃ k : Nat, k <= s.size /\ i = .int .i64 k /\ ∀ j, (hj : j < (byteInts s).length) -> j < k -> nameByte (byteInts s)[j] = true) (fun i => s.size - (intOf i).toNat)
  case atStart => exact ⟨0, Nat.zero_le _, rfl, fun j _ hj => by omega⟩
  case round =>
   obtain ⟨k, hk, rfl, hno⟩ := hrel
   have HNo := Hm hno
   clear hno
   by_cases hlt : k < s.size
   ·have hcl : k < (byteInts s).length := by rw [byteInts_length]; exact hlt
    have hc : ∃ c : Int, wrap64 (s[k].toNat : Int) = c /\ (byteInts s)[k] = c := by
     refine ⟨_, rfl, ?_⟩
     have h1 : (byteInts s)[k] = (s[k].toNat : Int) := by simp [byteInts]; rfl
     have h2 : s[k].toNat < 256 := s[k].toNat_lt
     rw [h1]
     unfold wrap64
     omega
    obtain ⟨c, hc, hcb⟩ := hc
    have HCB := Hm hcb
    have HNX : Hid (nameByte c = true -> ∀ j, (hj : j < (byteInts s).length) -> j < k + 1 -> nameByte (byteInts s)[j] = true) := fun hb j hj hjk => by
     by_cases hjk' : j = k
     ·subst hjk'; rw [hcb]; exact hb
     ·exact HNo.out j hj (by omega)
    have HBX : Hid (nameByte c = false -> nameOk s = false) := fun hb => nameOk_bad hcl (by rw [hcb]; exact hb)
    clear hcb HNo
    by_cases h1 : 97 <= c /\ c <= 122
    ·have e1 : inRange c 97 122 = true := inRange_yes h1.1 h1.2
     have HB : Hid (nameByte c = true) := decide_eq_true (by omega)
     clear h1
     go_wp2_with (go_at_call 82; refine (l1In_any _ _ _ _).mono ?_; rintro e w' ⟨rfl, rfl⟩)
     go_round
     case rel => exact ⟨k + 1, by omega, by go_num, HNX.out HB.out⟩
     case measure => simp [intOf]; omega
    ·have e1 : inRange c 97 122 = false := inRange_no h1
     by_cases h2 : 48 <= c /\ c <= 57
     ·have e2 : inRange c 48 57 = true := inRange_yes h2.1 h2.2
      have HB : Hid (nameByte c = true) := decide_eq_true (by omega)
      clear h1 h2
      go_wp2_with (go_at_call 82; refine (l1In_any _ _ _ _).mono ?_; rintro e w' ⟨rfl, rfl⟩)
      go_round
      case rel => exact ⟨k + 1, by omega, by go_num, HNX.out HB.out⟩
      case measure => simp [intOf]; omega
     ·have e2 : inRange c 48 57 = false := inRange_no h2
      by_cases h3 : c = 45
      ·have HB : Hid (nameByte c = true) := decide_eq_true (by omega)
       have e3 : (c != 45) = false := by simp [h3]
       clear h1 h2 h3
       go_wp2_with (go_at_call 82; refine (l1In_any _ _ _ _).mono ?_; rintro e w' ⟨rfl, rfl⟩)
       go_round
       case rel => exact ⟨k + 1, by omega, by go_num, HNX.out HB.out⟩
       case measure => simp [intOf]; omega
      ·have e3 : (c != 45) = true := by simp [h3]
       by_cases h4 : c = 46
       ·have HB : Hid (nameByte c = true) := decide_eq_true (by omega)
        have e4 : (c != 46) = false := by simp [h4]
        clear h1 h2 h3 h4
        go_wp2_with (go_at_call 82; refine (l1In_any _ _ _ _).mono ?_; rintro e w' ⟨rfl, rfl⟩)
        go_round
        case rel => exact ⟨k + 1, by omega, by go_num, HNX.out HB.out⟩
        case measure => simp [intOf]; omega
       ·have e4 : (c != 46) = true := by simp [h4]
        have HB : Hid (nameByte c = false) := decide_eq_false (by omega)
        clear h1 h2 h3 h4
        go_wp2_with (go_at_call 82; refine (l1In_any _ _ _ _).mono ?_; rintro e w' ⟨rfl, rfl⟩)
        go_ret
        exact ⟨by rw [HBX.out HB.out]; rfl, rfl⟩
   ·have HV := Hm (nameOk_good HR.out (fun j hj => HNo.out j hj (by have := byteInts_length s; omega)))
    go_wp2_with fail
    go_ret
    exact ⟨by rw [HV.out]; rfl, rfl⟩
 ·have hin : inRange s.size 1 12 = false := inRange_no (by omega)
  have HV := Hm (nameOk_long hr)
  go_enter Tryz.func57, Tryz.ntmps57
  go_wp2_with (go_at_call 82; refine (l1In_any _ _ _ _).mono ?_; rintro e w' ⟨rfl, rfl⟩)
  go_ret
  exact ⟨by rw [HV.out]; rfl, rfl⟩
set_option maxHeartbeats 400000 in
theorem l2Named_any (a : Option Addr) (n cap : Nat) (l : List MEntry) (id : Int) (w : World) (B : Nat) (hx : l.length = n) (hlen : n <= 1099511627776) (hr : RdS 2 rEntry B w a l) :
  Calls Tryz.prog 83 #[.slice a n cap, .int .i64 id] w fun e w' => e = .returned (.bool (named l id)) /\ w' = w := by
 have HX := Hm hx
 clear hx
 go_enter Tryz.func83, Tryz.ntmps83
 go_wp2
 go_loop [5] (fun i => ∃ k : Nat, k <= n /\ i = .int .i64 k /\ ∀ j, (hj : j < l.length) -> j < k -> l[j].fId ≠ id) (fun i => n - (intOf i).toNat)
 case atStart => exact ⟨0, Nat.zero_le _, rfl, fun j _ hj => by omega⟩
 case round =>
  obtain ⟨k, hk, rfl, hno⟩ := hrel
  have HNo := Hm hno
  clear hno
  by_cases hlt : k < n
  ·have hkl : k < l.length := by rw [HX.out]; exact hlt
   obtain ⟨b1, o1, rfl, _, cs, hcl, hcell, rfl, _⟩ := hr k hkl
   have k1 := hcell 1 _ rfl
   have HE := Hm (rfl : l[k].fId = l[k].fId)
   by_cases he : l[k].fId = id
   ·have HV := Hm (named_yes hkl he)
    have heb : (l[k].fId == id) = true := by simp [he]
    generalize l[k].fId = y at k1 heb
    clear hr hcell hcl he HE HNo
    go_wp2
    go_ret
    exact ⟨by rw [HV.out]; rfl, rfl⟩
   ·have heb : (l[k].fId == id) = false := by simp [he]
    have HNe := Hm he
    clear he
    have HNo' : Hid (∀ j, (hj : j < l.length) -> j < k + 1 -> l[j].fId ≠ id) := fun j hj hjk => by
     by_cases hjk' : j = k
     ·subst hjk'; exact HNe.out
     ·exact HNo.out j hj (by omega)
    generalize l[k].fId = y at k1 heb
    clear hr hcell hcl HE HNo HNe
    go_wp2
    go_round
    case rel => exact ⟨k + 1, by omega, by go_num, HNo'.out⟩
    case measure => simp [intOf]; omega
  ·have HV := Hm (named_no (l := l) (id := id) (fun j hj => HNo.out j hj (by have := HX.out; omega)))
   clear HNo
   go_wp2
   go_ret
   exact ⟨by rw [HV.out]; rfl, rfl⟩
set_option maxHeartbeats 400000 in
theorem l2Inode_any (cs : List Value) (m : MDisk) (id : Int) (w : World) (hr : rDisk w.heap.size w cs m) (hlen : m.fInodes.length <= 1099511627776) :
  Calls Tryz.prog 59 #[.agg cs.toArray, .int .i64 id] w fun e w' => e = .returned (.int .i64 (placeZ m.fInodes id)) /\ Below w.heap.size w w' := by
 obtain ⟨a0, c0, a1, c1, a2, c2, rfl, hI, _, _, _, _⟩ := hr
 have hrs := hI.2.2
 clear hI
 generalize m.fInodes = l at *
 obtain ⟨n, hn⟩ : ∃ n, l.length = n := ⟨_, rfl⟩
 have HX := Hm hn
 rw [hn] at hlen ⊢
 clear hn
 go_enter Tryz.func59, Tryz.ntmps59
 go_wp2
 go_loop [5] (fun i => ∃ k : Nat, k <= n /\ i = .int .i64 k /\ ∀ j, (hj : j < l.length) -> j < k -> l[j].fId ≠ id) (fun i => n - (intOf i).toNat)
 case atStart => exact ⟨0, Nat.zero_le _, rfl, fun j _ hj => by omega⟩
 case round =>
  obtain ⟨k, hk, rfl, hno⟩ := hrel
  have HNo := Hm hno
  clear hno
  by_cases hlt : k < n
  ·have hkl : k < l.length := by rw [HX.out]; exact hlt
   obtain ⟨b1, o1, rfl, hB, cs, hcl, hcell, b1', c1', rfl, _⟩ := hrs k hkl
   have k0 := hcell 0 _ rfl
   rw [Nat.add_zero] at k0
   by_cases he : l[k].fId = id
   ·have HV := Hm (placeZ_at hkl he HNo.out)
    have heb : (l[k].fId == id) = true := by simp [he]
    generalize l[k].fId = y at k0 heb
    clear hrs hcell hcl he HNo
    go_wp2
    go_ret
    exact ⟨by rw [HV.out]; rfl, rB.alloc rN _⟩
   ·have heb : (l[k].fId == id) = false := by simp [he]
    have HNe := Hm he
    clear he
    have HNo' : Hid (∀ j, (hj : j < l.length) -> j < k + 1 -> l[j].fId ≠ id) := fun j hj hjk => by
     by_cases hjk' : j = k
     ·subst hjk'; exact HNe.out
     ·exact HNo.out j hj (by omega)
    generalize l[k].fId = y at k0 heb
    clear hrs hcell hcl HNo HNe
    go_wp2
    go_round
    case rel => exact ⟨k + 1, by omega, by go_num, HNo'.out⟩
    case measure => simp [intOf]; omega
  ·have HV := Hm (placeZ_no (l := l) (id := id) (fun j hj => HNo.out j hj (by have := HX.out; omega)))
   clear HNo
   go_wp2
   go_ret
   exact ⟨by rw [HV.out]; rfl, rB.alloc rN _⟩
theorem bytesWorld_below (w : World) (e : TypeId) (s : ByteArray) : Below w.heap.size w (Lib.bytesWorld w e s) := by
 refine ⟨?_, ?_, ?_, by rw [Lib.bytesWorld_size]; omega, fun k hk => Lib.bytesWorld_at_old w e s k hk⟩
 all_goals (unfold Lib.bytesWorld World.freeze; rfl)
theorem byteInts_at {s : ByteArray} {j : Nat} (h : j < (byteInts s).length) : ((s.data.toList.getD j 0).toNat : Int) = (byteInts s)[j] := by
 have hj : j < s.data.toList.length := by simpa [byteInts] using h
 rw [List.getD_eq_getElem?_getD, List.getElem?_eq_getElem hj]
 simp [byteInts]
theorem strBytes (s : ByteArray) (w : World) : ∃ (w1 : World) (cap : Nat), (convert 9 22 (.string s)).run Tryz.prog w = .ok (.slice (some ⟨w.heap.size, 0, none⟩) s.size cap) w1 /\ Below w.heap.size w w1 /\ w.heap.size < w1.heap.size /\
  ∀ j, (h : j < (byteInts s).length) -> w1.cell? ⟨w.heap.size, j, none⟩ = some (.int .u8 (byteInts s)[j]) := by
 refine ⟨_, _, Lib.run_convert_string_bytes w 9 22 5 s Tryz.underlying9 Tryz.underlying22 Tryz.underlying5, bytesWorld_below w _ s, by rw [Lib.bytesWorld_size]; omega, fun j h => ?_⟩
 rw [Lib.bytesWorld_cell w _ s j (by rw [<- byteInts_length]; exact h), byteInts_at h]
set_option maxHeartbeats 800000 in
theorem implNameOk_any (s : ByteArray) (w : World) (hs : s.size <= 9223372036854775807) :
  Calls Tryz.prog 65 #[.string s] w fun e w' => e = .returned (.bool (nameOk s)) /\ Below w.heap.size w w' := by
 by_cases hr : 1 <= s.size /\ s.size <= 12
 ·have HR := Hm hr
  obtain ⟨hr1, hr2⟩ := hr
  obtain ⟨w1, cap, hcv, hb1, hz1, hcl⟩ := strBytes s w
  have hg1 : (1 : Int) <= (s.size : Int) := by omega
  have hg2 : (s.size : Int) <= 12 := by omega
  go_enter Tryz.func65, Tryz.ntmps65
  go_wp2_with fail
  go_loop [16] (fun i => ∃ k : Nat, k <= s.size /\ i = .int .i64 k /\ ∀ j, (hj : j < (byteInts s).length) -> j < k -> nameByte (byteInts s)[j] = true) (fun i => s.size - (intOf i).toNat)
  case atStart => exact ⟨0, Nat.zero_le _, rfl, fun j _ hj => by omega⟩
  case round =>
   obtain ⟨k, hk, rfl, hno⟩ := hrel
   have HNo := Hm hno
   clear hno
   by_cases hlt : k < s.size
   ·have hcl' : k < (byteInts s).length := by rw [byteInts_length]; exact hlt
    have hck := hcl k hcl'
    have HNX : Hid (nameByte (byteInts s)[k] = true -> ∀ j, (hj : j < (byteInts s).length) -> j < k + 1 -> nameByte (byteInts s)[j] = true) := fun hb j hj hjk => by
     by_cases hjk' : j = k
     ·subst hjk'; exact hb
     ·exact HNo.out j hj (by omega)
    have HBX : Hid (nameByte (byteInts s)[k] = false -> nameOk s = false) := fun hb => nameOk_bad hcl' hb
    clear HNo hcl
    generalize (byteInts s)[k] = c at *
    by_cases g1 : 122 < c
    ·have HB : Hid (nameByte c = false) := decide_eq_false (by omega)
     have p0 : (97 <= c) = True := eq_true (by omega)
     have p1 : (c <= 122) = False := eq_false (by omega)
     have p2 : (48 <= c) = True := eq_true (by omega)
     have p3 : (c <= 57) = False := eq_false (by omega)
     have p4 : (c = 45) = False := eq_false (by omega)
     have p5 : (c = 46) = False := eq_false (by omega)
     have g7 : (c == 45) = false := beq_eq_false_iff_ne.2 (by omega)
     have g8 : (c == 46) = false := beq_eq_false_iff_ne.2 (by omega)
     clear g1
     go_wp2_with fail
     go_ret
     exact ⟨by rw [HBX.out HB.out]; rfl, hb1⟩
    ·by_cases g2 : 97 <= c
     ·have HB : Hid (nameByte c = true) := decide_eq_true (by omega)
      have p0 : (97 <= c) = True := eq_true (by omega)
      have p1 : (c <= 122) = True := eq_true (by omega)
      have p2 : (48 <= c) = True := eq_true (by omega)
      have p3 : (c <= 57) = False := eq_false (by omega)
      have p4 : (c = 45) = False := eq_false (by omega)
      have p5 : (c = 46) = False := eq_false (by omega)
      have g7 : (c == 45) = false := beq_eq_false_iff_ne.2 (by omega)
      have g8 : (c == 46) = false := beq_eq_false_iff_ne.2 (by omega)
      clear g1 g2
      go_wp2_with fail
      go_round
      case rel => exact ⟨k + 1, by omega, by go_num, HNX.out HB.out⟩
      case measure => simp [intOf]; omega
     ·by_cases g3 : 57 < c
      ·have HB : Hid (nameByte c = false) := decide_eq_false (by omega)
       have p0 : (97 <= c) = False := eq_false (by omega)
       have p1 : (c <= 122) = True := eq_true (by omega)
       have p2 : (48 <= c) = True := eq_true (by omega)
       have p3 : (c <= 57) = False := eq_false (by omega)
       have p4 : (c = 45) = False := eq_false (by omega)
       have p5 : (c = 46) = False := eq_false (by omega)
       have g7 : (c == 45) = false := beq_eq_false_iff_ne.2 (by omega)
       have g8 : (c == 46) = false := beq_eq_false_iff_ne.2 (by omega)
       clear g1 g2 g3
       go_wp2_with fail
       go_ret
       exact ⟨by rw [HBX.out HB.out]; rfl, hb1⟩
      ·by_cases g4 : 48 <= c
       ·have HB : Hid (nameByte c = true) := decide_eq_true (by omega)
        have p0 : (97 <= c) = False := eq_false (by omega)
        have p1 : (c <= 122) = True := eq_true (by omega)
        have p2 : (48 <= c) = True := eq_true (by omega)
        have p3 : (c <= 57) = True := eq_true (by omega)
        have p4 : (c = 45) = False := eq_false (by omega)
        have p5 : (c = 46) = False := eq_false (by omega)
        have g7 : (c == 45) = false := beq_eq_false_iff_ne.2 (by omega)
        have g8 : (c == 46) = false := beq_eq_false_iff_ne.2 (by omega)
        clear g1 g2 g3 g4
        go_wp2_with fail
        go_round
        case rel => exact ⟨k + 1, by omega, by go_num, HNX.out HB.out⟩
        case measure => simp [intOf]; omega
       ·by_cases g5 : c = 45
        ·have HB : Hid (nameByte c = true) := decide_eq_true (by omega)
         subst g5
         clear g1 g2 g3 g4
         go_wp2_with fail
         go_round
         case rel => exact ⟨k + 1, by omega, by go_num, HNX.out HB.out⟩
         case measure => simp [intOf]; omega
        ·by_cases g6 : c = 46
         ·have HB : Hid (nameByte c = true) := decide_eq_true (by omega)
          subst g6
          clear g1 g2 g3 g4 g5
          go_wp2_with fail
          go_round
          case rel => exact ⟨k + 1, by omega, by go_num, HNX.out HB.out⟩
          case measure => simp [intOf]; omega
         ·have HB : Hid (nameByte c = false) := decide_eq_false (by omega)
          have p0 : (97 <= c) = False := eq_false (by omega)
          have p1 : (c <= 122) = True := eq_true (by omega)
          have p2 : (48 <= c) = False := eq_false (by omega)
          have p3 : (c <= 57) = True := eq_true (by omega)
          have p4 : (c = 45) = False := eq_false (by omega)
          have p5 : (c = 46) = False := eq_false (by omega)
          have g7 : (c == 45) = false := beq_eq_false_iff_ne.2 (by omega)
          have g8 : (c == 46) = false := beq_eq_false_iff_ne.2 (by omega)
          have g7 : (c == 45) = false := by simp [g5]
          have g8 : (c == 46) = false := by simp [g6]
          clear g1 g2 g3 g4 g5 g6
          go_wp2_with fail
          go_ret
          exact ⟨by rw [HBX.out HB.out]; rfl, hb1⟩
   ·have HV := Hm (nameOk_good HR.out (fun j hj => HNo.out j hj (by have := byteInts_length s; omega)))
    clear hcl
    go_wp2_with fail
    go_ret
    exact ⟨by rw [HV.out]; rfl, hb1⟩
 ·have HV := Hm (nameOk_long hr)
  by_cases h1 : s.size < 1
  ·have h1' : (s.size : Int) < 1 := by omega
   go_enter Tryz.func65, Tryz.ntmps65
   go_wp2_with fail
   go_ret
   exact ⟨by rw [HV.out]; rfl, rB⟩
  ·have h1' : (12 : Int) < (s.size : Int) := by omega
   have h2' : ¬ (s.size : Int) < 1 := by omega
   go_enter Tryz.func65, Tryz.ntmps65
   go_wp2_with fail
   go_ret
   exact ⟨by rw [HV.out]; rfl, rB⟩
set_option maxHeartbeats 1000000 in
theorem inodesOk_any (a : Option Addr) (cap : Nat) (l : List MInode) (nx : Int) (w : World) (hl : LeafL 3 rInode w.heap.size w a cap l) (hw : l.length + sumW wInode l <= 16777216) (hn : -9223372036854775808 <= nx /\ nx <= 9223372036854775807) :
  Calls Tryz.prog 27 #[.slice a l.length cap, .int .i64 nx] w fun e w' => e = .returned (.bool (okI nx 0 l && decide (sumW wInode l <= 60000))) /\ Below w.heap.size w w' := by
 have HI := Hm hl.2.2
 clear hl
 obtain ⟨hn1, hn2⟩ := hn
 go_enter Tryz.func27, Tryz.ntmps27
 go_wp2_with fail
 go_loopw [5, 6, 11] (fun lv sv i wr => ∃ k sz : Nat, k <= l.length /\ lv = .int .i64 (prevId l k) /\ i = .int .i64 k /\ sv = .int .i64 sz /\ sz = sumW wInode (l.take k) /\ sz <= 60000 /\ okI nx 0 l = okI nx (prevId l k) (l.drop k) /\ Below w.heap.size w wr) (fun _ _ i _ => l.length - (intOf i).toNat)
 case atStart => exact ⟨0, 0, Nat.zero_le _, rfl, rfl, rfl, rfl, by omega, rfl, rB⟩
 case round =>
  obtain ⟨k, sz, hk, rfl, rfl, rfl, hsz, hszb, hinv, hbk⟩ := hrel
  have HSZ := Hm hsz
  have HINV := Hm hinv
  clear hsz hinv
  by_cases hlt : k < l.length
  ·obtain ⟨b1, o1, rfl, hB, cs, hcl, hcell, hrI⟩ := (HI.out.below rInode_good hbk) k hlt
   have hwk := sumW_le (f := wInode) hlt
   have hws := sumW_take_succ (f := wInode) hlt
   have hwl := sumW_take_le wInode l (k + 1)
   have HST := Hm (okI_step (next := nx) hlt)
   have HPS := Hm (prevId_succ hlt)
   obtain ⟨n, hn⟩ : ∃ n, l[k] = n := ⟨_, rfl⟩
   rw [hn] at hrI hwk hws
   have HNd : Hid (l[k] = n) := hn
   clear hn
   obtain ⟨ad, cd, rfl, hid, hda, hsu, _⟩ := hrI
   have k0 := hcell 0 _ rfl
   have k1 := hcell 1 _ rfl
   have k2 := hcell 2 _ rfl
   rw [Nat.add_zero] at k0
   have HD : Hid (wInode n = n.fData.length) := rfl
   rw [HD.out] at hwk hws
   have hdl : n.fData.length <= 16777216 := by omega
   have HWS : Hid (sz + n.fData.length = sumW wInode (l.take (k + 1))) := by show _ = _; rw [HSZ.out, hws]
   have HBIG : Hid (60000 < sz + n.fData.length -> (okI nx 0 l && decide (sumW wInode l <= 60000)) = false) := by
    intro h
    rw [Bool.and_eq_false_iff]
    right
    exact decide_eq_false (by have := HSZ.out; omega)
   have HFAIL : Hid (stepI nx (prevId l k) n = false -> (okI nx 0 l && decide (sumW wInode l <= 60000)) = false) := by
    intro h
    rw [HINV.out, HST.out, HNd.out, h]
    rfl
   have HGO : Hid (stepI nx (prevId l k) n = true -> okI nx 0 l = okI nx (prevId l (k + 1)) (l.drop (k + 1))) := by
    intro h
    rw [HINV.out, HST.out, HNd.out, h, Bool.true_and]
   have HPI : Hid (prevId l (k + 1) = n.fId) := by show _ = _; rw [HPS.out, HNd.out]
   have hib : -9223372036854775808 <= n.fId /\ n.fId <= 9223372036854775807 := by simpa [Lit.wf, IntKind.min, IntKind.max, IntKind.signed, IntKind.bits] using hid
   have hsb : -9223372036854775808 <= n.fSure /\ n.fSure <= 9223372036854775807 := by simpa [Lit.wf, IntKind.min, IntKind.max, IntKind.signed, IntKind.bits] using hsu
   obtain ⟨hib1, hib2⟩ := hib
   obtain ⟨hsb1, hsb2⟩ := hsb
   clear hcell hcl hda hws hwl hwk hid hsu HST HPS HNd HINV
   generalize prevId l k = lst at *
   by_cases g0 : n.fId <= lst
   ·have p0 : (n.fId <= lst) = True := eq_true g0
    have HV : Hid ((okI nx 0 l && decide (sumW wInode l <= 60000)) = false) := HFAIL.out (decide_eq_false (by omega))
    clear g0 HFAIL HBIG HGO
    go_wp2_with fail
    go_ret
    exact ⟨by rw [HV.out]; rfl, hbk.alloc hbk.size _⟩
   ·have p0 : (n.fId <= lst) = False := eq_false g0
    by_cases g1 : nx <= n.fId
    ·have p1 : (nx <= n.fId) = True := eq_true g1
     have HV : Hid ((okI nx 0 l && decide (sumW wInode l <= 60000)) = false) := HFAIL.out (decide_eq_false (by omega))
     clear g1 HFAIL HBIG HGO
     go_wp2_with fail
     go_ret
     exact ⟨by rw [HV.out]; rfl, hbk.alloc hbk.size _⟩
    ·have p1 : (nx <= n.fId) = False := eq_false g1
     by_cases g2 : n.fSure < 0
     ·have p2 : (n.fSure < 0) = True := eq_true g2
      have HV : Hid ((okI nx 0 l && decide (sumW wInode l <= 60000)) = false) := HFAIL.out (decide_eq_false (by omega))
      clear g2 HFAIL HBIG HGO
      go_wp2_with fail
      go_ret
      exact ⟨by rw [HV.out]; rfl, hbk.alloc hbk.size _⟩
     ·have p2 : (n.fSure < 0) = False := eq_false g2
      by_cases g3 : (n.fData.length : Int) < n.fSure
      ·have p3 : ((n.fData.length : Int) < n.fSure) = True := eq_true g3
       have HV : Hid ((okI nx 0 l && decide (sumW wInode l <= 60000)) = false) := HFAIL.out (decide_eq_false (by omega))
       clear g3 HFAIL HBIG HGO
       go_wp2_with fail
       go_ret
       exact ⟨by rw [HV.out]; rfl, hbk.alloc hbk.size _⟩
      ·have p3 : ((n.fData.length : Int) < n.fSure) = False := eq_false g3
       by_cases g4 : (60000 : Int) < (sz : Int) + n.fData.length
       ·have p4 : ((60000 : Int) < (sz : Int) + n.fData.length) = True := eq_true g4
        have HV : Hid ((okI nx 0 l && decide (sumW wInode l <= 60000)) = false) := HBIG.out (by omega)
        clear g4 HFAIL HBIG HGO
        go_wp2_with fail
        go_ret
        exact ⟨by rw [HV.out]; rfl, hbk.alloc hbk.size _⟩
       ·have p4 : ((60000 : Int) < (sz : Int) + n.fData.length) = False := eq_false g4
        have HGo := Hm (HGO.out (decide_eq_true (by omega)))
        have hsz2 : sz + n.fData.length <= 60000 := by omega
        clear g0 g1 g2 g3 g4 HFAIL HBIG HGO
        go_wp2_with fail
        go_roundw
        case rel => exact ⟨k + 1, sz + n.fData.length, by omega, by rw [HPI.out], by go_num, by go_num, by rw [HWS.out], hsz2, HGo.out, hbk.alloc hbk.size _⟩
        case measure => simp [intOf]; omega
  ·have hkn : k = l.length := by omega
   subst hkn
   have HV : Hid ((okI nx 0 l && decide (sumW wInode l <= 60000)) = true) := by
    show _ = true
    have h1 := HSZ.out
    rw [List.take_length] at h1
    rw [HINV.out, List.drop_length, decide_eq_true (by omega)]
    rfl
   go_wp2_with fail
   go_ret
   exact ⟨by rw [HV.out]; rfl, hbk⟩
def cmpI (x y : Int) : Int := if x < y then -1 else if y < x then 1 else 0
theorem cmpI_lt {x y : Int} (h : x < y) : cmpI x y = -1 := if_pos h
theorem cmpI_gt {x y : Int} (h : y < x) : cmpI x y = 1 := by unfold cmpI; rw [if_neg (by omega), if_pos h]
theorem cmpI_eq {x y : Int} (h : x = y) : cmpI x y = 0 := by unfold cmpI; rw [if_neg (by omega), if_neg (by omega)]
set_option maxHeartbeats 400000 in
theorem cmpInt_any (x y : Int) (w : World) :
  Calls Tryz.prog 80 #[.int .i64 x, .int .i64 y] w fun e w' => e = .returned (.int .i64 (cmpI x y)) /\ w' = w := by
 by_cases h1 : x < y
 ·have HV := Hm (cmpI_lt h1)
  go_enter Tryz.func80, Tryz.ntmps80
  go_wp2
  go_ret
  exact ⟨by rw [HV.out]; rfl, rfl⟩
 ·by_cases h2 : y < x
  ·have HV := Hm (cmpI_gt h2)
   go_enter Tryz.func80, Tryz.ntmps80
   go_wp2
   go_ret
   exact ⟨by rw [HV.out]; rfl, rfl⟩
  ·have HV := Hm (cmpI_eq (x := x) (y := y) (by omega))
   go_enter Tryz.func80, Tryz.ntmps80
   go_wp2
   go_ret
   exact ⟨by rw [HV.out]; rfl, rfl⟩
set_option maxHeartbeats 400000 in
theorem inodeCmp_any (i s : Int) (v : Value) (id : Int) (w : World) :
  Calls Tryz.prog 79 #[.agg #[.int .i64 i, v, .int .i64 s], .int .i64 id] w fun e w' => e = .returned (.int .i64 (cmpI i id)) /\ Below w.heap.size w w' := by
 go_enter Tryz.func79, Tryz.ntmps79
 go_wp2_with (go_at_call 80; refine (cmpInt_any _ _ _).mono ?_; rintro e w' ⟨rfl, rfl⟩)
 go_ret
 exact ⟨rfl, rB.alloc rN _⟩
theorem okI_sorted {nx : Int} {l : List MInode} : ∀ {prev : Int}, okI nx prev l = true -> l.Pairwise fun x y => x.fId < y.fId := by
 induction l with
 | nil => intro _ _; exact List.Pairwise.nil
 | cons x r ih =>
  intro prev h
  rw [okI, Bool.and_eq_true] at h
  exact List.Pairwise.cons (fun y hy => okI_lower h.2 y hy) (ih h.2)
theorem sorted_at {l : List MInode} (h : l.Pairwise fun x y => x.fId < y.fId) {i j : Nat} (hj : j < l.length) (hij : i < j) : (l[i]'(by omega)).fId < l[j].fId :=
 List.pairwise_iff_getElem.1 h i j (by omega) hj hij
set_option maxHeartbeats 1000000 in
theorem inodeSearch_any (a : Option Addr) (n cap : Nat) (l : List MInode) (id : Int) (w : World) (hx : l.length = n) (hl : LeafL 3 rInode w.heap.size w a cap l) (hw : n <= 16777216) (hs : l.Pairwise fun x y => x.fId < y.fId) :
  Calls Tryz.prog 78 #[.slice a n cap, .int .i64 id, .func (.func 79) #[] #[]] w fun e w' => ∃ p : Nat, e = .returned (.tuple #[.int .i64 p, .bool (hasId l id)]) /\ (hasId l id = true -> ∃ h : p < l.length, l[p].fId = id) /\ Below w.heap.size w w' := by
 have HI := Hm hl.2.2
 have HS := Hm hs
 have HX := Hm hx
 clear hl hs hx
 go_enter Tryz.func78, Tryz.ntmps78
 go_wp2_with fail
 go_loopw [9, 10] (fun iv jv wr => ∃ i j : Nat, i <= j /\ j <= n /\ iv = .int .i64 i /\ jv = .int .i64 j /\ (∀ x, (hx : x < l.length) -> x < i -> l[x].fId < id) /\ (∀ x, (hx : x < l.length) -> j <= x -> id <= l[x].fId) /\ Below w.heap.size w wr) (fun iv jv _ => (intOf jv).toNat - (intOf iv).toNat)
 case atStart => exact ⟨0, n, Nat.zero_le _, rN, rfl, rfl, fun x _ h => by omega, fun x h1 h2 => by have := HX.out; omega, rB⟩
 case round =>
  obtain ⟨i, j, hij, hjn, rfl, rfl, hlo, hhi, hbk⟩ := hrel
  have HLo := Hm hlo
  have HHi := Hm hhi
  clear hlo hhi
  by_cases hlt : i < j
  ·obtain ⟨mid, hmid⟩ : ∃ mid : Nat, mid = (i + j) / 2 := ⟨_, rfl⟩
   have hm1 : i <= mid := by omega
   have hm2 : mid < j := by omega
   have hml : mid < l.length := by rw [HX.out]; omega
   obtain ⟨b1, o1, rfl, hB, cs, hcl, hcell, hrI⟩ := (HI.out.below rInode_good hbk) mid hml
   obtain ⟨nd, hnd⟩ : ∃ nd, l[mid] = nd := ⟨_, rfl⟩
   have HNd := Hm hnd
   rw [hnd] at hrI
   obtain ⟨ad, cd, rfl, _⟩ := hrI
   have k0 := hcell 0 _ rfl
   have k1 := hcell 1 _ rfl
   have k2 := hcell 2 _ rfl
   rw [Nat.add_zero] at k0
   clear hcell hcl hnd
   have hu1 : ((i : Int) + (j : Int)) / 2 = (mid : Int) := by omega
   clear hmid
   have HSm := Hm (fun x (hx : x < l.length) => sorted_at HS.out (i := x) (j := mid) hml)
   have HSb := Hm (fun x (hx : x < l.length) => sorted_at HS.out (i := mid) (j := x) hx)
   go_wp2_with fail
   refine (inodeCmp_any _ _ _ _ _).mono ?_
   rintro e w1 ⟨rfl, hb1⟩
   have hb2 := bthen hbk hb1
   by_cases hc : nd.fId < id
   ·rw [cmpI_lt hc]
    have HLo' : Hid (∀ x, (hx : x < l.length) -> x < mid + 1 -> l[x].fId < id) := fun x hx hxm => by
     by_cases hxm' : x = mid
     ·subst hxm'; rw [HNd.out]; exact hc
     ·have h1 := HSm.out x hx (by omega)
      rw [HNd.out] at h1
      omega
    clear HLo HSm HSb
    go_wp2_with fail
    go_roundw
    case rel => exact ⟨mid + 1, j, by omega, by omega, by go_num, rfl, HLo'.out, HHi.out, hb2⟩
    case measure => simp [intOf]; omega
   ·have hcm : (cmpI nd.fId id < 0) = False := eq_false (by unfold cmpI; rw [if_neg hc]; split <;> omega)
    have HHi' : Hid (∀ x, (hx : x < l.length) -> mid <= x -> id <= l[x].fId) := fun x hx hxm => by
     by_cases hxm' : x = mid
     ·subst hxm'; rw [HNd.out]; omega
     ·have h1 := HSb.out x hx (by omega)
      rw [HNd.out] at h1
      omega
    clear HHi HSm HSb
    generalize cmpI nd.fId id = cv at *
    go_wp2_with fail
    go_roundw
    case rel => exact ⟨i, mid, by omega, by omega, rfl, by go_num, HLo.out, HHi'.out, hb2⟩
    case measure => simp [intOf]; omega
  ·have hji : j = i := by omega
   subst hji
   by_cases hin : j < n
   ·have hil : j < l.length := by rw [HX.out]; exact hin
    obtain ⟨b1, o1, rfl, hB, cs, hcl, hcell, hrI⟩ := (HI.out.below rInode_good hbk) j hil
    obtain ⟨nd, hnd⟩ : ∃ nd, l[j] = nd := ⟨_, rfl⟩
    have HNd := Hm hnd
    rw [hnd] at hrI
    obtain ⟨ad, cd, rfl, _⟩ := hrI
    have k0 := hcell 0 _ rfl
    have k1 := hcell 1 _ rfl
    have k2 := hcell 2 _ rfl
    rw [Nat.add_zero] at k0
    clear hcell hcl hnd
    have HSb := Hm (fun x (hx : x < l.length) => sorted_at HS.out (i := j) (j := x) hx)
    by_cases hc : nd.fId = id
    ·have HV : Hid (hasId l id = true) := hasId_yes hil (by rw [HNd.out]; exact hc)
     have HP : Hid (∃ h : j < l.length, l[j].fId = id) := ⟨hil, by rw [HNd.out]; exact hc⟩
     have hce : cmpI id id = 0 := cmpI_eq rfl
     go_wp2_with fail
     refine (inodeCmp_any _ _ _ _ _).mono ?_
     rintro e w1 ⟨rfl, hb1⟩
     rw [hce]
     have hb2 := bthen hbk hb1
     go_wp2_with fail
     refine bodyPost_ret (v := .tuple #[.int .i64 j, .bool true]) (by simp [results, Tryz.results78, go_sem, *]) rfl ⟨j, by rw [HV.out], fun _ => HP.out, hb2⟩
    ·have HV : Hid (hasId l id = false) := hasId_no (fun x hx => by
      by_cases h1 : x < j
      ·have := HLo.out x hx h1; omega
      ·by_cases h2 : x = j
       ·subst h2; rw [HNd.out]; exact hc
       ·have h3 := HSb.out x hx (by omega)
        rw [HNd.out] at h3
        have h4 := HHi.out j hil rN
        rw [HNd.out] at h4
        omega)
     have hce : (cmpI nd.fId id == 0) = false := by
      unfold cmpI
      split
      ·rfl
      ·split
       ·rfl
       ·omega
     go_wp2_with fail
     refine (inodeCmp_any _ _ _ _ _).mono ?_
     rintro e w1 ⟨rfl, hb1⟩
     have hb2 := bthen hbk hb1
     generalize cmpI nd.fId id = cv at *
     go_wp2_with fail
     refine bodyPost_ret (v := .tuple #[.int .i64 j, .bool false]) (by simp [results, Tryz.results78, go_sem, *]) rfl ⟨j, by rw [HV.out], (fun h => by rw [HV.out] at h; cases h), hb2⟩
   ·have HV : Hid (hasId l id = false) := hasId_no (fun x hx => by have := HLo.out x hx (by have := HX.out; omega); omega)
    go_wp2_with fail
    refine bodyPost_ret (v := .tuple #[.int .i64 j, .bool false]) (by simp [results, Tryz.results78, go_sem, *]) rfl ⟨j, by rw [HV.out], (fun h => by rw [HV.out] at h; cases h), hbk⟩
set_option maxHeartbeats 1000000 in
theorem inodePlace_any (a : Option Addr) (cap : Nat) (l : List MInode) (id : Int) (w : World) (hl : LeafL 3 rInode w.heap.size w a cap l) (hw : l.length <= 16777216) (hs : l.Pairwise fun x y => x.fId < y.fId) :
  Calls Tryz.prog 46 #[.slice a l.length cap, .int .i64 id] w fun e w' => ∃ p : Nat, e = .returned (.tuple #[.int .i64 p, .bool (hasId l id)]) /\ (hasId l id = true -> ∃ h : p < l.length, l[p].fId = id) /\ Below w.heap.size w w' := by
 have HI := Hm hl.2.2
 have HL := Hm hl
 have HS := Hm hs
 clear hl hs
 go_enter Tryz.func46, Tryz.ntmps46
 go_wp2_with fail
 refine (inodeSearch_any a _ cap l id w rfl ⟨HL.out.1, HL.out.2.1, HI.out⟩ hw HS.out).mono ?_
 rintro e w1 ⟨p, rfl, hp, hb1⟩
 have HP := Hm hp
 clear hp
 go_wp2_with fail
 refine bodyPost_ret (v := .tuple #[.int .i64 p, .bool (hasId l id)]) (by simp [results, Tryz.results46, go_sem, *]) rfl ⟨p, rfl, HP.out, hb1⟩
end Go.Proofs.YtegonncmopecnaaGreatDoor

namespace Go.Proofs.YtegonncmopecnaaGreatDoor
open Go.RowKit Go.Maps
theorem lawInt : Keyed Tryz.prog 3 := int_keyed Tryz.underlying3
theorem zeroInt (w : World) : (zeroValue 3).run Tryz.prog w = .ok (.int .i64 0) w := by kernel_rfl
def Used (D : DataW Unit) (ids : List Int) : Prop := IsMap D /\ ∀ id : Int, ∃ c : Int, D.atKey (.int .i64 id) (.lit (.int .i64 0)) = .lit (.int .i64 c) /\ 0 <= c /\ c <= ids.length /\ (0 < c ↔ id ∈ ids)
theorem Used.start : Used (.map []) [] := ⟨isMap_empty, fun id => ⟨0, rfl, Int.le_refl _, by simp, by simp⟩⟩
theorem Used.look {D : DataW Unit} {ids : List Int} {id c : Int} (h : Used D ids) (hat : D.atKey (.int .i64 id) (.lit (.int .i64 0)) = .lit (.int .i64 c)) : 0 <= c /\ c <= ids.length /\ (0 < c ↔ id ∈ ids) := by
 obtain ⟨c', h1, h2⟩ := h.2 id
 rw [hat] at h1
 simp only [DataW.lit.injEq, Lit.int.injEq, true_and] at h1
 subst h1
 exact h2
theorem Used.put {D : DataW Unit} {ids : List Int} {id c : Int} (h : Used D ids) (hat : D.atKey (.int .i64 id) (.lit (.int .i64 0)) = .lit (.int .i64 c)) :
  Used (D.put (.int .i64 id) (.lit (.int .i64 (c + 1)))) (ids ++ [id]) := by
 have hc := h.look hat
 refine ⟨h.1.put _ _, fun x => ?_⟩
 by_cases hx : x = id
 ·subst hx
  refine ⟨c + 1, atKey_put_same h.1 (by trivial) _ _, by omega, by simp; omega, by simp; omega⟩
 ·obtain ⟨c', h1, h2, h3, h4⟩ := h.2 x
  refine ⟨c', ?_, h2, by simp; omega, by simp [h4, hx]⟩
  rw [atKey_put_other (by simpa using hx)]
  exact h1
theorem ownsMap_block {w w' : World} {k : TypeId} {R : Value -> Option (DataW Unit × List MemPlace)} {b n : Nat} {D : DataW Unit} (h : w.ownsMap Tryz.prog k R b n D) (hb : w'.heap[b]? = w.heap[b]?) : w'.ownsMap Tryz.prog k R b n D := by
 obtain ⟨es, c, h1, h2⟩ := h
 exact ⟨es, c, hb.trans h1, h2⟩
theorem ownsMap_lt {w : World} {k : TypeId} {R : Value -> Option (DataW Unit × List MemPlace)} {b n : Nat} {D : DataW Unit} (h : w.ownsMap Tryz.prog k R b n D) : b < w.heap.size := by
 obtain ⟨es, c, h1, h2⟩ := h
 exact (Array.getElem?_eq_some_iff.1 h1).1
theorem ownsMap_below {w w' : World} {k : TypeId} {R : Value -> Option (DataW Unit × List MemPlace)} {b n : Nat} {D : DataW Unit} (h : w.ownsMap Tryz.prog k R b n D) (hb : Below w.heap.size w w') : w'.ownsMap Tryz.prog k R b n D :=
 ownsMap_block h (hb.block b (ownsMap_lt h))
theorem keyInt {id : Int} (h : (Lit.int .i64 id).wf = true) : keyOf Tryz.prog 3 (.int .i64 id) = some (.int .i64 id) := keyOf_int_mk Tryz.underlying3 h
theorem okEL_no {ins : List MInode} {l : List MEntry} {k : Nat} (h : k < l.length) (hinv : okE ins [] ByteArray.empty l = okE ins (idsTo l k) (prevName l k) (l.drop k)) (hs : stepE ins (idsTo l k) (prevName l k) l[k] = false) : (decide (l.length <= 30) && okE ins [] ByteArray.empty l) = false := by
 rw [hinv, okE_step h, hs]; simp
set_option maxHeartbeats 2000000 in
theorem entriesOk_any (a ai : Option Addr) (n cap capi : Nat) (l : List MEntry) (ins : List MInode) (w : World) (hx : l.length = n) (hl : LeafL 2 rEntry w.heap.size w a cap l) (hi : LeafL 3 rInode w.heap.size w ai capi ins) (hn : n <= 16777216) (hni : ins.length <= 16777216) (hs : ins.Pairwise fun x y => x.fId < y.fId) :
  Calls Tryz.prog 28 #[.slice a n cap, .slice ai ins.length capi] w fun e w' => e = .returned (.bool (decide (l.length <= 30) && okE ins [] ByteArray.empty l)) /\ Below w.heap.size w w' := by
 have HX := Hm hx
 have HRS := Hm hl.2.2
 have HIN := Hm hi
 have HS := Hm hs
 clear hx hl hi hs
 by_cases h30 : n <= 30
 ·have H30 : Hid ((decide (l.length <= 30)) = true) := decide_eq_true (by rw [HX.out]; exact h30)
  have hmm := @run_makeMap Tryz.prog
  go_enter Tryz.func28, Tryz.ntmps28
  go_wp2_with fail
  go_loopw [6, 17] (fun lv i wr => ∃ (k : Nat) (D : DataW Unit), k <= n /\ i = .int .i64 k /\ lv = .string (prevName l k) /\ wr.ownsMap Tryz.prog 3 (plainElem Tryz.prog 3) w.heap.size k D /\ Used D (idsTo l k) /\ okE ins [] ByteArray.empty l = okE ins (idsTo l k) (prevName l k) (l.drop k) /\ Below w.heap.size w wr) (fun _ i _ => n - (intOf i).toNat)
  case atStart => exact ⟨0, .map [], Nat.zero_le _, rfl, rfl, World.ownsMap_made _ _ _ _, Used.start, rfl, rB.alloc rN _⟩
  case round =>
   obtain ⟨k, D, hk, rfl, rfl, hown, hU, hinv, hbk⟩ := hrel
   have HINV := Hm hinv
   have HU := Hm hU
   clear hinv hU hmm
   by_cases hlt : k < n
   ·have hkl : k < l.length := by rw [HX.out]; exact hlt
    obtain ⟨b1, o1, rfl, hB, cs, hcl, hcell, rfl, hsz, hwf, _⟩ := (HRS.out.below rEntry_good hbk) k hkl
    have k0 := hcell 0 _ rfl
    have k1 := hcell 1 _ rfl
    rw [Nat.add_zero] at k0
    clear hcell hcl
    have HNO : Hid (stepE ins (idsTo l k) (prevName l k) l[k] = false -> (decide (l.length <= 30) && okE ins [] ByteArray.empty l) = false) := okEL_no hkl HINV.out
    have HGO : Hid (stepE ins (idsTo l k) (prevName l k) l[k] = true -> okE ins [] ByteArray.empty l = okE ins (idsTo l (k + 1)) (prevName l (k + 1)) (l.drop (k + 1))) := fun h => by rw [HINV.out, okE_step hkl, h, Bool.true_and]
    have HStep : Hid (stepE ins (idsTo l k) (prevName l k) l[k] = (hasId ins l[k].fId && !(idsTo l k).contains l[k].fId && strLt (prevName l k) l[k].fName && nameOk l[k].fName)) := rfl
    have HPN : Hid (prevName l (k + 1) = l[k].fName) := prevName_succ hkl
    have HIDS : Hid (idsTo l (k + 1) = idsTo l k ++ [l[k].fId]) := idsTo_succ hkl
    have hil : (idsTo l k).length <= 16777216 := by unfold idsTo; simp; omega
    have HIL := Hm hil
    have hkey := keyInt hwf
    clear HINV hil
    obtain ⟨st, hst⟩ : ∃ st, stepE ins (idsTo l k) (prevName l k) l[k] = st := ⟨_, rfl⟩
    rw [hst] at HNO HGO HStep
    clear hst
    generalize l[k].fName = nm at *
    generalize l[k].fId = id at *
    have hib : -9223372036854775808 <= id /\ id <= 9223372036854775807 := by simpa [Lit.wf, IntKind.min, IntKind.max, IntKind.signed, IntKind.bits] using hwf
    obtain ⟨hib1, hib2⟩ := hib
    generalize hpn : prevName l k = pn at *
    clear hpn
    go_wp2_with fail
    obtain ⟨wq, hwq⟩ : ∃ wq, wq = wr.alloc (.cells #[.string nm, .int .i64 id] 74) := ⟨_, rfl⟩
    have hbq : Below wr.heap.size wr wq := by rw [hwq]; exact rB.alloc rN _
    have hbn : Bx wq wr.heap.size [.string nm, .int .i64 id] := by rw [hwq]; exact Bx.new _ _ _
    rw [<- hwq]
    clear hwq
    refine (inodePlace_any ai capi ins id wq (LeafL.mono rInode_good (HIN.out.below rInode_good (bthen hbk hbq)) (bthen hbk hbq).size) hni HS.out).mono ?_
    rintro e w1 ⟨p, rfl, _, hx1⟩
    have hb1 := bthen hbq hx1
    have hbn1 := hbn.under hx1
    have y0 := hbn1.2 0 _ rfl
    have y1 := hbn1.2 1 _ rfl
    have hown1 := ownsMap_below hown hb1
    have hbW := bthen hbk hb1
    obtain ⟨c, hrun, hat, hwc⟩ := hown1.lookup_int lawInt Tryz.underlying88 Tryz.underlying3 (zeroInt _) hkey
    have hc := HU.out.look hat
    obtain ⟨hc0, hc1, hc2⟩ := hc
    have hc3 : c <= 16777216 := by have := HIL.out; omega
    have HC := Hm hc2
    have hbnq := hbn1
    have hmz := ownsMap_lt hown
    clear hc2 hc1 hown hbn hbn1
    by_cases hH : hasId ins id = true
    ·rw [hH]
     by_cases hCn : 0 < c
     ·have HV := Hm (HNO.out (by rw [HStep.out, List.contains_iff_mem.2 (HC.out.1 hCn)]; simp))
      go_wp2_with fail
      go_ret
      exact ⟨by rw [HV.out]; rfl, hbW⟩
     ·have hnc : (idsTo l k).contains id = false := by
       rw [Bool.eq_false_iff]
       intro h
       exact hCn (HC.out.2 (List.contains_iff_mem.1 h))
      have HNC := Hm hnc
      clear hnc
      have hcz : c = 0 := by omega
      by_cases hLt : strLt pn nm = true
      ·have HLT := Hm hLt
       obtain ⟨hLt2, hLt3, hLt4⟩ := strLt_facts hLt
       clear hLt
       go_wp2_with fail
       refine (implNameOk_any nm w1 hsz).mono ?_
       rintro e w2 ⟨rfl, hx2⟩
       have hb2 := bthen hbW hx2
       by_cases hN : nameOk nm = true
       ·have HGo := Hm (HGO.out (by rw [HStep.out, hH, HNC.out, HLT.out, hN]; rfl))
        rw [hN]
        have hbn2 := hbnq.under hx2
        have z0 := hbn2.2 0 _ rfl
        have z1 := hbn2.2 1 _ rfl
        have hown2 := ownsMap_below hown1 hx2
        obtain ⟨c', hrun', hat', hwc'⟩ := hown2.lookup_int lawInt Tryz.underlying88 Tryz.underlying3 (zeroInt _) hkey
        have hcc : c' = c := by
         rw [hat] at hat'
         simp only [DataW.lit.injEq, Lit.int.injEq, true_and] at hat'
         exact hat'.symm
        subst hcc
        have HU' := Hm (HU.out.put hat)
        go_wp2_with (at_mapUpdate; refine wpList_mapUpdate_own _ rfl _ _ _ 88 rfl 3 3 lawInt Tryz.underlying88 _ w.heap.size k _ rfl hown2 (by unfold maxLen; omega) _ _ _ rfl rfl hkey _ [] (plainElem_int Tryz.underlying3 (WalkArith.wf_i64 (by omega))) ?_; intro w3 hown3 hgrow3; have z3 := hgrow3.cell z0 (fun e => by simp at e; omega))
        go_roundw
        case rel => exact ⟨k + 1, _, by omega, by go_num, by rw [HPN.out], hown3, by rw [HIDS.out]; have h := HU'.out; rw [hcz, Int.zero_add] at h; exact h, HGo.out, hb2.grown hgrow3 hb2.size (fun j hj => by cases hj; exact rN)⟩
        case measure => simp [intOf]; omega
       ·have hN2 : nameOk nm = false := Bool.eq_false_iff.2 hN
        have HV := Hm (HNO.out (by rw [HStep.out, hN2]; simp))
        rw [hN2]
        go_wp2_with fail
        go_ret
        exact ⟨by rw [HV.out]; rfl, hb2⟩
      ·have HV := Hm (HNO.out (by rw [HStep.out, Bool.eq_false_iff.2 hLt]; simp))
       have hLt2 := strLt_not (Bool.eq_false_iff.2 hLt)
       clear hLt
       rcases hLt2 with hLt2 | hLt2
       ·go_wp2_with fail
        go_ret
        exact ⟨by rw [HV.out]; rfl, hbW⟩
       ·go_wp2_with fail
        all_goals
         go_ret
         exact ⟨by rw [HV.out]; rfl, hbW⟩
    ·have hH2 : hasId ins id = false := Bool.eq_false_iff.2 hH
     have HV := Hm (HNO.out (by rw [HStep.out, hH2]; simp))
     rw [hH2]
     go_wp2_with fail
     go_ret
     exact ⟨by rw [HV.out]; rfl, hbW⟩
   ·have HV : Hid ((decide (l.length <= 30) && okE ins [] ByteArray.empty l) = true) := by
     show _ = true
     rw [H30.out, HINV.out, List.drop_of_length_le (by rw [HX.out]; omega)]
     rfl
    go_wp2_with fail
    go_ret
    exact ⟨by rw [HV.out]; rfl, hbk⟩
 ·have HV : Hid ((decide (l.length <= 30) && okE ins [] ByteArray.empty l) = false) := by
   show _ = false
   rw [HX.out, decide_eq_false h30]
   rfl
  have h30' : (30 : Int) < (n : Int) := by omega
  go_enter Tryz.func28, Tryz.ntmps28
  go_wp2_with fail
  go_ret
  exact ⟨by rw [HV.out]; rfl, rB⟩
theorem filter_snoc_yes {α : Type} {p : α -> Bool} {l : List α} {k : Nat} (h : k < l.length) (hp : p l[k] = true) : (l.take (k + 1)).filter p = (l.take k).filter p ++ [l[k]] := by
 rw [List.take_succ_eq_append_getElem h, List.filter_append]
 simp [hp]
theorem filter_snoc_no {α : Type} {p : α -> Bool} {l : List α} {k : Nat} (h : k < l.length) (hp : p l[k] = false) : (l.take (k + 1)).filter p = (l.take k).filter p := by
 rw [List.take_succ_eq_append_getElem h, List.filter_append]
 simp [hp]
theorem idsTo_all {l : List MEntry} : idsTo l l.length = l.map (·.fId) := by unfold idsTo; rw [List.take_length]
theorem idsTo_len {l : List MEntry} {k : Nat} : (idsTo l k).length <= l.length := by unfold idsTo; simp; omega
set_option maxHeartbeats 4000000 in
theorem namedInodes_rowB (a0 a1 a2 : Option Addr) (c0 c1 c2 : Nat) (m : MDisk) (w : World) (B : Nat) (hBB : B <= w.heap.size) (hI : LeafL 3 rInode B w a0 c0 m.fInodes) (hNm : LeafL 2 rEntry w.heap.size w a1 c1 m.fNames) (hSf : LeafL 2 rEntry w.heap.size w a2 c2 m.fSafe) (hw : wDisk m <= 16777216) :
  Calls Tryz.prog 29 #[.agg #[.slice a0 m.fInodes.length c0, .slice a1 m.fNames.length c1, .slice a2 m.fSafe.length c2, .int .i64 m.fNext]] w fun e w' => ∃ (a : Option Addr) (c : Nat), e = .returned (.slice a (keepI m).length c) /\ RowR 3 50 rInode B w' w.heap.size (.slice a (keepI m).length c) (keepI m) /\ LeafL 3 rInode w'.heap.size w' a c (keepI m) /\ Below w.heap.size w w' := by
 obtain ⟨i0, hi, hz0, hz1, hz2⟩ := info_parts Tryz.infoOfInode
 have hw2 : m.fInodes.length + sumW wInode m.fInodes + (m.fNames.length + sumW wEntry m.fNames) + (m.fSafe.length + sumW wEntry m.fSafe) <= 16777216 := hw
 have HI := Hm hI.2.2
 have HN := Hm hNm.2.2
 have HS := Hm hSf.2.2
 clear hI hNm hSf hw
 have hmm := @run_makeMap Tryz.prog
 go_enter Tryz.func29, Tryz.ntmps29
 go_wp2_with fail
 go_loopw [15] (fun i wr => ∃ (k : Nat) (D : DataW Unit), k <= m.fNames.length /\ i = .int .i64 k /\ wr.ownsMap Tryz.prog 3 (plainElem Tryz.prog 3) (w.heap.size + 1) (k) D /\ Used D (idsTo m.fNames k) /\ Below w.heap.size w wr /\ Bx wr w.heap.size [.slice a0 m.fInodes.length c0, .slice a1 m.fNames.length c1, .slice a2 m.fSafe.length c2, .int .i64 m.fNext]) (fun i _ => m.fNames.length - (intOf i).toNat)
 case atStart => exact ⟨0, .map [], Nat.zero_le _, rfl, by simpa using World.ownsMap_made (H := Unit) (w.alloc _) _ _ _, Used.start, (rB.alloc rN _).alloc (by simp) _, (Bx.new _ _ _).alloc _⟩
 case round =>
  obtain ⟨k, D, hk, rfl, hown, hU, hbk, hbx⟩ := hrel
  have HU := Hm hU
  clear hU
  have xb0 := hbx.2 0 _ rfl
  have xb1 := hbx.2 1 _ rfl
  have xb2 := hbx.2 2 _ rfl
  have xb3 := hbx.2 3 _ rfl
  by_cases hlt : k < m.fNames.length
  ·obtain ⟨b1, o1, rfl, hB, cs, hcl, hcell, rfl, hsz, hwf, _⟩ := (HN.out.below rEntry_good hbk) k hlt
   have k0 := hcell 0 _ rfl
   have k1 := hcell 1 _ rfl
   rw [Nat.add_zero] at k0
   clear hcell hcl
   have HIDS : Hid (idsTo m.fNames (k + 1) = idsTo m.fNames k ++ [m.fNames[k].fId]) := by show _ = _; rw [idsTo_succ hlt]
   have hkey := keyInt hwf
   generalize m.fNames[k].fName = nm at *
   generalize m.fNames[k].fId = id at *
   have hmz := ownsMap_lt hown
   have hown0 := ownsMap_below hown (rB.alloc rN (.cells #[.string nm, .int .i64 id] 74))
   obtain ⟨c, hrun, hat, hwc⟩ := hown0.lookup_int lawInt Tryz.underlying88 Tryz.underlying3 (zeroInt _) hkey
   have hc := HU.out.look hat
   have hc3 : 0 <= c /\ c <= 16777216 := by
    have h1 := idsTo_len (l := m.fNames) (k := k)
    have h2 := hc.2.1
    omega
   obtain ⟨hc4, hc5⟩ := hc3
   have HU' := Hm (HU.out.put hat)
   clear hc
   go_wp2_with (at_mapUpdate; refine wpList_mapUpdate_own _ rfl _ _ _ 88 rfl 3 3 lawInt Tryz.underlying88 _ (w.heap.size + 1) (k) _ rfl hown0 (by unfold maxLen; omega) _ _ _ rfl rfl hkey _ [] (plainElem_int Tryz.underlying3 (WalkArith.wf_i64 (by omega))) ?_; intro w3 hown3 hgrow3)
   have hT : Turn [w.heap.size + 1] wr w3 := Turn.after (rB.alloc rN _) (Turn.ofGrown hgrow3 (fun k hk => by cases hk; simp))
   go_roundw
   case rel => exact ⟨k + 1, _, by omega, by go_num, hown3, by rw [HIDS.out]; exact HU'.out, Turn.under hbk hT (fun k hk => by simp at hk; omega), hbx.turn hT (by simp)⟩
   case measure => simp [intOf]; omega
  ·have hkn : k = m.fNames.length := by omega
   subst hkn
   go_wp2_with fail
   go_loopw [28] (fun i wr => ∃ (k : Nat) (D : DataW Unit), k <= m.fSafe.length /\ i = .int .i64 k /\ wr.ownsMap Tryz.prog 3 (plainElem Tryz.prog 3) (w.heap.size + 1) (m.fNames.length + k) D /\ Used D (idsTo m.fNames m.fNames.length ++ idsTo m.fSafe k) /\ Below w.heap.size w wr /\ Bx wr w.heap.size [.slice a0 m.fInodes.length c0, .slice a1 m.fNames.length c1, .slice a2 m.fSafe.length c2, .int .i64 m.fNext]) (fun i _ => m.fSafe.length - (intOf i).toNat)
   case atStart => exact ⟨0, D, Nat.zero_le _, rfl, hown, by have h := HU.out; simpa [idsTo] using h, hbk, hbx⟩
   case round =>
    obtain ⟨k, D, hk, rfl, hown, hU, hbk, hbx⟩ := hrel
    have HU := Hm hU
    clear hU
    have xb0 := hbx.2 0 _ rfl
    have xb1 := hbx.2 1 _ rfl
    have xb2 := hbx.2 2 _ rfl
    have xb3 := hbx.2 3 _ rfl
    by_cases hlt : k < m.fSafe.length
    ·obtain ⟨b1, o1, rfl, hB, cs, hcl, hcell, rfl, hsz, hwf, _⟩ := (HS.out.below rEntry_good hbk) k hlt
     have k0 := hcell 0 _ rfl
     have k1 := hcell 1 _ rfl
     rw [Nat.add_zero] at k0
     clear hcell hcl
     have HIDS : Hid (idsTo m.fNames m.fNames.length ++ idsTo m.fSafe (k + 1) = idsTo m.fNames m.fNames.length ++ idsTo m.fSafe k ++ [m.fSafe[k].fId]) := by show _ = _; rw [idsTo_succ hlt]; simp
     have hkey := keyInt hwf
     generalize m.fSafe[k].fName = nm at *
     generalize m.fSafe[k].fId = id at *
     have hmz := ownsMap_lt hown
     have hown0 := ownsMap_below hown (rB.alloc rN (.cells #[.string nm, .int .i64 id] 74))
     obtain ⟨c, hrun, hat, hwc⟩ := hown0.lookup_int lawInt Tryz.underlying88 Tryz.underlying3 (zeroInt _) hkey
     have hc := HU.out.look hat
     have hc3 : 0 <= c /\ c <= 16777216 := by
      have h1 := idsTo_len (l := m.fSafe) (k := k)
      have h2 := hc.2.1
      have h3 := idsTo_len (l := m.fNames) (k := m.fNames.length)
      simp only [List.length_append, Int.natCast_add] at h2
      omega
     obtain ⟨hc4, hc5⟩ := hc3
     have HU' := Hm (HU.out.put hat)
     clear hc
     go_wp2_with (at_mapUpdate; refine wpList_mapUpdate_own _ rfl _ _ _ 88 rfl 3 3 lawInt Tryz.underlying88 _ (w.heap.size + 1) (m.fNames.length + k) _ rfl hown0 (by unfold maxLen; omega) _ _ _ rfl rfl hkey _ [] (plainElem_int Tryz.underlying3 (WalkArith.wf_i64 (by omega))) ?_; intro w3 hown3 hgrow3)
     have hT : Turn [w.heap.size + 1] wr w3 := Turn.after (rB.alloc rN _) (Turn.ofGrown hgrow3 (fun k hk => by cases hk; simp))
     go_roundw
     case rel => exact ⟨k + 1, _, by omega, by go_num, hown3, by rw [HIDS.out]; exact HU'.out, Turn.under hbk hT (fun k hk => by simp at hk; omega), hbx.turn hT (by simp)⟩
     case measure => simp [intOf]; omega
    ·have hkn : k = m.fSafe.length := by omega
     subst hkn
     go_wp2_with fail
     go_loopw [8, 41] (fun v i wr => ∃ k : Nat, k <= m.fInodes.length /\ i = .int .i64 k /\ wr.ownsMap Tryz.prog 3 (plainElem Tryz.prog 3) (w.heap.size + 1) (m.fNames.length + m.fSafe.length) D /\ RowR 3 50 rInode B wr (w.heap.size + 2) v ((m.fInodes.take k).filter (isNamed m)) /\ Below w.heap.size w wr) (fun _ i _ => m.fInodes.length - (intOf i).toNat)
     case atStart => exact ⟨0, Nat.zero_le _, rfl, hown, by rw [List.take_zero]; exact RowR.start, hbk⟩
     case round =>
      obtain ⟨k, hk, rfl, hown', hrow, hbk'⟩ := hrel
      have HRow := Hm hrow
      clear hrow hown hbk hbx xb0 xb1 xb2 xb3
      by_cases hlt : k < m.fInodes.length
      ·obtain ⟨b1, o1, rfl, hB, cs, hcl, hcell, hrI⟩ := (HI.out.below rInode_good (hbk'.mono hBB)) k hlt
       have HYes := Hm (fun h => filter_snoc_yes (p := isNamed m) hlt h)
       have HNo := Hm (fun h => filter_snoc_no (p := isNamed m) hlt h)
       have HNI : Hid (isNamed m m.fInodes[k] = true ↔ m.fInodes[k].fId ∈ m.fNames.map (·.fId) ++ m.fSafe.map (·.fId)) := isNamed_iff
       have hfl : ((m.fInodes.take k).filter (isNamed m)).length <= 16777216 := Nat.le_trans (List.length_filter_le _ _) (by simp; omega)
       generalize m.fInodes[k] = n at *
       have hrI2 := hrI
       obtain ⟨ad, cd, rfl, hid, hda, hsu, _⟩ := hrI
       have k0 := hcell 0 _ rfl
       have k1 := hcell 1 _ rfl
       have k2 := hcell 2 _ rfl
       rw [Nat.add_zero] at k0
       have hkey := keyInt hid
       have hmz := ownsMap_lt hown'
       have hown0 := ownsMap_below hown' (rB.alloc rN (.cells #[.int .i64 n.fId, .slice ad n.fData.length cd, .int .i64 n.fSure] 50))
       obtain ⟨c, hrun, hat, hwc⟩ := hown0.lookup_int lawInt Tryz.underlying88 Tryz.underlying3 (zeroInt _) hkey
       have hc := HU.out.look hat
       rw [idsTo_all, idsTo_all] at hc
       have HC := Hm hc.2.2
       clear hc hcell hcl
       by_cases hcp : 0 < c
       ·have HF := Hm (HYes.out (HNI.out.2 (HC.out.1 hcp)))
        clear HYes HNo HNI HC
        generalize (m.fInodes.take k).filter (isNamed m) = fl at *
        obtain ⟨css, r1, r2, r3, r4⟩ := HRow.out
        have hbs := hbk'.size
        go_wp2_with (at_builtin; refine wpList_append_own_at _ rfl _ _ 24 rfl (w.heap.size + 2) 50 i0 (.agg #[.int .i64 0, .slice none 0 0, .int .i64 0]) 3 40 Tryz.underlying24 hi hz0 hz1 hz2 rfl (by decide) _ _ _ rfl (own_below r4 ((rB.alloc rN _).alloc (by simp) _)) ⟨wr.heap.size + 1, 0, none⟩ 1 1 [.int .i64 n.fId, .slice ad n.fData.length cd, .int .i64 n.fSure] rfl rfl (bx_news (by simpa using Bx.new (wr.alloc _) _ _)) (by intro u hu; simp at hu; rcases hu with rfl | rfl | rfl <;> rfl) (by unfold maxLen; omega) (by omega) (by simp; omega) ?_; intro v' w3 hown3 hgrow3 hnil hloc)
        have hT := Turn.after (((Below.refl wr.heap.size wr).alloc rN _).alloc (by simp) _) (turnOwn hgrow3)
        have hge : ∀ k, k ∈ (Value.ownBlock _).toList -> w.heap.size + 2 <= k := fun k hk => (r4.lt k (by simpa using hk)).1
        have hBl : Below w.heap.size wr w3 := Turn.below hT (fun k hk => by have := hge k hk; omega) hbs
        go_roundw
        case rel => exact ⟨k + 1, by omega, by go_num, ownsMap_block hown' (hT.block _ hmz (fun hm => by have := hge _ hm; omega)), by rw [HF.out]; exact RowR.push rInode_good r1 r2 r3 (hBl.mono hBB) rfl (rInode_good.below hrI2 (hBl.mono hBB)) hown3, hbk'.trans hBl⟩
        case measure => simp [intOf]; omega
       ·have HF := Hm (HNo.out (Bool.eq_false_iff.2 (fun h => hcp (HC.out.2 (HNI.out.1 h)))))
        clear HYes HNo HNI HC
        have hbs := hbk'.size
        have hbq := (Below.refl wr.heap.size wr).alloc rN (.cells #[.int .i64 n.fId, .slice ad n.fData.length cd, .int .i64 n.fSure] 50)
        go_wp2_with fail
        go_roundw
        case rel => exact ⟨k + 1, by omega, by go_num, hown0, by rw [HF.out]; exact RowR.keep rInode_good HRow.out hbq (Nat.le_trans hBB hbs), bthen hbk' hbq⟩
        case measure => simp [intOf]; omega
      ·have hkn : k = m.fInodes.length := by omega
       subst hkn
       have hrow := HRow.out
       rw [List.take_length] at hrow
       obtain ⟨ar, cr, hv, hlf⟩ := hrow.leaf rInode_good (Nat.le_trans hBB hbk'.size)
       subst hv
       go_wp2_with fail
       go_ret
       exact ⟨ar, cr, rfl, RowR.base hrow (by omega), hlf, hbk'⟩
theorem namedInodes_row (cs : List Value) (m : MDisk) (w : World) (hr : rDisk w.heap.size w cs m) (hw : wDisk m <= 16777216) :
  Calls Tryz.prog 29 #[.agg cs.toArray] w fun e w' => ∃ (a : Option Addr) (c : Nat), e = .returned (.slice a (keepI m).length c) /\ RowR 3 50 rInode w.heap.size w' w.heap.size (.slice a (keepI m).length c) (keepI m) /\ LeafL 3 rInode w'.heap.size w' a c (keepI m) /\ Below w.heap.size w w' := by
 obtain ⟨a0, c0, a1, c1, a2, c2, rfl, hI, hNm, hSf, hnx, _⟩ := hr
 exact namedInodes_rowB a0 a1 a2 c0 c1 c2 m w w.heap.size rN hI hNm hSf hw
theorem namedInodes_any (cs : List Value) (m : MDisk) (w : World) (hr : rDisk w.heap.size w cs m) (hw : wDisk m <= 16777216) :
  Calls Tryz.prog 29 #[.agg cs.toArray] w fun e w' => ∃ (a : Option Addr) (c : Nat), e = .returned (.slice a (keepI m).length c) /\ LeafL 3 rInode w'.heap.size w' a c (keepI m) /\ Below w.heap.size w w' :=
 (namedInodes_row cs m w hr hw).mono fun e w' ⟨a, c, h1, _, h2, h3⟩ => ⟨a, c, h1, h2, h3⟩
end Go.Proofs.YtegonncmopecnaaGreatDoor
