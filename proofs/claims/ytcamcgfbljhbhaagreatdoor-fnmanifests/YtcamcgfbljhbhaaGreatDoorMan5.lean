/-
  Part 6 of the texts that the proof leans on.
-/
import Derived.Test.YtcamcgfbljhbhaaGreatDoorMan0
import Derived.Test.YtcamcgfbljhbhaaGreatDoorMan2
import Derived.Test.YtcamcgfbljhbhaaGreatDoorRows
import Derived.Test.YtcamcgfbljhbhaaGreatDoorChecked
import Derived.Lib.ConvBytes
import Derived.Test.YtcamcgfbljhbhaaGreatDoorMan1
import Derived.Maps.OwnSet
import Derived.Maps.OwnOps
import Derived.OwnWalk
set_option linter.unusedVariables false
set_option linter.unusedSimpArgs false
set_option maxRecDepth 10000
set_option maxHeartbeats 20000000

namespace Go.Proofs.YtcamcgfbljhbhaaGreatDoor
open Go.RowKit
theorem kG (s : ByteArray) (w : World) (hs : s.size <= 9223372036854775807) :
  Calls Tryz.prog 71 #[.string s] w fun e w' => e = .returned (.bool (bH s)) /\ w' = w := by
 by_cases hr : 1 <= s.size /\ s.size <= 12
 ·have Nr : dm s.size 1 12 = true := gC (by omega) (by omega)
  have HR := Hm hr; obtain ⟨hr1, hr2⟩ := hr; go_enter Tryz.func71, Tryz.ntmps71; go_wp2_with (go_at_call 30; refine (bY _ _ _ _).mono ?_; rintro e w' ⟨rfl, rfl⟩)
  go_loop [3] (fun i => ∃ k : Nat, k <= s.size /\ i = .int .i64 k /\ ∀ j, (hj : j < (bu s).length) -> j < k -> dw (bu s)[j] = true) (fun i => s.size - (intOf i).toNat)
  case atStart => exact ⟨0, Nat.zero_le _, rfl, fun j _ hj => by omega⟩
  case round =>
   obtain ⟨k, hk, rfl, hno⟩ := hrel; have mo := Hm hno; clear hno
   by_cases hlt : k < s.size
   ·have iw : k < (bu s).length := by rw [cf]; exact hlt
    have hc : ∃ c : Int, wrap64 (s[k].toNat : Int) = c /\ (bu s)[k] = c := by
     refine ⟨_, rfl, ?_⟩; have h1 : (bu s)[k] = (s[k].toNat : Int) := by simp [bu]; rfl
     have h2 : s[k].toNat < 256 := s[k].toNat_lt; rw [h1]; unfold wrap64; omega
    obtain ⟨c, hc, hcb⟩ := hc; have Qz := Hm hcb
    have kn : Hid (dw c = true -> ∀ j, (hj : j < (bu s).length) -> j < k + 1 -> dw (bu s)[j] = true) := fun hb j hj hjk => by
     by_cases ug : j = k
     ·subst ug; rw [hcb]; exact hb
     ·exact mo.out j hj (by omega)
    have OA : Hid (dw c = false -> bH s = false) := fun hb => wA iw (by rw [hcb]; exact hb)
    clear hcb mo
    by_cases h1 : 97 <= c /\ c <= 122
    ·have e1 : dm c 97 122 = true := gC h1.1 h1.2
     have HB : Hid (dw c = true) := decide_eq_true (by omega); clear h1; go_wp2_with (go_at_call 30; refine (bY _ _ _ _).mono ?_; rintro e w' ⟨rfl, rfl⟩)
     go_round
     case rel => exact ⟨k + 1, by omega, by go_num, kn.out HB.out⟩
     case measure => simp [intOf]; omega
    ·have e1 : dm c 97 122 = false := gO h1
     by_cases h2 : 48 <= c /\ c <= 57
     ·have e2 : dm c 48 57 = true := gC h2.1 h2.2
      have HB : Hid (dw c = true) := decide_eq_true (by omega); clear h1 h2; go_wp2_with (go_at_call 30; refine (bY _ _ _ _).mono ?_; rintro e w' ⟨rfl, rfl⟩)
      go_round
      case rel => exact ⟨k + 1, by omega, by go_num, kn.out HB.out⟩
      case measure => simp [intOf]; omega
     ·have e2 : dm c 48 57 = false := gO h2
      by_cases h3 : c = 45
      ·have HB : Hid (dw c = true) := decide_eq_true (by omega)
       have e3 : (c != 45) = false := by simp [h3]
       clear h1 h2 h3; go_wp2_with (go_at_call 30; refine (bY _ _ _ _).mono ?_; rintro e w' ⟨rfl, rfl⟩)
       go_round
       case rel => exact ⟨k + 1, by omega, by go_num, kn.out HB.out⟩
       case measure => simp [intOf]; omega
      ·have e3 : (c != 45) = true := by simp [h3]
       by_cases h4 : c = 46
       ·have HB : Hid (dw c = true) := decide_eq_true (by omega)
        have e4 : (c != 46) = false := by simp [h4]
        clear h1 h2 h3 h4; go_wp2_with (go_at_call 30; refine (bY _ _ _ _).mono ?_; rintro e w' ⟨rfl, rfl⟩)
        go_round
        case rel => exact ⟨k + 1, by omega, by go_num, kn.out HB.out⟩
        case measure => simp [intOf]; omega
       ·have e4 : (c != 46) = true := by simp [h4]
        have HB : Hid (dw c = false) := decide_eq_false (by omega); clear h1 h2 h3 h4; go_wp2_with (go_at_call 30; refine (bY _ _ _ _).mono ?_; rintro e w' ⟨rfl, rfl⟩); go_ret; exact ⟨by rw [OA.out HB.out]; rfl, rfl⟩
   ·have HV := Hm (uX HR.out (fun j hj => mo.out j hj (by have := cf s; omega)))
    go_wp2_with fail; go_ret; exact ⟨by rw [HV.out]; rfl, rfl⟩
 ·have Nr : dm s.size 1 12 = false := gO (by omega)
  have HV := Hm (uW hr); go_enter Tryz.func71, Tryz.ntmps71; go_wp2_with (go_at_call 30; refine (bY _ _ _ _).mono ?_; rintro e w' ⟨rfl, rfl⟩); go_ret; exact ⟨by rw [HV.out]; rfl, rfl⟩
theorem nr (a : Option Addr) (n cap : Nat) (l : List aB) (id : Int) (w : World) (B : Nat) (hx : l.length = n) (hlen : n <= 1099511627776) (hr : Bk 2 cy B w a l) :
  Calls Tryz.prog 61 #[.slice a n cap, .int .i64 id] w fun e w' => e = .returned (.bool (named l id)) /\ w' = w := by
 have HX := Hm hx; clear hx; go_enter Tryz.func61, Tryz.ntmps61
 go_wp2
 go_loop [5] (fun i => ∃ k : Nat, k <= n /\ i = .int .i64 k /\ ∀ j, (hj : j < l.length) -> j < k -> l[j].bi ≠ id) (fun i => n - (intOf i).toNat)
 case atStart => exact ⟨0, Nat.zero_le _, rfl, fun j _ hj => by omega⟩
 case round =>
  obtain ⟨k, hk, rfl, hno⟩ := hrel; have mo := Hm hno; clear hno
  by_cases hlt : k < n
  ·have gH : k < l.length := by rw [HX.out]; exact hlt
   obtain ⟨b1, o1, rfl, _, cs, iw, hcell, rfl, _⟩ := hr k gH; have k1 := hcell 1 _ rfl; have HE := Hm (rfl : l[k].bi = l[k].bi)
   by_cases he : l[k].bi = id
   ·have HV := Hm (zl gH he)
    have Bp : (l[k].bi == id) = true := by simp [he]
    generalize l[k].bi = y at k1 Bp; clear hr hcell iw he HE mo
    go_wp2
    go_ret; exact ⟨by rw [HV.out]; rfl, rfl⟩
   ·have Bp : (l[k].bi == id) = false := by simp [he]
    have RI := Hm he; clear he
    have D4 : Hid (∀ j, (hj : j < l.length) -> j < k + 1 -> l[j].bi ≠ id) := fun j hj hjk => by
     by_cases ug : j = k
     ·subst ug; exact RI.out
     ·exact mo.out j hj (by omega)
    generalize l[k].bi = y at k1 Bp; clear hr hcell iw HE mo RI
    go_wp2
    go_round
    case rel => exact ⟨k + 1, by omega, by go_num, D4.out⟩
    case measure => simp [intOf]; omega
  ·have HV := Hm (Ja (l := l) (id := id) (fun j hj => mo.out j hj (by have := HX.out; omega)))
   clear mo
   go_wp2
   go_ret; exact ⟨by rw [HV.out]; rfl, rfl⟩
theorem pP (cs : List Value) (m : az) (id : Int) (w : World) (hr : bg w.heap.size w cs m) (hlen : m.aa.length <= 1099511627776) :
  Calls Tryz.prog 101 #[.agg cs.toArray, .int .i64 id] w fun e w' => e = .returned (.int .i64 (ij m.aa id)) /\ Below w.heap.size w w' := by
 obtain ⟨a0, c0, a1, c1, a2, c2, rfl, hI, _, _, _, _⟩ := hr; have IX := hI.2.2; clear hI; generalize m.aa = l at *; obtain ⟨n, hn⟩ : ∃ n, l.length = n := ⟨_, rfl⟩
 have HX := Hm hn; rw [hn] at hlen ⊢; clear hn; go_enter Tryz.func101, Tryz.ntmps101
 go_wp2
 go_loop [5] (fun i => ∃ k : Nat, k <= n /\ i = .int .i64 k /\ ∀ j, (hj : j < l.length) -> j < k -> l[j].bi ≠ id) (fun i => n - (intOf i).toNat)
 case atStart => exact ⟨0, Nat.zero_le _, rfl, fun j _ hj => by omega⟩
 case round =>
  obtain ⟨k, hk, rfl, hno⟩ := hrel; have mo := Hm hno; clear hno
  by_cases hlt : k < n
  ·have gH : k < l.length := by rw [HX.out]; exact hlt
   obtain ⟨b1, o1, rfl, hB, cs, iw, hcell, Ys, c1', rfl, _⟩ := IX k gH; have k0 := hcell 0 _ rfl; rw [Nat.add_zero] at k0
   by_cases he : l[k].bi = id
   ·have HV := Hm (Gv gH he mo.out)
    have Bp : (l[k].bi == id) = true := by simp [he]
    generalize l[k].bi = y at k0 Bp; clear IX hcell iw he mo
    go_wp2
    go_ret; exact ⟨by rw [HV.out]; rfl, rB.alloc rN _⟩
   ·have Bp : (l[k].bi == id) = false := by simp [he]
    have RI := Hm he; clear he
    have D4 : Hid (∀ j, (hj : j < l.length) -> j < k + 1 -> l[j].bi ≠ id) := fun j hj hjk => by
     by_cases ug : j = k
     ·subst ug; exact RI.out
     ·exact mo.out j hj (by omega)
    generalize l[k].bi = y at k0 Bp; clear IX hcell iw mo RI
    go_wp2
    go_round
    case rel => exact ⟨k + 1, by omega, by go_num, D4.out⟩
    case measure => simp [intOf]; omega
  ·have HV := Hm (Gw (l := l) (id := id) (fun j hj => mo.out j hj (by have := HX.out; omega)))
   clear mo
   go_wp2
   go_ret; exact ⟨by rw [HV.out]; rfl, rB.alloc rN _⟩
theorem bytesWorld_below (w : World) (e : TypeId) (s : ByteArray) : Below w.heap.size w (Lib.bytesWorld w e s) := by
 refine ⟨?_, ?_, ?_, by rw [Lib.bytesWorld_size]; omega, fun k hk => Lib.bytesWorld_at_old w e s k hk⟩
 all_goals (unfold Lib.bytesWorld World.freeze; rfl)
theorem B3 {s : ByteArray} {j : Nat} (h : j < (bu s).length) : ((s.data.toList.getD j 0).toNat : Int) = (bu s)[j] := by
 have hj : j < s.data.toList.length := by simpa [bu] using h
 rw [List.getD_eq_getElem?_getD, List.getElem?_eq_getElem hj]; simp [bu]
theorem B4 (s : ByteArray) (w : World) : ∃ (w1 : World) (cap : Nat), (convert 9 22 (.string s)).run Tryz.prog w = .ok (.slice (some ⟨w.heap.size, 0, none⟩) s.size cap) w1 /\ Below w.heap.size w w1 /\ w.heap.size < w1.heap.size /\
  ∀ j, (h : j < (bu s).length) -> w1.cell? ⟨w.heap.size, j, none⟩ = some (.int .u8 (bu s)[j]) := by
 refine ⟨_, _, Lib.run_convert_string_bytes w 9 22 5 s Tryz.underlying9 Tryz.underlying22 Tryz.underlying5, bytesWorld_below w _ s, by rw [Lib.bytesWorld_size]; omega, fun j h => ?_⟩; rw [Lib.bytesWorld_cell w _ s j (by rw [<- cf]; exact h), B3 h]
theorem pQ (s : ByteArray) : nc (bu s) := by
 intro z hz; simp only [bu, List.mem_map] at hz; obtain ⟨b, _, rfl⟩ := hz; have := b.toNat_lt; omega
theorem NB (s : ByteArray) (w : World) : ∃ (w1 : World) (cap : Nat), (convert 9 22 (.string s)).run Tryz.prog w = .ok (.slice (some ⟨w.heap.size, 0, none⟩) s.size cap) w1 /\ Below w.heap.size w w1 /\ Rd .u8 w1.heap.size w1 (some ⟨w.heap.size, 0, none⟩) (bu s) := by
 obtain ⟨w1, cap, hcv, hb1, hz1, iw⟩ := B4 s w; refine ⟨w1, cap, hcv, hb1, fun j hj => ⟨w.heap.size, 0, rfl, hz1, ?_⟩⟩; rw [Nat.zero_add, iw j hj, List.getD_eq_getElem?_getD, List.getElem?_eq_getElem hj]; rfl
theorem jX (s : ByteArray) (w : World) (hs : s.size <= 9223372036854775807) :
  Calls Tryz.prog 108 #[.string s] w fun e w' => e = .returned (.bool (bH s)) /\ Below w.heap.size w w' := by
 by_cases hr : 1 <= s.size /\ s.size <= 12
 ·have HR := Hm hr
  obtain ⟨hr1, hr2⟩ := hr; obtain ⟨w1, cap, hcv, hb1, hz1, iw⟩ := B4 s w; have hg1 : (1 : Int) <= (s.size : Int) := by omega
  have hg2 : (s.size : Int) <= 12 := by omega
  go_enter Tryz.func108, Tryz.ntmps108; go_wp2_with fail
  go_loop [16] (fun i => ∃ k : Nat, k <= s.size /\ i = .int .i64 k /\ ∀ j, (hj : j < (bu s).length) -> j < k -> dw (bu s)[j] = true) (fun i => s.size - (intOf i).toNat)
  case atStart => exact ⟨0, Nat.zero_le _, rfl, fun j _ hj => by omega⟩
  case round =>
   obtain ⟨k, hk, rfl, hno⟩ := hrel; have mo := Hm hno; clear hno
   by_cases hlt : k < s.size
   ·have G3 : k < (bu s).length := by rw [cf]; exact hlt
    have Ue := iw k G3
    have kn : Hid (dw (bu s)[k] = true -> ∀ j, (hj : j < (bu s).length) -> j < k + 1 -> dw (bu s)[j] = true) := fun hb j hj hjk => by
     by_cases ug : j = k
     ·subst ug; exact hb
     ·exact mo.out j hj (by omega)
    have OA : Hid (dw (bu s)[k] = false -> bH s = false) := fun hb => wA G3 hb
    clear mo iw; generalize (bu s)[k] = c at *
    by_cases g1 : 122 < c
    ·have HB : Hid (dw c = false) := decide_eq_false (by omega)
     have p0 : (97 <= c) = True := eq_true (by omega); have p1 : (c <= 122) = False := eq_false (by omega); have p2 : (48 <= c) = True := eq_true (by omega); have p3 : (c <= 57) = False := eq_false (by omega); have p4 : (c = 45) = False := eq_false (by omega); have p5 : (c = 46) = False := eq_false (by omega); have g7 : (c == 45) = false := beq_eq_false_iff_ne.2 (by omega); have g8 : (c == 46) = false := beq_eq_false_iff_ne.2 (by omega); clear g1; go_wp2_with fail; go_ret; exact ⟨by rw [OA.out HB.out]; rfl, hb1⟩
    ·by_cases g2 : 97 <= c
     ·have HB : Hid (dw c = true) := decide_eq_true (by omega)
      have p0 : (97 <= c) = True := eq_true (by omega); have p1 : (c <= 122) = True := eq_true (by omega); have p2 : (48 <= c) = True := eq_true (by omega); have p3 : (c <= 57) = False := eq_false (by omega); have p4 : (c = 45) = False := eq_false (by omega); have p5 : (c = 46) = False := eq_false (by omega); have g7 : (c == 45) = false := beq_eq_false_iff_ne.2 (by omega); have g8 : (c == 46) = false := beq_eq_false_iff_ne.2 (by omega); clear g1 g2; go_wp2_with fail
      go_round
      case rel => exact ⟨k + 1, by omega, by go_num, kn.out HB.out⟩
      case measure => simp [intOf]; omega
     ·by_cases g3 : 57 < c
      ·have HB : Hid (dw c = false) := decide_eq_false (by omega)
       have p0 : (97 <= c) = False := eq_false (by omega); have p1 : (c <= 122) = True := eq_true (by omega); have p2 : (48 <= c) = True := eq_true (by omega); have p3 : (c <= 57) = False := eq_false (by omega); have p4 : (c = 45) = False := eq_false (by omega); have p5 : (c = 46) = False := eq_false (by omega); have g7 : (c == 45) = false := beq_eq_false_iff_ne.2 (by omega); have g8 : (c == 46) = false := beq_eq_false_iff_ne.2 (by omega); clear g1 g2 g3; go_wp2_with fail; go_ret; exact ⟨by rw [OA.out HB.out]; rfl, hb1⟩
      ·by_cases g4 : 48 <= c
       ·have HB : Hid (dw c = true) := decide_eq_true (by omega)
        have p0 : (97 <= c) = False := eq_false (by omega); have p1 : (c <= 122) = True := eq_true (by omega); have p2 : (48 <= c) = True := eq_true (by omega); have p3 : (c <= 57) = True := eq_true (by omega); have p4 : (c = 45) = False := eq_false (by omega); have p5 : (c = 46) = False := eq_false (by omega); have g7 : (c == 45) = false := beq_eq_false_iff_ne.2 (by omega); have g8 : (c == 46) = false := beq_eq_false_iff_ne.2 (by omega); clear g1 g2 g3 g4; go_wp2_with fail
        go_round
        case rel => exact ⟨k + 1, by omega, by go_num, kn.out HB.out⟩
        case measure => simp [intOf]; omega
       ·by_cases g5 : c = 45
        ·have HB : Hid (dw c = true) := decide_eq_true (by omega)
         subst g5; clear g1 g2 g3 g4; go_wp2_with fail
         go_round
         case rel => exact ⟨k + 1, by omega, by go_num, kn.out HB.out⟩
         case measure => simp [intOf]; omega
        ·by_cases g6 : c = 46
         ·have HB : Hid (dw c = true) := decide_eq_true (by omega)
          subst g6; clear g1 g2 g3 g4 g5; go_wp2_with fail
          go_round
          case rel => exact ⟨k + 1, by omega, by go_num, kn.out HB.out⟩
          case measure => simp [intOf]; omega
         ·have HB : Hid (dw c = false) := decide_eq_false (by omega)
          have p0 : (97 <= c) = False := eq_false (by omega); have p1 : (c <= 122) = True := eq_true (by omega); have p2 : (48 <= c) = False := eq_false (by omega); have p3 : (c <= 57) = True := eq_true (by omega); have p4 : (c = 45) = False := eq_false (by omega); have p5 : (c = 46) = False := eq_false (by omega); have g7 : (c == 45) = false := beq_eq_false_iff_ne.2 (by omega); have g8 : (c == 46) = false := beq_eq_false_iff_ne.2 (by omega); have g7 : (c == 45) = false := by simp [g5]
          have g8 : (c == 46) = false := by simp [g6]
          clear g1 g2 g3 g4 g5 g6; go_wp2_with fail; go_ret; exact ⟨by rw [OA.out HB.out]; rfl, hb1⟩
   ·have HV := Hm (uX HR.out (fun j hj => mo.out j hj (by have := cf s; omega)))
    clear iw; go_wp2_with fail; go_ret; exact ⟨by rw [HV.out]; rfl, hb1⟩
 ·have HV := Hm (uW hr)
  by_cases h1 : s.size < 1
  ·have QF : (s.size : Int) < 1 := by omega
   go_enter Tryz.func108, Tryz.ntmps108; go_wp2_with fail; go_ret; exact ⟨by rw [HV.out]; rfl, rB⟩
  ·have QF : (12 : Int) < (s.size : Int) := by omega
   have Uq : ¬ (s.size : Int) < 1 := by omega
   go_enter Tryz.func108, Tryz.ntmps108; go_wp2_with fail; go_ret; exact ⟨by rw [HV.out]; rfl, rB⟩
theorem AA (a : Option Addr) (cap : Nat) (l : List aI) (nx : Int) (w : World) (hl : bw 3 dL w.heap.size w a cap l) (hw : l.length + aP aJ l <= 16777216) (hn : -9223372036854775808 <= nx /\ nx <= 9223372036854775807) :
  Calls Tryz.prog 84 #[.slice a l.length cap, .int .i64 nx] w fun e w' => e = .returned (.bool (nQ nx 0 l && decide (aP aJ l <= 60000))) /\ Below w.heap.size w w' := by
 have HI := Hm hl.2.2; clear hl; obtain ⟨LP, DX⟩ := hn; go_enter Tryz.func84, Tryz.ntmps84; go_wp2_with fail
 go_loopw [5, 6, 11] (fun lv sv i wr => ∃ k sz : Nat, k <= l.length /\ lv = .int .i64 (ft l k) /\ i = .int .i64 k /\ sv = .int .i64 sz /\ sz = aP aJ (l.take k) /\ sz <= 60000 /\ nQ nx 0 l = nQ nx (ft l k) (l.drop k) /\ Below w.heap.size w wr) (fun _ _ i _ => l.length - (intOf i).toNat)
 case atStart => exact ⟨0, 0, Nat.zero_le _, rfl, rfl, rfl, rfl, by omega, rfl, rB⟩
 case round =>
  obtain ⟨k, sz, hk, rfl, rfl, rfl, hsz, aaY, hinv, bF⟩ := hrel; have Ur := Hm hsz; have rS := Hm hinv; clear hsz hinv
  by_cases hlt : k < l.length
  ·obtain ⟨b1, o1, rfl, hB, cs, iw, hcell, t8⟩ := (HI.out.below aV bF) k hlt
   have Aw := jt (f := aJ) hlt; have jh := mf (f := aJ) hlt; have OB := oB aJ l (k + 1); have HST := Hm (BF (next := nx) hlt); have LZ := Hm (ng hlt); obtain ⟨n, hn⟩ : ∃ n, l[k] = n := ⟨_, rfl⟩
   rw [hn] at t8 Aw jh; have uy : Hid (l[k] = n) := hn; clear hn; obtain ⟨ad, cd, rfl, hid, Bn, hsu, _⟩ := t8; have k0 := hcell 0 _ rfl; have k1 := hcell 1 _ rfl; have k2 := hcell 2 _ rfl; rw [Nat.add_zero] at k0; have HD : Hid (aJ n = n.aG.length) := rfl; rw [HD.out] at Aw jh; have vG : n.aG.length <= 16777216 := by omega
   have OC : Hid (sz + n.aG.length = aP aJ (l.take (k + 1))) := by show _ = _; rw [Ur.out, jh]
   have D5 : Hid (60000 < sz + n.aG.length -> (nQ nx 0 l && decide (aP aJ l <= 60000)) = false) := by
    intro h; rw [Bool.and_eq_false_iff]; right; exact decide_eq_false (by have := Ur.out; omega)
   have gu : Hid (rf nx (ft l k) n = false -> (nQ nx 0 l && decide (aP aJ l <= 60000)) = false) := by
    intro h; rw [rS.out, HST.out, uy.out, h]; rfl
   have vH : Hid (rf nx (ft l k) n = true -> nQ nx 0 l = nQ nx (ft l (k + 1)) (l.drop (k + 1))) := by
    intro h; rw [rS.out, HST.out, uy.out, h, Bool.true_and]
   have QG : Hid (ft l (k + 1) = n.bi) := by show _ = _; rw [LZ.out, uy.out]
   have hib : -9223372036854775808 <= n.bi /\ n.bi <= 9223372036854775807 := by simpa [Lit.wf, IntKind.min, IntKind.max, IntKind.signed, IntKind.bits] using hid
   have OD : -9223372036854775808 <= n.aW /\ n.aW <= 9223372036854775807 := by simpa [Lit.wf, IntKind.min, IntKind.max, IntKind.signed, IntKind.bits] using hsu
   obtain ⟨RJ, RL⟩ := hib; obtain ⟨VO, VP⟩ := OD; clear hcell iw Bn jh OB Aw hid hsu HST LZ uy rS; generalize ft l k = VQ at *
   by_cases g0 : n.bi <= VQ
   ·have p0 : (n.bi <= VQ) = True := eq_true g0
    have HV : Hid ((nQ nx 0 l && decide (aP aJ l <= 60000)) = false) := gu.out (decide_eq_false (by omega)); clear g0 gu D5 vH; go_wp2_with fail; go_ret; exact ⟨by rw [HV.out]; rfl, bF.alloc bF.size _⟩
   ·have p0 : (n.bi <= VQ) = False := eq_false g0
    by_cases g1 : nx <= n.bi
    ·have p1 : (nx <= n.bi) = True := eq_true g1
     have HV : Hid ((nQ nx 0 l && decide (aP aJ l <= 60000)) = false) := gu.out (decide_eq_false (by omega)); clear g1 gu D5 vH; go_wp2_with fail; go_ret; exact ⟨by rw [HV.out]; rfl, bF.alloc bF.size _⟩
    ·have p1 : (nx <= n.bi) = False := eq_false g1
     by_cases g2 : n.aW < 0
     ·have p2 : (n.aW < 0) = True := eq_true g2
      have HV : Hid ((nQ nx 0 l && decide (aP aJ l <= 60000)) = false) := gu.out (decide_eq_false (by omega)); clear g2 gu D5 vH; go_wp2_with fail; go_ret; exact ⟨by rw [HV.out]; rfl, bF.alloc bF.size _⟩
     ·have p2 : (n.aW < 0) = False := eq_false g2
      by_cases g3 : (n.aG.length : Int) < n.aW
      ·have p3 : ((n.aG.length : Int) < n.aW) = True := eq_true g3
       have HV : Hid ((nQ nx 0 l && decide (aP aJ l <= 60000)) = false) := gu.out (decide_eq_false (by omega)); clear g3 gu D5 vH; go_wp2_with fail; go_ret; exact ⟨by rw [HV.out]; rfl, bF.alloc bF.size _⟩
      ·have p3 : ((n.aG.length : Int) < n.aW) = False := eq_false g3
       by_cases g4 : (60000 : Int) < (sz : Int) + n.aG.length
       ·have p4 : ((60000 : Int) < (sz : Int) + n.aG.length) = True := eq_true g4
        have HV : Hid ((nQ nx 0 l && decide (aP aJ l <= 60000)) = false) := D5.out (by omega); clear g4 gu D5 vH; go_wp2_with fail; go_ret; exact ⟨by rw [HV.out]; rfl, bF.alloc bF.size _⟩
       ·have p4 : ((60000 : Int) < (sz : Int) + n.aG.length) = False := eq_false g4
        have Jv := Hm (vH.out (decide_eq_true (by omega))); have VR : sz + n.aG.length <= 60000 := by omega
        clear g0 g1 g2 g3 g4 gu D5 vH; go_wp2_with fail
        go_roundw
        case rel => exact ⟨k + 1, sz + n.aG.length, by omega, by rw [QG.out], by go_num, by go_num, by rw [OC.out], VR, Jv.out, bF.alloc bF.size _⟩
        case measure => simp [intOf]; omega
  ·have qZ : k = l.length := by omega
   subst qZ
   have HV : Hid ((nQ nx 0 l && decide (aP aJ l <= 60000)) = true) := by
    show _ = true; have h1 := Ur.out; rw [List.take_length] at h1; rw [rS.out, List.drop_length, decide_eq_true (by omega)]; rfl
   go_wp2_with fail; go_ret; exact ⟨by rw [HV.out]; rfl, bF⟩
def tj (x y : Int) : Int := if x < y then -1 else if y < x then 1 else 0
theorem Fy {x y : Int} (h : x < y) : tj x y = -1 := if_pos h
theorem L0 {x y : Int} (h : y < x) : tj x y = 1 := by unfold tj; rw [if_neg (by omega), if_pos h]
theorem Fz {x y : Int} (h : x = y) : tj x y = 0 := by unfold tj; rw [if_neg (by omega), if_neg (by omega)]
theorem D6 (x y : Int) (w : World) :
  Calls Tryz.prog 125 #[.int .i64 x, .int .i64 y] w fun e w' => e = .returned (.int .i64 (tj x y)) /\ w' = w := by
 by_cases h1 : x < y
 ·have HV := Hm (Fy h1)
  go_enter Tryz.func125, Tryz.ntmps125
  go_wp2
  go_ret; exact ⟨by rw [HV.out]; rfl, rfl⟩
 ·by_cases h2 : y < x
  ·have HV := Hm (L0 h2)
   go_enter Tryz.func125, Tryz.ntmps125
   go_wp2
   go_ret; exact ⟨by rw [HV.out]; rfl, rfl⟩
  ·have HV := Hm (Fz (x := x) (y := y) (by omega))
   go_enter Tryz.func125, Tryz.ntmps125
   go_wp2
   go_ret; exact ⟨by rw [HV.out]; rfl, rfl⟩
theorem oP (i s : Int) (v : Value) (id : Int) (w : World) :
  Calls Tryz.prog 124 #[.agg #[.int .i64 i, v, .int .i64 s], .int .i64 id] w fun e w' => e = .returned (.int .i64 (tj i id)) /\ Below w.heap.size w w' := by
 go_enter Tryz.func124, Tryz.ntmps124; go_wp2_with (go_at_call 125; refine (D6 _ _ _).mono ?_; rintro e w' ⟨rfl, rfl⟩); go_ret; exact ⟨rfl, rB.alloc rN _⟩
theorem rT {nx : Int} {l : List aI} : ∀ {prev : Int}, nQ nx prev l = true -> l.Pairwise fun x y => x.bi < y.bi := by
 induction l with
 | nil => intro _ _; exact List.Pairwise.nil
 | cons x r ih =>
  intro prev h; rw [nQ, Bool.and_eq_true] at h; exact List.Pairwise.cons (fun y hy => zn h.2 y hy) (ih h.2)
theorem qI {l : List aI} (h : l.Pairwise fun x y => x.bi < y.bi) {i j : Nat} (hj : j < l.length) (Bl : i < j) : (l[i]'(by omega)).bi < l[j].bi :=
 List.pairwise_iff_getElem.1 h i j (by omega) hj Bl
theorem vI (a : Option Addr) (n cap : Nat) (l : List aI) (id : Int) (w : World) (hx : l.length = n) (hl : bw 3 dL w.heap.size w a cap l) (hw : n <= 16777216) (hs : l.Pairwise fun x y => x.bi < y.bi) :
  Calls Tryz.prog 123 #[.slice a n cap, .int .i64 id, .func (.func 124) #[] #[]] w fun e w' => ∃ p : Nat, e = .returned (.tuple #[.int .i64 p, .bool (ee l id)]) /\ (ee l id = true -> ∃ h : p < l.length, l[p].bi = id) /\ Below w.heap.size w w' := by
 have HI := Hm hl.2.2; have HS := Hm hs; have HX := Hm hx; clear hl hs hx; go_enter Tryz.func123, Tryz.ntmps123; go_wp2_with fail
 go_loopw [9, 10] (fun iv jv wr => ∃ i j : Nat, i <= j /\ j <= n /\ iv = .int .i64 i /\ jv = .int .i64 j /\ (∀ x, (hx : x < l.length) -> x < i -> l[x].bi < id) /\ (∀ x, (hx : x < l.length) -> j <= x -> id <= l[x].bi) /\ Below w.heap.size w wr) (fun iv jv _ => (intOf jv).toNat - (intOf iv).toNat)
 case atStart => exact ⟨0, n, Nat.zero_le _, rN, rfl, rfl, fun x _ h => by omega, fun x h1 h2 => by have := HX.out; omega, rB⟩
 case round =>
  obtain ⟨i, j, Bl, LO, rfl, rfl, Jw, Yt, bF⟩ := hrel; have Us := Hm Jw; have VS := Hm Yt; clear Jw Yt
  by_cases hlt : i < j
  ·obtain ⟨mid, L1⟩ : ∃ mid : Nat, mid = (i + j) / 2 := ⟨_, rfl⟩
   have Ns : i <= mid := by omega
   have Rf : mid < j := by omega
   have Yu : mid < l.length := by rw [HX.out]; omega
   obtain ⟨b1, o1, rfl, hB, cs, iw, hcell, t8⟩ := (HI.out.below aV bF) mid Yu; obtain ⟨nd, zz⟩ : ∃ nd, l[mid] = nd := ⟨_, rfl⟩
   have uy := Hm zz; rw [zz] at t8; obtain ⟨ad, cd, rfl, _⟩ := t8; have k0 := hcell 0 _ rfl; have k1 := hcell 1 _ rfl; have k2 := hcell 2 _ rfl; rw [Nat.add_zero] at k0; clear hcell iw zz; have RM : ((i : Int) + (j : Int)) / 2 = (mid : Int) := by omega
   clear L1; have VT := Hm (fun x (hx : x < l.length) => qI HS.out (i := x) (j := mid) Yu); have RN := Hm (fun x (hx : x < l.length) => qI HS.out (i := mid) (j := x) hx); go_wp2_with fail; refine (oP _ _ _ _ _).mono ?_; rintro e w1 ⟨rfl, hb1⟩; have hb2 := af bF hb1
   by_cases hc : nd.bi < id
   ·rw [Fy hc]
    have VU : Hid (∀ x, (hx : x < l.length) -> x < mid + 1 -> l[x].bi < id) := fun x hx Ap => by
     by_cases OE : x = mid
     ·subst OE; rw [uy.out]; exact hc
     ·have h1 := VT.out x hx (by omega)
      rw [uy.out] at h1; omega
    clear Us VT RN; go_wp2_with fail
    go_roundw
    case rel => exact ⟨mid + 1, j, by omega, by omega, by go_num, rfl, VU.out, VS.out, hb2⟩
    case measure => simp [intOf]; omega
   ·have hcm : (tj nd.bi id < 0) = False := eq_false (by unfold tj; rw [if_neg hc]; split <;> omega)
    have VV : Hid (∀ x, (hx : x < l.length) -> mid <= x -> id <= l[x].bi) := fun x hx Ap => by
     by_cases OE : x = mid
     ·subst OE; rw [uy.out]; omega
     ·have h1 := RN.out x hx (by omega)
      rw [uy.out] at h1; omega
    clear VS VT RN; generalize tj nd.bi id = cv at *; go_wp2_with fail
    go_roundw
    case rel => exact ⟨i, mid, by omega, by omega, rfl, by go_num, Us.out, VV.out, hb2⟩
    case measure => simp [intOf]; omega
  ·have hji : j = i := by omega
   subst hji
   by_cases Nr : j < n
   ·have Jx : j < l.length := by rw [HX.out]; exact Nr
    obtain ⟨b1, o1, rfl, hB, cs, iw, hcell, t8⟩ := (HI.out.below aV bF) j Jx; obtain ⟨nd, zz⟩ : ∃ nd, l[j] = nd := ⟨_, rfl⟩
    have uy := Hm zz; rw [zz] at t8; obtain ⟨ad, cd, rfl, _⟩ := t8; have k0 := hcell 0 _ rfl; have k1 := hcell 1 _ rfl; have k2 := hcell 2 _ rfl; rw [Nat.add_zero] at k0; clear hcell iw zz; have RN := Hm (fun x (hx : x < l.length) => qI HS.out (i := j) (j := x) hx)
    by_cases hc : nd.bi = id
    ·have HV : Hid (ee l id = true) := zm Jx (by rw [uy.out]; exact hc)
     have HP : Hid (∃ h : j < l.length, l[j].bi = id) := ⟨Jx, by rw [uy.out]; exact hc⟩
     have hce : tj id id = 0 := Fz rfl; go_wp2_with fail; refine (oP _ _ _ _ _).mono ?_; rintro e w1 ⟨rfl, hb1⟩; rw [hce]; have hb2 := af bF hb1; go_wp2_with fail; refine bodyPost_ret (v := .tuple #[.int .i64 j, .bool true]) (by simp [results, Tryz.results123, go_sem, *]) rfl ⟨j, by rw [HV.out], fun _ => HP.out, hb2⟩
    ·have HV : Hid (ee l id = false) := wB (fun x hx => by
      by_cases h1 : x < j
      ·have := Us.out x hx h1; omega
      ·by_cases h2 : x = j
       ·subst h2; rw [uy.out]; exact hc
       ·have h3 := RN.out x hx (by omega)
        rw [uy.out] at h3; have h4 := VS.out j Jx rN; rw [uy.out] at h4; omega)
     have hce : (tj nd.bi id == 0) = false := by
      unfold tj
      split
      ·rfl
      ·split
       ·rfl
       ·omega
     go_wp2_with fail; refine (oP _ _ _ _ _).mono ?_; rintro e w1 ⟨rfl, hb1⟩; have hb2 := af bF hb1; generalize tj nd.bi id = cv at *; go_wp2_with fail; refine bodyPost_ret (v := .tuple #[.int .i64 j, .bool false]) (by simp [results, Tryz.results123, go_sem, *]) rfl ⟨j, by rw [HV.out], (fun h => by rw [HV.out] at h; cases h), hb2⟩
   ·have HV : Hid (ee l id = false) := wB (fun x hx => by have := Us.out x hx (by have := HX.out; omega); omega)
    go_wp2_with fail; refine bodyPost_ret (v := .tuple #[.int .i64 j, .bool false]) (by simp [results, Tryz.results123, go_sem, *]) rfl ⟨j, by rw [HV.out], (fun h => by rw [HV.out] at h; cases h), bF⟩
theorem pR (a : Option Addr) (cap : Nat) (l : List aI) (id : Int) (w : World) (hl : bw 3 dL w.heap.size w a cap l) (hw : l.length <= 16777216) (hs : l.Pairwise fun x y => x.bi < y.bi) :
  Calls Tryz.prog 107 #[.slice a l.length cap, .int .i64 id] w fun e w' => ∃ p : Nat, e = .returned (.tuple #[.int .i64 p, .bool (ee l id)]) /\ (ee l id = true -> ∃ h : p < l.length, l[p].bi = id) /\ Below w.heap.size w w' := by
 have HI := Hm hl.2.2; have HL := Hm hl; have HS := Hm hs; clear hl hs; go_enter Tryz.func107, Tryz.ntmps107; go_wp2_with fail; refine (vI a _ cap l id w rfl ⟨HL.out.1, HL.out.2.1, HI.out⟩ hw HS.out).mono ?_; rintro e w1 ⟨p, rfl, hp, hb1⟩; have HP := Hm hp; clear hp; go_wp2_with fail; refine bodyPost_ret (v := .tuple #[.int .i64 p, .bool (ee l id)]) (by simp [results, Tryz.results107, go_sem, *]) rfl ⟨p, rfl, HP.out, hb1⟩
end Go.Proofs.YtcamcgfbljhbhaaGreatDoor

namespace Go.Proofs.YtcamcgfbljhbhaaGreatDoor
open Go.RowKit Go.Maps
theorem pS : Keyed Tryz.prog 3 := int_keyed Tryz.underlying3
theorem jY (w : World) : (zeroValue 3).run Tryz.prog w = .ok (.int .i64 0) w := by kernel_rfl
def Used (D : DataW Unit) (ids : List Int) : Prop := IsMap D /\ ∀ id : Int, ∃ c : Int, D.atKey (.int .i64 id) (.lit (.int .i64 0)) = .lit (.int .i64 c) /\ 0 <= c /\ c <= ids.length /\ (0 < c ↔ id ∈ ids)
theorem Used.start : Used (.map []) [] := ⟨isMap_empty, fun id => ⟨0, rfl, Int.le_refl _, by simp, by simp⟩⟩
theorem Used.look {D : DataW Unit} {ids : List Int} {id c : Int} (h : Used D ids) (hat : D.atKey (.int .i64 id) (.lit (.int .i64 0)) = .lit (.int .i64 c)) : 0 <= c /\ c <= ids.length /\ (0 < c ↔ id ∈ ids) := by
 obtain ⟨c', h1, h2⟩ := h.2 id; rw [hat] at h1; simp only [DataW.lit.injEq, Lit.int.injEq, true_and] at h1; subst h1; exact h2
theorem Used.put {D : DataW Unit} {ids : List Int} {id c : Int} (h : Used D ids) (hat : D.atKey (.int .i64 id) (.lit (.int .i64 0)) = .lit (.int .i64 c)) :
  Used (D.put (.int .i64 id) (.lit (.int .i64 (c + 1)))) (ids ++ [id]) := by
 have hc := h.look hat; refine ⟨h.1.put _ _, fun x => ?_⟩
 by_cases hx : x = id
 ·subst hx
  refine ⟨c + 1, atKey_put_same h.1 (by trivial) _ _, by omega, by simp; omega, by simp; omega⟩
 ·obtain ⟨c', h1, h2, h3, h4⟩ := h.2 x
  refine ⟨c', ?_, h2, by simp; omega, by simp [h4, hx]⟩; rw [atKey_put_other (by simpa using hx)]; exact h1
theorem ri {w w' : World} {k : TypeId} {R : Value -> Option (DataW Unit × List MemPlace)} {b n : Nat} {D : DataW Unit} (h : w.ownsMap Tryz.prog k R b n D) (hb : w'.heap[b]? = w.heap[b]?) : w'.ownsMap Tryz.prog k R b n D := by
 obtain ⟨es, c, h1, h2⟩ := h; exact ⟨es, c, hb.trans h1, h2⟩
theorem jA {w : World} {k : TypeId} {R : Value -> Option (DataW Unit × List MemPlace)} {b n : Nat} {D : DataW Unit} (h : w.ownsMap Tryz.prog k R b n D) : b < w.heap.size := by
 obtain ⟨es, c, h1, h2⟩ := h; exact (Array.getElem?_eq_some_iff.1 h1).1
theorem fY {w w' : World} {k : TypeId} {R : Value -> Option (DataW Unit × List MemPlace)} {b n : Nat} {D : DataW Unit} (h : w.ownsMap Tryz.prog k R b n D) (hb : Below w.heap.size w w') : w'.ownsMap Tryz.prog k R b n D :=
 ri h (hb.block b (jA h))
theorem AB {id : Int} (h : (Lit.int .i64 id).wf = true) : keyOf Tryz.prog 3 (.int .i64 id) = some (.int .i64 id) := keyOf_int_mk Tryz.underlying3 h
theorem L3 {ins : List aI} {l : List aB} {k : Nat} (h : k < l.length) (hinv : ly ins [] ByteArray.empty l = ly ins (cP l k) (bP l k) (l.drop k)) (hs : jO ins (cP l k) (bP l k) l[k] = false) : (decide (l.length <= 30) && ly ins [] ByteArray.empty l) = false := by
 rw [hinv, sN h, hs]; simp
theorem rk (a ai : Option Addr) (n cap OG : Nat) (l : List aB) (ins : List aI) (w : World) (hx : l.length = n) (hl : bw 2 cy w.heap.size w a cap l) (hi : bw 3 dL w.heap.size w ai OG ins) (hn : n <= 16777216) (hni : ins.length <= 16777216) (hs : ins.Pairwise fun x y => x.bi < y.bi) :
  Calls Tryz.prog 85 #[.slice a n cap, .slice ai ins.length OG] w fun e w' => e = .returned (.bool (decide (l.length <= 30) && ly ins [] ByteArray.empty l)) /\ Below w.heap.size w w' := by
 have HX := Hm hx; have G4 := Hm hl.2.2; have QE := Hm hi; have HS := Hm hs; clear hx hl hi hs
 by_cases Yv : n <= 30
 ·have H30 : Hid ((decide (l.length <= 30)) = true) := decide_eq_true (by rw [HX.out]; exact Yv)
  have QH := @run_makeMap Tryz.prog; go_enter Tryz.func85, Tryz.ntmps85; go_wp2_with fail
  go_loopw [6, 17] (fun lv i wr => ∃ (k : Nat) (D : DataW Unit), k <= n /\ i = .int .i64 k /\ lv = .string (bP l k) /\ wr.ownsMap Tryz.prog 3 (plainElem Tryz.prog 3) w.heap.size k D /\ Used D (cP l k) /\ ly ins [] ByteArray.empty l = ly ins (cP l k) (bP l k) (l.drop k) /\ Below w.heap.size w wr) (fun _ i _ => n - (intOf i).toNat)
  case atStart => exact ⟨0, .map [], Nat.zero_le _, rfl, rfl, World.ownsMap_made _ _ _ _, Used.start, rfl, rB.alloc rN _⟩
  case round =>
   obtain ⟨k, D, hk, rfl, rfl, hown, hU, hinv, bF⟩ := hrel; have rS := Hm hinv; have HU := Hm hU; clear hinv hU QH
   by_cases hlt : k < n
   ·have gH : k < l.length := by rw [HX.out]; exact hlt
    obtain ⟨b1, o1, rfl, hB, cs, iw, hcell, rfl, hsz, qJ, _⟩ := (G4.out.below au bF) k gH; have k0 := hcell 0 _ rfl; have k1 := hcell 1 _ rfl; rw [Nat.add_zero] at k0; clear hcell iw; have Lh : Hid (jO ins (cP l k) (bP l k) l[k] = false -> (decide (l.length <= 30) && ly ins [] ByteArray.empty l) = false) := L3 gH rS.out; have vH : Hid (jO ins (cP l k) (bP l k) l[k] = true -> ly ins [] ByteArray.empty l = ly ins (cP l (k + 1)) (bP l (k + 1)) (l.drop (k + 1))) := fun h => by rw [rS.out, sN gH, h, Bool.true_and]
    have mq : Hid (jO ins (cP l k) (bP l k) l[k] = (ee ins l[k].bi && !(cP l k).contains l[k].bi && strLt (bP l k) l[k].ax && bH l[k].ax)) := rfl; have QI : Hid (bP l (k + 1) = l[k].ax) := nH gH; have Jy : Hid (cP l (k + 1) = cP l k ++ [l[k].bi]) := oC gH; have Jx : (cP l k).length <= 16777216 := by unfold cP; simp; omega
    have HIL := Hm Jx; have hkey := AB qJ; clear rS Jx; obtain ⟨st, hst⟩ : ∃ st, jO ins (cP l k) (bP l k) l[k] = st := ⟨_, rfl⟩
    rw [hst] at Lh vH mq; clear hst; generalize l[k].ax = nm at *; generalize l[k].bi = id at *; have hib : -9223372036854775808 <= id /\ id <= 9223372036854775807 := by simpa [Lit.wf, IntKind.min, IntKind.max, IntKind.signed, IntKind.bits] using qJ
    obtain ⟨RJ, RL⟩ := hib; generalize RO : bP l k = pn at *; clear RO; go_wp2_with fail; obtain ⟨wq, bI⟩ : ∃ wq, wq = wr.alloc (.cells #[.string nm, .int .i64 id] 68) := ⟨_, rfl⟩
    have kH : Below wr.heap.size wr wq := by rw [bI]; exact rB.alloc rN _
    have nk : Bx wq wr.heap.size [.string nm, .int .i64 id] := by rw [bI]; exact Bx.new _ _ _
    rw [<- bI]; clear bI; refine (pR ai OG ins id wq (bw.mono aV (QE.out.below aV (af bF kH)) (af bF kH).size) hni HS.out).mono ?_; rintro e w1 ⟨p, rfl, _, hx1⟩; have hb1 := af kH hx1; have vJ := nk.under hx1; have y0 := vJ.2 0 _ rfl; have y1 := vJ.2 1 _ rfl; have hown1 := fY hown hb1; have cJ := af bF hb1; obtain ⟨c, hrun, hat, hwc⟩ := hown1.lookup_int pS Tryz.underlying112 Tryz.underlying3 (jY _) hkey; have hc := HU.out.look hat; obtain ⟨hc0, hc1, hc2⟩ := hc; have hc3 : c <= 16777216 := by have := HIL.out; omega
    have HC := Hm hc2; have RP := vJ; have RQ := jA hown; clear hc2 hc1 hown nk vJ
    by_cases hH : ee ins id = true
    ·rw [hH]
     by_cases FA : 0 < c
     ·have HV := Hm (Lh.out (by rw [mq.out, List.contains_iff_mem.2 (HC.out.1 FA)]; simp))
      go_wp2_with fail; go_ret; exact ⟨by rw [HV.out]; rfl, cJ⟩
     ·have po : (cP l k).contains id = false := by
       rw [Bool.eq_false_iff]; intro h; exact FA (HC.out.2 (List.contains_iff_mem.1 h))
      have HNC := Hm po; clear po; have Jz : c = 0 := by omega
      by_cases QJ : strLt pn nm = true
      ·have gZ := Hm QJ
       obtain ⟨L5, aa4, aa5⟩ := ix QJ; clear QJ; go_wp2_with fail; refine (jX nm w1 hsz).mono ?_; rintro e w2 ⟨rfl, hx2⟩; have hb2 := af cJ hx2
       by_cases hN : bH nm = true
       ·have Jv := Hm (vH.out (by rw [mq.out, hH, HNC.out, gZ.out, hN]; rfl))
        rw [hN]; have JA := RP.under hx2; have z0 := JA.2 0 _ rfl; have z1 := JA.2 1 _ rfl; have hown2 := fY hown1 hx2; obtain ⟨c', hrun', hat', hwc'⟩ := hown2.lookup_int pS Tryz.underlying112 Tryz.underlying3 (jY _) hkey
        have hcc : c' = c := by
         rw [hat] at hat'; simp only [DataW.lit.injEq, Lit.int.injEq, true_and] at hat'; exact hat'.symm
        subst hcc; have OH := Hm (HU.out.put hat); go_wp2_with (at_mapUpdate; refine wpList_mapUpdate_own _ rfl _ _ _ 112 rfl 3 3 pS Tryz.underlying112 _ w.heap.size k _ rfl hown2 (by unfold maxLen; omega) _ _ _ rfl rfl hkey _ [] (plainElem_int Tryz.underlying3 (WalkArith.wf_i64 (by omega))) ?_; intro w3 ek dI; have z3 := dI.cell z0 (fun e => by simp at e; omega))
        go_roundw
        case rel => exact ⟨k + 1, _, by omega, by go_num, by rw [QI.out], ek, by rw [Jy.out]; have h := OH.out; rw [Jz, Int.zero_add] at h; exact h, Jv.out, hb2.grown dI hb2.size (fun j hj => by cases hj; exact rN)⟩
        case measure => simp [intOf]; omega
       ·have nW : bH nm = false := Bool.eq_false_iff.2 hN
        have HV := Hm (Lh.out (by rw [mq.out, nW]; simp)); rw [nW]; go_wp2_with fail; go_ret; exact ⟨by rw [HV.out]; rfl, hb2⟩
      ·have HV := Hm (Lh.out (by rw [mq.out, Bool.eq_false_iff.2 QJ]; simp))
       have L5 := Gz (Bool.eq_false_iff.2 QJ); clear QJ; rcases L5 with L5 | L5
       ·go_wp2_with fail
        go_ret; exact ⟨by rw [HV.out]; rfl, cJ⟩
       ·go_wp2_with fail
        all_goals
         go_ret; exact ⟨by rw [HV.out]; rfl, cJ⟩
    ·have RR : ee ins id = false := Bool.eq_false_iff.2 hH
     have HV := Hm (Lh.out (by rw [mq.out, RR]; simp)); rw [RR]; go_wp2_with fail; go_ret; exact ⟨by rw [HV.out]; rfl, cJ⟩
   ·have HV : Hid ((decide (l.length <= 30) && ly ins [] ByteArray.empty l) = true) := by
     show _ = true; rw [H30.out, rS.out, List.drop_of_length_le (by rw [HX.out]; omega)]; rfl
    go_wp2_with fail; go_ret; exact ⟨by rw [HV.out]; rfl, bF⟩
 ·have HV : Hid ((decide (l.length <= 30) && ly ins [] ByteArray.empty l) = false) := by
   show _ = false; rw [HX.out, decide_eq_false Yv]; rfl
  have aa6 : (30 : Int) < (n : Int) := by omega
  go_enter Tryz.func85, Tryz.ntmps85; go_wp2_with fail; go_ret; exact ⟨by rw [HV.out]; rfl, rB⟩
theorem lC {α : Type} {p : α -> Bool} {l : List α} {k : Nat} (h : k < l.length) (hp : p l[k] = true) : (l.take (k + 1)).filter p = (l.take k).filter p ++ [l[k]] := by
 rw [List.take_succ_eq_append_getElem h, List.filter_append]; simp [hp]
theorem mv {α : Type} {p : α -> Bool} {l : List α} {k : Nat} (h : k < l.length) (hp : p l[k] = false) : (l.take (k + 1)).filter p = (l.take k).filter p := by
 rw [List.take_succ_eq_append_getElem h, List.filter_append]; simp [hp]
theorem zA {l : List aB} : cP l l.length = l.map (·.bi) := by unfold cP; rw [List.take_length]
theorem uz {l : List aB} {k : Nat} : (cP l k).length <= l.length := by unfold cP; simp; omega
theorem iY (a0 a1 a2 : Option Addr) (c0 c1 c2 : Nat) (m : az) (w : World) (B : Nat) (FC : B <= w.heap.size) (hI : bw 3 dL B w a0 c0 m.aa) (gf : bw 2 cy w.heap.size w a1 c1 m.ae) (gT : bw 2 cy w.heap.size w a2 c2 m.ag) (hw : aZ m <= 16777216) :
  Calls Tryz.prog 38 #[.agg #[.slice a0 m.aa.length c0, .slice a1 m.ae.length c1, .slice a2 m.ag.length c2, .int .i64 m.ah]] w fun e w' => ∃ (a : Option Addr) (c : Nat), e = .returned (.slice a (bV m).length c) /\ bS 3 73 dL B w' w.heap.size (.slice a (bV m).length c) (bV m) /\ bw 3 dL w'.heap.size w' a c (bV m) /\ Below w.heap.size w w' := by
 obtain ⟨i0, hi, hz0, hz1, hz2⟩ := info_parts Tryz.jE; have hw2 : m.aa.length + aP aJ m.aa + (m.ae.length + aP a7 m.ae) + (m.ag.length + aP a7 m.ag) <= 16777216 := hw; have HI := Hm hI.2.2; have HN := Hm gf.2.2; have HS := Hm gT.2.2; clear hI gf gT hw; have QH := @run_makeMap Tryz.prog; go_enter Tryz.func38, Tryz.ntmps38; go_wp2_with fail
 go_loopw [15] (fun i wr => ∃ (k : Nat) (D : DataW Unit), k <= m.ae.length /\ i = .int .i64 k /\ wr.ownsMap Tryz.prog 3 (plainElem Tryz.prog 3) (w.heap.size + 1) (k) D /\ Used D (cP m.ae k) /\ Below w.heap.size w wr /\ Bx wr w.heap.size (cj a0 c0 a1 c1 a2 c2 m)) (fun i _ => m.ae.length - (intOf i).toNat)
 case atStart => exact ⟨0, .map [], Nat.zero_le _, rfl, by simpa using World.ownsMap_made (H := Unit) (w.alloc _) _ _ _, Used.start, (rB.alloc rN _).alloc (by simp) _, (Bx.new _ _ _).alloc _⟩
 case round =>
  obtain ⟨k, D, hk, rfl, hown, hU, bF, cg⟩ := hrel; have HU := Hm hU; clear hU; have RS := cg.2 0 _ rfl; have RT := cg.2 1 _ rfl; have RU := cg.2 2 _ rfl; have RV := cg.2 3 _ rfl
  by_cases hlt : k < m.ae.length
  ·obtain ⟨b1, o1, rfl, hB, cs, iw, hcell, rfl, hsz, qJ, _⟩ := (HN.out.below au bF) k hlt
   have k0 := hcell 0 _ rfl; have k1 := hcell 1 _ rfl; rw [Nat.add_zero] at k0; clear hcell iw; have Jy : Hid (cP m.ae (k + 1) = cP m.ae k ++ [m.ae[k].bi]) := by show _ = _; rw [oC hlt]
   have hkey := AB qJ; generalize m.ae[k].ax = nm at *; generalize m.ae[k].bi = id at *; have RQ := jA hown; have rp := fY hown (rB.alloc rN (.cells #[.string nm, .int .i64 id] 68)); obtain ⟨c, hrun, hat, hwc⟩ := rp.lookup_int pS Tryz.underlying112 Tryz.underlying3 (jY _) hkey; have hc := HU.out.look hat
   have hc3 : 0 <= c /\ c <= 16777216 := by
    have h1 := uz (l := m.ae) (k := k); have h2 := hc.2.1; omega
   obtain ⟨G5, Ut⟩ := hc3; have OH := Hm (HU.out.put hat); clear hc; go_wp2_with (at_mapUpdate; refine wpList_mapUpdate_own _ rfl _ _ _ 112 rfl 3 3 pS Tryz.underlying112 _ (w.heap.size + 1) (k) _ rfl rp (by unfold maxLen; omega) _ _ _ rfl rfl hkey _ [] (plainElem_int Tryz.underlying3 (WalkArith.wf_i64 (by omega))) ?_; intro w3 ek dI); have hT : aw [w.heap.size + 1] wr w3 := aw.after (rB.alloc rN _) (aw.eZ dI (fun k hk => by cases hk; simp))
   go_roundw
   case rel => exact ⟨k + 1, _, by omega, by go_num, ek, by rw [Jy.out]; exact OH.out, aw.under bF hT (fun k hk => by simp at hk; omega), cg.turn hT (by simp)⟩
   case measure => simp [intOf]; omega
  ·have qZ : k = m.ae.length := by omega
   subst qZ; go_wp2_with fail
   go_loopw [28] (fun i wr => ∃ (k : Nat) (D : DataW Unit), k <= m.ag.length /\ i = .int .i64 k /\ wr.ownsMap Tryz.prog 3 (plainElem Tryz.prog 3) (w.heap.size + 1) (m.ae.length + k) D /\ Used D (cP m.ae m.ae.length ++ cP m.ag k) /\ Below w.heap.size w wr /\ Bx wr w.heap.size (cj a0 c0 a1 c1 a2 c2 m)) (fun i _ => m.ag.length - (intOf i).toNat)
   case atStart => exact ⟨0, D, Nat.zero_le _, rfl, hown, by have h := HU.out; simpa [cP] using h, bF, cg⟩
   case round =>
    obtain ⟨k, D, hk, rfl, hown, hU, bF, cg⟩ := hrel; have HU := Hm hU; clear hU; have RS := cg.2 0 _ rfl; have RT := cg.2 1 _ rfl; have RU := cg.2 2 _ rfl; have RV := cg.2 3 _ rfl
    by_cases hlt : k < m.ag.length
    ·obtain ⟨b1, o1, rfl, hB, cs, iw, hcell, rfl, hsz, qJ, _⟩ := (HS.out.below au bF) k hlt
     have k0 := hcell 0 _ rfl; have k1 := hcell 1 _ rfl; rw [Nat.add_zero] at k0; clear hcell iw; have Jy : Hid (cP m.ae m.ae.length ++ cP m.ag (k + 1) = cP m.ae m.ae.length ++ cP m.ag k ++ [m.ag[k].bi]) := by show _ = _; rw [oC hlt]; simp
     have hkey := AB qJ; generalize m.ag[k].ax = nm at *; generalize m.ag[k].bi = id at *; have RQ := jA hown; have rp := fY hown (rB.alloc rN (.cells #[.string nm, .int .i64 id] 68)); obtain ⟨c, hrun, hat, hwc⟩ := rp.lookup_int pS Tryz.underlying112 Tryz.underlying3 (jY _) hkey; have hc := HU.out.look hat
     have hc3 : 0 <= c /\ c <= 16777216 := by
      have h1 := uz (l := m.ag) (k := k); have h2 := hc.2.1; have h3 := uz (l := m.ae) (k := m.ae.length); simp only [List.length_append, Int.natCast_add] at h2; omega
     obtain ⟨G5, Ut⟩ := hc3; have OH := Hm (HU.out.put hat); clear hc; go_wp2_with (at_mapUpdate; refine wpList_mapUpdate_own _ rfl _ _ _ 112 rfl 3 3 pS Tryz.underlying112 _ (w.heap.size + 1) (m.ae.length + k) _ rfl rp (by unfold maxLen; omega) _ _ _ rfl rfl hkey _ [] (plainElem_int Tryz.underlying3 (WalkArith.wf_i64 (by omega))) ?_; intro w3 ek dI); have hT : aw [w.heap.size + 1] wr w3 := aw.after (rB.alloc rN _) (aw.eZ dI (fun k hk => by cases hk; simp))
     go_roundw
     case rel => exact ⟨k + 1, _, by omega, by go_num, ek, by rw [Jy.out]; exact OH.out, aw.under bF hT (fun k hk => by simp at hk; omega), cg.turn hT (by simp)⟩
     case measure => simp [intOf]; omega
    ·have qZ : k = m.ag.length := by omega
     subst qZ; go_wp2_with fail
     go_loopw [8, 41] (fun v i wr => ∃ k : Nat, k <= m.aa.length /\ i = .int .i64 k /\ wr.ownsMap Tryz.prog 3 (plainElem Tryz.prog 3) (w.heap.size + 1) (m.ae.length + m.ag.length) D /\ bS 3 73 dL B wr (w.heap.size + 2) v ((m.aa.take k).filter (isNamed m)) /\ Below w.heap.size w wr) (fun _ i _ => m.aa.length - (intOf i).toNat)
     case atStart => exact ⟨0, Nat.zero_le _, rfl, hown, by rw [List.take_zero]; exact bS.start, bF⟩
     case round =>
      obtain ⟨k, hk, rfl, hown', hrow, D7⟩ := hrel; have cO := Hm hrow; clear hrow hown bF cg RS RT RU RV
      by_cases hlt : k < m.aa.length
      ·obtain ⟨b1, o1, rfl, hB, cs, iw, hcell, t8⟩ := (HI.out.below aV (D7.mono FC)) k hlt
       have nZ := Hm (fun h => lC (p := isNamed m) hlt h); have mo := Hm (fun h => mv (p := isNamed m) hlt h); have qK : Hid (isNamed m m.aa[k] = true ↔ m.aa[k].bi ∈ m.ae.map (·.bi) ++ m.ag.map (·.bi)) := fx; have wN : ((m.aa.take k).filter (isNamed m)).length <= 16777216 := Nat.le_trans (List.length_filter_le _ _) (by simp; omega); generalize m.aa[k] = n at *; have L6 := t8; obtain ⟨ad, cd, rfl, hid, Bn, hsu, _⟩ := t8; have k0 := hcell 0 _ rfl; have k1 := hcell 1 _ rfl; have k2 := hcell 2 _ rfl; rw [Nat.add_zero] at k0; have hkey := AB hid; have RQ := jA hown'; have rp := fY hown' (rB.alloc rN (.cells #[.int .i64 n.bi, .slice ad n.aG.length cd, .int .i64 n.aW] 73)); obtain ⟨c, hrun, hat, hwc⟩ := rp.lookup_int pS Tryz.underlying112 Tryz.underlying3 (jY _) hkey; have hc := HU.out.look hat; rw [zA, zA] at hc; have HC := Hm hc.2.2; clear hc hcell iw
       by_cases rq : 0 < c
       ·have HF := Hm (nZ.out (qK.out.2 (HC.out.1 rq)))
        clear nZ mo qK HC; generalize (m.aa.take k).filter (isNamed m) = fl at *; obtain ⟨css, r1, r2, r3, r4⟩ := cO.out; have Jp := D7.size; go_wp2_with (at_builtin; refine wpList_append_own_at _ rfl _ _ 24 rfl (w.heap.size + 2) 73 i0 (.agg #[.int .i64 0, .slice none 0 0, .int .i64 0]) 3 40 Tryz.underlying24 hi hz0 hz1 hz2 rfl (by decide) _ _ _ rfl (aA r4 ((rB.alloc rN _).alloc (by simp) _)) ⟨wr.heap.size + 1, 0, none⟩ 1 1 [.int .i64 n.bi, .slice ad n.aG.length cd, .int .i64 n.aW] rfl rfl (b8 (by simpa using Bx.new (wr.alloc _) _ _)) (by intro u hu; simp at hu; rcases hu with rfl | rfl | rfl <;> rfl) (by unfold maxLen; omega) (by omega) (by simp; omega) ?_; intro v' w3 ek dI hnil hloc); have hT := aw.after (((Below.refl wr.heap.size wr).alloc rN _).alloc (by simp) _) (dE dI); have lx : ∀ k, k ∈ (Value.ownBlock _).toList -> w.heap.size + 2 <= k := fun k hk => (r4.lt k (by simpa using hk)).1
        have hBl : Below w.heap.size wr w3 := aw.below hT (fun k hk => by have := lx k hk; omega) Jp
        go_roundw
        case rel => exact ⟨k + 1, by omega, by go_num, ri hown' (hT.block _ RQ (fun hm => by have := lx _ hm; omega)), by rw [HF.out]; exact bS.push aV r1 r2 r3 (hBl.mono FC) rfl (aV.below L6 (hBl.mono FC)) ek, D7.trans hBl⟩
        case measure => simp [intOf]; omega
       ·have HF := Hm (mo.out (Bool.eq_false_iff.2 (fun h => rq (HC.out.2 (qK.out.1 h)))))
        clear nZ mo qK HC; have Jp := D7.size; have kH := (Below.refl wr.heap.size wr).alloc rN (.cells #[.int .i64 n.bi, .slice ad n.aG.length cd, .int .i64 n.aW] 73); go_wp2_with fail
        go_roundw
        case rel => exact ⟨k + 1, by omega, by go_num, rp, by rw [HF.out]; exact bS.keep aV cO.out kH (Nat.le_trans FC Jp), af D7 kH⟩
        case measure => simp [intOf]; omega
      ·have qZ : k = m.aa.length := by omega
       subst qZ; have hrow := cO.out; rw [List.take_length] at hrow; obtain ⟨ar, cr, hv, wV⟩ := hrow.leaf aV (Nat.le_trans FC D7.size); subst hv; go_wp2_with fail; go_ret; exact ⟨ar, cr, rfl, bS.base hrow (by omega), wV, D7⟩
theorem vK (cs : List Value) (m : az) (w : World) (hr : bg w.heap.size w cs m) (hw : aZ m <= 16777216) :
  Calls Tryz.prog 38 #[.agg cs.toArray] w fun e w' => ∃ (a : Option Addr) (c : Nat), e = .returned (.slice a (bV m).length c) /\ bS 3 73 dL w.heap.size w' w.heap.size (.slice a (bV m).length c) (bV m) /\ bw 3 dL w'.heap.size w' a c (bV m) /\ Below w.heap.size w w' := by
 obtain ⟨a0, c0, a1, c1, a2, c2, rfl, hI, gf, gT, kX, _⟩ := hr; exact iY a0 a1 a2 c0 c1 c2 m w w.heap.size rN hI gf gT hw
theorem vM (cs : List Value) (m : az) (w : World) (hr : bg w.heap.size w cs m) (hw : aZ m <= 16777216) :
  Calls Tryz.prog 38 #[.agg cs.toArray] w fun e w' => ∃ (a : Option Addr) (c : Nat), e = .returned (.slice a (bV m).length c) /\ bw 3 dL w'.heap.size w' a c (bV m) /\ Below w.heap.size w w' :=
 (vK cs m w hr hw).mono fun e w' ⟨a, c, h1, _, h2, h3⟩ => ⟨a, c, h1, h2, h3⟩
end Go.Proofs.YtcamcgfbljhbhaaGreatDoor
