/-
  The program's functions that ask whether a disk is right: names, inodes in order.
-/
import Derived.Test.YtnohnkcijomdjaaGreatDoorDskP
import Derived.Test.YtnohnkcijomdjaaGreatDoorDatN
import Derived.Test.YtnohnkcijomdjaaGreatDoorChecked
import Derived.Test.YtnohnkcijomdjaaGreatDoorStrB
namespace Go.Proofs.YtnohnkcijomdjaaGreatDoor
open Go.RowKit
set_option linter.unusedVariables false
set_option linter.unusedSimpArgs false
set_option maxRecDepth 10000

set_option maxHeartbeats 800000 in
theorem implNameOk_any (s : ByteArray) (w : World) (hs : s.size ≤ 9223372036854775807) :
    Calls Tryz.prog 99 #[.string s] w fun e w' => e = .returned (.bool (nameOk s)) ∧ Below w.heap.size w w' := by
  by_cases hr : 1 ≤ s.size ∧ s.size ≤ 12
  · have HR := Hid.mk hr
    obtain ⟨hr1, hr2⟩ := hr
    obtain ⟨w1, cap, hcv, hb1, hz1, hcl⟩ := strBytes s w
    have hg1 : (1 : Int) ≤ (s.size : Int) := by omega
    have hg2 : (s.size : Int) ≤ 12 := by omega
    go_enter Tryz.func99, Tryz.ntmps99
    go_wp2_with fail
    go_loop [16] (fun i => ∃ k : Nat, k ≤ s.size ∧ i = .int .i64 k ∧ ∀ j, (hj : j < (byteInts s).length) → j < k → nameByte (byteInts s)[j] = true) (fun i => s.size - (intOf i).toNat)
    case atStart => exact ⟨0, Nat.zero_le _, rfl, fun j _ hj => by omega⟩
    case round =>
      obtain ⟨k, hk, rfl, hno⟩ := hrel
      have HNo := Hid.mk hno
      clear hno
      by_cases hlt : k < s.size
      · have hcl' : k < (byteInts s).length := by rw [byteInts_length]; exact hlt
        have hck := hcl k hcl'
        have HNX : Hid (nameByte (byteInts s)[k] = true → ∀ j, (hj : j < (byteInts s).length) → j < k + 1 → nameByte (byteInts s)[j] = true) := fun hb j hj hjk => by
          by_cases hjk' : j = k
          · subst hjk'; exact hb
          · exact HNo.out j hj (by omega)
        have HBX : Hid (nameByte (byteInts s)[k] = false → nameOk s = false) := fun hb => nameOk_bad hcl' hb
        clear HNo hcl
        generalize (byteInts s)[k] = c at *
        by_cases g1 : 122 < c
        · have HB : Hid (nameByte c = false) := decide_eq_false (by omega)
          have p0 : (97 ≤ c) = True := eq_true (by omega)
          have p1 : (c ≤ 122) = False := eq_false (by omega)
          have p2 : (48 ≤ c) = True := eq_true (by omega)
          have p3 : (c ≤ 57) = False := eq_false (by omega)
          have p4 : (c = 45) = False := eq_false (by omega)
          have p5 : (c = 46) = False := eq_false (by omega)
          have g7 : (c == 45) = false := beq_eq_false_iff_ne.2 (by omega)
          have g8 : (c == 46) = false := beq_eq_false_iff_ne.2 (by omega)
          clear g1
          go_wp2_with fail
          go_ret
          exact ⟨by rw [HBX.out HB.out]; rfl, hb1⟩
        · by_cases g2 : 97 ≤ c
          · have HB : Hid (nameByte c = true) := decide_eq_true (by omega)
            have p0 : (97 ≤ c) = True := eq_true (by omega)
            have p1 : (c ≤ 122) = True := eq_true (by omega)
            have p2 : (48 ≤ c) = True := eq_true (by omega)
            have p3 : (c ≤ 57) = False := eq_false (by omega)
            have p4 : (c = 45) = False := eq_false (by omega)
            have p5 : (c = 46) = False := eq_false (by omega)
            have g7 : (c == 45) = false := beq_eq_false_iff_ne.2 (by omega)
            have g8 : (c == 46) = false := beq_eq_false_iff_ne.2 (by omega)
            clear g1 g2
            go_wp2_with fail
            go_round
            case rel => exact ⟨k + 1, by omega, by go_num, HNX.out HB.out⟩
            case measure => simp [intOf]; omega
          · by_cases g3 : 57 < c
            · have HB : Hid (nameByte c = false) := decide_eq_false (by omega)
              have p0 : (97 ≤ c) = False := eq_false (by omega)
              have p1 : (c ≤ 122) = True := eq_true (by omega)
              have p2 : (48 ≤ c) = True := eq_true (by omega)
              have p3 : (c ≤ 57) = False := eq_false (by omega)
              have p4 : (c = 45) = False := eq_false (by omega)
              have p5 : (c = 46) = False := eq_false (by omega)
              have g7 : (c == 45) = false := beq_eq_false_iff_ne.2 (by omega)
              have g8 : (c == 46) = false := beq_eq_false_iff_ne.2 (by omega)
              clear g1 g2 g3
              go_wp2_with fail
              go_ret
              exact ⟨by rw [HBX.out HB.out]; rfl, hb1⟩
            · by_cases g4 : 48 ≤ c
              · have HB : Hid (nameByte c = true) := decide_eq_true (by omega)
                have p0 : (97 ≤ c) = False := eq_false (by omega)
                have p1 : (c ≤ 122) = True := eq_true (by omega)
                have p2 : (48 ≤ c) = True := eq_true (by omega)
                have p3 : (c ≤ 57) = True := eq_true (by omega)
                have p4 : (c = 45) = False := eq_false (by omega)
                have p5 : (c = 46) = False := eq_false (by omega)
                have g7 : (c == 45) = false := beq_eq_false_iff_ne.2 (by omega)
                have g8 : (c == 46) = false := beq_eq_false_iff_ne.2 (by omega)
                clear g1 g2 g3 g4
                go_wp2_with fail
                go_round
                case rel => exact ⟨k + 1, by omega, by go_num, HNX.out HB.out⟩
                case measure => simp [intOf]; omega
              · by_cases g5 : c = 45
                · have HB : Hid (nameByte c = true) := decide_eq_true (by omega)
                  subst g5
                  clear g1 g2 g3 g4
                  go_wp2_with fail
                  go_round
                  case rel => exact ⟨k + 1, by omega, by go_num, HNX.out HB.out⟩
                  case measure => simp [intOf]; omega
                · by_cases g6 : c = 46
                  · have HB : Hid (nameByte c = true) := decide_eq_true (by omega)
                    subst g6
                    clear g1 g2 g3 g4 g5
                    go_wp2_with fail
                    go_round
                    case rel => exact ⟨k + 1, by omega, by go_num, HNX.out HB.out⟩
                    case measure => simp [intOf]; omega
                  · have HB : Hid (nameByte c = false) := decide_eq_false (by omega)
                    have p0 : (97 ≤ c) = False := eq_false (by omega)
                    have p1 : (c ≤ 122) = True := eq_true (by omega)
                    have p2 : (48 ≤ c) = False := eq_false (by omega)
                    have p3 : (c ≤ 57) = True := eq_true (by omega)
                    have p4 : (c = 45) = False := eq_false (by omega)
                    have p5 : (c = 46) = False := eq_false (by omega)
                    have g7 : (c == 45) = false := beq_eq_false_iff_ne.2 (by omega)
                    have g8 : (c == 46) = false := beq_eq_false_iff_ne.2 (by omega)
                    have g7 : (c == 45) = false := by simp [g5]
                    have g8 : (c == 46) = false := by simp [g6]
                    clear g1 g2 g3 g4 g5 g6
                    go_wp2_with fail
                    go_ret
                    exact ⟨by rw [HBX.out HB.out]; rfl, hb1⟩
      · have HV := Hid.mk (nameOk_good HR.out (fun j hj => HNo.out j hj (by have := byteInts_length s; omega)))
        clear hcl
        go_wp2_with fail
        go_ret
        exact ⟨by rw [HV.out]; rfl, hb1⟩
  · have HV := Hid.mk (nameOk_long hr)
    by_cases h1 : s.size < 1
    · have h1' : (s.size : Int) < 1 := by omega
      go_enter Tryz.func99, Tryz.ntmps99
      go_wp2_with fail
      go_ret
      exact ⟨by rw [HV.out]; rfl, Below.refl _ _⟩
    · have h1' : (12 : Int) < (s.size : Int) := by omega
      have h2' : ¬ (s.size : Int) < 1 := by omega
      go_enter Tryz.func99, Tryz.ntmps99
      go_wp2_with fail
      go_ret
      exact ⟨by rw [HV.out]; rfl, Below.refl _ _⟩

set_option maxHeartbeats 1000000 in
theorem inodesOk_any (a : Option Addr) (cap : Nat) (l : List MInode) (nx : Int) (w : World) (hl : LeafL 3 rInode w.heap.size w a cap l) (hw : l.length + sumW wInode l ≤ 16777216) (hn : -9223372036854775808 ≤ nx ∧ nx ≤ 9223372036854775807) :
    Calls Tryz.prog 117 #[.slice a l.length cap, .int .i64 nx] w fun e w' => e = .returned (.bool (okI nx 0 l && decide (sumW wInode l ≤ 60000))) ∧ Below w.heap.size w w' := by
  have HI := Hid.mk hl.2.2
  clear hl
  obtain ⟨hn1, hn2⟩ := hn
  go_enter Tryz.func117, Tryz.ntmps117
  go_wp2_with fail
  go_loopw [5, 6, 11] (fun lv sv i wr => ∃ k sz : Nat, k ≤ l.length ∧ lv = .int .i64 (prevId l k) ∧ i = .int .i64 k ∧ sv = .int .i64 sz ∧ sz = sumW wInode (l.take k) ∧ sz ≤ 60000 ∧ okI nx 0 l = okI nx (prevId l k) (l.drop k) ∧ Below w.heap.size w wr) (fun _ _ i _ => l.length - (intOf i).toNat)
  case atStart => exact ⟨0, 0, Nat.zero_le _, rfl, rfl, rfl, rfl, by omega, rfl, Below.refl _ _⟩
  case round =>
    obtain ⟨k, sz, hk, rfl, rfl, rfl, hsz, hszb, hinv, hbk⟩ := hrel
    have HSZ := Hid.mk hsz
    have HINV := Hid.mk hinv
    clear hsz hinv
    by_cases hlt : k < l.length
    · obtain ⟨b1, o1, rfl, hB, cs, hcl, hcell, hrI⟩ := (HI.out.below rInode_good hbk) k hlt
      have hwk := sumW_le (f := wInode) hlt
      have hws := sumW_take_succ (f := wInode) hlt
      have hwl := sumW_take_le wInode l (k + 1)
      have HST := Hid.mk (okI_step (next := nx) hlt)
      have HPS := Hid.mk (prevId_succ hlt)
      obtain ⟨n, hn⟩ : ∃ n, l[k] = n := ⟨_, rfl⟩
      rw [hn] at hrI hwk hws
      have HNd : Hid (l[k] = n) := hn
      clear hn
      obtain ⟨ad, cd, rfl, hid, hda, hsu, _⟩ := hrI
      have k0 := hcell 0 _ rfl
      have k1 := hcell 1 _ rfl
      have k2 := hcell 2 _ rfl
      rw [Nat.add_zero] at k0
      have HD : Hid (wInode n = n.fData.length) := rfl
      rw [HD.out] at hwk hws
      have hdl : n.fData.length ≤ 16777216 := by omega
      have HWS : Hid (sz + n.fData.length = sumW wInode (l.take (k + 1))) := by show _ = _; rw [HSZ.out, hws]
      have HBIG : Hid (60000 < sz + n.fData.length → (okI nx 0 l && decide (sumW wInode l ≤ 60000)) = false) := by
        intro h
        rw [Bool.and_eq_false_iff]
        right
        exact decide_eq_false (by have := HSZ.out; omega)
      have HFAIL : Hid (stepI nx (prevId l k) n = false → (okI nx 0 l && decide (sumW wInode l ≤ 60000)) = false) := by
        intro h
        rw [HINV.out, HST.out, HNd.out, h]
        rfl
      have HGO : Hid (stepI nx (prevId l k) n = true → okI nx 0 l = okI nx (prevId l (k + 1)) (l.drop (k + 1))) := by
        intro h
        rw [HINV.out, HST.out, HNd.out, h, Bool.true_and]
      have HPI : Hid (prevId l (k + 1) = n.fId) := by show _ = _; rw [HPS.out, HNd.out]
      have hib : -9223372036854775808 ≤ n.fId ∧ n.fId ≤ 9223372036854775807 := by simpa [Lit.wf, IntKind.min, IntKind.max, IntKind.signed, IntKind.bits] using hid
      have hsb : -9223372036854775808 ≤ n.fSure ∧ n.fSure ≤ 9223372036854775807 := by simpa [Lit.wf, IntKind.min, IntKind.max, IntKind.signed, IntKind.bits] using hsu
      obtain ⟨hib1, hib2⟩ := hib
      obtain ⟨hsb1, hsb2⟩ := hsb
      clear hcell hcl hda hws hwl hwk hid hsu HST HPS HNd HINV
      generalize prevId l k = lst at *
      by_cases g0 : n.fId ≤ lst
      · have p0 : (n.fId ≤ lst) = True := eq_true g0
        have HV : Hid ((okI nx 0 l && decide (sumW wInode l ≤ 60000)) = false) := HFAIL.out (decide_eq_false (by omega))
        clear g0 HFAIL HBIG HGO
        go_wp2_with fail
        go_ret
        exact ⟨by rw [HV.out]; rfl, hbk.alloc hbk.size _⟩
      · have p0 : (n.fId ≤ lst) = False := eq_false g0
        by_cases g1 : nx ≤ n.fId
        · have p1 : (nx ≤ n.fId) = True := eq_true g1
          have HV : Hid ((okI nx 0 l && decide (sumW wInode l ≤ 60000)) = false) := HFAIL.out (decide_eq_false (by omega))
          clear g1 HFAIL HBIG HGO
          go_wp2_with fail
          go_ret
          exact ⟨by rw [HV.out]; rfl, hbk.alloc hbk.size _⟩
        · have p1 : (nx ≤ n.fId) = False := eq_false g1
          by_cases g2 : n.fSure < 0
          · have p2 : (n.fSure < 0) = True := eq_true g2
            have HV : Hid ((okI nx 0 l && decide (sumW wInode l ≤ 60000)) = false) := HFAIL.out (decide_eq_false (by omega))
            clear g2 HFAIL HBIG HGO
            go_wp2_with fail
            go_ret
            exact ⟨by rw [HV.out]; rfl, hbk.alloc hbk.size _⟩
          · have p2 : (n.fSure < 0) = False := eq_false g2
            by_cases g3 : (n.fData.length : Int) < n.fSure
            · have p3 : ((n.fData.length : Int) < n.fSure) = True := eq_true g3
              have HV : Hid ((okI nx 0 l && decide (sumW wInode l ≤ 60000)) = false) := HFAIL.out (decide_eq_false (by omega))
              clear g3 HFAIL HBIG HGO
              go_wp2_with fail
              go_ret
              exact ⟨by rw [HV.out]; rfl, hbk.alloc hbk.size _⟩
            · have p3 : ((n.fData.length : Int) < n.fSure) = False := eq_false g3
              by_cases g4 : (60000 : Int) < (sz : Int) + n.fData.length
              · have p4 : ((60000 : Int) < (sz : Int) + n.fData.length) = True := eq_true g4
                have HV : Hid ((okI nx 0 l && decide (sumW wInode l ≤ 60000)) = false) := HBIG.out (by omega)
                clear g4 HFAIL HBIG HGO
                go_wp2_with fail
                go_ret
                exact ⟨by rw [HV.out]; rfl, hbk.alloc hbk.size _⟩
              · have p4 : ((60000 : Int) < (sz : Int) + n.fData.length) = False := eq_false g4
                have HGo := Hid.mk (HGO.out (decide_eq_true (by omega)))
                have hsz2 : sz + n.fData.length ≤ 60000 := by omega
                clear g0 g1 g2 g3 g4 HFAIL HBIG HGO
                go_wp2_with fail
                go_roundw
                case rel => exact ⟨k + 1, sz + n.fData.length, by omega, by rw [HPI.out], by go_num, by go_num, by rw [HWS.out], hsz2, HGo.out, hbk.alloc hbk.size _⟩
                case measure => simp [intOf]; omega
    · have hkn : k = l.length := by omega
      subst hkn
      have HV : Hid ((okI nx 0 l && decide (sumW wInode l ≤ 60000)) = true) := by
        show _ = true
        have h1 := HSZ.out
        rw [List.take_length] at h1
        rw [HINV.out, List.drop_length, decide_eq_true (by omega)]
        rfl
      go_wp2_with fail
      go_ret
      exact ⟨by rw [HV.out]; rfl, hbk⟩

end Go.Proofs.YtnohnkcijomdjaaGreatDoor
