/-
  The specification's code of a call on a file.
-/
import Derived.Test.YtnohnkcijomdjaaGreatDoorDskO
import Derived.Test.YtnohnkcijomdjaaGreatDoorDskT
import Derived.Test.YtnohnkcijomdjaaGreatDoorByteR
import Derived.Test.YtnohnkcijomdjaaGreatDoorApp
import Derived.Deep.AppendSrc
namespace Go.Proofs.YtnohnkcijomdjaaGreatDoor
open Go.RowKit
set_option linter.unusedVariables false
set_option linter.unusedSimpArgs false
set_option maxRecDepth 10000

set_option maxHeartbeats 1000000 in
theorem l2Call_any (cs : List Value) (m : MDisk) (s : ByteArray) (w : World) (hr : rDisk w.heap.size w cs m) (hw : wDisk m ≤ 1048576) (hs : s.size ≤ 9223372036854775807) :
    Calls Tryz.prog 56 #[.agg cs.toArray, .string s] w fun e w' => e = .returned (.int .i64 (callP m s)) ∧ Below w.heap.size w w' := by
  have hq := hr
  obtain ⟨a0, c0, a1, c1, a2, c2, rfl, hI, hNm, hSf, hnx, _⟩ := hq
  have hw2 : m.fInodes.length + sumW wInode m.fInodes + (m.fNames.length + sumW wEntry m.fNames) + (m.fSafe.length + sumW wEntry m.fSafe) ≤ 1048576 := hw
  have HW := Hid.mk hw
  have HR := Hid.mk hr
  have HNL := Hid.mk hNm
  clear hr hI hNm hSf hw
  have hbA := (Below.refl w.heap.size w).alloc (Nat.le_refl _) (.cells #[.slice a0 m.fInodes.length c0, .slice a1 m.fNames.length c1, .slice a2 m.fSafe.length c2, .int .i64 m.fNext] 39)
  have hCd := fun W (hb : Below w.heap.size w W) => specDiskOk_c _ m W (rDisk_good.mono (rDisk_good.below HR.out hb) hb.size) HW.out
  go_enter Tryz.func56, Tryz.ntmps56
  go_wp2_with fail
  refine Calls.mono (hCd _ hbA) ?_
  rintro e w1 ⟨rfl, hx1⟩
  have hb1 := bthen hbA hx1
  have hbx := (Bx.new w [.slice a0 m.fInodes.length c0, .slice a1 m.fNames.length c1, .slice a2 m.fSafe.length c2, .int .i64 m.fNext] 39).under hx1
  have y1 := hbx.2 1 _ rfl
  clear hCd
  by_cases hD : diskOk m = true
  · rw [hD]
    go_wp2_with fail
    refine (l2Name_any s w1 hs).mono ?_
    rintro e w2 ⟨rfl, hw2e⟩
    replace hw2e := hw2e.symm
    subst hw2e
    by_cases hN : nameOk s = true
    · rw [hN]
      have hrd := HNL.out.2.2.below rEntry_good hb1
      by_cases hH : hasName m.fNames s = true
      · have HV : Hid (callP m s = 0) := by show callP m s = 0; unfold callP; rw [hD, hN, hH]; rfl
        have hz : (nameZ m.fNames s < 0) = False := eq_false (by unfold nameZ; rw [hH, if_pos rfl]; omega)
        go_wp2_with fail
        refine (l2At_any a1 _ c1 m.fNames s w1 w.heap.size rfl (by omega) hrd).mono ?_
        rintro e w3 ⟨rfl, hw3⟩
        replace hw3 := hw3.symm
        subst hw3
        generalize nameZ m.fNames s = nz at *
        go_wp2_with fail
        go_ret
        exact ⟨by rw [HV.out]; rfl, hb1⟩
      · have hH2 : hasName m.fNames s = false := Bool.eq_false_iff.2 hH
        have HV : Hid (callP m s = 2) := by show callP m s = 2; unfold callP; rw [hD, hN, hH2]; rfl
        have hz : nameZ m.fNames s < 0 := by unfold nameZ; rw [hH2]; simp
        go_wp2_with fail
        refine (l2At_any a1 _ c1 m.fNames s w1 w.heap.size rfl (by omega) hrd).mono ?_
        rintro e w3 ⟨rfl, hw3⟩
        replace hw3 := hw3.symm
        subst hw3
        generalize nameZ m.fNames s = nz at *
        go_wp2_with fail
        go_ret
        exact ⟨by rw [HV.out]; rfl, hb1⟩
    · have hN2 : nameOk s = false := Bool.eq_false_iff.2 hN
      have HV : Hid (callP m s = 1) := by show callP m s = 1; unfold callP; rw [hD, hN2]; rfl
      rw [hN2]
      go_wp2_with fail
      go_ret
      exact ⟨by rw [HV.out]; rfl, hb1⟩
  · have hD2 : diskOk m = false := Bool.eq_false_iff.2 hD
    have HV : Hid (callP m s = 1) := by show callP m s = 1; unfold callP; rw [hD2]; rfl
    rw [hD2]
    go_wp2_with fail
    go_ret
    exact ⟨by rw [HV.out]; rfl, hb1⟩

end Go.Proofs.YtnohnkcijomdjaaGreatDoor
