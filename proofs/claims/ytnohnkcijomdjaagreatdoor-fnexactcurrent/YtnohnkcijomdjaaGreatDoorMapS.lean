/-
  The program's map from names to inodes, and files found by it.
-/
import Derived.Test.YtnohnkcijomdjaaGreatDoorDskQ
import Derived.Test.YtnohnkcijomdjaaGreatDoorDskN
import Derived.Test.YtnohnkcijomdjaaGreatDoorJoin
import Derived.Test.YtnohnkcijomdjaaGreatDoorMapP
namespace Go.Proofs.YtnohnkcijomdjaaGreatDoor
open Go.RowKit Go.Maps
set_option linter.unusedVariables false
set_option linter.unusedSimpArgs false
set_option maxRecDepth 10000

theorem lawStr : Keyed Tryz.prog 9 := string_keyed Tryz.underlying9
theorem keyStr {s : ByteArray} (h : s.size ≤ 9223372036854775807) : keyOf Tryz.prog 9 (.string s) = some (kS s) := WideMaps.keyOf_string_mk Tryz.underlying9 (by simpa [maxLen] using h)
set_option maxHeartbeats 1000000 in
theorem nameMap_any (a : Option Addr) (n cap : Nat) (l : List MEntry) (w : World) (hx : l.length = n) (hl : LeafL 2 rEntry w.heap.size w a cap l) (hn : n ≤ 1048576) :
    Calls Tryz.prog 83 #[.slice a n cap] w fun e w' => ∃ D : DataW Unit, e = .returned (.map (some w.heap.size)) ∧ w'.ownsMap Tryz.prog 9 (plainElem Tryz.prog 3) w.heap.size n D ∧ NMap D l n ∧ Below w.heap.size w w' := by
  have HX := Hid.mk hx
  have HRS := Hid.mk hl.2.2
  clear hx hl
  have hmm := @run_makeMap Tryz.prog
  go_enter Tryz.func83, Tryz.ntmps83
  go_wp2_with fail
  go_loopw [9] (fun i wr => ∃ (k : Nat) (D : DataW Unit), k ≤ n ∧ i = .int .i64 k ∧ wr.ownsMap Tryz.prog 9 (plainElem Tryz.prog 3) w.heap.size k D ∧ NMap D l k ∧ Below w.heap.size w wr) (fun i _ => n - (intOf i).toNat)
  case atStart => exact ⟨0, .map [], Nat.zero_le _, rfl, World.ownsMap_made _ _ _ _, NMap.start _, (Below.refl _ _).alloc (Nat.le_refl _) _⟩
  case round =>
    obtain ⟨k, D, hk, rfl, hown, hU, hbk⟩ := hrel
    have HU := Hid.mk hU
    clear hU hmm
    by_cases hlt : k < n
    · have hkl : k < l.length := by rw [HX.out]; exact hlt
      obtain ⟨b1, o1, rfl, hB, cs, hcl, hcell, rfl, hsz, hwf, _⟩ := (HRS.out.below rEntry_good hbk) k hkl
      have k0 := hcell 0 _ rfl
      have k1 := hcell 1 _ rfl
      rw [Nat.add_zero] at k0
      clear hcell hcl
      have hkey := keyStr hsz
      have HU' := Hid.mk (HU.out.put hkl)
      generalize l[k].fName = nm at *
      generalize l[k].fId = id at *
      have hmz := ownsMap_lt hown
      have hown0 := ownsMap_below hown ((Below.refl _ _).alloc (Nat.le_refl _) (.cells #[.string nm, .int .i64 id] 90))
      go_wp2_with (at_mapUpdate; refine wpList_mapUpdate_own _ rfl _ _ _ 128 rfl 9 3 lawStr Tryz.underlying128 _ w.heap.size k _ rfl hown0 (by unfold maxLen; omega) _ _ _ rfl rfl hkey _ [] (plainElem_int Tryz.underlying3 hwf) ?_; intro w3 hown3 hgrow3)
      have hT : Turn [w.heap.size] wr w3 := Turn.after ((Below.refl _ _).alloc (Nat.le_refl _) _) (Turn.ofGrown hgrow3 (fun k hk => by cases hk; simp))
      go_roundw
      case rel => exact ⟨k + 1, _, by omega, by go_num, hown3, HU'.out, Turn.under hbk hT (fun k hk => by simp at hk; omega)⟩
      case measure => simp [intOf]; omega
    · have hkn : k = n := by omega
      subst hkn
      go_wp2_with fail
      go_ret
      exact ⟨D, rfl, hown, HU.out, hbk⟩

set_option maxHeartbeats 1000000 in
theorem formOk1_any (cs : List Value) (m : MDisk) (a : Option Addr) (c : Nat) (s : ByteArray) (w : World) (hr : rDisk w.heap.size w cs m) (hw : wDisk m ≤ 1048576) (hs : s.size ≤ 9223372036854775807) (ha : ∃ b, a = some ⟨b, 0, none⟩ ∧ b < w.heap.size ∧ w.cell? ⟨b, 0, none⟩ = some (.string s)) :
    Calls Tryz.prog 82 #[.agg cs.toArray, .slice a 1 c] w fun e w' => e = .returned (.bool (diskOk m && nameOk s)) ∧ Below w.heap.size w w' := by
  have hq := hr
  obtain ⟨a0, c0, a1, c1, a2, c2, rfl, _⟩ := hq
  obtain ⟨b, rfl, hbl, hcs⟩ := ha
  have HW := Hid.mk hw
  have HR := Hid.mk hr
  clear hr hw
  have hCd := fun W (hb : Below w.heap.size w W) => implDiskOk_c _ m W (rDisk_good.mono (rDisk_good.below HR.out hb) hb.size) HW.out
  have hbA := (Below.refl w.heap.size w).alloc (Nat.le_refl _) (.cells #[.slice a0 m.fInodes.length c0, .slice a1 m.fNames.length c1, .slice a2 m.fSafe.length c2, .int .i64 m.fNext] 39)
  go_enter Tryz.func82, Tryz.ntmps82
  go_wp2_with fail
  refine wp_loop_rounds 2 ?_
  rw [rounds_succ]
  go_wp2_with fail
  refine (implNameOk_any s _ hs).mono ?_
  rintro e w1 ⟨rfl, hx1⟩
  have hb1 := bthen hbA hx1
  have hbx := (Bx.new w [.slice a0 m.fInodes.length c0, .slice a1 m.fNames.length c1, .slice a2 m.fSafe.length c2, .int .i64 m.fNext] 39).under hx1
  have y0 := hbx.2 0 _ rfl
  have y1 := hbx.2 1 _ rfl
  have y2 := hbx.2 2 _ rfl
  have y3 := hbx.2 3 _ rfl
  by_cases hN : nameOk s = true
  · rw [hN]
    go_wp2_with fail
    rw [rounds_succ]
    go_wp2_with fail
    refine Calls.mono (hCd _ hb1) ?_
    rintro e w2 ⟨rfl, hx2⟩
    go_wp2_with fail
    go_ret
    exact ⟨by rw [hN, Bool.and_true]; rfl, bthen hb1 hx2⟩
  · have hN2 : nameOk s = false := Bool.eq_false_iff.2 hN
    rw [hN2]
    go_wp2_with fail
    go_ret
    exact ⟨by rw [hN2, Bool.and_false]; rfl, hb1⟩

set_option maxHeartbeats 1000000 in
theorem findFile_any (cs : List Value) (m : MDisk) (s : ByteArray) (w : World) (hr : rDisk w.heap.size w cs m) (hw : wDisk m ≤ 1048576) (hs : s.size ≤ 9223372036854775807) :
    Calls Tryz.prog 61 #[.agg cs.toArray, .string s] w fun e w' => ∃ p : Nat, e = .returned (.tuple #[.int .i64 p, .int .i64 (callP m s)]) ∧ (callP m s = 0 → ∃ h : p < m.fInodes.length, m.fInodes[p].fId = idOf m.fNames s) ∧ Below w.heap.size w w' := by
  have hq := hr
  obtain ⟨a0, c0, a1, c1, a2, c2, rfl, hI, hNm, hSf, hnx, _⟩ := hq
  have hw2 : m.fInodes.length + sumW wInode m.fInodes + (m.fNames.length + sumW wEntry m.fNames) + (m.fSafe.length + sumW wEntry m.fSafe) ≤ 1048576 := hw
  have HW := Hid.mk hw
  have HR := Hid.mk hr
  have HI := Hid.mk hI
  have HNL := Hid.mk hNm
  clear hr hI hNm hSf hw
  have hbA := (Below.refl w.heap.size w).alloc (Nat.le_refl _) (.cells #[.slice a0 m.fInodes.length c0, .slice a1 m.fNames.length c1, .slice a2 m.fSafe.length c2, .int .i64 m.fNext] 39)
  have hbB := hbA.alloc (by simp) (.cells #[.string s] 9)
  go_enter Tryz.func61, Tryz.ntmps61
  go_wp2_with fail
  refine (formOk1_any _ m _ 1 s _ (rDisk_good.mono (rDisk_good.below HR.out hbB) hbB.size) HW.out hs ⟨w.heap.size + 1, rfl, by simp, by simp⟩).mono ?_
  rintro e w1 ⟨rfl, hx1⟩
  have hb1 := bthen hbB hx1
  have hbx := ((Bx.new w [.slice a0 m.fInodes.length c0, .slice a1 m.fNames.length c1, .slice a2 m.fSafe.length c2, .int .i64 m.fNext] 39).alloc (.cells #[.string s] 9)).under hx1
  have y0 := hbx.2 0 _ rfl
  have y1 := hbx.2 1 _ rfl
  by_cases hF : (diskOk m && nameOk s) = true
  · rw [hF]
    have hF2 := hF
    rw [Bool.and_eq_true] at hF2
    obtain ⟨q1, q2, _⟩ := diskOk_parts hF2.1
    have HSO := Hid.mk (okI_sorted q1)
    have HNO := Hid.mk (fun i j hi hj he => names_once (okE_names q2).2 (i := i) (j := j) hi hj he)
    have HOK := Hid.mk hF2.1
    clear q1 q2 hF2
    go_wp2_with fail
    refine (nameMap_any a1 _ c1 m.fNames w1 rfl (LeafL.mono rEntry_good (HNL.out.below rEntry_good hb1) hb1.size) (by omega)).mono ?_
    rintro e w2 ⟨D, rfl, hown, hNM, hx2⟩
    have HNM := Hid.mk hNM
    clear hNM
    have hb2 := bthen hb1 hx2
    have hbx2 := hbx.under hx2
    have z0 := hbx2.2 0 _ rfl
    by_cases hH : hasName m.fNames s = true
    · have HV : Hid (callP m s = 0) := by show callP m s = 0; unfold callP; rw [hF, if_pos rfl, if_pos hH]
      obtain ⟨hk, hid, hhas⟩ := file_there HOK.out hH
      obtain ⟨_, hnm⟩ := hasName_at hH
      have hhs : Maps.has D (kS s) = true := (HNM.out.2 s).1.2 ⟨_, hk, hk, hnm⟩
      have HC : Hid (D.atKey (kS s) (.lit (.int .i64 0)) = .lit (.int .i64 (idOf m.fNames s))) := by
        obtain ⟨j, hj, _, he, ha⟩ := (HNM.out.2 s).2 hhs
        have : j = nameAt m.fNames s := HNO.out j _ hj hk (he.trans hnm.symm)
        subst this
        show D.atKey _ _ = _
        rw [ha, hid]
      have HHas := Hid.mk hhas
      clear hF hH hk hid hhas hnm
      go_wp2_with (at_lookup; refine wpList_lookup_own_ok_int _ rfl _ _ 128 rfl 9 3 .i64 lawStr Tryz.underlying128 Tryz.underlying3 (zeroInt _) w1.heap.size m.fNames.length D rfl hown _ _ rfl (keyStr hs) ?_; intro c hat hwc)
      have hce : c = idOf m.fNames s := by
        rw [HC.out] at hat
        simp only [DataW.lit.injEq, Lit.int.injEq, true_and] at hat
        exact hat.symm
      subst hce
      refine (inodePlace_any a0 c0 m.fInodes (idOf m.fNames s) w2 (LeafL.mono rInode_good (HI.out.below rInode_good hb2) hb2.size) (by omega) HSO.out).mono ?_
      rintro e w3 ⟨p, rfl, hp, hx3⟩
      have HP := Hid.mk (hp HHas.out)
      rw [HHas.out]
      clear hp
      go_wp2_with fail
      refine bodyPost_ret (v := .tuple #[.int .i64 p, .int .i64 0]) (by simp [results, Tryz.results61, go_sem, *]) rfl ⟨p, by rw [HV.out], fun _ => HP.out, bthen hb2 hx3⟩
    · have HV : Hid (callP m s = 2) := by show callP m s = 2; unfold callP; rw [hF, if_pos rfl, if_neg hH]
      have hhs : Maps.has D (kS s) = false := by
        rw [Bool.eq_false_iff]
        intro h
        obtain ⟨j, hj, _, he⟩ := (HNM.out.2 s).1.1 h
        exact hH (hasName_yes hj he)
      go_wp2_with (at_lookup; refine wpList_lookup_own_ok_int _ rfl _ _ 128 rfl 9 3 .i64 lawStr Tryz.underlying128 Tryz.underlying3 (zeroInt _) w1.heap.size m.fNames.length D rfl hown _ _ rfl (keyStr hs) ?_; intro c hat hwc)
      refine bodyPost_ret (v := .tuple #[.int .i64 0, .int .i64 2]) (by simp [results, Tryz.results61, go_sem, *]) rfl ⟨0, by rw [HV.out]; rfl, (fun h => by rw [HV.out] at h; cases h), hb2⟩
  · have hF2 : (diskOk m && nameOk s) = false := Bool.eq_false_iff.2 hF
    have HV : Hid (callP m s = 1) := by show callP m s = 1; unfold callP; rw [hF2]; rfl
    rw [hF2]
    go_wp2_with fail
    refine bodyPost_ret (v := .tuple #[.int .i64 0, .int .i64 1]) (by simp [results, Tryz.results61, go_sem, *]) rfl ⟨0, by rw [HV.out]; rfl, (fun h => by rw [HV.out] at h; cases h), hb1⟩

theorem dataOf_at {m : MDisk} {s : ByteArray} {p : Nat} (hso : m.fInodes.Pairwise fun x y => x.fId < y.fId) (h : p < m.fInodes.length) (he : m.fInodes[p].fId = idOf m.fNames s) : dataOf m s = m.fInodes[p].fData := by
  unfold dataOf
  have : placeOf m.fInodes (idOf m.fNames s) = p := by
    unfold placeOf
    rw [List.findIdx_eq h]
    refine ⟨decide_eq_true he, fun j hj => ?_⟩
    have := sorted_at hso h hj
    simp
    omega
  rw [this, List.getElem?_eq_getElem h]
  rfl

end Go.Proofs.YtnohnkcijomdjaaGreatDoor
