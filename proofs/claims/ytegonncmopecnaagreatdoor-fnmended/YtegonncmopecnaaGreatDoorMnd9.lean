/-
  Part 10 of the texts that the proof leans on.
-/
import Derived.Test.YtegonncmopecnaaGreatDoorMnd0
import Derived.Test.YtegonncmopecnaaGreatDoorMnd8
set_option linter.unusedVariables false
set_option linter.unusedSimpArgs false
set_option maxRecDepth 10000

namespace Go.Proofs.YtegonncmopecnaaGreatDoor
open Go.RowKit
abbrev q5be_56_8_0 : Oper := ⟨some 28, .fieldAddr 50 (.tmp 5) 0, 0, "l02_files.go:57", #[], none⟩
abbrev q5be_56_8_1 : Oper := ⟨some 29, .load 3 (.tmp 28), 3, "l02_files.go:57", #[⟨0, .data⟩], none⟩
abbrev q5be_56_8_2 : Oper := ⟨some 30, .fieldAddr 27 (.tmp 1) 3, 0, "l02_files.go:57", #[], none⟩
abbrev q5be_56_8_3 : Oper := ⟨some 31, .load 3 (.tmp 30), 3, "l02_files.go:57", #[⟨2, .data⟩], none⟩
abbrev q5be_56_8_4 : Oper := ⟨some 32, .binOp .sub 3 (.tmp 31) (.const (.int .i64 1)) 3, 3, "l02_files.go:57", #[⟨3, .data⟩], none⟩
abbrev q5be_56_8_5 : Oper := ⟨some 33, .call { callee := .value (.func 82), args := #[.tmp 29, .const (.int .i64 1), .tmp 32], argTypes := #[3, 3, 3] }, 4, "l02_files.go:57", #[⟨1, .data⟩, ⟨4, .data⟩], none⟩
abbrev q5be_56_8_6 : Oper := ⟨some 34, .unOp .not 4 (.tmp 33), 4, "l02_files.go:57", #[⟨5, .data⟩], none⟩
abbrev q5be_56_8_7 : Oper := ⟨some 35, .move (.tmp 34), 4, "l02_files.go:57", #[⟨6, .data⟩, ⟨5, .chain⟩], none⟩
abbrev q5be_56_8_8 : Oper := ⟨some 36, .move (.tmp 4), 3, "l02_files.go:57", #[⟨7, .guard⟩], some (7, false)⟩
abbrev q5be_56_8_9 : Oper := ⟨some 37, .binOp .gtr 3 (.tmp 36) (.const (.int .i64 0)) 3, 4, "l02_files.go:57", #[⟨8, .data⟩, ⟨7, .guard⟩], some (7, false)⟩
abbrev q5be_56_8_10 : Oper := ⟨some 38, .move (.tmp 37), 4, "l02_files.go:57", #[⟨9, .data⟩, ⟨7, .chain⟩, ⟨7, .guard⟩], some (7, false)⟩
abbrev q5be_56_8_11 : Oper := ⟨some 39, .fieldAddr 27 (.tmp 1) 0, 0, "l02_files.go:57", #[⟨10, .guard⟩], some (10, true)⟩
abbrev q5be_56_8_12 : Oper := ⟨some 40, .load 24 (.tmp 39), 24, "l02_files.go:57", #[⟨11, .data⟩, ⟨10, .guard⟩], some (10, true)⟩
abbrev q5be_56_8_13 : Oper := ⟨some 41, .move (.tmp 4), 3, "l02_files.go:57", #[⟨10, .guard⟩], some (10, true)⟩
abbrev q5be_56_8_14 : Oper := ⟨some 42, .binOp .sub 3 (.tmp 41) (.const (.int .i64 1)) 3, 3, "l02_files.go:57", #[⟨13, .data⟩, ⟨10, .guard⟩], some (10, true)⟩
abbrev q5be_56_8_15 : Oper := ⟨some 43, .indexAddr 24 (.tmp 40) (.tmp 42), 0, "l02_files.go:57", #[⟨12, .data⟩, ⟨14, .data⟩, ⟨10, .guard⟩], some (10, true)⟩
abbrev q5be_56_8_16 : Oper := ⟨some 44, .fieldAddr 50 (.tmp 43) 0, 0, "l02_files.go:57", #[⟨15, .data⟩, ⟨10, .guard⟩], some (10, true)⟩
abbrev q5be_56_8_17 : Oper := ⟨some 45, .load 3 (.tmp 44), 3, "l02_files.go:57", #[⟨16, .data⟩, ⟨10, .guard⟩], some (10, true)⟩
abbrev q5be_56_8_18 : Oper := ⟨some 46, .fieldAddr 50 (.tmp 5) 0, 0, "l02_files.go:57", #[⟨10, .guard⟩], some (10, true)⟩
abbrev q5be_56_8_19 : Oper := ⟨some 47, .load 3 (.tmp 46), 3, "l02_files.go:57", #[⟨18, .data⟩, ⟨10, .guard⟩], some (10, true)⟩
abbrev q5be_56_8_20 : Oper := ⟨some 48, .binOp .geq 3 (.tmp 45) (.tmp 47) 3, 4, "l02_files.go:57", #[⟨17, .data⟩, ⟨19, .data⟩, ⟨10, .guard⟩], some (10, true)⟩
abbrev q5be_56_8_21 : Oper := ⟨some 49, .pick (.tmp 38) (.tmp 48) (.const (.bool false)), 4, "l02_files.go:57", #[⟨10, .data⟩, ⟨20, .data⟩, ⟨7, .guard⟩], some (7, false)⟩
abbrev q5be_56_8_22 : Oper := ⟨some 50, .pick (.tmp 35) (.const (.bool true)) (.tmp 49), 4, "l02_files.go:57", #[⟨7, .data⟩, ⟨21, .data⟩], none⟩
abbrev q5be_56_8_23 : Oper := ⟨some 51, .move (.tmp 50), 4, "l02_files.go:57", #[⟨22, .data⟩, ⟨10, .chain⟩], none⟩
abbrev q5be_56_8_24 : Oper := ⟨some 52, .fieldAddr 50 (.tmp 5) 2, 0, "l02_files.go:57", #[⟨23, .guard⟩], some (23, false)⟩
abbrev q5be_56_8_25 : Oper := ⟨some 53, .load 3 (.tmp 52), 3, "l02_files.go:57", #[⟨24, .data⟩, ⟨23, .guard⟩], some (23, false)⟩
abbrev q5be_56_8_26 : Oper := ⟨some 54, .fieldAddr 50 (.tmp 5) 1, 0, "l02_files.go:57", #[⟨23, .guard⟩], some (23, false)⟩
abbrev q5be_56_8_27 : Oper := ⟨some 55, .load 22 (.tmp 54), 22, "l02_files.go:57", #[⟨26, .data⟩, ⟨23, .guard⟩], some (23, false)⟩
abbrev q5be_56_8_28 : Oper := ⟨some 56, .call { callee := .builtin .len, args := #[.tmp 55], argTypes := #[22] }, 3, "l02_files.go:57", #[⟨27, .data⟩, ⟨23, .guard⟩], some (23, false)⟩
abbrev q5be_56_8_29 : Oper := ⟨some 57, .call { callee := .value (.func 82), args := #[.tmp 53, .const (.int .i64 0), .tmp 56], argTypes := #[3, 3, 3] }, 4, "l02_files.go:57", #[⟨25, .data⟩, ⟨28, .data⟩, ⟨23, .chain⟩, ⟨23, .guard⟩], some (23, false)⟩
abbrev q5be_56_8_30 : Oper := ⟨some 58, .unOp .not 4 (.tmp 57), 4, "l02_files.go:57", #[⟨29, .data⟩, ⟨23, .guard⟩], some (23, false)⟩
abbrev q5be_56_8_31 : Oper := ⟨some 59, .pick (.tmp 51) (.const (.bool true)) (.tmp 58), 4, "l02_files.go:57", #[⟨23, .data⟩, ⟨30, .data⟩], none⟩
abbrev q5be_56_8_32 : Oper := ⟨some 60, .move (.tmp 59), 4, "l02_files.go:57", #[⟨31, .data⟩, ⟨29, .chain⟩], none⟩
abbrev q5be_56_8_33 : Oper := ⟨some 61, .fieldAddr 27 (.tmp 1) 1, 0, "l02_files.go:57", #[⟨32, .guard⟩], some (32, false)⟩
abbrev q5be_56_8_34 : Oper := ⟨some 62, .load 25 (.tmp 61), 25, "l02_files.go:57", #[⟨33, .data⟩, ⟨32, .guard⟩], some (32, false)⟩
abbrev q5be_56_8_35 : Oper := ⟨some 63, .fieldAddr 50 (.tmp 5) 0, 0, "l02_files.go:57", #[⟨32, .guard⟩], some (32, false)⟩
abbrev q5be_56_8_36 : Oper := ⟨some 64, .load 3 (.tmp 63), 3, "l02_files.go:57", #[⟨35, .data⟩, ⟨32, .guard⟩], some (32, false)⟩
abbrev q5be_56_8_37 : Oper := ⟨some 65, .call { callee := .value (.func 83), args := #[.tmp 62, .tmp 64], argTypes := #[25, 3] }, 4, "l02_files.go:57", #[⟨34, .data⟩, ⟨36, .data⟩, ⟨32, .chain⟩, ⟨32, .guard⟩], some (32, false)⟩
abbrev q5be_56_8_38 : Oper := ⟨some 66, .unOp .not 4 (.tmp 65), 4, "l02_files.go:57", #[⟨37, .data⟩, ⟨32, .guard⟩], some (32, false)⟩
abbrev q5be_56_8_39 : Oper := ⟨some 67, .move (.tmp 66), 4, "l02_files.go:57", #[⟨38, .data⟩, ⟨37, .chain⟩, ⟨32, .guard⟩], some (32, false)⟩
abbrev q5be_56_8_40 : Oper := ⟨some 68, .fieldAddr 27 (.tmp 1) 2, 0, "l02_files.go:57", #[⟨39, .guard⟩], some (39, true)⟩
abbrev q5be_56_8_41 : Oper := ⟨some 69, .load 25 (.tmp 68), 25, "l02_files.go:57", #[⟨40, .data⟩, ⟨39, .guard⟩], some (39, true)⟩
abbrev q5be_56_8_42 : Oper := ⟨some 70, .fieldAddr 50 (.tmp 5) 0, 0, "l02_files.go:57", #[⟨39, .guard⟩], some (39, true)⟩
abbrev q5be_56_8_43 : Oper := ⟨some 71, .load 3 (.tmp 70), 3, "l02_files.go:57", #[⟨42, .data⟩, ⟨39, .guard⟩], some (39, true)⟩
abbrev q5be_56_8_44 : Oper := ⟨some 72, .call { callee := .value (.func 83), args := #[.tmp 69, .tmp 71], argTypes := #[25, 3] }, 4, "l02_files.go:57", #[⟨41, .data⟩, ⟨43, .data⟩, ⟨39, .chain⟩, ⟨39, .guard⟩], some (39, true)⟩
abbrev q5be_56_8_45 : Oper := ⟨some 73, .unOp .not 4 (.tmp 72), 4, "l02_files.go:57", #[⟨44, .data⟩, ⟨39, .guard⟩], some (39, true)⟩
abbrev q5be_56_8_46 : Oper := ⟨some 74, .pick (.tmp 67) (.tmp 73) (.const (.bool false)), 4, "l02_files.go:57", #[⟨39, .data⟩, ⟨45, .data⟩, ⟨32, .guard⟩], some (32, false)⟩
abbrev q5be_56_8_47 : Oper := ⟨some 75, .pick (.tmp 60) (.const (.bool true)) (.tmp 74), 4, "l02_files.go:57", #[⟨32, .data⟩, ⟨46, .data⟩], none⟩
theorem okIN_step {d : MDisk} {l : List MInode} {k : Nat} (h : k < l.length) : (okI d.fNext (prevId l k) (l.drop k) && (l.drop k).all (isNamed d)) = (stepI d.fNext (prevId l k) l[k] && isNamed d l[k] && (okI d.fNext (prevId l (k + 1)) (l.drop (k + 1)) && (l.drop (k + 1)).all (isNamed d))) := by
 rw [okI_step h]
 rw [show (l.drop k).all (isNamed d) = (isNamed d l[k] && (l.drop (k + 1)).all (isNamed d)) from by rw [List.drop_eq_getElem_cons h, List.all_cons]]
 cases stepI d.fNext (prevId l k) l[k] <;> cases isNamed d l[k] <;> simp
def specOk (d : MDisk) : Bool :=
 inRange d.fNext 1 1000000 && decide (d.fInodes.length <= 60) && (okI d.fNext 0 d.fInodes && d.fInodes.all (isNamed d)) && decide (sumW wInode d.fInodes <= 60000) &&
  (okE d.fInodes [] ByteArray.empty d.fNames && decide (d.fNames.length <= 30)) && (okE d.fInodes [] ByteArray.empty d.fSafe && decide (d.fSafe.length <= 30))
theorem specOk_eq (d : MDisk) : specOk d = diskOk d := by
 unfold specOk diskOk inRange
 cases h1 : okI d.fNext 0 d.fInodes
 ·simp
 ·cases h2 : d.fInodes.all (isNamed d)
  ·simp
  ·have h3 := named_fit h1 h2
   by_cases h4 : d.fNames.length <= 30
   ·by_cases h5 : d.fSafe.length <= 30
    ·have h6 : d.fInodes.length <= 60 := by omega
     simp [h4, h5, h6]
    ·simp [h5]
   ·simp [h4]
set_option maxHeartbeats 20000000 in
theorem specDiskOk_any (cs : List Value) (m : MDisk) (w : World) (hr : rDisk w.heap.size w cs m) (hw : wDisk m <= 16777216) :
  Calls Tryz.prog 56 #[.agg cs.toArray] w fun e w' => e = .returned (.bool (specOk m)) /\ Below w.heap.size w w' := by
 have hq := hr
 obtain ⟨a0, c0, a1, c1, a2, c2, rfl, hI, hNm, hSf, hnx, _⟩ := hq
 have hw2 : m.fInodes.length + sumW wInode m.fInodes + (m.fNames.length + sumW wEntry m.fNames) + (m.fSafe.length + sumW wEntry m.fSafe) <= 16777216 := hw
 have HR := Hm hr
 have HI := Hm hI.2.2
 have HNL := Hm hNm
 have HSL := Hm hSf
 clear hr hI hNm hSf hw
 have hnb : -9223372036854775808 <= m.fNext /\ m.fNext <= 9223372036854775807 := by simpa [Lit.wf, IntKind.min, IntKind.max, IntKind.signed, IntKind.bits] using hnx
 obtain ⟨hnb1, hnb2⟩ := hnb
 by_cases hN1 : 1 <= m.fNext /\ m.fNext <= 1000000
 ·have e0 : inRange m.fNext 1 1000000 = true := inRange_yes hN1.1 hN1.2
  obtain ⟨hN1, hN2⟩ := hN1
  by_cases hL : m.fInodes.length <= 60
  ·have HSP : Hid (specOk m = ((okI m.fNext 0 m.fInodes && m.fInodes.all (isNamed m)) && decide (sumW wInode m.fInodes <= 60000) && (okE m.fInodes [] ByteArray.empty m.fNames && decide (m.fNames.length <= 30)) && (okE m.fInodes [] ByteArray.empty m.fSafe && decide (m.fSafe.length <= 30)))) := by
    show specOk m = _
    unfold specOk
    rw [e0, decide_eq_true hL, Bool.true_and, Bool.true_and]
   go_enter Tryz.func56, Tryz.ntmps56
   go_wp2_with (go_at_call 82; refine (l1In_any _ _ _ _).mono ?_; rintro e w' ⟨rfl, rfl⟩)
   go_loopw [3, 4] (fun sv i wr => ∃ k : Nat, k <= m.fInodes.length /\ i = .int .i64 k /\ sv = .int .i64 (sumW wInode (m.fInodes.take k) : Nat) /\ 0 <= prevId m.fInodes k /\ (okI m.fNext 0 m.fInodes && m.fInodes.all (isNamed m)) = (okI m.fNext (prevId m.fInodes k) (m.fInodes.drop k) && (m.fInodes.drop k).all (isNamed m)) /\ Below w.heap.size w wr /\ Bx wr w.heap.size [.slice a0 m.fInodes.length c0, .slice a1 m.fNames.length c1, .slice a2 m.fSafe.length c2, .int .i64 m.fNext]) (fun _ i _ => m.fInodes.length - (intOf i).toNat)
   case atStart => exact ⟨0, Nat.zero_le _, rfl, rfl, Int.le_refl _, rfl, rB.alloc rN _, Bx.new _ _ _⟩
   case round =>
    obtain ⟨k, hk, rfl, rfl, hp0, hinv, hbk, hbx⟩ := hrel
    have HINV := Hm hinv
    clear hinv
    have xb0 := hbx.2 0 _ rfl
    have xb1 := hbx.2 1 _ rfl
    have xb2 := hbx.2 2 _ rfl
    have xb3 := hbx.2 3 _ rfl
    have hyb := hbx.1
    by_cases hlt : k < m.fInodes.length
    ·obtain ⟨b1, o1, ha0, hB, cs, hcl, hcell, hrI⟩ := (HI.out.below rInode_good hbk) k hlt
     subst ha0
     have hwk := sumW_le (f := wInode) hlt
     have hws := sumW_take_succ (f := wInode) hlt
     have hwl := sumW_take_le wInode m.fInodes (k + 1)
     have HST := Hm (okIN_step (d := m) hlt)
     have HPS := Hm (prevId_succ hlt)
     have hy1 : b1 < wr.heap.size := Nat.lt_of_lt_of_le hB hbk.size
     have HPR : Hid (∀ j, k = j + 1 -> (hj : j < m.fInodes.length) -> wr.cell? ⟨b1, o1 + j * 3, none⟩ = some (.int .i64 (prevId m.fInodes k))) := by
      intro j hj hjl
      obtain ⟨b2, o2, ha2, _, cs2, _, hcell2, a2', c2', rfl, _⟩ := (HI.out.below rInode_good hbk) j hjl
      simp only [Option.some.injEq, Addr.mk.injEq, and_true] at ha2
      obtain ⟨rfl, rfl⟩ := ha2
      have := hcell2 0 _ rfl
      subst hj
      rw [Nat.add_zero] at this
      rw [prevId_succ hjl]
      exact this
     obtain ⟨n, hn⟩ : ∃ n, m.fInodes[k] = n := ⟨_, rfl⟩
     rw [hn] at hrI hwk hws
     have HNd : Hid (m.fInodes[k] = n) := hn
     clear hn
     obtain ⟨ad, cd, rfl, hid, hda, hsu, _⟩ := hrI
     have k0 := hcell 0 _ rfl
     have k1 := hcell 1 _ rfl
     have k2 := hcell 2 _ rfl
     rw [Nat.add_zero] at k0
     have hdl : n.fData.length <= 16777216 := by have : wInode n = n.fData.length := rfl; omega
     have hkb : (sumW wInode (m.fInodes.take k) : Int) + n.fData.length <= 16777216 := by have : wInode n = n.fData.length := rfl; omega
     have HWS : Hid (sumW wInode (m.fInodes.take (k + 1)) = sumW wInode (m.fInodes.take k) + n.fData.length) := hws
     have hk60 : k <= 60 := by omega
     clear hcell hcl hda hws hwl hwk
     have HFAIL : Hid ((stepI m.fNext (prevId m.fInodes k) n && isNamed m n) = false -> specOk m = false) := by
      intro h
      rw [HSP.out, HINV.out, HST.out, HNd.out, h]
      simp
     have HGO : Hid ((stepI m.fNext (prevId m.fInodes k) n && isNamed m n) = true -> (okI m.fNext 0 m.fInodes && m.fInodes.all (isNamed m)) = (okI m.fNext (prevId m.fInodes (k + 1)) (m.fInodes.drop (k + 1)) && (m.fInodes.drop (k + 1)).all (isNamed m))) := by
      intro h
      rw [HINV.out, HST.out, HNd.out, h, Bool.true_and]
     have HPI : Hid (prevId m.fInodes (k + 1) = n.fId) := by show _ = _; rw [HPS.out, HNd.out]
     clear HST HPS HNd HINV
     have hz1 : (0 : Int) <= (k : Int) := by omega
     have hz2 : (k : Int) < (m.fInodes.length : Int) := by omega
     have hib : -9223372036854775808 <= n.fId /\ n.fId <= 9223372036854775807 := by simpa [Lit.wf, IntKind.min, IntKind.max, IntKind.signed, IntKind.bits] using hid
     have hsb : -9223372036854775808 <= n.fSure /\ n.fSure <= 9223372036854775807 := by simpa [Lit.wf, IntKind.min, IntKind.max, IntKind.signed, IntKind.bits] using hsu
     obtain ⟨hib1, hib2⟩ := hib
     obtain ⟨hsb1, hsb2⟩ := hsb
     clear hid hsu
     generalize hpv : prevId m.fInodes k = pv at *
     have HPV := Hm hpv
     clear hpv
     go_wp2_with fail
     -- the element lies in a new block
     obtain ⟨wq, hwq⟩ : ∃ wq, wq = wr.alloc (.cells #[.int .i64 n.fId, .slice ad n.fData.length cd, .int .i64 n.fSure] 50) := ⟨_, rfl⟩
     have hbq : Below wr.heap.size wr wq := by rw [hwq]; exact rB.alloc rN _
     have hbn : Bx wq wr.heap.size [.int .i64 n.fId, .slice ad n.fData.length cd, .int .i64 n.fSure] := by rw [hwq]; exact Bx.new _ _ _
     rw [<- hwq]
     clear hwq
     have hbW := bthen hbk hbq
     have hbx2 := hbx.under hbq
     have p0 : ∀ W, Below wq.heap.size wq W -> W.cell? ⟨w.heap.size, 0, none⟩ = some (.slice (some ⟨b1, o1, none⟩) m.fInodes.length c0) := fun W hb => (hbx2.under hb).2 0 _ rfl
     have p1 : ∀ W, Below wq.heap.size wq W -> W.cell? ⟨w.heap.size, 1, none⟩ = some (.slice a1 m.fNames.length c1) := fun W hb => (hbx2.under hb).2 1 _ rfl
     have p2 : ∀ W, Below wq.heap.size wq W -> W.cell? ⟨w.heap.size, 2, none⟩ = some (.slice a2 m.fSafe.length c2) := fun W hb => (hbx2.under hb).2 2 _ rfl
     have p3 : ∀ W, Below wq.heap.size wq W -> W.cell? ⟨w.heap.size, 3, none⟩ = some (.int .i64 m.fNext) := fun W hb => (hbx2.under hb).2 3 _ rfl
     have q0 : ∀ W, Below wq.heap.size wq W -> W.cell? ⟨wr.heap.size, 0, none⟩ = some (.int .i64 n.fId) := fun W hb => (hbn.under hb).2 0 _ rfl
     have q1 : ∀ W, Below wq.heap.size wq W -> W.cell? ⟨wr.heap.size, 1, none⟩ = some (.slice ad n.fData.length cd) := fun W hb => (hbn.under hb).2 1 _ rfl
     have q2 : ∀ W, Below wq.heap.size wq W -> W.cell? ⟨wr.heap.size, 2, none⟩ = some (.int .i64 n.fSure) := fun W hb => (hbn.under hb).2 2 _ rfl
     have hCa := fun W (hb : Below wq.heap.size wq W) => l2Named_any a1 _ c1 m.fNames n.fId W w.heap.size rfl (by omega) (HNL.out.2.2.below rEntry_good ((bthen hbW hb).mono rN))
     have hCb := fun W (hb : Below wq.heap.size wq W) => l2Named_any a2 _ c2 m.fSafe n.fId W w.heap.size rfl (by omega) (HSL.out.2.2.below rEntry_good ((bthen hbW hb).mono rN))
     have hwn : IntKind.i64.wrap (m.fNext - 1) = m.fNext - 1 := by simp (disch := omega) only [IntWalk.i64_in]
     have HSI : Hid (stepI m.fNext pv n = decide (pv < n.fId /\ n.fId < m.fNext /\ 0 <= n.fSure /\ n.fSure <= n.fData.length)) := rfl
     have HNI : Hid (isNamed m n = (named m.fNames n.fId || named m.fSafe n.fId)) := rfl
     by_cases h1 : 1 <= n.fId /\ n.fId <= m.fNext - 1
     ·have e1 : inRange n.fId 1 (m.fNext - 1) = true := inRange_yes h1.1 h1.2
      obtain ⟨h11, h12⟩ := h1
      by_cases h0 : k = 0
      ·have hpv0 : pv = 0 := by rw [<- HPV.out, h0]; rfl
       have hgk : ((0 : Int) < (k : Int)) = False := eq_false (by omega)
       have hgk2 : (0 < k) = False := eq_false (by omega)
       clear h0
       by_cases hSu : 0 <= n.fSure /\ n.fSure <= n.fData.length
       ·have e3 : inRange n.fSure 0 n.fData.length = true := inRange_yes hSu.1 hSu.2
        obtain ⟨hSu1, hSu2⟩ := hSu
        by_cases hA : named m.fNames n.fId = true
        ·have HGo := HGO.out (by rw [HSI.out, HNI.out, hA, decide_eq_true (by omega)]; rfl)
         simp only [hA] at hCa
         clear hCb HFAIL HGO HSI HNI hA HSP
         refine wp_region_held_drew (S := fun W => Below wq.heap.size wq W) (by kernel_rfl) (Below.drew rB) (fun hZ => ?_)
         refine uq 0 q5be_56_8_0 28 hZ ?_
         refine uq 1 q5be_56_8_1 29 hZ ?_
         refine uq 2 q5be_56_8_2 30 hZ ?_
         refine uq 3 q5be_56_8_3 31 hZ ?_
         refine uq 4 q5be_56_8_4 32 hZ ?_
         refine ar1 5 q5be_56_8_5 fun K hK => ?_
         go_simp
         refine Calls.mono (l1In_any _ _ _ _) ?_
         rintro e w1 ⟨rfl, hw1⟩
         have hx1 := below_same hw1
         clear hw1
         (try simp only [e1, e3])
         go_wp2_with fail
         refine hK.out _ _ (bthen hZ hx1) (fun hZ => ?_)
         clear hK K
         try simp only[Act.put,sa,s0,s1]
         refine uq 6 q5be_56_8_6 34 hZ ?_
         refine uq 7 q5be_56_8_7 35 hZ ?_
         refine uq 8 q5be_56_8_8 36 hZ ?_
         refine uq 9 q5be_56_8_9 37 hZ ?_
         refine uq 10 q5be_56_8_10 38 hZ ?_
         refine um 11 q5be_56_8_11 39 hZ ?_
         refine um 12 q5be_56_8_12 40 hZ ?_
         refine um 13 q5be_56_8_13 41 hZ ?_
         refine um 14 q5be_56_8_14 42 hZ ?_
         refine um 15 q5be_56_8_15 43 hZ ?_
         refine um 16 q5be_56_8_16 44 hZ ?_
         refine um 17 q5be_56_8_17 45 hZ ?_
         refine um 18 q5be_56_8_18 46 hZ ?_
         refine um 19 q5be_56_8_19 47 hZ ?_
         refine um 20 q5be_56_8_20 48 hZ ?_
         refine uq 21 q5be_56_8_21 49 hZ ?_
         refine uq 22 q5be_56_8_22 50 hZ ?_
         refine uq 23 q5be_56_8_23 51 hZ ?_
         refine uq 24 q5be_56_8_24 52 hZ ?_
         refine uq 25 q5be_56_8_25 53 hZ ?_
         refine uq 26 q5be_56_8_26 54 hZ ?_
         refine uq 27 q5be_56_8_27 55 hZ ?_
         refine uq 28 q5be_56_8_28 56 hZ ?_
         refine ar1 29 q5be_56_8_29 fun K hK => ?_
         go_simp
         refine Calls.mono (l1In_any _ _ _ _) ?_
         rintro e w2 ⟨rfl, hw2⟩
         have hx2 := below_same hw2
         clear hw2
         (try simp only [e1, e3])
         go_wp2_with fail
         refine hK.out _ _ (bthen hZ hx2) (fun hZ => ?_)
         clear hK K
         try simp only[Act.put,sa,s0,s1]
         refine uq 30 q5be_56_8_30 58 hZ ?_
         refine uq 31 q5be_56_8_31 59 hZ ?_
         refine uq 32 q5be_56_8_32 60 hZ ?_
         refine uq 33 q5be_56_8_33 61 hZ ?_
         refine uq 34 q5be_56_8_34 62 hZ ?_
         refine uq 35 q5be_56_8_35 63 hZ ?_
         refine uq 36 q5be_56_8_36 64 hZ ?_
         refine ar1 37 q5be_56_8_37 fun K hK => ?_
         go_simp
         refine Calls.mono (hCa _ hZ) ?_
         rintro e w3 ⟨rfl, hw3⟩
         have hx3 := below_same hw3
         clear hw3
         go_wp2_with fail
         refine hK.out _ _ (bthen hZ hx3) (fun hZ => ?_)
         clear hK K
         try simp only[Act.put,sa,s0,s1]
         refine uq 38 q5be_56_8_38 66 hZ ?_
         refine uq 39 q5be_56_8_39 67 hZ ?_
         refine um 40 q5be_56_8_40 68 hZ ?_
         refine um 41 q5be_56_8_41 69 hZ ?_
         refine um 42 q5be_56_8_42 70 hZ ?_
         refine um 43 q5be_56_8_43 71 hZ ?_
         refine um 44 q5be_56_8_44 72 hZ ?_
         refine um 45 q5be_56_8_45 73 hZ ?_
         refine uq 46 q5be_56_8_46 74 hZ ?_
         refine uq 47 q5be_56_8_47 75 hZ ?_
         refine wpAnyH_done (by kernel_rfl) ?_ _
         have r1 := q1 _ hZ
         have r0 := p0 _ hZ
         go_wp2_with fail
         go_roundw
         case rel => exact ⟨k + 1, by omega, by go_num, by rw [HWS.out]; go_num, by rw [HPI.out]; omega, HGo, bthen hbW hZ, hbx2.under hZ⟩
         case measure => simp [intOf]; omega
        ·have hA2 : named m.fNames n.fId = false := by simpa using hA
         simp only [hA2] at hCa
         by_cases hB2 : named m.fSafe n.fId = true
         ·have HGo := HGO.out (by rw [HSI.out, HNI.out, hB2, decide_eq_true (by omega)]; simp)
          simp only [hB2] at hCb
          clear HFAIL HGO HSI HNI hA hA2 hB2 HSP
          refine wp_region_held_drew (S := fun W => Below wq.heap.size wq W) (by kernel_rfl) (Below.drew rB) (fun hZ => ?_)
          refine uq 0 q5be_56_8_0 28 hZ ?_
          refine uq 1 q5be_56_8_1 29 hZ ?_
          refine uq 2 q5be_56_8_2 30 hZ ?_
          refine uq 3 q5be_56_8_3 31 hZ ?_
          refine uq 4 q5be_56_8_4 32 hZ ?_
          refine ar1 5 q5be_56_8_5 fun K hK => ?_
          go_simp
          refine Calls.mono (l1In_any _ _ _ _) ?_
          rintro e w1 ⟨rfl, hw1⟩
          have hx1 := below_same hw1
          clear hw1
          (try simp only [e1, e3])
          go_wp2_with fail
          refine hK.out _ _ (bthen hZ hx1) (fun hZ => ?_)
          clear hK K
          try simp only[Act.put,sa,s0,s1]
          refine uq 6 q5be_56_8_6 34 hZ ?_
          refine uq 7 q5be_56_8_7 35 hZ ?_
          refine uq 8 q5be_56_8_8 36 hZ ?_
          refine uq 9 q5be_56_8_9 37 hZ ?_
          refine uq 10 q5be_56_8_10 38 hZ ?_
          refine um 11 q5be_56_8_11 39 hZ ?_
          refine um 12 q5be_56_8_12 40 hZ ?_
          refine um 13 q5be_56_8_13 41 hZ ?_
          refine um 14 q5be_56_8_14 42 hZ ?_
          refine um 15 q5be_56_8_15 43 hZ ?_
          refine um 16 q5be_56_8_16 44 hZ ?_
          refine um 17 q5be_56_8_17 45 hZ ?_
          refine um 18 q5be_56_8_18 46 hZ ?_
          refine um 19 q5be_56_8_19 47 hZ ?_
          refine um 20 q5be_56_8_20 48 hZ ?_
          refine uq 21 q5be_56_8_21 49 hZ ?_
          refine uq 22 q5be_56_8_22 50 hZ ?_
          refine uq 23 q5be_56_8_23 51 hZ ?_
          refine uq 24 q5be_56_8_24 52 hZ ?_
          refine uq 25 q5be_56_8_25 53 hZ ?_
          refine uq 26 q5be_56_8_26 54 hZ ?_
          refine uq 27 q5be_56_8_27 55 hZ ?_
          refine uq 28 q5be_56_8_28 56 hZ ?_
          refine ar1 29 q5be_56_8_29 fun K hK => ?_
          go_simp
          refine Calls.mono (l1In_any _ _ _ _) ?_
          rintro e w2 ⟨rfl, hw2⟩
          have hx2 := below_same hw2
          clear hw2
          (try simp only [e1, e3])
          go_wp2_with fail
          refine hK.out _ _ (bthen hZ hx2) (fun hZ => ?_)
          clear hK K
          try simp only[Act.put,sa,s0,s1]
          refine uq 30 q5be_56_8_30 58 hZ ?_
          refine uq 31 q5be_56_8_31 59 hZ ?_
          refine uq 32 q5be_56_8_32 60 hZ ?_
          refine uq 33 q5be_56_8_33 61 hZ ?_
          refine uq 34 q5be_56_8_34 62 hZ ?_
          refine uq 35 q5be_56_8_35 63 hZ ?_
          refine uq 36 q5be_56_8_36 64 hZ ?_
          refine ar1 37 q5be_56_8_37 fun K hK => ?_
          go_simp
          refine Calls.mono (hCa _ hZ) ?_
          rintro e w3 ⟨rfl, hw3⟩
          have hx3 := below_same hw3
          clear hw3
          go_wp2_with fail
          refine hK.out _ _ (bthen hZ hx3) (fun hZ => ?_)
          clear hK K
          try simp only[Act.put,sa,s0,s1]
          refine uq 38 q5be_56_8_38 66 hZ ?_
          refine uq 39 q5be_56_8_39 67 hZ ?_
          refine uq 40 q5be_56_8_40 68 hZ ?_
          refine uq 41 q5be_56_8_41 69 hZ ?_
          refine uq 42 q5be_56_8_42 70 hZ ?_
          refine uq 43 q5be_56_8_43 71 hZ ?_
          refine ar1 44 q5be_56_8_44 fun K hK => ?_
          go_simp
          refine Calls.mono (hCb _ hZ) ?_
          rintro e w4 ⟨rfl, hw4⟩
          have hx4 := below_same hw4
          clear hw4
          go_wp2_with fail
          refine hK.out _ _ (bthen hZ hx4) (fun hZ => ?_)
          clear hK K
          try simp only[Act.put,sa,s0,s1]
          refine uq 45 q5be_56_8_45 73 hZ ?_
          refine uq 46 q5be_56_8_46 74 hZ ?_
          refine uq 47 q5be_56_8_47 75 hZ ?_
          refine wpAnyH_done (by kernel_rfl) ?_ _
          have r1 := q1 _ hZ
          have r0 := p0 _ hZ
          go_wp2_with fail
          go_roundw
          case rel => exact ⟨k + 1, by omega, by go_num, by rw [HWS.out]; go_num, by rw [HPI.out]; omega, HGo, bthen hbW hZ, hbx2.under hZ⟩
          case measure => simp [intOf]; omega
         ·have hB3 : named m.fSafe n.fId = false := by simpa using hB2
          simp only [hB3] at hCb
          have HV : Hid (specOk m = false) := HFAIL.out (by rw [HSI.out, HNI.out]; rw [hA2, hB3]; simp)
          clear HFAIL HGO HSI HNI hA hA2 hB2 hB3 HSP
          refine wp_region_held_drew (S := fun W => Below wq.heap.size wq W) (by kernel_rfl) (Below.drew rB) (fun hZ => ?_)
          refine uq 0 q5be_56_8_0 28 hZ ?_
          refine uq 1 q5be_56_8_1 29 hZ ?_
          refine uq 2 q5be_56_8_2 30 hZ ?_
          refine uq 3 q5be_56_8_3 31 hZ ?_
          refine uq 4 q5be_56_8_4 32 hZ ?_
          refine ar1 5 q5be_56_8_5 fun K hK => ?_
          go_simp
          refine Calls.mono (l1In_any _ _ _ _) ?_
          rintro e w1 ⟨rfl, hw1⟩
          have hx1 := below_same hw1
          clear hw1
          (try simp only [e1, e3])
          go_wp2_with fail
          refine hK.out _ _ (bthen hZ hx1) (fun hZ => ?_)
          clear hK K
          try simp only[Act.put,sa,s0,s1]
          refine uq 6 q5be_56_8_6 34 hZ ?_
          refine uq 7 q5be_56_8_7 35 hZ ?_
          refine uq 8 q5be_56_8_8 36 hZ ?_
          refine uq 9 q5be_56_8_9 37 hZ ?_
          refine uq 10 q5be_56_8_10 38 hZ ?_
          refine um 11 q5be_56_8_11 39 hZ ?_
          refine um 12 q5be_56_8_12 40 hZ ?_
          refine um 13 q5be_56_8_13 41 hZ ?_
          refine um 14 q5be_56_8_14 42 hZ ?_
          refine um 15 q5be_56_8_15 43 hZ ?_
          refine um 16 q5be_56_8_16 44 hZ ?_
          refine um 17 q5be_56_8_17 45 hZ ?_
          refine um 18 q5be_56_8_18 46 hZ ?_
          refine um 19 q5be_56_8_19 47 hZ ?_
          refine um 20 q5be_56_8_20 48 hZ ?_
          refine uq 21 q5be_56_8_21 49 hZ ?_
          refine uq 22 q5be_56_8_22 50 hZ ?_
          refine uq 23 q5be_56_8_23 51 hZ ?_
          refine uq 24 q5be_56_8_24 52 hZ ?_
          refine uq 25 q5be_56_8_25 53 hZ ?_
          refine uq 26 q5be_56_8_26 54 hZ ?_
          refine uq 27 q5be_56_8_27 55 hZ ?_
          refine uq 28 q5be_56_8_28 56 hZ ?_
          refine ar1 29 q5be_56_8_29 fun K hK => ?_
          go_simp
          refine Calls.mono (l1In_any _ _ _ _) ?_
          rintro e w2 ⟨rfl, hw2⟩
          have hx2 := below_same hw2
          clear hw2
          (try simp only [e1, e3])
          go_wp2_with fail
          refine hK.out _ _ (bthen hZ hx2) (fun hZ => ?_)
          clear hK K
          try simp only[Act.put,sa,s0,s1]
          refine uq 30 q5be_56_8_30 58 hZ ?_
          refine uq 31 q5be_56_8_31 59 hZ ?_
          refine uq 32 q5be_56_8_32 60 hZ ?_
          refine uq 33 q5be_56_8_33 61 hZ ?_
          refine uq 34 q5be_56_8_34 62 hZ ?_
          refine uq 35 q5be_56_8_35 63 hZ ?_
          refine uq 36 q5be_56_8_36 64 hZ ?_
          refine ar1 37 q5be_56_8_37 fun K hK => ?_
          go_simp
          refine Calls.mono (hCa _ hZ) ?_
          rintro e w3 ⟨rfl, hw3⟩
          have hx3 := below_same hw3
          clear hw3
          go_wp2_with fail
          refine hK.out _ _ (bthen hZ hx3) (fun hZ => ?_)
          clear hK K
          try simp only[Act.put,sa,s0,s1]
          refine uq 38 q5be_56_8_38 66 hZ ?_
          refine uq 39 q5be_56_8_39 67 hZ ?_
          refine uq 40 q5be_56_8_40 68 hZ ?_
          refine uq 41 q5be_56_8_41 69 hZ ?_
          refine uq 42 q5be_56_8_42 70 hZ ?_
          refine uq 43 q5be_56_8_43 71 hZ ?_
          refine ar1 44 q5be_56_8_44 fun K hK => ?_
          go_simp
          refine Calls.mono (hCb _ hZ) ?_
          rintro e w4 ⟨rfl, hw4⟩
          have hx4 := below_same hw4
          clear hw4
          go_wp2_with fail
          refine hK.out _ _ (bthen hZ hx4) (fun hZ => ?_)
          clear hK K
          try simp only[Act.put,sa,s0,s1]
          refine uq 45 q5be_56_8_45 73 hZ ?_
          refine uq 46 q5be_56_8_46 74 hZ ?_
          refine uq 47 q5be_56_8_47 75 hZ ?_
          refine wpAnyH_done (by kernel_rfl) ?_ _
          go_wp2_with fail
          go_ret
          exact ⟨by rw [HV.out]; rfl, bthen hbW hZ⟩
       ·have e3 : inRange n.fSure 0 n.fData.length = false := inRange_no hSu
        have HV : Hid (specOk m = false) := HFAIL.out (by rw [HSI.out, HNI.out]; rw [decide_eq_false (by omega)]; rfl)
        clear HFAIL HGO HSI HNI hSu HSP
        refine wp_region_held_drew (S := fun W => Below wq.heap.size wq W) (by kernel_rfl) (Below.drew rB) (fun hZ => ?_)
        refine uq 0 q5be_56_8_0 28 hZ ?_
        refine uq 1 q5be_56_8_1 29 hZ ?_
        refine uq 2 q5be_56_8_2 30 hZ ?_
        refine uq 3 q5be_56_8_3 31 hZ ?_
        refine uq 4 q5be_56_8_4 32 hZ ?_
        refine ar1 5 q5be_56_8_5 fun K hK => ?_
        go_simp
        refine Calls.mono (l1In_any _ _ _ _) ?_
        rintro e w1 ⟨rfl, hw1⟩
        have hx1 := below_same hw1
        clear hw1
        (try simp only [e1, e3])
        go_wp2_with fail
        refine hK.out _ _ (bthen hZ hx1) (fun hZ => ?_)
        clear hK K
        try simp only[Act.put,sa,s0,s1]
        refine uq 6 q5be_56_8_6 34 hZ ?_
        refine uq 7 q5be_56_8_7 35 hZ ?_
        refine uq 8 q5be_56_8_8 36 hZ ?_
        refine uq 9 q5be_56_8_9 37 hZ ?_
        refine uq 10 q5be_56_8_10 38 hZ ?_
        refine um 11 q5be_56_8_11 39 hZ ?_
        refine um 12 q5be_56_8_12 40 hZ ?_
        refine um 13 q5be_56_8_13 41 hZ ?_
        refine um 14 q5be_56_8_14 42 hZ ?_
        refine um 15 q5be_56_8_15 43 hZ ?_
        refine um 16 q5be_56_8_16 44 hZ ?_
        refine um 17 q5be_56_8_17 45 hZ ?_
        refine um 18 q5be_56_8_18 46 hZ ?_
        refine um 19 q5be_56_8_19 47 hZ ?_
        refine um 20 q5be_56_8_20 48 hZ ?_
        refine uq 21 q5be_56_8_21 49 hZ ?_
        refine uq 22 q5be_56_8_22 50 hZ ?_
        refine uq 23 q5be_56_8_23 51 hZ ?_
        refine uq 24 q5be_56_8_24 52 hZ ?_
        refine uq 25 q5be_56_8_25 53 hZ ?_
        refine uq 26 q5be_56_8_26 54 hZ ?_
        refine uq 27 q5be_56_8_27 55 hZ ?_
        refine uq 28 q5be_56_8_28 56 hZ ?_
        refine ar1 29 q5be_56_8_29 fun K hK => ?_
        go_simp
        refine Calls.mono (l1In_any _ _ _ _) ?_
        rintro e w2 ⟨rfl, hw2⟩
        have hx2 := below_same hw2
        clear hw2
        (try simp only [e1, e3])
        go_wp2_with fail
        refine hK.out _ _ (bthen hZ hx2) (fun hZ => ?_)
        clear hK K
        try simp only[Act.put,sa,s0,s1]
        refine uq 30 q5be_56_8_30 58 hZ ?_
        refine uq 31 q5be_56_8_31 59 hZ ?_
        refine uq 32 q5be_56_8_32 60 hZ ?_
        refine um 33 q5be_56_8_33 61 hZ ?_
        refine um 34 q5be_56_8_34 62 hZ ?_
        refine um 35 q5be_56_8_35 63 hZ ?_
        refine um 36 q5be_56_8_36 64 hZ ?_
        refine um 37 q5be_56_8_37 65 hZ ?_
        refine um 38 q5be_56_8_38 66 hZ ?_
        refine um 39 q5be_56_8_39 67 hZ ?_
        refine um 40 q5be_56_8_40 68 hZ ?_
        refine um 41 q5be_56_8_41 69 hZ ?_
        refine um 42 q5be_56_8_42 70 hZ ?_
        refine um 43 q5be_56_8_43 71 hZ ?_
        refine um 44 q5be_56_8_44 72 hZ ?_
        refine um 45 q5be_56_8_45 73 hZ ?_
        refine um 46 q5be_56_8_46 74 hZ ?_
        refine uq 47 q5be_56_8_47 75 hZ ?_
        refine wpAnyH_done (by kernel_rfl) ?_ _
        go_wp2_with fail
        go_ret
        exact ⟨by rw [HV.out]; rfl, bthen hbW hZ⟩
      ·obtain ⟨j, rfl⟩ : ∃ j, k = j + 1 := ⟨k - 1, by omega⟩
       have hjl : j < m.fInodes.length := by omega
       have kp := HPR.out j rfl hjl
       have qp : ∀ W, Below wq.heap.size wq W -> W.cell? ⟨b1, o1 + j * 3, none⟩ = some (.int .i64 pv) := fun W hb => ((bthen hbq hb).cell (p := ⟨b1, o1 + j * 3, none⟩) hy1).trans kp
       have hz3 : (0 : Int) < (j : Int) + 1 := by omega
       have hz4 : (j : Int) < (m.fInodes.length : Int) := by omega
       have hz5 : (0 : Int) <= (j : Int) + 1 := by omega
       have hwr : IntKind.i64.wrap (j : Int) = j := by simp (disch := omega) only [IntWalk.i64_in]
       clear kp HPR h0
       by_cases hp : pv < n.fId
       ·have hp2 : (n.fId <= pv) = False := eq_false (by omega)
        by_cases hSu : 0 <= n.fSure /\ n.fSure <= n.fData.length
        ·have e3 : inRange n.fSure 0 n.fData.length = true := inRange_yes hSu.1 hSu.2
         obtain ⟨hSu1, hSu2⟩ := hSu
         by_cases hA : named m.fNames n.fId = true
         ·have HGo := HGO.out (by rw [HSI.out, HNI.out, hA, decide_eq_true (by omega)]; rfl)
          simp only [hA] at hCa
          clear hCb HFAIL HGO HSI HNI hA HSP
          refine wp_region_held_drew (S := fun W => Below wq.heap.size wq W) (by kernel_rfl) (Below.drew rB) (fun hZ => ?_)
          refine uq 0 q5be_56_8_0 28 hZ ?_
          refine uq 1 q5be_56_8_1 29 hZ ?_
          refine uq 2 q5be_56_8_2 30 hZ ?_
          refine uq 3 q5be_56_8_3 31 hZ ?_
          refine uq 4 q5be_56_8_4 32 hZ ?_
          refine ar1 5 q5be_56_8_5 fun K hK => ?_
          go_simp
          refine Calls.mono (l1In_any _ _ _ _) ?_
          rintro e w1 ⟨rfl, hw1⟩
          have hx1 := below_same hw1
          clear hw1
          (try simp only [e1, e3])
          go_wp2_with fail
          refine hK.out _ _ (bthen hZ hx1) (fun hZ => ?_)
          clear hK K
          try simp only[Act.put,sa,s0,s1]
          refine uq 6 q5be_56_8_6 34 hZ ?_
          refine uq 7 q5be_56_8_7 35 hZ ?_
          refine uq 8 q5be_56_8_8 36 hZ ?_
          refine uq 9 q5be_56_8_9 37 hZ ?_
          refine uq 10 q5be_56_8_10 38 hZ ?_
          refine uq 11 q5be_56_8_11 39 hZ ?_
          refine uq 12 q5be_56_8_12 40 hZ ?_
          refine uq 13 q5be_56_8_13 41 hZ ?_
          refine uq 14 q5be_56_8_14 42 hZ ?_
          refine uq 15 q5be_56_8_15 43 hZ ?_
          refine uq 16 q5be_56_8_16 44 hZ ?_
          refine uq 17 q5be_56_8_17 45 hZ ?_
          refine uq 18 q5be_56_8_18 46 hZ ?_
          refine uq 19 q5be_56_8_19 47 hZ ?_
          refine uq 20 q5be_56_8_20 48 hZ ?_
          refine uq 21 q5be_56_8_21 49 hZ ?_
          refine uq 22 q5be_56_8_22 50 hZ ?_
          refine uq 23 q5be_56_8_23 51 hZ ?_
          refine uq 24 q5be_56_8_24 52 hZ ?_
          refine uq 25 q5be_56_8_25 53 hZ ?_
          refine uq 26 q5be_56_8_26 54 hZ ?_
          refine uq 27 q5be_56_8_27 55 hZ ?_
          refine uq 28 q5be_56_8_28 56 hZ ?_
          refine ar1 29 q5be_56_8_29 fun K hK => ?_
          go_simp
          refine Calls.mono (l1In_any _ _ _ _) ?_
          rintro e w2 ⟨rfl, hw2⟩
          have hx2 := below_same hw2
          clear hw2
          (try simp only [e1, e3])
          go_wp2_with fail
          refine hK.out _ _ (bthen hZ hx2) (fun hZ => ?_)
          clear hK K
          try simp only[Act.put,sa,s0,s1]
          refine uq 30 q5be_56_8_30 58 hZ ?_
          refine uq 31 q5be_56_8_31 59 hZ ?_
          refine uq 32 q5be_56_8_32 60 hZ ?_
          refine uq 33 q5be_56_8_33 61 hZ ?_
          refine uq 34 q5be_56_8_34 62 hZ ?_
          refine uq 35 q5be_56_8_35 63 hZ ?_
          refine uq 36 q5be_56_8_36 64 hZ ?_
          refine ar1 37 q5be_56_8_37 fun K hK => ?_
          go_simp
          refine Calls.mono (hCa _ hZ) ?_
          rintro e w3 ⟨rfl, hw3⟩
          have hx3 := below_same hw3
          clear hw3
          go_wp2_with fail
          refine hK.out _ _ (bthen hZ hx3) (fun hZ => ?_)
          clear hK K
          try simp only[Act.put,sa,s0,s1]
          refine uq 38 q5be_56_8_38 66 hZ ?_
          refine uq 39 q5be_56_8_39 67 hZ ?_
          refine um 40 q5be_56_8_40 68 hZ ?_
          refine um 41 q5be_56_8_41 69 hZ ?_
          refine um 42 q5be_56_8_42 70 hZ ?_
          refine um 43 q5be_56_8_43 71 hZ ?_
          refine um 44 q5be_56_8_44 72 hZ ?_
          refine um 45 q5be_56_8_45 73 hZ ?_
          refine uq 46 q5be_56_8_46 74 hZ ?_
          refine uq 47 q5be_56_8_47 75 hZ ?_
          refine wpAnyH_done (by kernel_rfl) ?_ _
          have r1 := q1 _ hZ
          have r0 := p0 _ hZ
          go_wp2_with fail
          go_roundw
          case rel => exact ⟨j + 1 + 1, by omega, by go_num, by rw [HWS.out]; go_num, by rw [HPI.out]; omega, HGo, bthen hbW hZ, hbx2.under hZ⟩
          case measure => simp [intOf]; omega
         ·have hA2 : named m.fNames n.fId = false := by simpa using hA
          simp only [hA2] at hCa
          by_cases hB2 : named m.fSafe n.fId = true
          ·have HGo := HGO.out (by rw [HSI.out, HNI.out, hB2, decide_eq_true (by omega)]; simp)
           simp only [hB2] at hCb
           clear HFAIL HGO HSI HNI hA hA2 hB2 HSP
           refine wp_region_held_drew (S := fun W => Below wq.heap.size wq W) (by kernel_rfl) (Below.drew rB) (fun hZ => ?_)
           refine uq 0 q5be_56_8_0 28 hZ ?_
           refine uq 1 q5be_56_8_1 29 hZ ?_
           refine uq 2 q5be_56_8_2 30 hZ ?_
           refine uq 3 q5be_56_8_3 31 hZ ?_
           refine uq 4 q5be_56_8_4 32 hZ ?_
           refine ar1 5 q5be_56_8_5 fun K hK => ?_
           go_simp
           refine Calls.mono (l1In_any _ _ _ _) ?_
           rintro e w1 ⟨rfl, hw1⟩
           have hx1 := below_same hw1
           clear hw1
           (try simp only [e1, e3])
           go_wp2_with fail
           refine hK.out _ _ (bthen hZ hx1) (fun hZ => ?_)
           clear hK K
           try simp only[Act.put,sa,s0,s1]
           refine uq 6 q5be_56_8_6 34 hZ ?_
           refine uq 7 q5be_56_8_7 35 hZ ?_
           refine uq 8 q5be_56_8_8 36 hZ ?_
           refine uq 9 q5be_56_8_9 37 hZ ?_
           refine uq 10 q5be_56_8_10 38 hZ ?_
           refine uq 11 q5be_56_8_11 39 hZ ?_
           refine uq 12 q5be_56_8_12 40 hZ ?_
           refine uq 13 q5be_56_8_13 41 hZ ?_
           refine uq 14 q5be_56_8_14 42 hZ ?_
           refine uq 15 q5be_56_8_15 43 hZ ?_
           refine uq 16 q5be_56_8_16 44 hZ ?_
           refine uq 17 q5be_56_8_17 45 hZ ?_
           refine uq 18 q5be_56_8_18 46 hZ ?_
           refine uq 19 q5be_56_8_19 47 hZ ?_
           refine uq 20 q5be_56_8_20 48 hZ ?_
           refine uq 21 q5be_56_8_21 49 hZ ?_
           refine uq 22 q5be_56_8_22 50 hZ ?_
           refine uq 23 q5be_56_8_23 51 hZ ?_
           refine uq 24 q5be_56_8_24 52 hZ ?_
           refine uq 25 q5be_56_8_25 53 hZ ?_
           refine uq 26 q5be_56_8_26 54 hZ ?_
           refine uq 27 q5be_56_8_27 55 hZ ?_
           refine uq 28 q5be_56_8_28 56 hZ ?_
           refine ar1 29 q5be_56_8_29 fun K hK => ?_
           go_simp
           refine Calls.mono (l1In_any _ _ _ _) ?_
           rintro e w2 ⟨rfl, hw2⟩
           have hx2 := below_same hw2
           clear hw2
           (try simp only [e1, e3])
           go_wp2_with fail
           refine hK.out _ _ (bthen hZ hx2) (fun hZ => ?_)
           clear hK K
           try simp only[Act.put,sa,s0,s1]
           refine uq 30 q5be_56_8_30 58 hZ ?_
           refine uq 31 q5be_56_8_31 59 hZ ?_
           refine uq 32 q5be_56_8_32 60 hZ ?_
           refine uq 33 q5be_56_8_33 61 hZ ?_
           refine uq 34 q5be_56_8_34 62 hZ ?_
           refine uq 35 q5be_56_8_35 63 hZ ?_
           refine uq 36 q5be_56_8_36 64 hZ ?_
           refine ar1 37 q5be_56_8_37 fun K hK => ?_
           go_simp
           refine Calls.mono (hCa _ hZ) ?_
           rintro e w3 ⟨rfl, hw3⟩
           have hx3 := below_same hw3
           clear hw3
           go_wp2_with fail
           refine hK.out _ _ (bthen hZ hx3) (fun hZ => ?_)
           clear hK K
           try simp only[Act.put,sa,s0,s1]
           refine uq 38 q5be_56_8_38 66 hZ ?_
           refine uq 39 q5be_56_8_39 67 hZ ?_
           refine uq 40 q5be_56_8_40 68 hZ ?_
           refine uq 41 q5be_56_8_41 69 hZ ?_
           refine uq 42 q5be_56_8_42 70 hZ ?_
           refine uq 43 q5be_56_8_43 71 hZ ?_
           refine ar1 44 q5be_56_8_44 fun K hK => ?_
           go_simp
           refine Calls.mono (hCb _ hZ) ?_
           rintro e w4 ⟨rfl, hw4⟩
           have hx4 := below_same hw4
           clear hw4
           go_wp2_with fail
           refine hK.out _ _ (bthen hZ hx4) (fun hZ => ?_)
           clear hK K
           try simp only[Act.put,sa,s0,s1]
           refine uq 45 q5be_56_8_45 73 hZ ?_
           refine uq 46 q5be_56_8_46 74 hZ ?_
           refine uq 47 q5be_56_8_47 75 hZ ?_
           refine wpAnyH_done (by kernel_rfl) ?_ _
           have r1 := q1 _ hZ
           have r0 := p0 _ hZ
           go_wp2_with fail
           go_roundw
           case rel => exact ⟨j + 1 + 1, by omega, by go_num, by rw [HWS.out]; go_num, by rw [HPI.out]; omega, HGo, bthen hbW hZ, hbx2.under hZ⟩
           case measure => simp [intOf]; omega
          ·have hB3 : named m.fSafe n.fId = false := by simpa using hB2
           simp only [hB3] at hCb
           have HV : Hid (specOk m = false) := HFAIL.out (by rw [HSI.out, HNI.out]; rw [hA2, hB3]; simp)
           clear HFAIL HGO HSI HNI hA hA2 hB2 hB3 HSP
           refine wp_region_held_drew (S := fun W => Below wq.heap.size wq W) (by kernel_rfl) (Below.drew rB) (fun hZ => ?_)
           refine uq 0 q5be_56_8_0 28 hZ ?_
           refine uq 1 q5be_56_8_1 29 hZ ?_
           refine uq 2 q5be_56_8_2 30 hZ ?_
           refine uq 3 q5be_56_8_3 31 hZ ?_
           refine uq 4 q5be_56_8_4 32 hZ ?_
           refine ar1 5 q5be_56_8_5 fun K hK => ?_
           go_simp
           refine Calls.mono (l1In_any _ _ _ _) ?_
           rintro e w1 ⟨rfl, hw1⟩
           have hx1 := below_same hw1
           clear hw1
           (try simp only [e1, e3])
           go_wp2_with fail
           refine hK.out _ _ (bthen hZ hx1) (fun hZ => ?_)
           clear hK K
           try simp only[Act.put,sa,s0,s1]
           refine uq 6 q5be_56_8_6 34 hZ ?_
           refine uq 7 q5be_56_8_7 35 hZ ?_
           refine uq 8 q5be_56_8_8 36 hZ ?_
           refine uq 9 q5be_56_8_9 37 hZ ?_
           refine uq 10 q5be_56_8_10 38 hZ ?_
           refine uq 11 q5be_56_8_11 39 hZ ?_
           refine uq 12 q5be_56_8_12 40 hZ ?_
           refine uq 13 q5be_56_8_13 41 hZ ?_
           refine uq 14 q5be_56_8_14 42 hZ ?_
           refine uq 15 q5be_56_8_15 43 hZ ?_
           refine uq 16 q5be_56_8_16 44 hZ ?_
           refine uq 17 q5be_56_8_17 45 hZ ?_
           refine uq 18 q5be_56_8_18 46 hZ ?_
           refine uq 19 q5be_56_8_19 47 hZ ?_
           refine uq 20 q5be_56_8_20 48 hZ ?_
           refine uq 21 q5be_56_8_21 49 hZ ?_
           refine uq 22 q5be_56_8_22 50 hZ ?_
           refine uq 23 q5be_56_8_23 51 hZ ?_
           refine uq 24 q5be_56_8_24 52 hZ ?_
           refine uq 25 q5be_56_8_25 53 hZ ?_
           refine uq 26 q5be_56_8_26 54 hZ ?_
           refine uq 27 q5be_56_8_27 55 hZ ?_
           refine uq 28 q5be_56_8_28 56 hZ ?_
           refine ar1 29 q5be_56_8_29 fun K hK => ?_
           go_simp
           refine Calls.mono (l1In_any _ _ _ _) ?_
           rintro e w2 ⟨rfl, hw2⟩
           have hx2 := below_same hw2
           clear hw2
           (try simp only [e1, e3])
           go_wp2_with fail
           refine hK.out _ _ (bthen hZ hx2) (fun hZ => ?_)
           clear hK K
           try simp only[Act.put,sa,s0,s1]
           refine uq 30 q5be_56_8_30 58 hZ ?_
           refine uq 31 q5be_56_8_31 59 hZ ?_
           refine uq 32 q5be_56_8_32 60 hZ ?_
           refine uq 33 q5be_56_8_33 61 hZ ?_
           refine uq 34 q5be_56_8_34 62 hZ ?_
           refine uq 35 q5be_56_8_35 63 hZ ?_
           refine uq 36 q5be_56_8_36 64 hZ ?_
           refine ar1 37 q5be_56_8_37 fun K hK => ?_
           go_simp
           refine Calls.mono (hCa _ hZ) ?_
           rintro e w3 ⟨rfl, hw3⟩
           have hx3 := below_same hw3
           clear hw3
           go_wp2_with fail
           refine hK.out _ _ (bthen hZ hx3) (fun hZ => ?_)
           clear hK K
           try simp only[Act.put,sa,s0,s1]
           refine uq 38 q5be_56_8_38 66 hZ ?_
           refine uq 39 q5be_56_8_39 67 hZ ?_
           refine uq 40 q5be_56_8_40 68 hZ ?_
           refine uq 41 q5be_56_8_41 69 hZ ?_
           refine uq 42 q5be_56_8_42 70 hZ ?_
           refine uq 43 q5be_56_8_43 71 hZ ?_
           refine ar1 44 q5be_56_8_44 fun K hK => ?_
           go_simp
           refine Calls.mono (hCb _ hZ) ?_
           rintro e w4 ⟨rfl, hw4⟩
           have hx4 := below_same hw4
           clear hw4
           go_wp2_with fail
           refine hK.out _ _ (bthen hZ hx4) (fun hZ => ?_)
           clear hK K
           try simp only[Act.put,sa,s0,s1]
           refine uq 45 q5be_56_8_45 73 hZ ?_
           refine uq 46 q5be_56_8_46 74 hZ ?_
           refine uq 47 q5be_56_8_47 75 hZ ?_
           refine wpAnyH_done (by kernel_rfl) ?_ _
           go_wp2_with fail
           go_ret
           exact ⟨by rw [HV.out]; rfl, bthen hbW hZ⟩
        ·have e3 : inRange n.fSure 0 n.fData.length = false := inRange_no hSu
         have HV : Hid (specOk m = false) := HFAIL.out (by rw [HSI.out, HNI.out]; rw [decide_eq_false (by omega)]; rfl)
         clear HFAIL HGO HSI HNI hSu HSP
         refine wp_region_held_drew (S := fun W => Below wq.heap.size wq W) (by kernel_rfl) (Below.drew rB) (fun hZ => ?_)
         refine uq 0 q5be_56_8_0 28 hZ ?_
         refine uq 1 q5be_56_8_1 29 hZ ?_
         refine uq 2 q5be_56_8_2 30 hZ ?_
         refine uq 3 q5be_56_8_3 31 hZ ?_
         refine uq 4 q5be_56_8_4 32 hZ ?_
         refine ar1 5 q5be_56_8_5 fun K hK => ?_
         go_simp
         refine Calls.mono (l1In_any _ _ _ _) ?_
         rintro e w1 ⟨rfl, hw1⟩
         have hx1 := below_same hw1
         clear hw1
         (try simp only [e1, e3])
         go_wp2_with fail
         refine hK.out _ _ (bthen hZ hx1) (fun hZ => ?_)
         clear hK K
         try simp only[Act.put,sa,s0,s1]
         refine uq 6 q5be_56_8_6 34 hZ ?_
         refine uq 7 q5be_56_8_7 35 hZ ?_
         refine uq 8 q5be_56_8_8 36 hZ ?_
         refine uq 9 q5be_56_8_9 37 hZ ?_
         refine uq 10 q5be_56_8_10 38 hZ ?_
         refine uq 11 q5be_56_8_11 39 hZ ?_
         refine uq 12 q5be_56_8_12 40 hZ ?_
         refine uq 13 q5be_56_8_13 41 hZ ?_
         refine uq 14 q5be_56_8_14 42 hZ ?_
         refine uq 15 q5be_56_8_15 43 hZ ?_
         refine uq 16 q5be_56_8_16 44 hZ ?_
         refine uq 17 q5be_56_8_17 45 hZ ?_
         refine uq 18 q5be_56_8_18 46 hZ ?_
         refine uq 19 q5be_56_8_19 47 hZ ?_
         refine uq 20 q5be_56_8_20 48 hZ ?_
         refine uq 21 q5be_56_8_21 49 hZ ?_
         refine uq 22 q5be_56_8_22 50 hZ ?_
         refine uq 23 q5be_56_8_23 51 hZ ?_
         refine uq 24 q5be_56_8_24 52 hZ ?_
         refine uq 25 q5be_56_8_25 53 hZ ?_
         refine uq 26 q5be_56_8_26 54 hZ ?_
         refine uq 27 q5be_56_8_27 55 hZ ?_
         refine uq 28 q5be_56_8_28 56 hZ ?_
         refine ar1 29 q5be_56_8_29 fun K hK => ?_
         go_simp
         refine Calls.mono (l1In_any _ _ _ _) ?_
         rintro e w2 ⟨rfl, hw2⟩
         have hx2 := below_same hw2
         clear hw2
         (try simp only [e1, e3])
         go_wp2_with fail
         refine hK.out _ _ (bthen hZ hx2) (fun hZ => ?_)
         clear hK K
         try simp only[Act.put,sa,s0,s1]
         refine uq 30 q5be_56_8_30 58 hZ ?_
         refine uq 31 q5be_56_8_31 59 hZ ?_
         refine uq 32 q5be_56_8_32 60 hZ ?_
         refine um 33 q5be_56_8_33 61 hZ ?_
         refine um 34 q5be_56_8_34 62 hZ ?_
         refine um 35 q5be_56_8_35 63 hZ ?_
         refine um 36 q5be_56_8_36 64 hZ ?_
         refine um 37 q5be_56_8_37 65 hZ ?_
         refine um 38 q5be_56_8_38 66 hZ ?_
         refine um 39 q5be_56_8_39 67 hZ ?_
         refine um 40 q5be_56_8_40 68 hZ ?_
         refine um 41 q5be_56_8_41 69 hZ ?_
         refine um 42 q5be_56_8_42 70 hZ ?_
         refine um 43 q5be_56_8_43 71 hZ ?_
         refine um 44 q5be_56_8_44 72 hZ ?_
         refine um 45 q5be_56_8_45 73 hZ ?_
         refine um 46 q5be_56_8_46 74 hZ ?_
         refine uq 47 q5be_56_8_47 75 hZ ?_
         refine wpAnyH_done (by kernel_rfl) ?_ _
         go_wp2_with fail
         go_ret
         exact ⟨by rw [HV.out]; rfl, bthen hbW hZ⟩
       ·have hp2 : n.fId <= pv := by omega
        have HV : Hid (specOk m = false) := HFAIL.out (by rw [HSI.out, HNI.out]; rw [decide_eq_false (by omega)]; rfl)
        have e3 := e1
        clear HFAIL HGO HSI HNI hp HSP
        refine wp_region_held_drew (S := fun W => Below wq.heap.size wq W) (by kernel_rfl) (Below.drew rB) (fun hZ => ?_)
        refine uq 0 q5be_56_8_0 28 hZ ?_
        refine uq 1 q5be_56_8_1 29 hZ ?_
        refine uq 2 q5be_56_8_2 30 hZ ?_
        refine uq 3 q5be_56_8_3 31 hZ ?_
        refine uq 4 q5be_56_8_4 32 hZ ?_
        refine ar1 5 q5be_56_8_5 fun K hK => ?_
        go_simp
        refine Calls.mono (l1In_any _ _ _ _) ?_
        rintro e w1 ⟨rfl, hw1⟩
        have hx1 := below_same hw1
        clear hw1
        (try simp only [e1, e3])
        go_wp2_with fail
        refine hK.out _ _ (bthen hZ hx1) (fun hZ => ?_)
        clear hK K
        try simp only[Act.put,sa,s0,s1]
        refine uq 6 q5be_56_8_6 34 hZ ?_
        refine uq 7 q5be_56_8_7 35 hZ ?_
        refine uq 8 q5be_56_8_8 36 hZ ?_
        refine uq 9 q5be_56_8_9 37 hZ ?_
        refine uq 10 q5be_56_8_10 38 hZ ?_
        refine uq 11 q5be_56_8_11 39 hZ ?_
        refine uq 12 q5be_56_8_12 40 hZ ?_
        refine uq 13 q5be_56_8_13 41 hZ ?_
        refine uq 14 q5be_56_8_14 42 hZ ?_
        refine uq 15 q5be_56_8_15 43 hZ ?_
        refine uq 16 q5be_56_8_16 44 hZ ?_
        refine uq 17 q5be_56_8_17 45 hZ ?_
        refine uq 18 q5be_56_8_18 46 hZ ?_
        refine uq 19 q5be_56_8_19 47 hZ ?_
        refine uq 20 q5be_56_8_20 48 hZ ?_
        refine uq 21 q5be_56_8_21 49 hZ ?_
        refine uq 22 q5be_56_8_22 50 hZ ?_
        refine uq 23 q5be_56_8_23 51 hZ ?_
        refine um 24 q5be_56_8_24 52 hZ ?_
        refine um 25 q5be_56_8_25 53 hZ ?_
        refine um 26 q5be_56_8_26 54 hZ ?_
        refine um 27 q5be_56_8_27 55 hZ ?_
        refine um 28 q5be_56_8_28 56 hZ ?_
        refine um 29 q5be_56_8_29 57 hZ ?_
        refine um 30 q5be_56_8_30 58 hZ ?_
        refine uq 31 q5be_56_8_31 59 hZ ?_
        refine uq 32 q5be_56_8_32 60 hZ ?_
        refine um 33 q5be_56_8_33 61 hZ ?_
        refine um 34 q5be_56_8_34 62 hZ ?_
        refine um 35 q5be_56_8_35 63 hZ ?_
        refine um 36 q5be_56_8_36 64 hZ ?_
        refine um 37 q5be_56_8_37 65 hZ ?_
        refine um 38 q5be_56_8_38 66 hZ ?_
        refine um 39 q5be_56_8_39 67 hZ ?_
        refine um 40 q5be_56_8_40 68 hZ ?_
        refine um 41 q5be_56_8_41 69 hZ ?_
        refine um 42 q5be_56_8_42 70 hZ ?_
        refine um 43 q5be_56_8_43 71 hZ ?_
        refine um 44 q5be_56_8_44 72 hZ ?_
        refine um 45 q5be_56_8_45 73 hZ ?_
        refine um 46 q5be_56_8_46 74 hZ ?_
        refine uq 47 q5be_56_8_47 75 hZ ?_
        refine wpAnyH_done (by kernel_rfl) ?_ _
        go_wp2_with fail
        go_ret
        exact ⟨by rw [HV.out]; rfl, bthen hbW hZ⟩
     ·have e1 : inRange n.fId 1 (m.fNext - 1) = false := inRange_no h1
      have HV : Hid (specOk m = false) := HFAIL.out (by rw [HSI.out, HNI.out]; rw [decide_eq_false (by omega)]; rfl)
      have e3 := e1
      clear HFAIL HGO HSI HNI h1 HSP
      refine wp_region_held_drew (S := fun W => Below wq.heap.size wq W) (by kernel_rfl) (Below.drew rB) (fun hZ => ?_)
      refine uq 0 q5be_56_8_0 28 hZ ?_
      refine uq 1 q5be_56_8_1 29 hZ ?_
      refine uq 2 q5be_56_8_2 30 hZ ?_
      refine uq 3 q5be_56_8_3 31 hZ ?_
      refine uq 4 q5be_56_8_4 32 hZ ?_
      refine ar1 5 q5be_56_8_5 fun K hK => ?_
      go_simp
      refine Calls.mono (l1In_any _ _ _ _) ?_
      rintro e w1 ⟨rfl, hw1⟩
      have hx1 := below_same hw1
      clear hw1
      (try simp only [e1, e3])
      go_wp2_with fail
      refine hK.out _ _ (bthen hZ hx1) (fun hZ => ?_)
      clear hK K
      try simp only[Act.put,sa,s0,s1]
      refine uq 6 q5be_56_8_6 34 hZ ?_
      refine uq 7 q5be_56_8_7 35 hZ ?_
      refine um 8 q5be_56_8_8 36 hZ ?_
      refine um 9 q5be_56_8_9 37 hZ ?_
      refine um 10 q5be_56_8_10 38 hZ ?_
      refine um 11 q5be_56_8_11 39 hZ ?_
      refine um 12 q5be_56_8_12 40 hZ ?_
      refine um 13 q5be_56_8_13 41 hZ ?_
      refine um 14 q5be_56_8_14 42 hZ ?_
      refine um 15 q5be_56_8_15 43 hZ ?_
      refine um 16 q5be_56_8_16 44 hZ ?_
      refine um 17 q5be_56_8_17 45 hZ ?_
      refine um 18 q5be_56_8_18 46 hZ ?_
      refine um 19 q5be_56_8_19 47 hZ ?_
      refine um 20 q5be_56_8_20 48 hZ ?_
      refine um 21 q5be_56_8_21 49 hZ ?_
      refine uq 22 q5be_56_8_22 50 hZ ?_
      refine uq 23 q5be_56_8_23 51 hZ ?_
      refine um 24 q5be_56_8_24 52 hZ ?_
      refine um 25 q5be_56_8_25 53 hZ ?_
      refine um 26 q5be_56_8_26 54 hZ ?_
      refine um 27 q5be_56_8_27 55 hZ ?_
      refine um 28 q5be_56_8_28 56 hZ ?_
      refine um 29 q5be_56_8_29 57 hZ ?_
      refine um 30 q5be_56_8_30 58 hZ ?_
      refine uq 31 q5be_56_8_31 59 hZ ?_
      refine uq 32 q5be_56_8_32 60 hZ ?_
      refine um 33 q5be_56_8_33 61 hZ ?_
      refine um 34 q5be_56_8_34 62 hZ ?_
      refine um 35 q5be_56_8_35 63 hZ ?_
      refine um 36 q5be_56_8_36 64 hZ ?_
      refine um 37 q5be_56_8_37 65 hZ ?_
      refine um 38 q5be_56_8_38 66 hZ ?_
      refine um 39 q5be_56_8_39 67 hZ ?_
      refine um 40 q5be_56_8_40 68 hZ ?_
      refine um 41 q5be_56_8_41 69 hZ ?_
      refine um 42 q5be_56_8_42 70 hZ ?_
      refine um 43 q5be_56_8_43 71 hZ ?_
      refine um 44 q5be_56_8_44 72 hZ ?_
      refine um 45 q5be_56_8_45 73 hZ ?_
      refine um 46 q5be_56_8_46 74 hZ ?_
      refine uq 47 q5be_56_8_47 75 hZ ?_
      refine wpAnyH_done (by kernel_rfl) ?_ _
      go_wp2_with fail
      go_ret
      exact ⟨by rw [HV.out]; rfl, bthen hbW hZ⟩
    ·have hkn : k = m.fInodes.length := by omega
     subst hkn
     rw [List.take_length]
     have HV0 : Hid ((okI m.fNext 0 m.fInodes && m.fInodes.all (isNamed m)) = true) := by
      show _ = true
      rw [HINV.out, List.drop_length]
      rfl
     have hCa := fun W (hb : Below wr.heap.size wr W) => l2Entries_any _ m a1 _ c1 m.fNames W (rDisk_good.mono (rDisk_good.below HR.out (bthen hbk hb)) (bthen hbk hb).size) (by omega) rfl (by omega) (LeafL.mono rEntry_good (HNL.out.below rEntry_good (bthen hbk hb)) (bthen hbk hb).size)
     have hCb := fun W (hb : Below wr.heap.size wr W) => l2Entries_any _ m a2 _ c2 m.fSafe W (rDisk_good.mono (rDisk_good.below HR.out (bthen hbk hb)) (bthen hbk hb).size) (by omega) rfl (by omega) (LeafL.mono rEntry_good (HSL.out.below rEntry_good (bthen hbk hb)) (bthen hbk hb).size)
     obtain ⟨sm, hsm⟩ : ∃ sm : Nat, sumW wInode m.fInodes = sm := ⟨_, rfl⟩
     obtain ⟨E1, hE1⟩ : ∃ E1 : Bool, (okE m.fInodes [] ByteArray.empty m.fNames && decide (m.fNames.length <= 30)) = E1 := ⟨_, rfl⟩
     obtain ⟨E2, hE2⟩ : ∃ E2 : Bool, (okE m.fInodes [] ByteArray.empty m.fSafe && decide (m.fSafe.length <= 30)) = E2 := ⟨_, rfl⟩
     have HFIN : Hid (specOk m = (decide (sm <= 60000) && E1 && E2)) := by
      show _ = _
      rw [HSP.out, HV0.out, hE1, hE2, hsm, Bool.true_and]
     simp only [hE1] at hCa
     simp only [hE2] at hCb
     rw [hsm] at hw2 ⊢
     clear hE1 hE2 hsm HSP HV0 HINV
     by_cases h6 : sm <= 60000
     ·have HD := Hm (decide_eq_true h6)
      cases E1
      ·go_wp2_with fail
       refine Calls.mono (hCa _ rB) ?_
       rintro e w1 ⟨rfl, hx1⟩
       go_wp2_with fail
       go_ret
       exact ⟨by rw [HFIN.out]; simp, bthen hbk hx1⟩
      ·go_wp2_with fail
       refine Calls.mono (hCa _ rB) ?_
       rintro e w1 ⟨rfl, hx1⟩
       have hb1 := hbx.under hx1
       have y0 := hb1.2 0 _ rfl
       have y1 := hb1.2 1 _ rfl
       have y2 := hb1.2 2 _ rfl
       have y3 := hb1.2 3 _ rfl
       go_wp2_with fail
       refine Calls.mono (hCb _ hx1) ?_
       rintro e w2 ⟨rfl, hx2⟩
       go_wp2_with fail
       go_ret
       exact ⟨by rw [HFIN.out, HD.out]; rfl, bthen hbk (bthen hx1 hx2)⟩
     ·have HD := Hm (decide_eq_false h6)
      go_wp2_with fail
      go_ret
      exact ⟨by rw [HFIN.out, HD.out]; rfl, hbk⟩
  ·have HV : Hid (specOk m = false) := by
    show specOk m = false
    unfold specOk
    rw [decide_eq_false hL]
    simp
   have hL2 : (60 : Int) < (m.fInodes.length : Int) := by omega
   go_enter Tryz.func56, Tryz.ntmps56
   go_wp2_with (go_at_call 82; refine (l1In_any _ _ _ _).mono ?_; rintro e w' ⟨rfl, rfl⟩)
   go_ret
   exact ⟨by rw [HV.out]; rfl, rB.alloc rN _⟩
 ·have e0 : inRange m.fNext 1 1000000 = false := inRange_no hN1
  have HV : Hid (specOk m = false) := by
   show specOk m = false
   unfold specOk
   rw [e0]
   simp
  go_enter Tryz.func56, Tryz.ntmps56
  go_wp2_with (go_at_call 82; refine (l1In_any _ _ _ _).mono ?_; rintro e w' ⟨rfl, rfl⟩)
  go_ret
  exact ⟨by rw [HV.out]; rfl, rB.alloc rN _⟩
theorem specDiskOk_b (cs : List Value) (m : MDisk) (w : World) (hr : rDisk w.heap.size w cs m) (hw : wDisk m <= 16777216) :
  Calls Tryz.prog 56 #[.agg cs.toArray] w fun e w' => e = .returned (.bool (diskOk m)) /\ Below w.heap.size w w' := by
 rw [<- specOk_eq]
 exact specDiskOk_any cs m w hr hw
theorem specDiskOk_c (cs : List Value) (m : MDisk) (w : World) (hr : rDisk w.heap.size w cs m) (hw : wDisk m <= 1048576) :
  Calls Tryz.prog 56 #[.agg cs.toArray] w fun e w' => e = .returned (.bool (diskOk m)) /\ Below w.heap.size w w' :=
 specDiskOk_b cs m w hr (by omega)
end Go.Proofs.YtegonncmopecnaaGreatDoor
