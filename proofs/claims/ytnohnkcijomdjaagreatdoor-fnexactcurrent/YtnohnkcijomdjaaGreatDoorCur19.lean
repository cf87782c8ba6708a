/-
  Part 20 of the texts that the proof leans on.
-/
import Derived.Test.YtnohnkcijomdjaaGreatDoorCur2
import Derived.Test.YtnohnkcijomdjaaGreatDoorCur18
set_option linter.unusedVariables false
set_option linter.unusedSimpArgs false
set_option maxRecDepth 10000

namespace Go.Proofs.YtnohnkcijomdjaaGreatDoor
open Go.RowKit
abbrev q5be_79_8_0 : Oper := ⟨some 28, .fieldAddr 92 (.tmp 5) 0, 0, "l02_files.go:57", #[], none⟩
abbrev q5be_79_8_1 : Oper := ⟨some 29, .load 3 (.tmp 28), 3, "l02_files.go:57", #[⟨0, .data⟩], none⟩
abbrev q5be_79_8_2 : Oper := ⟨some 30, .fieldAddr 39 (.tmp 1) 3, 0, "l02_files.go:57", #[], none⟩
abbrev q5be_79_8_3 : Oper := ⟨some 31, .load 3 (.tmp 30), 3, "l02_files.go:57", #[⟨2, .data⟩], none⟩
abbrev q5be_79_8_4 : Oper := ⟨some 32, .binOp .sub 3 (.tmp 31) (.const (.int .i64 1)) 3, 3, "l02_files.go:57", #[⟨3, .data⟩], none⟩
abbrev q5be_79_8_5 : Oper := ⟨some 33, .call { callee := .value (.func 37), args := #[.tmp 29, .const (.int .i64 1), .tmp 32], argTypes := #[3, 3, 3] }, 4, "l02_files.go:57", #[⟨1, .data⟩, ⟨4, .data⟩], none⟩
abbrev q5be_79_8_6 : Oper := ⟨some 34, .unOp .not 4 (.tmp 33), 4, "l02_files.go:57", #[⟨5, .data⟩], none⟩
abbrev q5be_79_8_7 : Oper := ⟨some 35, .move (.tmp 34), 4, "l02_files.go:57", #[⟨6, .data⟩, ⟨5, .chain⟩], none⟩
abbrev q5be_79_8_8 : Oper := ⟨some 36, .move (.tmp 4), 3, "l02_files.go:57", #[⟨7, .guard⟩], some (7, false)⟩
abbrev q5be_79_8_9 : Oper := ⟨some 37, .binOp .gtr 3 (.tmp 36) (.const (.int .i64 0)) 3, 4, "l02_files.go:57", #[⟨8, .data⟩, ⟨7, .guard⟩], some (7, false)⟩
abbrev q5be_79_8_10 : Oper := ⟨some 38, .move (.tmp 37), 4, "l02_files.go:57", #[⟨9, .data⟩, ⟨7, .chain⟩, ⟨7, .guard⟩], some (7, false)⟩
abbrev q5be_79_8_11 : Oper := ⟨some 39, .fieldAddr 39 (.tmp 1) 0, 0, "l02_files.go:57", #[⟨10, .guard⟩], some (10, true)⟩
abbrev q5be_79_8_12 : Oper := ⟨some 40, .load 36 (.tmp 39), 36, "l02_files.go:57", #[⟨11, .data⟩, ⟨10, .guard⟩], some (10, true)⟩
abbrev q5be_79_8_13 : Oper := ⟨some 41, .move (.tmp 4), 3, "l02_files.go:57", #[⟨10, .guard⟩], some (10, true)⟩
abbrev q5be_79_8_14 : Oper := ⟨some 42, .binOp .sub 3 (.tmp 41) (.const (.int .i64 1)) 3, 3, "l02_files.go:57", #[⟨13, .data⟩, ⟨10, .guard⟩], some (10, true)⟩
abbrev q5be_79_8_15 : Oper := ⟨some 43, .indexAddr 36 (.tmp 40) (.tmp 42), 0, "l02_files.go:57", #[⟨12, .data⟩, ⟨14, .data⟩, ⟨10, .guard⟩], some (10, true)⟩
abbrev q5be_79_8_16 : Oper := ⟨some 44, .fieldAddr 92 (.tmp 43) 0, 0, "l02_files.go:57", #[⟨15, .data⟩, ⟨10, .guard⟩], some (10, true)⟩
abbrev q5be_79_8_17 : Oper := ⟨some 45, .load 3 (.tmp 44), 3, "l02_files.go:57", #[⟨16, .data⟩, ⟨10, .guard⟩], some (10, true)⟩
abbrev q5be_79_8_18 : Oper := ⟨some 46, .fieldAddr 92 (.tmp 5) 0, 0, "l02_files.go:57", #[⟨10, .guard⟩], some (10, true)⟩
abbrev q5be_79_8_19 : Oper := ⟨some 47, .load 3 (.tmp 46), 3, "l02_files.go:57", #[⟨18, .data⟩, ⟨10, .guard⟩], some (10, true)⟩
abbrev q5be_79_8_20 : Oper := ⟨some 48, .binOp .geq 3 (.tmp 45) (.tmp 47) 3, 4, "l02_files.go:57", #[⟨17, .data⟩, ⟨19, .data⟩, ⟨10, .guard⟩], some (10, true)⟩
abbrev q5be_79_8_21 : Oper := ⟨some 49, .pick (.tmp 38) (.tmp 48) (.const (.bool false)), 4, "l02_files.go:57", #[⟨10, .data⟩, ⟨20, .data⟩, ⟨7, .guard⟩], some (7, false)⟩
abbrev q5be_79_8_22 : Oper := ⟨some 50, .pick (.tmp 35) (.const (.bool true)) (.tmp 49), 4, "l02_files.go:57", #[⟨7, .data⟩, ⟨21, .data⟩], none⟩
abbrev q5be_79_8_23 : Oper := ⟨some 51, .move (.tmp 50), 4, "l02_files.go:57", #[⟨22, .data⟩, ⟨10, .chain⟩], none⟩
abbrev q5be_79_8_24 : Oper := ⟨some 52, .fieldAddr 92 (.tmp 5) 2, 0, "l02_files.go:57", #[⟨23, .guard⟩], some (23, false)⟩
abbrev q5be_79_8_25 : Oper := ⟨some 53, .load 3 (.tmp 52), 3, "l02_files.go:57", #[⟨24, .data⟩, ⟨23, .guard⟩], some (23, false)⟩
abbrev q5be_79_8_26 : Oper := ⟨some 54, .fieldAddr 92 (.tmp 5) 1, 0, "l02_files.go:57", #[⟨23, .guard⟩], some (23, false)⟩
abbrev q5be_79_8_27 : Oper := ⟨some 55, .load 60 (.tmp 54), 60, "l02_files.go:57", #[⟨26, .data⟩, ⟨23, .guard⟩], some (23, false)⟩
abbrev q5be_79_8_28 : Oper := ⟨some 56, .call { callee := .builtin .len, args := #[.tmp 55], argTypes := #[60] }, 3, "l02_files.go:57", #[⟨27, .data⟩, ⟨23, .guard⟩], some (23, false)⟩
abbrev q5be_79_8_29 : Oper := ⟨some 57, .call { callee := .value (.func 37), args := #[.tmp 53, .const (.int .i64 0), .tmp 56], argTypes := #[3, 3, 3] }, 4, "l02_files.go:57", #[⟨25, .data⟩, ⟨28, .data⟩, ⟨23, .chain⟩, ⟨23, .guard⟩], some (23, false)⟩
abbrev q5be_79_8_30 : Oper := ⟨some 58, .unOp .not 4 (.tmp 57), 4, "l02_files.go:57", #[⟨29, .data⟩, ⟨23, .guard⟩], some (23, false)⟩
abbrev q5be_79_8_31 : Oper := ⟨some 59, .pick (.tmp 51) (.const (.bool true)) (.tmp 58), 4, "l02_files.go:57", #[⟨23, .data⟩, ⟨30, .data⟩], none⟩
abbrev q5be_79_8_32 : Oper := ⟨some 60, .move (.tmp 59), 4, "l02_files.go:57", #[⟨31, .data⟩, ⟨29, .chain⟩], none⟩
abbrev q5be_79_8_33 : Oper := ⟨some 61, .fieldAddr 39 (.tmp 1) 1, 0, "l02_files.go:57", #[⟨32, .guard⟩], some (32, false)⟩
abbrev q5be_79_8_34 : Oper := ⟨some 62, .load 37 (.tmp 61), 37, "l02_files.go:57", #[⟨33, .data⟩, ⟨32, .guard⟩], some (32, false)⟩
abbrev q5be_79_8_35 : Oper := ⟨some 63, .fieldAddr 92 (.tmp 5) 0, 0, "l02_files.go:57", #[⟨32, .guard⟩], some (32, false)⟩
abbrev q5be_79_8_36 : Oper := ⟨some 64, .load 3 (.tmp 63), 3, "l02_files.go:57", #[⟨35, .data⟩, ⟨32, .guard⟩], some (32, false)⟩
abbrev q5be_79_8_37 : Oper := ⟨some 65, .call { callee := .value (.func 97), args := #[.tmp 62, .tmp 64], argTypes := #[37, 3] }, 4, "l02_files.go:57", #[⟨34, .data⟩, ⟨36, .data⟩, ⟨32, .chain⟩, ⟨32, .guard⟩], some (32, false)⟩
abbrev q5be_79_8_38 : Oper := ⟨some 66, .unOp .not 4 (.tmp 65), 4, "l02_files.go:57", #[⟨37, .data⟩, ⟨32, .guard⟩], some (32, false)⟩
abbrev q5be_79_8_39 : Oper := ⟨some 67, .move (.tmp 66), 4, "l02_files.go:57", #[⟨38, .data⟩, ⟨37, .chain⟩, ⟨32, .guard⟩], some (32, false)⟩
abbrev q5be_79_8_40 : Oper := ⟨some 68, .fieldAddr 39 (.tmp 1) 2, 0, "l02_files.go:57", #[⟨39, .guard⟩], some (39, true)⟩
abbrev q5be_79_8_41 : Oper := ⟨some 69, .load 37 (.tmp 68), 37, "l02_files.go:57", #[⟨40, .data⟩, ⟨39, .guard⟩], some (39, true)⟩
abbrev q5be_79_8_42 : Oper := ⟨some 70, .fieldAddr 92 (.tmp 5) 0, 0, "l02_files.go:57", #[⟨39, .guard⟩], some (39, true)⟩
abbrev q5be_79_8_43 : Oper := ⟨some 71, .load 3 (.tmp 70), 3, "l02_files.go:57", #[⟨42, .data⟩, ⟨39, .guard⟩], some (39, true)⟩
abbrev q5be_79_8_44 : Oper := ⟨some 72, .call { callee := .value (.func 97), args := #[.tmp 69, .tmp 71], argTypes := #[37, 3] }, 4, "l02_files.go:57", #[⟨41, .data⟩, ⟨43, .data⟩, ⟨39, .chain⟩, ⟨39, .guard⟩], some (39, true)⟩
abbrev q5be_79_8_45 : Oper := ⟨some 73, .unOp .not 4 (.tmp 72), 4, "l02_files.go:57", #[⟨44, .data⟩, ⟨39, .guard⟩], some (39, true)⟩
abbrev q5be_79_8_46 : Oper := ⟨some 74, .pick (.tmp 67) (.tmp 73) (.const (.bool false)), 4, "l02_files.go:57", #[⟨39, .data⟩, ⟨45, .data⟩, ⟨32, .guard⟩], some (32, false)⟩
abbrev q5be_79_8_47 : Oper := ⟨some 75, .pick (.tmp 60) (.const (.bool true)) (.tmp 74), 4, "l02_files.go:57", #[⟨32, .data⟩, ⟨46, .data⟩], none⟩

theorem okIN_step {d : MDisk} {l : List MInode} {k : Nat} (h : k < l.length) : (okI d.fNext (prevId l k) (l.drop k) && (l.drop k).all (isNamed d)) = (stepI d.fNext (prevId l k) l[k] && isNamed d l[k] && (okI d.fNext (prevId l (k + 1)) (l.drop (k + 1)) && (l.drop (k + 1)).all (isNamed d))) := by
  rw [okI_step h]
  rw [show (l.drop k).all (isNamed d) = (isNamed d l[k] && (l.drop (k + 1)).all (isNamed d)) from by rw [List.drop_eq_getElem_cons h, List.all_cons]]
  cases stepI d.fNext (prevId l k) l[k] <;> cases isNamed d l[k] <;> simp

/-- What the specification's loop and its tests come to. -/
def specOk (d : MDisk) : Bool :=
  inRange d.fNext 1 1000000 && decide (d.fInodes.length ≤ 60) && (okI d.fNext 0 d.fInodes && d.fInodes.all (isNamed d)) && decide (sumW wInode d.fInodes ≤ 60000) &&
    (okE d.fInodes [] ByteArray.empty d.fNames && decide (d.fNames.length ≤ 30)) && (okE d.fInodes [] ByteArray.empty d.fSafe && decide (d.fSafe.length ≤ 30))

theorem specOk_eq (d : MDisk) : specOk d = diskOk d := by
  unfold specOk diskOk inRange
  cases h1 : okI d.fNext 0 d.fInodes
  · simp
  · cases h2 : d.fInodes.all (isNamed d)
    · simp
    · have h3 := named_fit h1 h2
      by_cases h4 : d.fNames.length ≤ 30
      · by_cases h5 : d.fSafe.length ≤ 30
        · have h6 : d.fInodes.length ≤ 60 := by omega
          simp [h4, h5, h6]
        · simp [h5]
      · simp [h4]

set_option maxHeartbeats 20000000 in
theorem specDiskOk_any (cs : List Value) (m : MDisk) (w : World) (hr : rDisk w.heap.size w cs m) (hw : wDisk m ≤ 16777216) :
    Calls Tryz.prog 79 #[.agg cs.toArray] w fun e w' => e = .returned (.bool (specOk m)) ∧ Below w.heap.size w w' := by
  have hq := hr
  obtain ⟨a0, c0, a1, c1, a2, c2, rfl, hI, hNm, hSf, hnx, _⟩ := hq
  have hw2 : m.fInodes.length + sumW wInode m.fInodes + (m.fNames.length + sumW wEntry m.fNames) + (m.fSafe.length + sumW wEntry m.fSafe) ≤ 16777216 := hw
  have HR := Hid.mk hr
  have HI := Hid.mk hI.2.2
  have HNL := Hid.mk hNm
  have HSL := Hid.mk hSf
  clear hr hI hNm hSf hw
  have hnb : -9223372036854775808 ≤ m.fNext ∧ m.fNext ≤ 9223372036854775807 := by simpa [Lit.wf, IntKind.min, IntKind.max, IntKind.signed, IntKind.bits] using hnx
  obtain ⟨hnb1, hnb2⟩ := hnb
  by_cases hN1 : 1 ≤ m.fNext ∧ m.fNext ≤ 1000000
  · have e0 : inRange m.fNext 1 1000000 = true := inRange_yes hN1.1 hN1.2
    obtain ⟨hN1, hN2⟩ := hN1
    by_cases hL : m.fInodes.length ≤ 60
    · have HSP : Hid (specOk m = ((okI m.fNext 0 m.fInodes && m.fInodes.all (isNamed m)) && decide (sumW wInode m.fInodes ≤ 60000) && (okE m.fInodes [] ByteArray.empty m.fNames && decide (m.fNames.length ≤ 30)) && (okE m.fInodes [] ByteArray.empty m.fSafe && decide (m.fSafe.length ≤ 30)))) := by
        show specOk m = _
        unfold specOk
        rw [e0, decide_eq_true hL, Bool.true_and, Bool.true_and]
      go_enter Tryz.func79, Tryz.ntmps79
      go_wp2_with (go_at_call 37; refine (l1In_any _ _ _ _).mono ?_; rintro e w' ⟨rfl, rfl⟩)
      go_loopw [3, 4] (fun sv i wr => ∃ k : Nat, k ≤ m.fInodes.length ∧ i = .int .i64 k ∧ sv = .int .i64 (sumW wInode (m.fInodes.take k) : Nat) ∧ 0 ≤ prevId m.fInodes k ∧ (okI m.fNext 0 m.fInodes && m.fInodes.all (isNamed m)) = (okI m.fNext (prevId m.fInodes k) (m.fInodes.drop k) && (m.fInodes.drop k).all (isNamed m)) ∧ Below w.heap.size w wr ∧ Bx wr w.heap.size [.slice a0 m.fInodes.length c0, .slice a1 m.fNames.length c1, .slice a2 m.fSafe.length c2, .int .i64 m.fNext]) (fun _ i _ => m.fInodes.length - (intOf i).toNat)
      case atStart => exact ⟨0, Nat.zero_le _, rfl, rfl, Int.le_refl _, rfl, (Below.refl _ _).alloc (Nat.le_refl _) _, Bx.new _ _ _⟩
      case round =>
        obtain ⟨k, hk, rfl, rfl, hp0, hinv, hbk, hbx⟩ := hrel
        have HINV := Hid.mk hinv
        clear hinv
        have xb0 := hbx.2 0 _ rfl
        have xb1 := hbx.2 1 _ rfl
        have xb2 := hbx.2 2 _ rfl
        have xb3 := hbx.2 3 _ rfl
        have hyb := hbx.1
        by_cases hlt : k < m.fInodes.length
        · obtain ⟨b1, o1, ha0, hB, cs, hcl, hcell, hrI⟩ := (HI.out.below rInode_good hbk) k hlt
          subst ha0
          have hwk := sumW_le (f := wInode) hlt
          have hws := sumW_take_succ (f := wInode) hlt
          have hwl := sumW_take_le wInode m.fInodes (k + 1)
          have HST := Hid.mk (okIN_step (d := m) hlt)
          have HPS := Hid.mk (prevId_succ hlt)
          have hy1 : b1 < wr.heap.size := Nat.lt_of_lt_of_le hB hbk.size
          have HPR : Hid (∀ j, k = j + 1 → (hj : j < m.fInodes.length) → wr.cell? ⟨b1, o1 + j * 3, none⟩ = some (.int .i64 (prevId m.fInodes k))) := by
            intro j hj hjl
            obtain ⟨b2, o2, ha2, _, cs2, _, hcell2, a2', c2', rfl, _⟩ := (HI.out.below rInode_good hbk) j hjl
            simp only [Option.some.injEq, Addr.mk.injEq, and_true] at ha2
            obtain ⟨rfl, rfl⟩ := ha2
            have := hcell2 0 _ rfl
            subst hj
            rw [Nat.add_zero] at this
            rw [prevId_succ hjl]
            exact this
          obtain ⟨n, hn⟩ : ∃ n, m.fInodes[k] = n := ⟨_, rfl⟩
          rw [hn] at hrI hwk hws
          have HNd : Hid (m.fInodes[k] = n) := hn
          clear hn
          obtain ⟨ad, cd, rfl, hid, hda, hsu, _⟩ := hrI
          have k0 := hcell 0 _ rfl
          have k1 := hcell 1 _ rfl
          have k2 := hcell 2 _ rfl
          rw [Nat.add_zero] at k0
          have hdl : n.fData.length ≤ 16777216 := by have : wInode n = n.fData.length := rfl; omega
          have hkb : (sumW wInode (m.fInodes.take k) : Int) + n.fData.length ≤ 16777216 := by have : wInode n = n.fData.length := rfl; omega
          have HWS : Hid (sumW wInode (m.fInodes.take (k + 1)) = sumW wInode (m.fInodes.take k) + n.fData.length) := hws
          have hk60 : k ≤ 60 := by omega
          clear hcell hcl hda hws hwl hwk
          have HFAIL : Hid ((stepI m.fNext (prevId m.fInodes k) n && isNamed m n) = false → specOk m = false) := by
            intro h
            rw [HSP.out, HINV.out, HST.out, HNd.out, h]
            simp
          have HGO : Hid ((stepI m.fNext (prevId m.fInodes k) n && isNamed m n) = true → (okI m.fNext 0 m.fInodes && m.fInodes.all (isNamed m)) = (okI m.fNext (prevId m.fInodes (k + 1)) (m.fInodes.drop (k + 1)) && (m.fInodes.drop (k + 1)).all (isNamed m))) := by
            intro h
            rw [HINV.out, HST.out, HNd.out, h, Bool.true_and]
          have HPI : Hid (prevId m.fInodes (k + 1) = n.fId) := by show _ = _; rw [HPS.out, HNd.out]
          clear HST HPS HNd HINV
          have hz1 : (0 : Int) ≤ (k : Int) := by omega
          have hz2 : (k : Int) < (m.fInodes.length : Int) := by omega
          have hib : -9223372036854775808 ≤ n.fId ∧ n.fId ≤ 9223372036854775807 := by simpa [Lit.wf, IntKind.min, IntKind.max, IntKind.signed, IntKind.bits] using hid
          have hsb : -9223372036854775808 ≤ n.fSure ∧ n.fSure ≤ 9223372036854775807 := by simpa [Lit.wf, IntKind.min, IntKind.max, IntKind.signed, IntKind.bits] using hsu
          obtain ⟨hib1, hib2⟩ := hib
          obtain ⟨hsb1, hsb2⟩ := hsb
          clear hid hsu
          generalize hpv : prevId m.fInodes k = pv at *
          have HPV := Hid.mk hpv
          clear hpv
          go_wp2_with fail
          -- the element lies in a new block
          obtain ⟨wq, hwq⟩ : ∃ wq, wq = wr.alloc (.cells #[.int .i64 n.fId, .slice ad n.fData.length cd, .int .i64 n.fSure] 92) := ⟨_, rfl⟩
          have hbq : Below wr.heap.size wr wq := by rw [hwq]; exact (Below.refl _ _).alloc (Nat.le_refl _) _
          have hbn : Bx wq wr.heap.size [.int .i64 n.fId, .slice ad n.fData.length cd, .int .i64 n.fSure] := by rw [hwq]; exact Bx.new _ _ _
          rw [← hwq]
          clear hwq
          have hbW := bthen hbk hbq
          have hbx2 := hbx.under hbq
          have p0 : ∀ W, Below wq.heap.size wq W → W.cell? ⟨w.heap.size, 0, none⟩ = some (.slice (some ⟨b1, o1, none⟩) m.fInodes.length c0) := fun W hb => (hbx2.under hb).2 0 _ rfl
          have p1 : ∀ W, Below wq.heap.size wq W → W.cell? ⟨w.heap.size, 1, none⟩ = some (.slice a1 m.fNames.length c1) := fun W hb => (hbx2.under hb).2 1 _ rfl
          have p2 : ∀ W, Below wq.heap.size wq W → W.cell? ⟨w.heap.size, 2, none⟩ = some (.slice a2 m.fSafe.length c2) := fun W hb => (hbx2.under hb).2 2 _ rfl
          have p3 : ∀ W, Below wq.heap.size wq W → W.cell? ⟨w.heap.size, 3, none⟩ = some (.int .i64 m.fNext) := fun W hb => (hbx2.under hb).2 3 _ rfl
          have q0 : ∀ W, Below wq.heap.size wq W → W.cell? ⟨wr.heap.size, 0, none⟩ = some (.int .i64 n.fId) := fun W hb => (hbn.under hb).2 0 _ rfl
          have q1 : ∀ W, Below wq.heap.size wq W → W.cell? ⟨wr.heap.size, 1, none⟩ = some (.slice ad n.fData.length cd) := fun W hb => (hbn.under hb).2 1 _ rfl
          have q2 : ∀ W, Below wq.heap.size wq W → W.cell? ⟨wr.heap.size, 2, none⟩ = some (.int .i64 n.fSure) := fun W hb => (hbn.under hb).2 2 _ rfl
          have hCa := fun W (hb : Below wq.heap.size wq W) => l2Named_any a1 _ c1 m.fNames n.fId W w.heap.size rfl (by omega) (HNL.out.2.2.below rEntry_good ((bthen hbW hb).mono (Nat.le_refl _)))
          have hCb := fun W (hb : Below wq.heap.size wq W) => l2Named_any a2 _ c2 m.fSafe n.fId W w.heap.size rfl (by omega) (HSL.out.2.2.below rEntry_good ((bthen hbW hb).mono (Nat.le_refl _)))
          have hwn : IntKind.i64.wrap (m.fNext - 1) = m.fNext - 1 := by simp (disch := omega) only [IntWalk.i64_in]
          have HSI : Hid (stepI m.fNext pv n = decide (pv < n.fId ∧ n.fId < m.fNext ∧ 0 ≤ n.fSure ∧ n.fSure ≤ n.fData.length)) := rfl
          have HNI : Hid (isNamed m n = (named m.fNames n.fId || named m.fSafe n.fId)) := rfl
          by_cases h1 : 1 ≤ n.fId ∧ n.fId ≤ m.fNext - 1
          · have e1 : inRange n.fId 1 (m.fNext - 1) = true := inRange_yes h1.1 h1.2
            obtain ⟨h11, h12⟩ := h1
            by_cases h0 : k = 0
            · have hpv0 : pv = 0 := by rw [← HPV.out, h0]; rfl
              have hgk : ((0 : Int) < (k : Int)) = False := eq_false (by omega)
              have hgk2 : (0 < k) = False := eq_false (by omega)
              clear h0
              by_cases hSu : 0 ≤ n.fSure ∧ n.fSure ≤ n.fData.length
              · have e3 : inRange n.fSure 0 n.fData.length = true := inRange_yes hSu.1 hSu.2
                obtain ⟨hSu1, hSu2⟩ := hSu
                by_cases hA : named m.fNames n.fId = true
                · have HGo := HGO.out (by rw [HSI.out, HNI.out, hA, decide_eq_true (by omega)]; rfl)
                  simp only [hA] at hCa
                  clear hCb HFAIL HGO HSI HNI hA HSP
                  refine wp_region_held_drew (S := fun W => Below wq.heap.size wq W) (by kernel_rfl) (Below.drew (Below.refl _ _)) (fun hHeld => ?_)
                  refine tk 0 q5be_79_8_0 (some 28) (v := ?v1) rfl rfl (by kernel_rfl) hHeld (by rfl) (fun _ _ _ x => x) (fun w h => ?y1) ?_; (case y1 => (try dsimp only at h); go_simp; try (with_reducible rfl)); try simp only [Act.put, sa, s0, s1]
                  refine tk 1 q5be_79_8_1 (some 29) (v := ?v2) rfl rfl (by kernel_rfl) hHeld (by rfl) (fun _ _ _ x => x) (fun w h => ?y2) ?_; (case y2 => (try dsimp only at h); go_simp; try (with_reducible rfl)); try simp only [Act.put, sa, s0, s1]
                  refine tk 2 q5be_79_8_2 (some 30) (v := ?v3) rfl rfl (by kernel_rfl) hHeld (by rfl) (fun _ _ _ x => x) (fun w h => ?y3) ?_; (case y3 => (try dsimp only at h); go_simp; try (with_reducible rfl)); try simp only [Act.put, sa, s0, s1]
                  refine tk 3 q5be_79_8_3 (some 31) (v := ?v4) rfl rfl (by kernel_rfl) hHeld (by rfl) (fun _ _ _ x => x) (fun w h => ?y4) ?_; (case y4 => (try dsimp only at h); go_simp; try (with_reducible rfl)); try simp only [Act.put, sa, s0, s1]
                  refine tk 4 q5be_79_8_4 (some 32) (v := ?v5) rfl rfl (by kernel_rfl) hHeld (by rfl) (fun _ _ _ x => x) (fun w h => ?y5) ?_; (case y5 => (try dsimp only at h); go_simp; try (with_reducible rfl)); try simp only [Act.put, sa, s0, s1]
                  refine wpAnyH_ready (rs := [5]) (by kernel_rfl) (by simp) ?_
                  refine AllReadyH.cons (o := q5be_79_8_5) rfl (fun K hK => ?_) AllReadyH.nil
                  go_simp
                  refine Calls.mono (l1In_any _ _ _ _) ?_
                  rintro e w1 ⟨rfl, hw1⟩
                  have hx1 := below_same hw1
                  clear hw1
                  (try simp only [e1, e3])
                  go_wp2_with fail
                  refine hK.out _ _ (bthen hHeld hx1) (fun hHeld => ?_)
                  clear hK K
                  try simp only [Act.put, sa, s0, s1]
                  refine tk 6 q5be_79_8_6 (some 34) (v := ?v6) rfl rfl (by kernel_rfl) hHeld (by rfl) (fun _ _ _ x => x) (fun w h => ?y6) ?_; (case y6 => (try dsimp only at h); go_simp; try (with_reducible rfl)); try simp only [Act.put, sa, s0, s1]
                  refine tk 7 q5be_79_8_7 (some 35) (v := ?v7) rfl rfl (by kernel_rfl) hHeld (by rfl) (fun _ _ _ x => x) (fun w h => ?y7) ?_; (case y7 => (try dsimp only at h); go_simp; try (with_reducible rfl)); try simp only [Act.put, sa, s0, s1]
                  refine tk 8 q5be_79_8_8 (some 36) (v := ?v8) rfl rfl (by kernel_rfl) hHeld (by rfl) (fun _ _ _ x => x) (fun w h => ?y8) ?_; (case y8 => (try dsimp only at h); go_simp; try (with_reducible rfl)); try simp only [Act.put, sa, s0, s1]
                  refine tk 9 q5be_79_8_9 (some 37) (v := ?v9) rfl rfl (by kernel_rfl) hHeld (by rfl) (fun _ _ _ x => x) (fun w h => ?y9) ?_; (case y9 => (try dsimp only at h); go_simp; try (with_reducible rfl)); try simp only [Act.put, sa, s0, s1]
                  refine tk 10 q5be_79_8_10 (some 38) (v := ?v10) rfl rfl (by kernel_rfl) hHeld (by rfl) (fun _ _ _ x => x) (fun w h => ?y10) ?_; (case y10 => (try dsimp only at h); go_simp; try (with_reducible rfl)); try simp only [Act.put, sa, s0, s1]
                  refine tn 11 q5be_79_8_11 (some 39) rfl rfl (by kernel_rfl) hHeld (by rfl) (fun _ _ _ x => x) ?_; try simp only [Act.put, sa, s0, s1]
                  refine tn 12 q5be_79_8_12 (some 40) rfl rfl (by kernel_rfl) hHeld (by rfl) (fun _ _ _ x => x) ?_; try simp only [Act.put, sa, s0, s1]
                  refine tn 13 q5be_79_8_13 (some 41) rfl rfl (by kernel_rfl) hHeld (by rfl) (fun _ _ _ x => x) ?_; try simp only [Act.put, sa, s0, s1]
                  refine tn 14 q5be_79_8_14 (some 42) rfl rfl (by kernel_rfl) hHeld (by rfl) (fun _ _ _ x => x) ?_; try simp only [Act.put, sa, s0, s1]
                  refine tn 15 q5be_79_8_15 (some 43) rfl rfl (by kernel_rfl) hHeld (by rfl) (fun _ _ _ x => x) ?_; try simp only [Act.put, sa, s0, s1]
                  refine tn 16 q5be_79_8_16 (some 44) rfl rfl (by kernel_rfl) hHeld (by rfl) (fun _ _ _ x => x) ?_; try simp only [Act.put, sa, s0, s1]
                  refine tn 17 q5be_79_8_17 (some 45) rfl rfl (by kernel_rfl) hHeld (by rfl) (fun _ _ _ x => x) ?_; try simp only [Act.put, sa, s0, s1]
                  refine tn 18 q5be_79_8_18 (some 46) rfl rfl (by kernel_rfl) hHeld (by rfl) (fun _ _ _ x => x) ?_; try simp only [Act.put, sa, s0, s1]
                  refine tn 19 q5be_79_8_19 (some 47) rfl rfl (by kernel_rfl) hHeld (by rfl) (fun _ _ _ x => x) ?_; try simp only [Act.put, sa, s0, s1]
                  refine tn 20 q5be_79_8_20 (some 48) rfl rfl (by kernel_rfl) hHeld (by rfl) (fun _ _ _ x => x) ?_; try simp only [Act.put, sa, s0, s1]
                  refine tk 21 q5be_79_8_21 (some 49) (v := ?v21) rfl rfl (by kernel_rfl) hHeld (by rfl) (fun _ _ _ x => x) (fun w h => ?y21) ?_; (case y21 => (try dsimp only at h); go_simp; try (with_reducible rfl)); try simp only [Act.put, sa, s0, s1]
                  refine tk 22 q5be_79_8_22 (some 50) (v := ?v22) rfl rfl (by kernel_rfl) hHeld (by rfl) (fun _ _ _ x => x) (fun w h => ?y22) ?_; (case y22 => (try dsimp only at h); go_simp; try (with_reducible rfl)); try simp only [Act.put, sa, s0, s1]
                  refine tk 23 q5be_79_8_23 (some 51) (v := ?v23) rfl rfl (by kernel_rfl) hHeld (by rfl) (fun _ _ _ x => x) (fun w h => ?y23) ?_; (case y23 => (try dsimp only at h); go_simp; try (with_reducible rfl)); try simp only [Act.put, sa, s0, s1]
                  refine tk 24 q5be_79_8_24 (some 52) (v := ?v24) rfl rfl (by kernel_rfl) hHeld (by rfl) (fun _ _ _ x => x) (fun w h => ?y24) ?_; (case y24 => (try dsimp only at h); go_simp; try (with_reducible rfl)); try simp only [Act.put, sa, s0, s1]
                  refine tk 25 q5be_79_8_25 (some 53) (v := ?v25) rfl rfl (by kernel_rfl) hHeld (by rfl) (fun _ _ _ x => x) (fun w h => ?y25) ?_; (case y25 => (try dsimp only at h); go_simp; try (with_reducible rfl)); try simp only [Act.put, sa, s0, s1]
                  refine tk 26 q5be_79_8_26 (some 54) (v := ?v26) rfl rfl (by kernel_rfl) hHeld (by rfl) (fun _ _ _ x => x) (fun w h => ?y26) ?_; (case y26 => (try dsimp only at h); go_simp; try (with_reducible rfl)); try simp only [Act.put, sa, s0, s1]
                  refine tk 27 q5be_79_8_27 (some 55) (v := ?v27) rfl rfl (by kernel_rfl) hHeld (by rfl) (fun _ _ _ x => x) (fun w h => ?y27) ?_; (case y27 => (try dsimp only at h); go_simp; try (with_reducible rfl)); try simp only [Act.put, sa, s0, s1]
                  refine tk 28 q5be_79_8_28 (some 56) (v := ?v28) rfl rfl (by kernel_rfl) hHeld (by rfl) (fun _ _ _ x => x) (fun w h => ?y28) ?_; (case y28 => (try dsimp only at h); go_simp; try (with_reducible rfl)); try simp only [Act.put, sa, s0, s1]
                  refine wpAnyH_ready (rs := [29]) (by kernel_rfl) (by simp) ?_
                  refine AllReadyH.cons (o := q5be_79_8_29) rfl (fun K hK => ?_) AllReadyH.nil
                  go_simp
                  refine Calls.mono (l1In_any _ _ _ _) ?_
                  rintro e w2 ⟨rfl, hw2⟩
                  have hx2 := below_same hw2
                  clear hw2
                  (try simp only [e1, e3])
                  go_wp2_with fail
                  refine hK.out _ _ (bthen hHeld hx2) (fun hHeld => ?_)
                  clear hK K
                  try simp only [Act.put, sa, s0, s1]
                  refine tk 30 q5be_79_8_30 (some 58) (v := ?v29) rfl rfl (by kernel_rfl) hHeld (by rfl) (fun _ _ _ x => x) (fun w h => ?y29) ?_; (case y29 => (try dsimp only at h); go_simp; try (with_reducible rfl)); try simp only [Act.put, sa, s0, s1]
                  refine tk 31 q5be_79_8_31 (some 59) (v := ?v30) rfl rfl (by kernel_rfl) hHeld (by rfl) (fun _ _ _ x => x) (fun w h => ?y30) ?_; (case y30 => (try dsimp only at h); go_simp; try (with_reducible rfl)); try simp only [Act.put, sa, s0, s1]
                  refine tk 32 q5be_79_8_32 (some 60) (v := ?v31) rfl rfl (by kernel_rfl) hHeld (by rfl) (fun _ _ _ x => x) (fun w h => ?y31) ?_; (case y31 => (try dsimp only at h); go_simp; try (with_reducible rfl)); try simp only [Act.put, sa, s0, s1]
                  refine tk 33 q5be_79_8_33 (some 61) (v := ?v32) rfl rfl (by kernel_rfl) hHeld (by rfl) (fun _ _ _ x => x) (fun w h => ?y32) ?_; (case y32 => (try dsimp only at h); go_simp; try (with_reducible rfl)); try simp only [Act.put, sa, s0, s1]
                  refine tk 34 q5be_79_8_34 (some 62) (v := ?v33) rfl rfl (by kernel_rfl) hHeld (by rfl) (fun _ _ _ x => x) (fun w h => ?y33) ?_; (case y33 => (try dsimp only at h); go_simp; try (with_reducible rfl)); try simp only [Act.put, sa, s0, s1]
                  refine tk 35 q5be_79_8_35 (some 63) (v := ?v34) rfl rfl (by kernel_rfl) hHeld (by rfl) (fun _ _ _ x => x) (fun w h => ?y34) ?_; (case y34 => (try dsimp only at h); go_simp; try (with_reducible rfl)); try simp only [Act.put, sa, s0, s1]
                  refine tk 36 q5be_79_8_36 (some 64) (v := ?v35) rfl rfl (by kernel_rfl) hHeld (by rfl) (fun _ _ _ x => x) (fun w h => ?y35) ?_; (case y35 => (try dsimp only at h); go_simp; try (with_reducible rfl)); try simp only [Act.put, sa, s0, s1]
                  refine wpAnyH_ready (rs := [37]) (by kernel_rfl) (by simp) ?_
                  refine AllReadyH.cons (o := q5be_79_8_37) rfl (fun K hK => ?_) AllReadyH.nil
                  go_simp
                  refine Calls.mono (hCa _ hHeld) ?_
                  rintro e w3 ⟨rfl, hw3⟩
                  have hx3 := below_same hw3
                  clear hw3
                  go_wp2_with fail
                  refine hK.out _ _ (bthen hHeld hx3) (fun hHeld => ?_)
                  clear hK K
                  try simp only [Act.put, sa, s0, s1]
                  refine tk 38 q5be_79_8_38 (some 66) (v := ?v36) rfl rfl (by kernel_rfl) hHeld (by rfl) (fun _ _ _ x => x) (fun w h => ?y36) ?_; (case y36 => (try dsimp only at h); go_simp; try (with_reducible rfl)); try simp only [Act.put, sa, s0, s1]
                  refine tk 39 q5be_79_8_39 (some 67) (v := ?v37) rfl rfl (by kernel_rfl) hHeld (by rfl) (fun _ _ _ x => x) (fun w h => ?y37) ?_; (case y37 => (try dsimp only at h); go_simp; try (with_reducible rfl)); try simp only [Act.put, sa, s0, s1]
                  refine tn 40 q5be_79_8_40 (some 68) rfl rfl (by kernel_rfl) hHeld (by rfl) (fun _ _ _ x => x) ?_; try simp only [Act.put, sa, s0, s1]
                  refine tn 41 q5be_79_8_41 (some 69) rfl rfl (by kernel_rfl) hHeld (by rfl) (fun _ _ _ x => x) ?_; try simp only [Act.put, sa, s0, s1]
                  refine tn 42 q5be_79_8_42 (some 70) rfl rfl (by kernel_rfl) hHeld (by rfl) (fun _ _ _ x => x) ?_; try simp only [Act.put, sa, s0, s1]
                  refine tn 43 q5be_79_8_43 (some 71) rfl rfl (by kernel_rfl) hHeld (by rfl) (fun _ _ _ x => x) ?_; try simp only [Act.put, sa, s0, s1]
                  refine tn 44 q5be_79_8_44 (some 72) rfl rfl (by kernel_rfl) hHeld (by rfl) (fun _ _ _ x => x) ?_; try simp only [Act.put, sa, s0, s1]
                  refine tn 45 q5be_79_8_45 (some 73) rfl rfl (by kernel_rfl) hHeld (by rfl) (fun _ _ _ x => x) ?_; try simp only [Act.put, sa, s0, s1]
                  refine tk 46 q5be_79_8_46 (some 74) (v := ?v44) rfl rfl (by kernel_rfl) hHeld (by rfl) (fun _ _ _ x => x) (fun w h => ?y44) ?_; (case y44 => (try dsimp only at h); go_simp; try (with_reducible rfl)); try simp only [Act.put, sa, s0, s1]
                  refine tk 47 q5be_79_8_47 (some 75) (v := ?v45) rfl rfl (by kernel_rfl) hHeld (by rfl) (fun _ _ _ x => x) (fun w h => ?y45) ?_; (case y45 => (try dsimp only at h); go_simp; try (with_reducible rfl)); try simp only [Act.put, sa, s0, s1]
                  refine wpAnyH_done (by kernel_rfl) ?_ _
                  have r1 := q1 _ hHeld
                  have r0 := p0 _ hHeld
                  go_wp2_with fail
                  go_roundw
                  case rel => exact ⟨k + 1, by omega, by go_num, by rw [HWS.out]; go_num, by rw [HPI.out]; omega, HGo, bthen hbW hHeld, hbx2.under hHeld⟩
                  case measure => simp [intOf]; omega
                · have hA2 : named m.fNames n.fId = false := by simpa using hA
                  simp only [hA2] at hCa
                  by_cases hB2 : named m.fSafe n.fId = true
                  · have HGo := HGO.out (by rw [HSI.out, HNI.out, hB2, decide_eq_true (by omega)]; simp)
                    simp only [hB2] at hCb
                    clear HFAIL HGO HSI HNI hA hA2 hB2 HSP
                    refine wp_region_held_drew (S := fun W => Below wq.heap.size wq W) (by kernel_rfl) (Below.drew (Below.refl _ _)) (fun hHeld => ?_)
                    refine tk 0 q5be_79_8_0 (some 28) (v := ?v46) rfl rfl (by kernel_rfl) hHeld (by rfl) (fun _ _ _ x => x) (fun w h => ?y46) ?_; (case y46 => (try dsimp only at h); go_simp; try (with_reducible rfl)); try simp only [Act.put, sa, s0, s1]
                    refine tk 1 q5be_79_8_1 (some 29) (v := ?v47) rfl rfl (by kernel_rfl) hHeld (by rfl) (fun _ _ _ x => x) (fun w h => ?y47) ?_; (case y47 => (try dsimp only at h); go_simp; try (with_reducible rfl)); try simp only [Act.put, sa, s0, s1]
                    refine tk 2 q5be_79_8_2 (some 30) (v := ?v48) rfl rfl (by kernel_rfl) hHeld (by rfl) (fun _ _ _ x => x) (fun w h => ?y48) ?_; (case y48 => (try dsimp only at h); go_simp; try (with_reducible rfl)); try simp only [Act.put, sa, s0, s1]
                    refine tk 3 q5be_79_8_3 (some 31) (v := ?v49) rfl rfl (by kernel_rfl) hHeld (by rfl) (fun _ _ _ x => x) (fun w h => ?y49) ?_; (case y49 => (try dsimp only at h); go_simp; try (with_reducible rfl)); try simp only [Act.put, sa, s0, s1]
                    refine tk 4 q5be_79_8_4 (some 32) (v := ?v50) rfl rfl (by kernel_rfl) hHeld (by rfl) (fun _ _ _ x => x) (fun w h => ?y50) ?_; (case y50 => (try dsimp only at h); go_simp; try (with_reducible rfl)); try simp only [Act.put, sa, s0, s1]
                    refine wpAnyH_ready (rs := [5]) (by kernel_rfl) (by simp) ?_
                    refine AllReadyH.cons (o := q5be_79_8_5) rfl (fun K hK => ?_) AllReadyH.nil
                    go_simp
                    refine Calls.mono (l1In_any _ _ _ _) ?_
                    rintro e w1 ⟨rfl, hw1⟩
                    have hx1 := below_same hw1
                    clear hw1
                    (try simp only [e1, e3])
                    go_wp2_with fail
                    refine hK.out _ _ (bthen hHeld hx1) (fun hHeld => ?_)
                    clear hK K
                    try simp only [Act.put, sa, s0, s1]
                    refine tk 6 q5be_79_8_6 (some 34) (v := ?v51) rfl rfl (by kernel_rfl) hHeld (by rfl) (fun _ _ _ x => x) (fun w h => ?y51) ?_; (case y51 => (try dsimp only at h); go_simp; try (with_reducible rfl)); try simp only [Act.put, sa, s0, s1]
                    refine tk 7 q5be_79_8_7 (some 35) (v := ?v52) rfl rfl (by kernel_rfl) hHeld (by rfl) (fun _ _ _ x => x) (fun w h => ?y52) ?_; (case y52 => (try dsimp only at h); go_simp; try (with_reducible rfl)); try simp only [Act.put, sa, s0, s1]
                    refine tk 8 q5be_79_8_8 (some 36) (v := ?v53) rfl rfl (by kernel_rfl) hHeld (by rfl) (fun _ _ _ x => x) (fun w h => ?y53) ?_; (case y53 => (try dsimp only at h); go_simp; try (with_reducible rfl)); try simp only [Act.put, sa, s0, s1]
                    refine tk 9 q5be_79_8_9 (some 37) (v := ?v54) rfl rfl (by kernel_rfl) hHeld (by rfl) (fun _ _ _ x => x) (fun w h => ?y54) ?_; (case y54 => (try dsimp only at h); go_simp; try (with_reducible rfl)); try simp only [Act.put, sa, s0, s1]
                    refine tk 10 q5be_79_8_10 (some 38) (v := ?v55) rfl rfl (by kernel_rfl) hHeld (by rfl) (fun _ _ _ x => x) (fun w h => ?y55) ?_; (case y55 => (try dsimp only at h); go_simp; try (with_reducible rfl)); try simp only [Act.put, sa, s0, s1]
                    refine tn 11 q5be_79_8_11 (some 39) rfl rfl (by kernel_rfl) hHeld (by rfl) (fun _ _ _ x => x) ?_; try simp only [Act.put, sa, s0, s1]
                    refine tn 12 q5be_79_8_12 (some 40) rfl rfl (by kernel_rfl) hHeld (by rfl) (fun _ _ _ x => x) ?_; try simp only [Act.put, sa, s0, s1]
                    refine tn 13 q5be_79_8_13 (some 41) rfl rfl (by kernel_rfl) hHeld (by rfl) (fun _ _ _ x => x) ?_; try simp only [Act.put, sa, s0, s1]
                    refine tn 14 q5be_79_8_14 (some 42) rfl rfl (by kernel_rfl) hHeld (by rfl) (fun _ _ _ x => x) ?_; try simp only [Act.put, sa, s0, s1]
                    refine tn 15 q5be_79_8_15 (some 43) rfl rfl (by kernel_rfl) hHeld (by rfl) (fun _ _ _ x => x) ?_; try simp only [Act.put, sa, s0, s1]
                    refine tn 16 q5be_79_8_16 (some 44) rfl rfl (by kernel_rfl) hHeld (by rfl) (fun _ _ _ x => x) ?_; try simp only [Act.put, sa, s0, s1]
                    refine tn 17 q5be_79_8_17 (some 45) rfl rfl (by kernel_rfl) hHeld (by rfl) (fun _ _ _ x => x) ?_; try simp only [Act.put, sa, s0, s1]
                    refine tn 18 q5be_79_8_18 (some 46) rfl rfl (by kernel_rfl) hHeld (by rfl) (fun _ _ _ x => x) ?_; try simp only [Act.put, sa, s0, s1]
                    refine tn 19 q5be_79_8_19 (some 47) rfl rfl (by kernel_rfl) hHeld (by rfl) (fun _ _ _ x => x) ?_; try simp only [Act.put, sa, s0, s1]
                    refine tn 20 q5be_79_8_20 (some 48) rfl rfl (by kernel_rfl) hHeld (by rfl) (fun _ _ _ x => x) ?_; try simp only [Act.put, sa, s0, s1]
                    refine tk 21 q5be_79_8_21 (some 49) (v := ?v66) rfl rfl (by kernel_rfl) hHeld (by rfl) (fun _ _ _ x => x) (fun w h => ?y66) ?_; (case y66 => (try dsimp only at h); go_simp; try (with_reducible rfl)); try simp only [Act.put, sa, s0, s1]
                    refine tk 22 q5be_79_8_22 (some 50) (v := ?v67) rfl rfl (by kernel_rfl) hHeld (by rfl) (fun _ _ _ x => x) (fun w h => ?y67) ?_; (case y67 => (try dsimp only at h); go_simp; try (with_reducible rfl)); try simp only [Act.put, sa, s0, s1]
                    refine tk 23 q5be_79_8_23 (some 51) (v := ?v68) rfl rfl (by kernel_rfl) hHeld (by rfl) (fun _ _ _ x => x) (fun w h => ?y68) ?_; (case y68 => (try dsimp only at h); go_simp; try (with_reducible rfl)); try simp only [Act.put, sa, s0, s1]
                    refine tk 24 q5be_79_8_24 (some 52) (v := ?v69) rfl rfl (by kernel_rfl) hHeld (by rfl) (fun _ _ _ x => x) (fun w h => ?y69) ?_; (case y69 => (try dsimp only at h); go_simp; try (with_reducible rfl)); try simp only [Act.put, sa, s0, s1]
                    refine tk 25 q5be_79_8_25 (some 53) (v := ?v70) rfl rfl (by kernel_rfl) hHeld (by rfl) (fun _ _ _ x => x) (fun w h => ?y70) ?_; (case y70 => (try dsimp only at h); go_simp; try (with_reducible rfl)); try simp only [Act.put, sa, s0, s1]
                    refine tk 26 q5be_79_8_26 (some 54) (v := ?v71) rfl rfl (by kernel_rfl) hHeld (by rfl) (fun _ _ _ x => x) (fun w h => ?y71) ?_; (case y71 => (try dsimp only at h); go_simp; try (with_reducible rfl)); try simp only [Act.put, sa, s0, s1]
                    refine tk 27 q5be_79_8_27 (some 55) (v := ?v72) rfl rfl (by kernel_rfl) hHeld (by rfl) (fun _ _ _ x => x) (fun w h => ?y72) ?_; (case y72 => (try dsimp only at h); go_simp; try (with_reducible rfl)); try simp only [Act.put, sa, s0, s1]
                    refine tk 28 q5be_79_8_28 (some 56) (v := ?v73) rfl rfl (by kernel_rfl) hHeld (by rfl) (fun _ _ _ x => x) (fun w h => ?y73) ?_; (case y73 => (try dsimp only at h); go_simp; try (with_reducible rfl)); try simp only [Act.put, sa, s0, s1]
                    refine wpAnyH_ready (rs := [29]) (by kernel_rfl) (by simp) ?_
                    refine AllReadyH.cons (o := q5be_79_8_29) rfl (fun K hK => ?_) AllReadyH.nil
                    go_simp
                    refine Calls.mono (l1In_any _ _ _ _) ?_
                    rintro e w2 ⟨rfl, hw2⟩
                    have hx2 := below_same hw2
                    clear hw2
                    (try simp only [e1, e3])
                    go_wp2_with fail
                    refine hK.out _ _ (bthen hHeld hx2) (fun hHeld => ?_)
                    clear hK K
                    try simp only [Act.put, sa, s0, s1]
                    refine tk 30 q5be_79_8_30 (some 58) (v := ?v74) rfl rfl (by kernel_rfl) hHeld (by rfl) (fun _ _ _ x => x) (fun w h => ?y74) ?_; (case y74 => (try dsimp only at h); go_simp; try (with_reducible rfl)); try simp only [Act.put, sa, s0, s1]
                    refine tk 31 q5be_79_8_31 (some 59) (v := ?v75) rfl rfl (by kernel_rfl) hHeld (by rfl) (fun _ _ _ x => x) (fun w h => ?y75) ?_; (case y75 => (try dsimp only at h); go_simp; try (with_reducible rfl)); try simp only [Act.put, sa, s0, s1]
                    refine tk 32 q5be_79_8_32 (some 60) (v := ?v76) rfl rfl (by kernel_rfl) hHeld (by rfl) (fun _ _ _ x => x) (fun w h => ?y76) ?_; (case y76 => (try dsimp only at h); go_simp; try (with_reducible rfl)); try simp only [Act.put, sa, s0, s1]
                    refine tk 33 q5be_79_8_33 (some 61) (v := ?v77) rfl rfl (by kernel_rfl) hHeld (by rfl) (fun _ _ _ x => x) (fun w h => ?y77) ?_; (case y77 => (try dsimp only at h); go_simp; try (with_reducible rfl)); try simp only [Act.put, sa, s0, s1]
                    refine tk 34 q5be_79_8_34 (some 62) (v := ?v78) rfl rfl (by kernel_rfl) hHeld (by rfl) (fun _ _ _ x => x) (fun w h => ?y78) ?_; (case y78 => (try dsimp only at h); go_simp; try (with_reducible rfl)); try simp only [Act.put, sa, s0, s1]
                    refine tk 35 q5be_79_8_35 (some 63) (v := ?v79) rfl rfl (by kernel_rfl) hHeld (by rfl) (fun _ _ _ x => x) (fun w h => ?y79) ?_; (case y79 => (try dsimp only at h); go_simp; try (with_reducible rfl)); try simp only [Act.put, sa, s0, s1]
                    refine tk 36 q5be_79_8_36 (some 64) (v := ?v80) rfl rfl (by kernel_rfl) hHeld (by rfl) (fun _ _ _ x => x) (fun w h => ?y80) ?_; (case y80 => (try dsimp only at h); go_simp; try (with_reducible rfl)); try simp only [Act.put, sa, s0, s1]
                    refine wpAnyH_ready (rs := [37]) (by kernel_rfl) (by simp) ?_
                    refine AllReadyH.cons (o := q5be_79_8_37) rfl (fun K hK => ?_) AllReadyH.nil
                    go_simp
                    refine Calls.mono (hCa _ hHeld) ?_
                    rintro e w3 ⟨rfl, hw3⟩
                    have hx3 := below_same hw3
                    clear hw3
                    go_wp2_with fail
                    refine hK.out _ _ (bthen hHeld hx3) (fun hHeld => ?_)
                    clear hK K
                    try simp only [Act.put, sa, s0, s1]
                    refine tk 38 q5be_79_8_38 (some 66) (v := ?v81) rfl rfl (by kernel_rfl) hHeld (by rfl) (fun _ _ _ x => x) (fun w h => ?y81) ?_; (case y81 => (try dsimp only at h); go_simp; try (with_reducible rfl)); try simp only [Act.put, sa, s0, s1]
                    refine tk 39 q5be_79_8_39 (some 67) (v := ?v82) rfl rfl (by kernel_rfl) hHeld (by rfl) (fun _ _ _ x => x) (fun w h => ?y82) ?_; (case y82 => (try dsimp only at h); go_simp; try (with_reducible rfl)); try simp only [Act.put, sa, s0, s1]
                    refine tk 40 q5be_79_8_40 (some 68) (v := ?v83) rfl rfl (by kernel_rfl) hHeld (by rfl) (fun _ _ _ x => x) (fun w h => ?y83) ?_; (case y83 => (try dsimp only at h); go_simp; try (with_reducible rfl)); try simp only [Act.put, sa, s0, s1]
                    refine tk 41 q5be_79_8_41 (some 69) (v := ?v84) rfl rfl (by kernel_rfl) hHeld (by rfl) (fun _ _ _ x => x) (fun w h => ?y84) ?_; (case y84 => (try dsimp only at h); go_simp; try (with_reducible rfl)); try simp only [Act.put, sa, s0, s1]
                    refine tk 42 q5be_79_8_42 (some 70) (v := ?v85) rfl rfl (by kernel_rfl) hHeld (by rfl) (fun _ _ _ x => x) (fun w h => ?y85) ?_; (case y85 => (try dsimp only at h); go_simp; try (with_reducible rfl)); try simp only [Act.put, sa, s0, s1]
                    refine tk 43 q5be_79_8_43 (some 71) (v := ?v86) rfl rfl (by kernel_rfl) hHeld (by rfl) (fun _ _ _ x => x) (fun w h => ?y86) ?_; (case y86 => (try dsimp only at h); go_simp; try (with_reducible rfl)); try simp only [Act.put, sa, s0, s1]
                    refine wpAnyH_ready (rs := [44]) (by kernel_rfl) (by simp) ?_
                    refine AllReadyH.cons (o := q5be_79_8_44) rfl (fun K hK => ?_) AllReadyH.nil
                    go_simp
                    refine Calls.mono (hCb _ hHeld) ?_
                    rintro e w4 ⟨rfl, hw4⟩
                    have hx4 := below_same hw4
                    clear hw4
                    go_wp2_with fail
                    refine hK.out _ _ (bthen hHeld hx4) (fun hHeld => ?_)
                    clear hK K
                    try simp only [Act.put, sa, s0, s1]
                    refine tk 45 q5be_79_8_45 (some 73) (v := ?v87) rfl rfl (by kernel_rfl) hHeld (by rfl) (fun _ _ _ x => x) (fun w h => ?y87) ?_; (case y87 => (try dsimp only at h); go_simp; try (with_reducible rfl)); try simp only [Act.put, sa, s0, s1]
                    refine tk 46 q5be_79_8_46 (some 74) (v := ?v88) rfl rfl (by kernel_rfl) hHeld (by rfl) (fun _ _ _ x => x) (fun w h => ?y88) ?_; (case y88 => (try dsimp only at h); go_simp; try (with_reducible rfl)); try simp only [Act.put, sa, s0, s1]
                    refine tk 47 q5be_79_8_47 (some 75) (v := ?v89) rfl rfl (by kernel_rfl) hHeld (by rfl) (fun _ _ _ x => x) (fun w h => ?y89) ?_; (case y89 => (try dsimp only at h); go_simp; try (with_reducible rfl)); try simp only [Act.put, sa, s0, s1]
                    refine wpAnyH_done (by kernel_rfl) ?_ _
                    have r1 := q1 _ hHeld
                    have r0 := p0 _ hHeld
                    go_wp2_with fail
                    go_roundw
                    case rel => exact ⟨k + 1, by omega, by go_num, by rw [HWS.out]; go_num, by rw [HPI.out]; omega, HGo, bthen hbW hHeld, hbx2.under hHeld⟩
                    case measure => simp [intOf]; omega
                  · have hB3 : named m.fSafe n.fId = false := by simpa using hB2
                    simp only [hB3] at hCb
                    have HV : Hid (specOk m = false) := HFAIL.out (by rw [HSI.out, HNI.out]; rw [hA2, hB3]; simp)
                    clear HFAIL HGO HSI HNI hA hA2 hB2 hB3 HSP
                    refine wp_region_held_drew (S := fun W => Below wq.heap.size wq W) (by kernel_rfl) (Below.drew (Below.refl _ _)) (fun hHeld => ?_)
                    refine tk 0 q5be_79_8_0 (some 28) (v := ?v90) rfl rfl (by kernel_rfl) hHeld (by rfl) (fun _ _ _ x => x) (fun w h => ?y90) ?_; (case y90 => (try dsimp only at h); go_simp; try (with_reducible rfl)); try simp only [Act.put, sa, s0, s1]
                    refine tk 1 q5be_79_8_1 (some 29) (v := ?v91) rfl rfl (by kernel_rfl) hHeld (by rfl) (fun _ _ _ x => x) (fun w h => ?y91) ?_; (case y91 => (try dsimp only at h); go_simp; try (with_reducible rfl)); try simp only [Act.put, sa, s0, s1]
                    refine tk 2 q5be_79_8_2 (some 30) (v := ?v92) rfl rfl (by kernel_rfl) hHeld (by rfl) (fun _ _ _ x => x) (fun w h => ?y92) ?_; (case y92 => (try dsimp only at h); go_simp; try (with_reducible rfl)); try simp only [Act.put, sa, s0, s1]
                    refine tk 3 q5be_79_8_3 (some 31) (v := ?v93) rfl rfl (by kernel_rfl) hHeld (by rfl) (fun _ _ _ x => x) (fun w h => ?y93) ?_; (case y93 => (try dsimp only at h); go_simp; try (with_reducible rfl)); try simp only [Act.put, sa, s0, s1]
                    refine tk 4 q5be_79_8_4 (some 32) (v := ?v94) rfl rfl (by kernel_rfl) hHeld (by rfl) (fun _ _ _ x => x) (fun w h => ?y94) ?_; (case y94 => (try dsimp only at h); go_simp; try (with_reducible rfl)); try simp only [Act.put, sa, s0, s1]
                    refine wpAnyH_ready (rs := [5]) (by kernel_rfl) (by simp) ?_
                    refine AllReadyH.cons (o := q5be_79_8_5) rfl (fun K hK => ?_) AllReadyH.nil
                    go_simp
                    refine Calls.mono (l1In_any _ _ _ _) ?_
                    rintro e w1 ⟨rfl, hw1⟩
                    have hx1 := below_same hw1
                    clear hw1
                    (try simp only [e1, e3])
                    go_wp2_with fail
                    refine hK.out _ _ (bthen hHeld hx1) (fun hHeld => ?_)
                    clear hK K
                    try simp only [Act.put, sa, s0, s1]
                    refine tk 6 q5be_79_8_6 (some 34) (v := ?v95) rfl rfl (by kernel_rfl) hHeld (by rfl) (fun _ _ _ x => x) (fun w h => ?y95) ?_; (case y95 => (try dsimp only at h); go_simp; try (with_reducible rfl)); try simp only [Act.put, sa, s0, s1]
                    refine tk 7 q5be_79_8_7 (some 35) (v := ?v96) rfl rfl (by kernel_rfl) hHeld (by rfl) (fun _ _ _ x => x) (fun w h => ?y96) ?_; (case y96 => (try dsimp only at h); go_simp; try (with_reducible rfl)); try simp only [Act.put, sa, s0, s1]
                    refine tk 8 q5be_79_8_8 (some 36) (v := ?v97) rfl rfl (by kernel_rfl) hHeld (by rfl) (fun _ _ _ x => x) (fun w h => ?y97) ?_; (case y97 => (try dsimp only at h); go_simp; try (with_reducible rfl)); try simp only [Act.put, sa, s0, s1]
                    refine tk 9 q5be_79_8_9 (some 37) (v := ?v98) rfl rfl (by kernel_rfl) hHeld (by rfl) (fun _ _ _ x => x) (fun w h => ?y98) ?_; (case y98 => (try dsimp only at h); go_simp; try (with_reducible rfl)); try simp only [Act.put, sa, s0, s1]
                    refine tk 10 q5be_79_8_10 (some 38) (v := ?v99) rfl rfl (by kernel_rfl) hHeld (by rfl) (fun _ _ _ x => x) (fun w h => ?y99) ?_; (case y99 => (try dsimp only at h); go_simp; try (with_reducible rfl)); try simp only [Act.put, sa, s0, s1]
                    refine tn 11 q5be_79_8_11 (some 39) rfl rfl (by kernel_rfl) hHeld (by rfl) (fun _ _ _ x => x) ?_; try simp only [Act.put, sa, s0, s1]
                    refine tn 12 q5be_79_8_12 (some 40) rfl rfl (by kernel_rfl) hHeld (by rfl) (fun _ _ _ x => x) ?_; try simp only [Act.put, sa, s0, s1]
                    refine tn 13 q5be_79_8_13 (some 41) rfl rfl (by kernel_rfl) hHeld (by rfl) (fun _ _ _ x => x) ?_; try simp only [Act.put, sa, s0, s1]
                    refine tn 14 q5be_79_8_14 (some 42) rfl rfl (by kernel_rfl) hHeld (by rfl) (fun _ _ _ x => x) ?_; try simp only [Act.put, sa, s0, s1]
                    refine tn 15 q5be_79_8_15 (some 43) rfl rfl (by kernel_rfl) hHeld (by rfl) (fun _ _ _ x => x) ?_; try simp only [Act.put, sa, s0, s1]
                    refine tn 16 q5be_79_8_16 (some 44) rfl rfl (by kernel_rfl) hHeld (by rfl) (fun _ _ _ x => x) ?_; try simp only [Act.put, sa, s0, s1]
                    refine tn 17 q5be_79_8_17 (some 45) rfl rfl (by kernel_rfl) hHeld (by rfl) (fun _ _ _ x => x) ?_; try simp only [Act.put, sa, s0, s1]
                    refine tn 18 q5be_79_8_18 (some 46) rfl rfl (by kernel_rfl) hHeld (by rfl) (fun _ _ _ x => x) ?_; try simp only [Act.put, sa, s0, s1]
                    refine tn 19 q5be_79_8_19 (some 47) rfl rfl (by kernel_rfl) hHeld (by rfl) (fun _ _ _ x => x) ?_; try simp only [Act.put, sa, s0, s1]
                    refine tn 20 q5be_79_8_20 (some 48) rfl rfl (by kernel_rfl) hHeld (by rfl) (fun _ _ _ x => x) ?_; try simp only [Act.put, sa, s0, s1]
                    refine tk 21 q5be_79_8_21 (some 49) (v := ?v110) rfl rfl (by kernel_rfl) hHeld (by rfl) (fun _ _ _ x => x) (fun w h => ?y110) ?_; (case y110 => (try dsimp only at h); go_simp; try (with_reducible rfl)); try simp only [Act.put, sa, s0, s1]
                    refine tk 22 q5be_79_8_22 (some 50) (v := ?v111) rfl rfl (by kernel_rfl) hHeld (by rfl) (fun _ _ _ x => x) (fun w h => ?y111) ?_; (case y111 => (try dsimp only at h); go_simp; try (with_reducible rfl)); try simp only [Act.put, sa, s0, s1]
                    refine tk 23 q5be_79_8_23 (some 51) (v := ?v112) rfl rfl (by kernel_rfl) hHeld (by rfl) (fun _ _ _ x => x) (fun w h => ?y112) ?_; (case y112 => (try dsimp only at h); go_simp; try (with_reducible rfl)); try simp only [Act.put, sa, s0, s1]
                    refine tk 24 q5be_79_8_24 (some 52) (v := ?v113) rfl rfl (by kernel_rfl) hHeld (by rfl) (fun _ _ _ x => x) (fun w h => ?y113) ?_; (case y113 => (try dsimp only at h); go_simp; try (with_reducible rfl)); try simp only [Act.put, sa, s0, s1]
                    refine tk 25 q5be_79_8_25 (some 53) (v := ?v114) rfl rfl (by kernel_rfl) hHeld (by rfl) (fun _ _ _ x => x) (fun w h => ?y114) ?_; (case y114 => (try dsimp only at h); go_simp; try (with_reducible rfl)); try simp only [Act.put, sa, s0, s1]
                    refine tk 26 q5be_79_8_26 (some 54) (v := ?v115) rfl rfl (by kernel_rfl) hHeld (by rfl) (fun _ _ _ x => x) (fun w h => ?y115) ?_; (case y115 => (try dsimp only at h); go_simp; try (with_reducible rfl)); try simp only [Act.put, sa, s0, s1]
                    refine tk 27 q5be_79_8_27 (some 55) (v := ?v116) rfl rfl (by kernel_rfl) hHeld (by rfl) (fun _ _ _ x => x) (fun w h => ?y116) ?_; (case y116 => (try dsimp only at h); go_simp; try (with_reducible rfl)); try simp only [Act.put, sa, s0, s1]
                    refine tk 28 q5be_79_8_28 (some 56) (v := ?v117) rfl rfl (by kernel_rfl) hHeld (by rfl) (fun _ _ _ x => x) (fun w h => ?y117) ?_; (case y117 => (try dsimp only at h); go_simp; try (with_reducible rfl)); try simp only [Act.put, sa, s0, s1]
                    refine wpAnyH_ready (rs := [29]) (by kernel_rfl) (by simp) ?_
                    refine AllReadyH.cons (o := q5be_79_8_29) rfl (fun K hK => ?_) AllReadyH.nil
                    go_simp
                    refine Calls.mono (l1In_any _ _ _ _) ?_
                    rintro e w2 ⟨rfl, hw2⟩
                    have hx2 := below_same hw2
                    clear hw2
                    (try simp only [e1, e3])
                    go_wp2_with fail
                    refine hK.out _ _ (bthen hHeld hx2) (fun hHeld => ?_)
                    clear hK K
                    try simp only [Act.put, sa, s0, s1]
                    refine tk 30 q5be_79_8_30 (some 58) (v := ?v118) rfl rfl (by kernel_rfl) hHeld (by rfl) (fun _ _ _ x => x) (fun w h => ?y118) ?_; (case y118 => (try dsimp only at h); go_simp; try (with_reducible rfl)); try simp only [Act.put, sa, s0, s1]
                    refine tk 31 q5be_79_8_31 (some 59) (v := ?v119) rfl rfl (by kernel_rfl) hHeld (by rfl) (fun _ _ _ x => x) (fun w h => ?y119) ?_; (case y119 => (try dsimp only at h); go_simp; try (with_reducible rfl)); try simp only [Act.put, sa, s0, s1]
                    refine tk 32 q5be_79_8_32 (some 60) (v := ?v120) rfl rfl (by kernel_rfl) hHeld (by rfl) (fun _ _ _ x => x) (fun w h => ?y120) ?_; (case y120 => (try dsimp only at h); go_simp; try (with_reducible rfl)); try simp only [Act.put, sa, s0, s1]
                    refine tk 33 q5be_79_8_33 (some 61) (v := ?v121) rfl rfl (by kernel_rfl) hHeld (by rfl) (fun _ _ _ x => x) (fun w h => ?y121) ?_; (case y121 => (try dsimp only at h); go_simp; try (with_reducible rfl)); try simp only [Act.put, sa, s0, s1]
                    refine tk 34 q5be_79_8_34 (some 62) (v := ?v122) rfl rfl (by kernel_rfl) hHeld (by rfl) (fun _ _ _ x => x) (fun w h => ?y122) ?_; (case y122 => (try dsimp only at h); go_simp; try (with_reducible rfl)); try simp only [Act.put, sa, s0, s1]
                    refine tk 35 q5be_79_8_35 (some 63) (v := ?v123) rfl rfl (by kernel_rfl) hHeld (by rfl) (fun _ _ _ x => x) (fun w h => ?y123) ?_; (case y123 => (try dsimp only at h); go_simp; try (with_reducible rfl)); try simp only [Act.put, sa, s0, s1]
                    refine tk 36 q5be_79_8_36 (some 64) (v := ?v124) rfl rfl (by kernel_rfl) hHeld (by rfl) (fun _ _ _ x => x) (fun w h => ?y124) ?_; (case y124 => (try dsimp only at h); go_simp; try (with_reducible rfl)); try simp only [Act.put, sa, s0, s1]
                    refine wpAnyH_ready (rs := [37]) (by kernel_rfl) (by simp) ?_
                    refine AllReadyH.cons (o := q5be_79_8_37) rfl (fun K hK => ?_) AllReadyH.nil
                    go_simp
                    refine Calls.mono (hCa _ hHeld) ?_
                    rintro e w3 ⟨rfl, hw3⟩
                    have hx3 := below_same hw3
                    clear hw3
                    go_wp2_with fail
                    refine hK.out _ _ (bthen hHeld hx3) (fun hHeld => ?_)
                    clear hK K
                    try simp only [Act.put, sa, s0, s1]
                    refine tk 38 q5be_79_8_38 (some 66) (v := ?v125) rfl rfl (by kernel_rfl) hHeld (by rfl) (fun _ _ _ x => x) (fun w h => ?y125) ?_; (case y125 => (try dsimp only at h); go_simp; try (with_reducible rfl)); try simp only [Act.put, sa, s0, s1]
                    refine tk 39 q5be_79_8_39 (some 67) (v := ?v126) rfl rfl (by kernel_rfl) hHeld (by rfl) (fun _ _ _ x => x) (fun w h => ?y126) ?_; (case y126 => (try dsimp only at h); go_simp; try (with_reducible rfl)); try simp only [Act.put, sa, s0, s1]
                    refine tk 40 q5be_79_8_40 (some 68) (v := ?v127) rfl rfl (by kernel_rfl) hHeld (by rfl) (fun _ _ _ x => x) (fun w h => ?y127) ?_; (case y127 => (try dsimp only at h); go_simp; try (with_reducible rfl)); try simp only [Act.put, sa, s0, s1]
                    refine tk 41 q5be_79_8_41 (some 69) (v := ?v128) rfl rfl (by kernel_rfl) hHeld (by rfl) (fun _ _ _ x => x) (fun w h => ?y128) ?_; (case y128 => (try dsimp only at h); go_simp; try (with_reducible rfl)); try simp only [Act.put, sa, s0, s1]
                    refine tk 42 q5be_79_8_42 (some 70) (v := ?v129) rfl rfl (by kernel_rfl) hHeld (by rfl) (fun _ _ _ x => x) (fun w h => ?y129) ?_; (case y129 => (try dsimp only at h); go_simp; try (with_reducible rfl)); try simp only [Act.put, sa, s0, s1]
                    refine tk 43 q5be_79_8_43 (some 71) (v := ?v130) rfl rfl (by kernel_rfl) hHeld (by rfl) (fun _ _ _ x => x) (fun w h => ?y130) ?_; (case y130 => (try dsimp only at h); go_simp; try (with_reducible rfl)); try simp only [Act.put, sa, s0, s1]
                    refine wpAnyH_ready (rs := [44]) (by kernel_rfl) (by simp) ?_
                    refine AllReadyH.cons (o := q5be_79_8_44) rfl (fun K hK => ?_) AllReadyH.nil
                    go_simp
                    refine Calls.mono (hCb _ hHeld) ?_
                    rintro e w4 ⟨rfl, hw4⟩
                    have hx4 := below_same hw4
                    clear hw4
                    go_wp2_with fail
                    refine hK.out _ _ (bthen hHeld hx4) (fun hHeld => ?_)
                    clear hK K
                    try simp only [Act.put, sa, s0, s1]
                    refine tk 45 q5be_79_8_45 (some 73) (v := ?v131) rfl rfl (by kernel_rfl) hHeld (by rfl) (fun _ _ _ x => x) (fun w h => ?y131) ?_; (case y131 => (try dsimp only at h); go_simp; try (with_reducible rfl)); try simp only [Act.put, sa, s0, s1]
                    refine tk 46 q5be_79_8_46 (some 74) (v := ?v132) rfl rfl (by kernel_rfl) hHeld (by rfl) (fun _ _ _ x => x) (fun w h => ?y132) ?_; (case y132 => (try dsimp only at h); go_simp; try (with_reducible rfl)); try simp only [Act.put, sa, s0, s1]
                    refine tk 47 q5be_79_8_47 (some 75) (v := ?v133) rfl rfl (by kernel_rfl) hHeld (by rfl) (fun _ _ _ x => x) (fun w h => ?y133) ?_; (case y133 => (try dsimp only at h); go_simp; try (with_reducible rfl)); try simp only [Act.put, sa, s0, s1]
                    refine wpAnyH_done (by kernel_rfl) ?_ _
                    go_wp2_with fail
                    go_ret
                    exact ⟨by rw [HV.out]; rfl, bthen hbW hHeld⟩
              · have e3 : inRange n.fSure 0 n.fData.length = false := inRange_no hSu
                have HV : Hid (specOk m = false) := HFAIL.out (by rw [HSI.out, HNI.out]; rw [decide_eq_false (by omega)]; rfl)
                clear HFAIL HGO HSI HNI hSu HSP
                refine wp_region_held_drew (S := fun W => Below wq.heap.size wq W) (by kernel_rfl) (Below.drew (Below.refl _ _)) (fun hHeld => ?_)
                refine tk 0 q5be_79_8_0 (some 28) (v := ?v134) rfl rfl (by kernel_rfl) hHeld (by rfl) (fun _ _ _ x => x) (fun w h => ?y134) ?_; (case y134 => (try dsimp only at h); go_simp; try (with_reducible rfl)); try simp only [Act.put, sa, s0, s1]
                refine tk 1 q5be_79_8_1 (some 29) (v := ?v135) rfl rfl (by kernel_rfl) hHeld (by rfl) (fun _ _ _ x => x) (fun w h => ?y135) ?_; (case y135 => (try dsimp only at h); go_simp; try (with_reducible rfl)); try simp only [Act.put, sa, s0, s1]
                refine tk 2 q5be_79_8_2 (some 30) (v := ?v136) rfl rfl (by kernel_rfl) hHeld (by rfl) (fun _ _ _ x => x) (fun w h => ?y136) ?_; (case y136 => (try dsimp only at h); go_simp; try (with_reducible rfl)); try simp only [Act.put, sa, s0, s1]
                refine tk 3 q5be_79_8_3 (some 31) (v := ?v137) rfl rfl (by kernel_rfl) hHeld (by rfl) (fun _ _ _ x => x) (fun w h => ?y137) ?_; (case y137 => (try dsimp only at h); go_simp; try (with_reducible rfl)); try simp only [Act.put, sa, s0, s1]
                refine tk 4 q5be_79_8_4 (some 32) (v := ?v138) rfl rfl (by kernel_rfl) hHeld (by rfl) (fun _ _ _ x => x) (fun w h => ?y138) ?_; (case y138 => (try dsimp only at h); go_simp; try (with_reducible rfl)); try simp only [Act.put, sa, s0, s1]
                refine wpAnyH_ready (rs := [5]) (by kernel_rfl) (by simp) ?_
                refine AllReadyH.cons (o := q5be_79_8_5) rfl (fun K hK => ?_) AllReadyH.nil
                go_simp
                refine Calls.mono (l1In_any _ _ _ _) ?_
                rintro e w1 ⟨rfl, hw1⟩
                have hx1 := below_same hw1
                clear hw1
                (try simp only [e1, e3])
                go_wp2_with fail
                refine hK.out _ _ (bthen hHeld hx1) (fun hHeld => ?_)
                clear hK K
                try simp only [Act.put, sa, s0, s1]
                refine tk 6 q5be_79_8_6 (some 34) (v := ?v139) rfl rfl (by kernel_rfl) hHeld (by rfl) (fun _ _ _ x => x) (fun w h => ?y139) ?_; (case y139 => (try dsimp only at h); go_simp; try (with_reducible rfl)); try simp only [Act.put, sa, s0, s1]
                refine tk 7 q5be_79_8_7 (some 35) (v := ?v140) rfl rfl (by kernel_rfl) hHeld (by rfl) (fun _ _ _ x => x) (fun w h => ?y140) ?_; (case y140 => (try dsimp only at h); go_simp; try (with_reducible rfl)); try simp only [Act.put, sa, s0, s1]
                refine tk 8 q5be_79_8_8 (some 36) (v := ?v141) rfl rfl (by kernel_rfl) hHeld (by rfl) (fun _ _ _ x => x) (fun w h => ?y141) ?_; (case y141 => (try dsimp only at h); go_simp; try (with_reducible rfl)); try simp only [Act.put, sa, s0, s1]
                refine tk 9 q5be_79_8_9 (some 37) (v := ?v142) rfl rfl (by kernel_rfl) hHeld (by rfl) (fun _ _ _ x => x) (fun w h => ?y142) ?_; (case y142 => (try dsimp only at h); go_simp; try (with_reducible rfl)); try simp only [Act.put, sa, s0, s1]
                refine tk 10 q5be_79_8_10 (some 38) (v := ?v143) rfl rfl (by kernel_rfl) hHeld (by rfl) (fun _ _ _ x => x) (fun w h => ?y143) ?_; (case y143 => (try dsimp only at h); go_simp; try (with_reducible rfl)); try simp only [Act.put, sa, s0, s1]
                refine tn 11 q5be_79_8_11 (some 39) rfl rfl (by kernel_rfl) hHeld (by rfl) (fun _ _ _ x => x) ?_; try simp only [Act.put, sa, s0, s1]
                refine tn 12 q5be_79_8_12 (some 40) rfl rfl (by kernel_rfl) hHeld (by rfl) (fun _ _ _ x => x) ?_; try simp only [Act.put, sa, s0, s1]
                refine tn 13 q5be_79_8_13 (some 41) rfl rfl (by kernel_rfl) hHeld (by rfl) (fun _ _ _ x => x) ?_; try simp only [Act.put, sa, s0, s1]
                refine tn 14 q5be_79_8_14 (some 42) rfl rfl (by kernel_rfl) hHeld (by rfl) (fun _ _ _ x => x) ?_; try simp only [Act.put, sa, s0, s1]
                refine tn 15 q5be_79_8_15 (some 43) rfl rfl (by kernel_rfl) hHeld (by rfl) (fun _ _ _ x => x) ?_; try simp only [Act.put, sa, s0, s1]
                refine tn 16 q5be_79_8_16 (some 44) rfl rfl (by kernel_rfl) hHeld (by rfl) (fun _ _ _ x => x) ?_; try simp only [Act.put, sa, s0, s1]
                refine tn 17 q5be_79_8_17 (some 45) rfl rfl (by kernel_rfl) hHeld (by rfl) (fun _ _ _ x => x) ?_; try simp only [Act.put, sa, s0, s1]
                refine tn 18 q5be_79_8_18 (some 46) rfl rfl (by kernel_rfl) hHeld (by rfl) (fun _ _ _ x => x) ?_; try simp only [Act.put, sa, s0, s1]
                refine tn 19 q5be_79_8_19 (some 47) rfl rfl (by kernel_rfl) hHeld (by rfl) (fun _ _ _ x => x) ?_; try simp only [Act.put, sa, s0, s1]
                refine tn 20 q5be_79_8_20 (some 48) rfl rfl (by kernel_rfl) hHeld (by rfl) (fun _ _ _ x => x) ?_; try simp only [Act.put, sa, s0, s1]
                refine tk 21 q5be_79_8_21 (some 49) (v := ?v154) rfl rfl (by kernel_rfl) hHeld (by rfl) (fun _ _ _ x => x) (fun w h => ?y154) ?_; (case y154 => (try dsimp only at h); go_simp; try (with_reducible rfl)); try simp only [Act.put, sa, s0, s1]
                refine tk 22 q5be_79_8_22 (some 50) (v := ?v155) rfl rfl (by kernel_rfl) hHeld (by rfl) (fun _ _ _ x => x) (fun w h => ?y155) ?_; (case y155 => (try dsimp only at h); go_simp; try (with_reducible rfl)); try simp only [Act.put, sa, s0, s1]
                refine tk 23 q5be_79_8_23 (some 51) (v := ?v156) rfl rfl (by kernel_rfl) hHeld (by rfl) (fun _ _ _ x => x) (fun w h => ?y156) ?_; (case y156 => (try dsimp only at h); go_simp; try (with_reducible rfl)); try simp only [Act.put, sa, s0, s1]
                refine tk 24 q5be_79_8_24 (some 52) (v := ?v157) rfl rfl (by kernel_rfl) hHeld (by rfl) (fun _ _ _ x => x) (fun w h => ?y157) ?_; (case y157 => (try dsimp only at h); go_simp; try (with_reducible rfl)); try simp only [Act.put, sa, s0, s1]
                refine tk 25 q5be_79_8_25 (some 53) (v := ?v158) rfl rfl (by kernel_rfl) hHeld (by rfl) (fun _ _ _ x => x) (fun w h => ?y158) ?_; (case y158 => (try dsimp only at h); go_simp; try (with_reducible rfl)); try simp only [Act.put, sa, s0, s1]
                refine tk 26 q5be_79_8_26 (some 54) (v := ?v159) rfl rfl (by kernel_rfl) hHeld (by rfl) (fun _ _ _ x => x) (fun w h => ?y159) ?_; (case y159 => (try dsimp only at h); go_simp; try (with_reducible rfl)); try simp only [Act.put, sa, s0, s1]
                refine tk 27 q5be_79_8_27 (some 55) (v := ?v160) rfl rfl (by kernel_rfl) hHeld (by rfl) (fun _ _ _ x => x) (fun w h => ?y160) ?_; (case y160 => (try dsimp only at h); go_simp; try (with_reducible rfl)); try simp only [Act.put, sa, s0, s1]
                refine tk 28 q5be_79_8_28 (some 56) (v := ?v161) rfl rfl (by kernel_rfl) hHeld (by rfl) (fun _ _ _ x => x) (fun w h => ?y161) ?_; (case y161 => (try dsimp only at h); go_simp; try (with_reducible rfl)); try simp only [Act.put, sa, s0, s1]
                refine wpAnyH_ready (rs := [29]) (by kernel_rfl) (by simp) ?_
                refine AllReadyH.cons (o := q5be_79_8_29) rfl (fun K hK => ?_) AllReadyH.nil
                go_simp
                refine Calls.mono (l1In_any _ _ _ _) ?_
                rintro e w2 ⟨rfl, hw2⟩
                have hx2 := below_same hw2
                clear hw2
                (try simp only [e1, e3])
                go_wp2_with fail
                refine hK.out _ _ (bthen hHeld hx2) (fun hHeld => ?_)
                clear hK K
                try simp only [Act.put, sa, s0, s1]
                refine tk 30 q5be_79_8_30 (some 58) (v := ?v162) rfl rfl (by kernel_rfl) hHeld (by rfl) (fun _ _ _ x => x) (fun w h => ?y162) ?_; (case y162 => (try dsimp only at h); go_simp; try (with_reducible rfl)); try simp only [Act.put, sa, s0, s1]
                refine tk 31 q5be_79_8_31 (some 59) (v := ?v163) rfl rfl (by kernel_rfl) hHeld (by rfl) (fun _ _ _ x => x) (fun w h => ?y163) ?_; (case y163 => (try dsimp only at h); go_simp; try (with_reducible rfl)); try simp only [Act.put, sa, s0, s1]
                refine tk 32 q5be_79_8_32 (some 60) (v := ?v164) rfl rfl (by kernel_rfl) hHeld (by rfl) (fun _ _ _ x => x) (fun w h => ?y164) ?_; (case y164 => (try dsimp only at h); go_simp; try (with_reducible rfl)); try simp only [Act.put, sa, s0, s1]
                refine tn 33 q5be_79_8_33 (some 61) rfl rfl (by kernel_rfl) hHeld (by rfl) (fun _ _ _ x => x) ?_; try simp only [Act.put, sa, s0, s1]
                refine tn 34 q5be_79_8_34 (some 62) rfl rfl (by kernel_rfl) hHeld (by rfl) (fun _ _ _ x => x) ?_; try simp only [Act.put, sa, s0, s1]
                refine tn 35 q5be_79_8_35 (some 63) rfl rfl (by kernel_rfl) hHeld (by rfl) (fun _ _ _ x => x) ?_; try simp only [Act.put, sa, s0, s1]
                refine tn 36 q5be_79_8_36 (some 64) rfl rfl (by kernel_rfl) hHeld (by rfl) (fun _ _ _ x => x) ?_; try simp only [Act.put, sa, s0, s1]
                refine tn 37 q5be_79_8_37 (some 65) rfl rfl (by kernel_rfl) hHeld (by rfl) (fun _ _ _ x => x) ?_; try simp only [Act.put, sa, s0, s1]
                refine tn 38 q5be_79_8_38 (some 66) rfl rfl (by kernel_rfl) hHeld (by rfl) (fun _ _ _ x => x) ?_; try simp only [Act.put, sa, s0, s1]
                refine tn 39 q5be_79_8_39 (some 67) rfl rfl (by kernel_rfl) hHeld (by rfl) (fun _ _ _ x => x) ?_; try simp only [Act.put, sa, s0, s1]
                refine tn 40 q5be_79_8_40 (some 68) rfl rfl (by kernel_rfl) hHeld (by rfl) (fun _ _ _ x => x) ?_; try simp only [Act.put, sa, s0, s1]
                refine tn 41 q5be_79_8_41 (some 69) rfl rfl (by kernel_rfl) hHeld (by rfl) (fun _ _ _ x => x) ?_; try simp only [Act.put, sa, s0, s1]
                refine tn 42 q5be_79_8_42 (some 70) rfl rfl (by kernel_rfl) hHeld (by rfl) (fun _ _ _ x => x) ?_; try simp only [Act.put, sa, s0, s1]
                refine tn 43 q5be_79_8_43 (some 71) rfl rfl (by kernel_rfl) hHeld (by rfl) (fun _ _ _ x => x) ?_; try simp only [Act.put, sa, s0, s1]
                refine tn 44 q5be_79_8_44 (some 72) rfl rfl (by kernel_rfl) hHeld (by rfl) (fun _ _ _ x => x) ?_; try simp only [Act.put, sa, s0, s1]
                refine tn 45 q5be_79_8_45 (some 73) rfl rfl (by kernel_rfl) hHeld (by rfl) (fun _ _ _ x => x) ?_; try simp only [Act.put, sa, s0, s1]
                refine tn 46 q5be_79_8_46 (some 74) rfl rfl (by kernel_rfl) hHeld (by rfl) (fun _ _ _ x => x) ?_; try simp only [Act.put, sa, s0, s1]
                refine tk 47 q5be_79_8_47 (some 75) (v := ?v179) rfl rfl (by kernel_rfl) hHeld (by rfl) (fun _ _ _ x => x) (fun w h => ?y179) ?_; (case y179 => (try dsimp only at h); go_simp; try (with_reducible rfl)); try simp only [Act.put, sa, s0, s1]
                refine wpAnyH_done (by kernel_rfl) ?_ _
                go_wp2_with fail
                go_ret
                exact ⟨by rw [HV.out]; rfl, bthen hbW hHeld⟩
            · obtain ⟨j, rfl⟩ : ∃ j, k = j + 1 := ⟨k - 1, by omega⟩
              have hjl : j < m.fInodes.length := by omega
              have kp := HPR.out j rfl hjl
              have qp : ∀ W, Below wq.heap.size wq W → W.cell? ⟨b1, o1 + j * 3, none⟩ = some (.int .i64 pv) := fun W hb => ((bthen hbq hb).cell (p := ⟨b1, o1 + j * 3, none⟩) hy1).trans kp
              have hz3 : (0 : Int) < (j : Int) + 1 := by omega
              have hz4 : (j : Int) < (m.fInodes.length : Int) := by omega
              have hz5 : (0 : Int) ≤ (j : Int) + 1 := by omega
              have hwr : IntKind.i64.wrap (j : Int) = j := by simp (disch := omega) only [IntWalk.i64_in]
              clear kp HPR h0
              by_cases hp : pv < n.fId
              · have hp2 : (n.fId ≤ pv) = False := eq_false (by omega)
                by_cases hSu : 0 ≤ n.fSure ∧ n.fSure ≤ n.fData.length
                · have e3 : inRange n.fSure 0 n.fData.length = true := inRange_yes hSu.1 hSu.2
                  obtain ⟨hSu1, hSu2⟩ := hSu
                  by_cases hA : named m.fNames n.fId = true
                  · have HGo := HGO.out (by rw [HSI.out, HNI.out, hA, decide_eq_true (by omega)]; rfl)
                    simp only [hA] at hCa
                    clear hCb HFAIL HGO HSI HNI hA HSP
                    refine wp_region_held_drew (S := fun W => Below wq.heap.size wq W) (by kernel_rfl) (Below.drew (Below.refl _ _)) (fun hHeld => ?_)
                    refine tk 0 q5be_79_8_0 (some 28) (v := ?v180) rfl rfl (by kernel_rfl) hHeld (by rfl) (fun _ _ _ x => x) (fun w h => ?y180) ?_; (case y180 => (try dsimp only at h); go_simp; try (with_reducible rfl)); try simp only [Act.put, sa, s0, s1]
                    refine tk 1 q5be_79_8_1 (some 29) (v := ?v181) rfl rfl (by kernel_rfl) hHeld (by rfl) (fun _ _ _ x => x) (fun w h => ?y181) ?_; (case y181 => (try dsimp only at h); go_simp; try (with_reducible rfl)); try simp only [Act.put, sa, s0, s1]
                    refine tk 2 q5be_79_8_2 (some 30) (v := ?v182) rfl rfl (by kernel_rfl) hHeld (by rfl) (fun _ _ _ x => x) (fun w h => ?y182) ?_; (case y182 => (try dsimp only at h); go_simp; try (with_reducible rfl)); try simp only [Act.put, sa, s0, s1]
                    refine tk 3 q5be_79_8_3 (some 31) (v := ?v183) rfl rfl (by kernel_rfl) hHeld (by rfl) (fun _ _ _ x => x) (fun w h => ?y183) ?_; (case y183 => (try dsimp only at h); go_simp; try (with_reducible rfl)); try simp only [Act.put, sa, s0, s1]
                    refine tk 4 q5be_79_8_4 (some 32) (v := ?v184) rfl rfl (by kernel_rfl) hHeld (by rfl) (fun _ _ _ x => x) (fun w h => ?y184) ?_; (case y184 => (try dsimp only at h); go_simp; try (with_reducible rfl)); try simp only [Act.put, sa, s0, s1]
                    refine wpAnyH_ready (rs := [5]) (by kernel_rfl) (by simp) ?_
                    refine AllReadyH.cons (o := q5be_79_8_5) rfl (fun K hK => ?_) AllReadyH.nil
                    go_simp
                    refine Calls.mono (l1In_any _ _ _ _) ?_
                    rintro e w1 ⟨rfl, hw1⟩
                    have hx1 := below_same hw1
                    clear hw1
                    (try simp only [e1, e3])
                    go_wp2_with fail
                    refine hK.out _ _ (bthen hHeld hx1) (fun hHeld => ?_)
                    clear hK K
                    try simp only [Act.put, sa, s0, s1]
                    refine tk 6 q5be_79_8_6 (some 34) (v := ?v185) rfl rfl (by kernel_rfl) hHeld (by rfl) (fun _ _ _ x => x) (fun w h => ?y185) ?_; (case y185 => (try dsimp only at h); go_simp; try (with_reducible rfl)); try simp only [Act.put, sa, s0, s1]
                    refine tk 7 q5be_79_8_7 (some 35) (v := ?v186) rfl rfl (by kernel_rfl) hHeld (by rfl) (fun _ _ _ x => x) (fun w h => ?y186) ?_; (case y186 => (try dsimp only at h); go_simp; try (with_reducible rfl)); try simp only [Act.put, sa, s0, s1]
                    refine tk 8 q5be_79_8_8 (some 36) (v := ?v187) rfl rfl (by kernel_rfl) hHeld (by rfl) (fun _ _ _ x => x) (fun w h => ?y187) ?_; (case y187 => (try dsimp only at h); go_simp; try (with_reducible rfl)); try simp only [Act.put, sa, s0, s1]
                    refine tk 9 q5be_79_8_9 (some 37) (v := ?v188) rfl rfl (by kernel_rfl) hHeld (by rfl) (fun _ _ _ x => x) (fun w h => ?y188) ?_; (case y188 => (try dsimp only at h); go_simp; try (with_reducible rfl)); try simp only [Act.put, sa, s0, s1]
                    refine tk 10 q5be_79_8_10 (some 38) (v := ?v189) rfl rfl (by kernel_rfl) hHeld (by rfl) (fun _ _ _ x => x) (fun w h => ?y189) ?_; (case y189 => (try dsimp only at h); go_simp; try (with_reducible rfl)); try simp only [Act.put, sa, s0, s1]
                    refine tk 11 q5be_79_8_11 (some 39) (v := ?v190) rfl rfl (by kernel_rfl) hHeld (by rfl) (fun _ _ _ x => x) (fun w h => ?y190) ?_; (case y190 => (try dsimp only at h); go_simp; try (with_reducible rfl)); try simp only [Act.put, sa, s0, s1]
                    refine tk 12 q5be_79_8_12 (some 40) (v := ?v191) rfl rfl (by kernel_rfl) hHeld (by rfl) (fun _ _ _ x => x) (fun w h => ?y191) ?_; (case y191 => (try dsimp only at h); go_simp; try (with_reducible rfl)); try simp only [Act.put, sa, s0, s1]
                    refine tk 13 q5be_79_8_13 (some 41) (v := ?v192) rfl rfl (by kernel_rfl) hHeld (by rfl) (fun _ _ _ x => x) (fun w h => ?y192) ?_; (case y192 => (try dsimp only at h); go_simp; try (with_reducible rfl)); try simp only [Act.put, sa, s0, s1]
                    refine tk 14 q5be_79_8_14 (some 42) (v := ?v193) rfl rfl (by kernel_rfl) hHeld (by rfl) (fun _ _ _ x => x) (fun w h => ?y193) ?_; (case y193 => (try dsimp only at h); go_simp; try (with_reducible rfl)); try simp only [Act.put, sa, s0, s1]
                    refine tk 15 q5be_79_8_15 (some 43) (v := ?v194) rfl rfl (by kernel_rfl) hHeld (by rfl) (fun _ _ _ x => x) (fun w h => ?y194) ?_; (case y194 => (try dsimp only at h); go_simp; try (with_reducible rfl)); try simp only [Act.put, sa, s0, s1]
                    refine tk 16 q5be_79_8_16 (some 44) (v := ?v195) rfl rfl (by kernel_rfl) hHeld (by rfl) (fun _ _ _ x => x) (fun w h => ?y195) ?_; (case y195 => (try dsimp only at h); go_simp; try (with_reducible rfl)); try simp only [Act.put, sa, s0, s1]
                    refine tk 17 q5be_79_8_17 (some 45) (v := ?v196) rfl rfl (by kernel_rfl) hHeld (by rfl) (fun _ _ _ x => x) (fun w h => ?y196) ?_; (case y196 => (try dsimp only at h); go_simp; try (with_reducible rfl)); try simp only [Act.put, sa, s0, s1]
                    refine tk 18 q5be_79_8_18 (some 46) (v := ?v197) rfl rfl (by kernel_rfl) hHeld (by rfl) (fun _ _ _ x => x) (fun w h => ?y197) ?_; (case y197 => (try dsimp only at h); go_simp; try (with_reducible rfl)); try simp only [Act.put, sa, s0, s1]
                    refine tk 19 q5be_79_8_19 (some 47) (v := ?v198) rfl rfl (by kernel_rfl) hHeld (by rfl) (fun _ _ _ x => x) (fun w h => ?y198) ?_; (case y198 => (try dsimp only at h); go_simp; try (with_reducible rfl)); try simp only [Act.put, sa, s0, s1]
                    refine tk 20 q5be_79_8_20 (some 48) (v := ?v199) rfl rfl (by kernel_rfl) hHeld (by rfl) (fun _ _ _ x => x) (fun w h => ?y199) ?_; (case y199 => (try dsimp only at h); go_simp; try (with_reducible rfl)); try simp only [Act.put, sa, s0, s1]
                    refine tk 21 q5be_79_8_21 (some 49) (v := ?v200) rfl rfl (by kernel_rfl) hHeld (by rfl) (fun _ _ _ x => x) (fun w h => ?y200) ?_; (case y200 => (try dsimp only at h); go_simp; try (with_reducible rfl)); try simp only [Act.put, sa, s0, s1]
                    refine tk 22 q5be_79_8_22 (some 50) (v := ?v201) rfl rfl (by kernel_rfl) hHeld (by rfl) (fun _ _ _ x => x) (fun w h => ?y201) ?_; (case y201 => (try dsimp only at h); go_simp; try (with_reducible rfl)); try simp only [Act.put, sa, s0, s1]
                    refine tk 23 q5be_79_8_23 (some 51) (v := ?v202) rfl rfl (by kernel_rfl) hHeld (by rfl) (fun _ _ _ x => x) (fun w h => ?y202) ?_; (case y202 => (try dsimp only at h); go_simp; try (with_reducible rfl)); try simp only [Act.put, sa, s0, s1]
                    refine tk 24 q5be_79_8_24 (some 52) (v := ?v203) rfl rfl (by kernel_rfl) hHeld (by rfl) (fun _ _ _ x => x) (fun w h => ?y203) ?_; (case y203 => (try dsimp only at h); go_simp; try (with_reducible rfl)); try simp only [Act.put, sa, s0, s1]
                    refine tk 25 q5be_79_8_25 (some 53) (v := ?v204) rfl rfl (by kernel_rfl) hHeld (by rfl) (fun _ _ _ x => x) (fun w h => ?y204) ?_; (case y204 => (try dsimp only at h); go_simp; try (with_reducible rfl)); try simp only [Act.put, sa, s0, s1]
                    refine tk 26 q5be_79_8_26 (some 54) (v := ?v205) rfl rfl (by kernel_rfl) hHeld (by rfl) (fun _ _ _ x => x) (fun w h => ?y205) ?_; (case y205 => (try dsimp only at h); go_simp; try (with_reducible rfl)); try simp only [Act.put, sa, s0, s1]
                    refine tk 27 q5be_79_8_27 (some 55) (v := ?v206) rfl rfl (by kernel_rfl) hHeld (by rfl) (fun _ _ _ x => x) (fun w h => ?y206) ?_; (case y206 => (try dsimp only at h); go_simp; try (with_reducible rfl)); try simp only [Act.put, sa, s0, s1]
                    refine tk 28 q5be_79_8_28 (some 56) (v := ?v207) rfl rfl (by kernel_rfl) hHeld (by rfl) (fun _ _ _ x => x) (fun w h => ?y207) ?_; (case y207 => (try dsimp only at h); go_simp; try (with_reducible rfl)); try simp only [Act.put, sa, s0, s1]
                    refine wpAnyH_ready (rs := [29]) (by kernel_rfl) (by simp) ?_
                    refine AllReadyH.cons (o := q5be_79_8_29) rfl (fun K hK => ?_) AllReadyH.nil
                    go_simp
                    refine Calls.mono (l1In_any _ _ _ _) ?_
                    rintro e w2 ⟨rfl, hw2⟩
                    have hx2 := below_same hw2
                    clear hw2
                    (try simp only [e1, e3])
                    go_wp2_with fail
                    refine hK.out _ _ (bthen hHeld hx2) (fun hHeld => ?_)
                    clear hK K
                    try simp only [Act.put, sa, s0, s1]
                    refine tk 30 q5be_79_8_30 (some 58) (v := ?v208) rfl rfl (by kernel_rfl) hHeld (by rfl) (fun _ _ _ x => x) (fun w h => ?y208) ?_; (case y208 => (try dsimp only at h); go_simp; try (with_reducible rfl)); try simp only [Act.put, sa, s0, s1]
                    refine tk 31 q5be_79_8_31 (some 59) (v := ?v209) rfl rfl (by kernel_rfl) hHeld (by rfl) (fun _ _ _ x => x) (fun w h => ?y209) ?_; (case y209 => (try dsimp only at h); go_simp; try (with_reducible rfl)); try simp only [Act.put, sa, s0, s1]
                    refine tk 32 q5be_79_8_32 (some 60) (v := ?v210) rfl rfl (by kernel_rfl) hHeld (by rfl) (fun _ _ _ x => x) (fun w h => ?y210) ?_; (case y210 => (try dsimp only at h); go_simp; try (with_reducible rfl)); try simp only [Act.put, sa, s0, s1]
                    refine tk 33 q5be_79_8_33 (some 61) (v := ?v211) rfl rfl (by kernel_rfl) hHeld (by rfl) (fun _ _ _ x => x) (fun w h => ?y211) ?_; (case y211 => (try dsimp only at h); go_simp; try (with_reducible rfl)); try simp only [Act.put, sa, s0, s1]
                    refine tk 34 q5be_79_8_34 (some 62) (v := ?v212) rfl rfl (by kernel_rfl) hHeld (by rfl) (fun _ _ _ x => x) (fun w h => ?y212) ?_; (case y212 => (try dsimp only at h); go_simp; try (with_reducible rfl)); try simp only [Act.put, sa, s0, s1]
                    refine tk 35 q5be_79_8_35 (some 63) (v := ?v213) rfl rfl (by kernel_rfl) hHeld (by rfl) (fun _ _ _ x => x) (fun w h => ?y213) ?_; (case y213 => (try dsimp only at h); go_simp; try (with_reducible rfl)); try simp only [Act.put, sa, s0, s1]
                    refine tk 36 q5be_79_8_36 (some 64) (v := ?v214) rfl rfl (by kernel_rfl) hHeld (by rfl) (fun _ _ _ x => x) (fun w h => ?y214) ?_; (case y214 => (try dsimp only at h); go_simp; try (with_reducible rfl)); try simp only [Act.put, sa, s0, s1]
                    refine wpAnyH_ready (rs := [37]) (by kernel_rfl) (by simp) ?_
                    refine AllReadyH.cons (o := q5be_79_8_37) rfl (fun K hK => ?_) AllReadyH.nil
                    go_simp
                    refine Calls.mono (hCa _ hHeld) ?_
                    rintro e w3 ⟨rfl, hw3⟩
                    have hx3 := below_same hw3
                    clear hw3
                    go_wp2_with fail
                    refine hK.out _ _ (bthen hHeld hx3) (fun hHeld => ?_)
                    clear hK K
                    try simp only [Act.put, sa, s0, s1]
                    refine tk 38 q5be_79_8_38 (some 66) (v := ?v215) rfl rfl (by kernel_rfl) hHeld (by rfl) (fun _ _ _ x => x) (fun w h => ?y215) ?_; (case y215 => (try dsimp only at h); go_simp; try (with_reducible rfl)); try simp only [Act.put, sa, s0, s1]
                    refine tk 39 q5be_79_8_39 (some 67) (v := ?v216) rfl rfl (by kernel_rfl) hHeld (by rfl) (fun _ _ _ x => x) (fun w h => ?y216) ?_; (case y216 => (try dsimp only at h); go_simp; try (with_reducible rfl)); try simp only [Act.put, sa, s0, s1]
                    refine tn 40 q5be_79_8_40 (some 68) rfl rfl (by kernel_rfl) hHeld (by rfl) (fun _ _ _ x => x) ?_; try simp only [Act.put, sa, s0, s1]
                    refine tn 41 q5be_79_8_41 (some 69) rfl rfl (by kernel_rfl) hHeld (by rfl) (fun _ _ _ x => x) ?_; try simp only [Act.put, sa, s0, s1]
                    refine tn 42 q5be_79_8_42 (some 70) rfl rfl (by kernel_rfl) hHeld (by rfl) (fun _ _ _ x => x) ?_; try simp only [Act.put, sa, s0, s1]
                    refine tn 43 q5be_79_8_43 (some 71) rfl rfl (by kernel_rfl) hHeld (by rfl) (fun _ _ _ x => x) ?_; try simp only [Act.put, sa, s0, s1]
                    refine tn 44 q5be_79_8_44 (some 72) rfl rfl (by kernel_rfl) hHeld (by rfl) (fun _ _ _ x => x) ?_; try simp only [Act.put, sa, s0, s1]
                    refine tn 45 q5be_79_8_45 (some 73) rfl rfl (by kernel_rfl) hHeld (by rfl) (fun _ _ _ x => x) ?_; try simp only [Act.put, sa, s0, s1]
                    refine tk 46 q5be_79_8_46 (some 74) (v := ?v223) rfl rfl (by kernel_rfl) hHeld (by rfl) (fun _ _ _ x => x) (fun w h => ?y223) ?_; (case y223 => (try dsimp only at h); go_simp; try (with_reducible rfl)); try simp only [Act.put, sa, s0, s1]
                    refine tk 47 q5be_79_8_47 (some 75) (v := ?v224) rfl rfl (by kernel_rfl) hHeld (by rfl) (fun _ _ _ x => x) (fun w h => ?y224) ?_; (case y224 => (try dsimp only at h); go_simp; try (with_reducible rfl)); try simp only [Act.put, sa, s0, s1]
                    refine wpAnyH_done (by kernel_rfl) ?_ _
                    have r1 := q1 _ hHeld
                    have r0 := p0 _ hHeld
                    go_wp2_with fail
                    go_roundw
                    case rel => exact ⟨j + 1 + 1, by omega, by go_num, by rw [HWS.out]; go_num, by rw [HPI.out]; omega, HGo, bthen hbW hHeld, hbx2.under hHeld⟩
                    case measure => simp [intOf]; omega
                  · have hA2 : named m.fNames n.fId = false := by simpa using hA
                    simp only [hA2] at hCa
                    by_cases hB2 : named m.fSafe n.fId = true
                    · have HGo := HGO.out (by rw [HSI.out, HNI.out, hB2, decide_eq_true (by omega)]; simp)
                      simp only [hB2] at hCb
                      clear HFAIL HGO HSI HNI hA hA2 hB2 HSP
                      refine wp_region_held_drew (S := fun W => Below wq.heap.size wq W) (by kernel_rfl) (Below.drew (Below.refl _ _)) (fun hHeld => ?_)
                      refine tk 0 q5be_79_8_0 (some 28) (v := ?v225) rfl rfl (by kernel_rfl) hHeld (by rfl) (fun _ _ _ x => x) (fun w h => ?y225) ?_; (case y225 => (try dsimp only at h); go_simp; try (with_reducible rfl)); try simp only [Act.put, sa, s0, s1]
                      refine tk 1 q5be_79_8_1 (some 29) (v := ?v226) rfl rfl (by kernel_rfl) hHeld (by rfl) (fun _ _ _ x => x) (fun w h => ?y226) ?_; (case y226 => (try dsimp only at h); go_simp; try (with_reducible rfl)); try simp only [Act.put, sa, s0, s1]
                      refine tk 2 q5be_79_8_2 (some 30) (v := ?v227) rfl rfl (by kernel_rfl) hHeld (by rfl) (fun _ _ _ x => x) (fun w h => ?y227) ?_; (case y227 => (try dsimp only at h); go_simp; try (with_reducible rfl)); try simp only [Act.put, sa, s0, s1]
                      refine tk 3 q5be_79_8_3 (some 31) (v := ?v228) rfl rfl (by kernel_rfl) hHeld (by rfl) (fun _ _ _ x => x) (fun w h => ?y228) ?_; (case y228 => (try dsimp only at h); go_simp; try (with_reducible rfl)); try simp only [Act.put, sa, s0, s1]
                      refine tk 4 q5be_79_8_4 (some 32) (v := ?v229) rfl rfl (by kernel_rfl) hHeld (by rfl) (fun _ _ _ x => x) (fun w h => ?y229) ?_; (case y229 => (try dsimp only at h); go_simp; try (with_reducible rfl)); try simp only [Act.put, sa, s0, s1]
                      refine wpAnyH_ready (rs := [5]) (by kernel_rfl) (by simp) ?_
                      refine AllReadyH.cons (o := q5be_79_8_5) rfl (fun K hK => ?_) AllReadyH.nil
                      go_simp
                      refine Calls.mono (l1In_any _ _ _ _) ?_
                      rintro e w1 ⟨rfl, hw1⟩
                      have hx1 := below_same hw1
                      clear hw1
                      (try simp only [e1, e3])
                      go_wp2_with fail
                      refine hK.out _ _ (bthen hHeld hx1) (fun hHeld => ?_)
                      clear hK K
                      try simp only [Act.put, sa, s0, s1]
                      refine tk 6 q5be_79_8_6 (some 34) (v := ?v230) rfl rfl (by kernel_rfl) hHeld (by rfl) (fun _ _ _ x => x) (fun w h => ?y230) ?_; (case y230 => (try dsimp only at h); go_simp; try (with_reducible rfl)); try simp only [Act.put, sa, s0, s1]
                      refine tk 7 q5be_79_8_7 (some 35) (v := ?v231) rfl rfl (by kernel_rfl) hHeld (by rfl) (fun _ _ _ x => x) (fun w h => ?y231) ?_; (case y231 => (try dsimp only at h); go_simp; try (with_reducible rfl)); try simp only [Act.put, sa, s0, s1]
                      refine tk 8 q5be_79_8_8 (some 36) (v := ?v232) rfl rfl (by kernel_rfl) hHeld (by rfl) (fun _ _ _ x => x) (fun w h => ?y232) ?_; (case y232 => (try dsimp only at h); go_simp; try (with_reducible rfl)); try simp only [Act.put, sa, s0, s1]
                      refine tk 9 q5be_79_8_9 (some 37) (v := ?v233) rfl rfl (by kernel_rfl) hHeld (by rfl) (fun _ _ _ x => x) (fun w h => ?y233) ?_; (case y233 => (try dsimp only at h); go_simp; try (with_reducible rfl)); try simp only [Act.put, sa, s0, s1]
                      refine tk 10 q5be_79_8_10 (some 38) (v := ?v234) rfl rfl (by kernel_rfl) hHeld (by rfl) (fun _ _ _ x => x) (fun w h => ?y234) ?_; (case y234 => (try dsimp only at h); go_simp; try (with_reducible rfl)); try simp only [Act.put, sa, s0, s1]
                      refine tk 11 q5be_79_8_11 (some 39) (v := ?v235) rfl rfl (by kernel_rfl) hHeld (by rfl) (fun _ _ _ x => x) (fun w h => ?y235) ?_; (case y235 => (try dsimp only at h); go_simp; try (with_reducible rfl)); try simp only [Act.put, sa, s0, s1]
                      refine tk 12 q5be_79_8_12 (some 40) (v := ?v236) rfl rfl (by kernel_rfl) hHeld (by rfl) (fun _ _ _ x => x) (fun w h => ?y236) ?_; (case y236 => (try dsimp only at h); go_simp; try (with_reducible rfl)); try simp only [Act.put, sa, s0, s1]
                      refine tk 13 q5be_79_8_13 (some 41) (v := ?v237) rfl rfl (by kernel_rfl) hHeld (by rfl) (fun _ _ _ x => x) (fun w h => ?y237) ?_; (case y237 => (try dsimp only at h); go_simp; try (with_reducible rfl)); try simp only [Act.put, sa, s0, s1]
                      refine tk 14 q5be_79_8_14 (some 42) (v := ?v238) rfl rfl (by kernel_rfl) hHeld (by rfl) (fun _ _ _ x => x) (fun w h => ?y238) ?_; (case y238 => (try dsimp only at h); go_simp; try (with_reducible rfl)); try simp only [Act.put, sa, s0, s1]
                      refine tk 15 q5be_79_8_15 (some 43) (v := ?v239) rfl rfl (by kernel_rfl) hHeld (by rfl) (fun _ _ _ x => x) (fun w h => ?y239) ?_; (case y239 => (try dsimp only at h); go_simp; try (with_reducible rfl)); try simp only [Act.put, sa, s0, s1]
                      refine tk 16 q5be_79_8_16 (some 44) (v := ?v240) rfl rfl (by kernel_rfl) hHeld (by rfl) (fun _ _ _ x => x) (fun w h => ?y240) ?_; (case y240 => (try dsimp only at h); go_simp; try (with_reducible rfl)); try simp only [Act.put, sa, s0, s1]
                      refine tk 17 q5be_79_8_17 (some 45) (v := ?v241) rfl rfl (by kernel_rfl) hHeld (by rfl) (fun _ _ _ x => x) (fun w h => ?y241) ?_; (case y241 => (try dsimp only at h); go_simp; try (with_reducible rfl)); try simp only [Act.put, sa, s0, s1]
                      refine tk 18 q5be_79_8_18 (some 46) (v := ?v242) rfl rfl (by kernel_rfl) hHeld (by rfl) (fun _ _ _ x => x) (fun w h => ?y242) ?_; (case y242 => (try dsimp only at h); go_simp; try (with_reducible rfl)); try simp only [Act.put, sa, s0, s1]
                      refine tk 19 q5be_79_8_19 (some 47) (v := ?v243) rfl rfl (by kernel_rfl) hHeld (by rfl) (fun _ _ _ x => x) (fun w h => ?y243) ?_; (case y243 => (try dsimp only at h); go_simp; try (with_reducible rfl)); try simp only [Act.put, sa, s0, s1]
                      refine tk 20 q5be_79_8_20 (some 48) (v := ?v244) rfl rfl (by kernel_rfl) hHeld (by rfl) (fun _ _ _ x => x) (fun w h => ?y244) ?_; (case y244 => (try dsimp only at h); go_simp; try (with_reducible rfl)); try simp only [Act.put, sa, s0, s1]
                      refine tk 21 q5be_79_8_21 (some 49) (v := ?v245) rfl rfl (by kernel_rfl) hHeld (by rfl) (fun _ _ _ x => x) (fun w h => ?y245) ?_; (case y245 => (try dsimp only at h); go_simp; try (with_reducible rfl)); try simp only [Act.put, sa, s0, s1]
                      refine tk 22 q5be_79_8_22 (some 50) (v := ?v246) rfl rfl (by kernel_rfl) hHeld (by rfl) (fun _ _ _ x => x) (fun w h => ?y246) ?_; (case y246 => (try dsimp only at h); go_simp; try (with_reducible rfl)); try simp only [Act.put, sa, s0, s1]
                      refine tk 23 q5be_79_8_23 (some 51) (v := ?v247) rfl rfl (by kernel_rfl) hHeld (by rfl) (fun _ _ _ x => x) (fun w h => ?y247) ?_; (case y247 => (try dsimp only at h); go_simp; try (with_reducible rfl)); try simp only [Act.put, sa, s0, s1]
                      refine tk 24 q5be_79_8_24 (some 52) (v := ?v248) rfl rfl (by kernel_rfl) hHeld (by rfl) (fun _ _ _ x => x) (fun w h => ?y248) ?_; (case y248 => (try dsimp only at h); go_simp; try (with_reducible rfl)); try simp only [Act.put, sa, s0, s1]
                      refine tk 25 q5be_79_8_25 (some 53) (v := ?v249) rfl rfl (by kernel_rfl) hHeld (by rfl) (fun _ _ _ x => x) (fun w h => ?y249) ?_; (case y249 => (try dsimp only at h); go_simp; try (with_reducible rfl)); try simp only [Act.put, sa, s0, s1]
                      refine tk 26 q5be_79_8_26 (some 54) (v := ?v250) rfl rfl (by kernel_rfl) hHeld (by rfl) (fun _ _ _ x => x) (fun w h => ?y250) ?_; (case y250 => (try dsimp only at h); go_simp; try (with_reducible rfl)); try simp only [Act.put, sa, s0, s1]
                      refine tk 27 q5be_79_8_27 (some 55) (v := ?v251) rfl rfl (by kernel_rfl) hHeld (by rfl) (fun _ _ _ x => x) (fun w h => ?y251) ?_; (case y251 => (try dsimp only at h); go_simp; try (with_reducible rfl)); try simp only [Act.put, sa, s0, s1]
                      refine tk 28 q5be_79_8_28 (some 56) (v := ?v252) rfl rfl (by kernel_rfl) hHeld (by rfl) (fun _ _ _ x => x) (fun w h => ?y252) ?_; (case y252 => (try dsimp only at h); go_simp; try (with_reducible rfl)); try simp only [Act.put, sa, s0, s1]
                      refine wpAnyH_ready (rs := [29]) (by kernel_rfl) (by simp) ?_
                      refine AllReadyH.cons (o := q5be_79_8_29) rfl (fun K hK => ?_) AllReadyH.nil
                      go_simp
                      refine Calls.mono (l1In_any _ _ _ _) ?_
                      rintro e w2 ⟨rfl, hw2⟩
                      have hx2 := below_same hw2
                      clear hw2
                      (try simp only [e1, e3])
                      go_wp2_with fail
                      refine hK.out _ _ (bthen hHeld hx2) (fun hHeld => ?_)
                      clear hK K
                      try simp only [Act.put, sa, s0, s1]
                      refine tk 30 q5be_79_8_30 (some 58) (v := ?v253) rfl rfl (by kernel_rfl) hHeld (by rfl) (fun _ _ _ x => x) (fun w h => ?y253) ?_; (case y253 => (try dsimp only at h); go_simp; try (with_reducible rfl)); try simp only [Act.put, sa, s0, s1]
                      refine tk 31 q5be_79_8_31 (some 59) (v := ?v254) rfl rfl (by kernel_rfl) hHeld (by rfl) (fun _ _ _ x => x) (fun w h => ?y254) ?_; (case y254 => (try dsimp only at h); go_simp; try (with_reducible rfl)); try simp only [Act.put, sa, s0, s1]
                      refine tk 32 q5be_79_8_32 (some 60) (v := ?v255) rfl rfl (by kernel_rfl) hHeld (by rfl) (fun _ _ _ x => x) (fun w h => ?y255) ?_; (case y255 => (try dsimp only at h); go_simp; try (with_reducible rfl)); try simp only [Act.put, sa, s0, s1]
                      refine tk 33 q5be_79_8_33 (some 61) (v := ?v256) rfl rfl (by kernel_rfl) hHeld (by rfl) (fun _ _ _ x => x) (fun w h => ?y256) ?_; (case y256 => (try dsimp only at h); go_simp; try (with_reducible rfl)); try simp only [Act.put, sa, s0, s1]
                      refine tk 34 q5be_79_8_34 (some 62) (v := ?v257) rfl rfl (by kernel_rfl) hHeld (by rfl) (fun _ _ _ x => x) (fun w h => ?y257) ?_; (case y257 => (try dsimp only at h); go_simp; try (with_reducible rfl)); try simp only [Act.put, sa, s0, s1]
                      refine tk 35 q5be_79_8_35 (some 63) (v := ?v258) rfl rfl (by kernel_rfl) hHeld (by rfl) (fun _ _ _ x => x) (fun w h => ?y258) ?_; (case y258 => (try dsimp only at h); go_simp; try (with_reducible rfl)); try simp only [Act.put, sa, s0, s1]
                      refine tk 36 q5be_79_8_36 (some 64) (v := ?v259) rfl rfl (by kernel_rfl) hHeld (by rfl) (fun _ _ _ x => x) (fun w h => ?y259) ?_; (case y259 => (try dsimp only at h); go_simp; try (with_reducible rfl)); try simp only [Act.put, sa, s0, s1]
                      refine wpAnyH_ready (rs := [37]) (by kernel_rfl) (by simp) ?_
                      refine AllReadyH.cons (o := q5be_79_8_37) rfl (fun K hK => ?_) AllReadyH.nil
                      go_simp
                      refine Calls.mono (hCa _ hHeld) ?_
                      rintro e w3 ⟨rfl, hw3⟩
                      have hx3 := below_same hw3
                      clear hw3
                      go_wp2_with fail
                      refine hK.out _ _ (bthen hHeld hx3) (fun hHeld => ?_)
                      clear hK K
                      try simp only [Act.put, sa, s0, s1]
                      refine tk 38 q5be_79_8_38 (some 66) (v := ?v260) rfl rfl (by kernel_rfl) hHeld (by rfl) (fun _ _ _ x => x) (fun w h => ?y260) ?_; (case y260 => (try dsimp only at h); go_simp; try (with_reducible rfl)); try simp only [Act.put, sa, s0, s1]
                      refine tk 39 q5be_79_8_39 (some 67) (v := ?v261) rfl rfl (by kernel_rfl) hHeld (by rfl) (fun _ _ _ x => x) (fun w h => ?y261) ?_; (case y261 => (try dsimp only at h); go_simp; try (with_reducible rfl)); try simp only [Act.put, sa, s0, s1]
                      refine tk 40 q5be_79_8_40 (some 68) (v := ?v262) rfl rfl (by kernel_rfl) hHeld (by rfl) (fun _ _ _ x => x) (fun w h => ?y262) ?_; (case y262 => (try dsimp only at h); go_simp; try (with_reducible rfl)); try simp only [Act.put, sa, s0, s1]
                      refine tk 41 q5be_79_8_41 (some 69) (v := ?v263) rfl rfl (by kernel_rfl) hHeld (by rfl) (fun _ _ _ x => x) (fun w h => ?y263) ?_; (case y263 => (try dsimp only at h); go_simp; try (with_reducible rfl)); try simp only [Act.put, sa, s0, s1]
                      refine tk 42 q5be_79_8_42 (some 70) (v := ?v264) rfl rfl (by kernel_rfl) hHeld (by rfl) (fun _ _ _ x => x) (fun w h => ?y264) ?_; (case y264 => (try dsimp only at h); go_simp; try (with_reducible rfl)); try simp only [Act.put, sa, s0, s1]
                      refine tk 43 q5be_79_8_43 (some 71) (v := ?v265) rfl rfl (by kernel_rfl) hHeld (by rfl) (fun _ _ _ x => x) (fun w h => ?y265) ?_; (case y265 => (try dsimp only at h); go_simp; try (with_reducible rfl)); try simp only [Act.put, sa, s0, s1]
                      refine wpAnyH_ready (rs := [44]) (by kernel_rfl) (by simp) ?_
                      refine AllReadyH.cons (o := q5be_79_8_44) rfl (fun K hK => ?_) AllReadyH.nil
                      go_simp
                      refine Calls.mono (hCb _ hHeld) ?_
                      rintro e w4 ⟨rfl, hw4⟩
                      have hx4 := below_same hw4
                      clear hw4
                      go_wp2_with fail
                      refine hK.out _ _ (bthen hHeld hx4) (fun hHeld => ?_)
                      clear hK K
                      try simp only [Act.put, sa, s0, s1]
                      refine tk 45 q5be_79_8_45 (some 73) (v := ?v266) rfl rfl (by kernel_rfl) hHeld (by rfl) (fun _ _ _ x => x) (fun w h => ?y266) ?_; (case y266 => (try dsimp only at h); go_simp; try (with_reducible rfl)); try simp only [Act.put, sa, s0, s1]
                      refine tk 46 q5be_79_8_46 (some 74) (v := ?v267) rfl rfl (by kernel_rfl) hHeld (by rfl) (fun _ _ _ x => x) (fun w h => ?y267) ?_; (case y267 => (try dsimp only at h); go_simp; try (with_reducible rfl)); try simp only [Act.put, sa, s0, s1]
                      refine tk 47 q5be_79_8_47 (some 75) (v := ?v268) rfl rfl (by kernel_rfl) hHeld (by rfl) (fun _ _ _ x => x) (fun w h => ?y268) ?_; (case y268 => (try dsimp only at h); go_simp; try (with_reducible rfl)); try simp only [Act.put, sa, s0, s1]
                      refine wpAnyH_done (by kernel_rfl) ?_ _
                      have r1 := q1 _ hHeld
                      have r0 := p0 _ hHeld
                      go_wp2_with fail
                      go_roundw
                      case rel => exact ⟨j + 1 + 1, by omega, by go_num, by rw [HWS.out]; go_num, by rw [HPI.out]; omega, HGo, bthen hbW hHeld, hbx2.under hHeld⟩
                      case measure => simp [intOf]; omega
                    · have hB3 : named m.fSafe n.fId = false := by simpa using hB2
                      simp only [hB3] at hCb
                      have HV : Hid (specOk m = false) := HFAIL.out (by rw [HSI.out, HNI.out]; rw [hA2, hB3]; simp)
                      clear HFAIL HGO HSI HNI hA hA2 hB2 hB3 HSP
                      refine wp_region_held_drew (S := fun W => Below wq.heap.size wq W) (by kernel_rfl) (Below.drew (Below.refl _ _)) (fun hHeld => ?_)
                      refine tk 0 q5be_79_8_0 (some 28) (v := ?v269) rfl rfl (by kernel_rfl) hHeld (by rfl) (fun _ _ _ x => x) (fun w h => ?y269) ?_; (case y269 => (try dsimp only at h); go_simp; try (with_reducible rfl)); try simp only [Act.put, sa, s0, s1]
                      refine tk 1 q5be_79_8_1 (some 29) (v := ?v270) rfl rfl (by kernel_rfl) hHeld (by rfl) (fun _ _ _ x => x) (fun w h => ?y270) ?_; (case y270 => (try dsimp only at h); go_simp; try (with_reducible rfl)); try simp only [Act.put, sa, s0, s1]
                      refine tk 2 q5be_79_8_2 (some 30) (v := ?v271) rfl rfl (by kernel_rfl) hHeld (by rfl) (fun _ _ _ x => x) (fun w h => ?y271) ?_; (case y271 => (try dsimp only at h); go_simp; try (with_reducible rfl)); try simp only [Act.put, sa, s0, s1]
                      refine tk 3 q5be_79_8_3 (some 31) (v := ?v272) rfl rfl (by kernel_rfl) hHeld (by rfl) (fun _ _ _ x => x) (fun w h => ?y272) ?_; (case y272 => (try dsimp only at h); go_simp; try (with_reducible rfl)); try simp only [Act.put, sa, s0, s1]
                      refine tk 4 q5be_79_8_4 (some 32) (v := ?v273) rfl rfl (by kernel_rfl) hHeld (by rfl) (fun _ _ _ x => x) (fun w h => ?y273) ?_; (case y273 => (try dsimp only at h); go_simp; try (with_reducible rfl)); try simp only [Act.put, sa, s0, s1]
                      refine wpAnyH_ready (rs := [5]) (by kernel_rfl) (by simp) ?_
                      refine AllReadyH.cons (o := q5be_79_8_5) rfl (fun K hK => ?_) AllReadyH.nil
                      go_simp
                      refine Calls.mono (l1In_any _ _ _ _) ?_
                      rintro e w1 ⟨rfl, hw1⟩
                      have hx1 := below_same hw1
                      clear hw1
                      (try simp only [e1, e3])
                      go_wp2_with fail
                      refine hK.out _ _ (bthen hHeld hx1) (fun hHeld => ?_)
                      clear hK K
                      try simp only [Act.put, sa, s0, s1]
                      refine tk 6 q5be_79_8_6 (some 34) (v := ?v274) rfl rfl (by kernel_rfl) hHeld (by rfl) (fun _ _ _ x => x) (fun w h => ?y274) ?_; (case y274 => (try dsimp only at h); go_simp; try (with_reducible rfl)); try simp only [Act.put, sa, s0, s1]
                      refine tk 7 q5be_79_8_7 (some 35) (v := ?v275) rfl rfl (by kernel_rfl) hHeld (by rfl) (fun _ _ _ x => x) (fun w h => ?y275) ?_; (case y275 => (try dsimp only at h); go_simp; try (with_reducible rfl)); try simp only [Act.put, sa, s0, s1]
                      refine tk 8 q5be_79_8_8 (some 36) (v := ?v276) rfl rfl (by kernel_rfl) hHeld (by rfl) (fun _ _ _ x => x) (fun w h => ?y276) ?_; (case y276 => (try dsimp only at h); go_simp; try (with_reducible rfl)); try simp only [Act.put, sa, s0, s1]
                      refine tk 9 q5be_79_8_9 (some 37) (v := ?v277) rfl rfl (by kernel_rfl) hHeld (by rfl) (fun _ _ _ x => x) (fun w h => ?y277) ?_; (case y277 => (try dsimp only at h); go_simp; try (with_reducible rfl)); try simp only [Act.put, sa, s0, s1]
                      refine tk 10 q5be_79_8_10 (some 38) (v := ?v278) rfl rfl (by kernel_rfl) hHeld (by rfl) (fun _ _ _ x => x) (fun w h => ?y278) ?_; (case y278 => (try dsimp only at h); go_simp; try (with_reducible rfl)); try simp only [Act.put, sa, s0, s1]
                      refine tk 11 q5be_79_8_11 (some 39) (v := ?v279) rfl rfl (by kernel_rfl) hHeld (by rfl) (fun _ _ _ x => x) (fun w h => ?y279) ?_; (case y279 => (try dsimp only at h); go_simp; try (with_reducible rfl)); try simp only [Act.put, sa, s0, s1]
                      refine tk 12 q5be_79_8_12 (some 40) (v := ?v280) rfl rfl (by kernel_rfl) hHeld (by rfl) (fun _ _ _ x => x) (fun w h => ?y280) ?_; (case y280 => (try dsimp only at h); go_simp; try (with_reducible rfl)); try simp only [Act.put, sa, s0, s1]
                      refine tk 13 q5be_79_8_13 (some 41) (v := ?v281) rfl rfl (by kernel_rfl) hHeld (by rfl) (fun _ _ _ x => x) (fun w h => ?y281) ?_; (case y281 => (try dsimp only at h); go_simp; try (with_reducible rfl)); try simp only [Act.put, sa, s0, s1]
                      refine tk 14 q5be_79_8_14 (some 42) (v := ?v282) rfl rfl (by kernel_rfl) hHeld (by rfl) (fun _ _ _ x => x) (fun w h => ?y282) ?_; (case y282 => (try dsimp only at h); go_simp; try (with_reducible rfl)); try simp only [Act.put, sa, s0, s1]
                      refine tk 15 q5be_79_8_15 (some 43) (v := ?v283) rfl rfl (by kernel_rfl) hHeld (by rfl) (fun _ _ _ x => x) (fun w h => ?y283) ?_; (case y283 => (try dsimp only at h); go_simp; try (with_reducible rfl)); try simp only [Act.put, sa, s0, s1]
                      refine tk 16 q5be_79_8_16 (some 44) (v := ?v284) rfl rfl (by kernel_rfl) hHeld (by rfl) (fun _ _ _ x => x) (fun w h => ?y284) ?_; (case y284 => (try dsimp only at h); go_simp; try (with_reducible rfl)); try simp only [Act.put, sa, s0, s1]
                      refine tk 17 q5be_79_8_17 (some 45) (v := ?v285) rfl rfl (by kernel_rfl) hHeld (by rfl) (fun _ _ _ x => x) (fun w h => ?y285) ?_; (case y285 => (try dsimp only at h); go_simp; try (with_reducible rfl)); try simp only [Act.put, sa, s0, s1]
                      refine tk 18 q5be_79_8_18 (some 46) (v := ?v286) rfl rfl (by kernel_rfl) hHeld (by rfl) (fun _ _ _ x => x) (fun w h => ?y286) ?_; (case y286 => (try dsimp only at h); go_simp; try (with_reducible rfl)); try simp only [Act.put, sa, s0, s1]
                      refine tk 19 q5be_79_8_19 (some 47) (v := ?v287) rfl rfl (by kernel_rfl) hHeld (by rfl) (fun _ _ _ x => x) (fun w h => ?y287) ?_; (case y287 => (try dsimp only at h); go_simp; try (with_reducible rfl)); try simp only [Act.put, sa, s0, s1]
                      refine tk 20 q5be_79_8_20 (some 48) (v := ?v288) rfl rfl (by kernel_rfl) hHeld (by rfl) (fun _ _ _ x => x) (fun w h => ?y288) ?_; (case y288 => (try dsimp only at h); go_simp; try (with_reducible rfl)); try simp only [Act.put, sa, s0, s1]
                      refine tk 21 q5be_79_8_21 (some 49) (v := ?v289) rfl rfl (by kernel_rfl) hHeld (by rfl) (fun _ _ _ x => x) (fun w h => ?y289) ?_; (case y289 => (try dsimp only at h); go_simp; try (with_reducible rfl)); try simp only [Act.put, sa, s0, s1]
                      refine tk 22 q5be_79_8_22 (some 50) (v := ?v290) rfl rfl (by kernel_rfl) hHeld (by rfl) (fun _ _ _ x => x) (fun w h => ?y290) ?_; (case y290 => (try dsimp only at h); go_simp; try (with_reducible rfl)); try simp only [Act.put, sa, s0, s1]
                      refine tk 23 q5be_79_8_23 (some 51) (v := ?v291) rfl rfl (by kernel_rfl) hHeld (by rfl) (fun _ _ _ x => x) (fun w h => ?y291) ?_; (case y291 => (try dsimp only at h); go_simp; try (with_reducible rfl)); try simp only [Act.put, sa, s0, s1]
                      refine tk 24 q5be_79_8_24 (some 52) (v := ?v292) rfl rfl (by kernel_rfl) hHeld (by rfl) (fun _ _ _ x => x) (fun w h => ?y292) ?_; (case y292 => (try dsimp only at h); go_simp; try (with_reducible rfl)); try simp only [Act.put, sa, s0, s1]
                      refine tk 25 q5be_79_8_25 (some 53) (v := ?v293) rfl rfl (by kernel_rfl) hHeld (by rfl) (fun _ _ _ x => x) (fun w h => ?y293) ?_; (case y293 => (try dsimp only at h); go_simp; try (with_reducible rfl)); try simp only [Act.put, sa, s0, s1]
                      refine tk 26 q5be_79_8_26 (some 54) (v := ?v294) rfl rfl (by kernel_rfl) hHeld (by rfl) (fun _ _ _ x => x) (fun w h => ?y294) ?_; (case y294 => (try dsimp only at h); go_simp; try (with_reducible rfl)); try simp only [Act.put, sa, s0, s1]
                      refine tk 27 q5be_79_8_27 (some 55) (v := ?v295) rfl rfl (by kernel_rfl) hHeld (by rfl) (fun _ _ _ x => x) (fun w h => ?y295) ?_; (case y295 => (try dsimp only at h); go_simp; try (with_reducible rfl)); try simp only [Act.put, sa, s0, s1]
                      refine tk 28 q5be_79_8_28 (some 56) (v := ?v296) rfl rfl (by kernel_rfl) hHeld (by rfl) (fun _ _ _ x => x) (fun w h => ?y296) ?_; (case y296 => (try dsimp only at h); go_simp; try (with_reducible rfl)); try simp only [Act.put, sa, s0, s1]
                      refine wpAnyH_ready (rs := [29]) (by kernel_rfl) (by simp) ?_
                      refine AllReadyH.cons (o := q5be_79_8_29) rfl (fun K hK => ?_) AllReadyH.nil
                      go_simp
                      refine Calls.mono (l1In_any _ _ _ _) ?_
                      rintro e w2 ⟨rfl, hw2⟩
                      have hx2 := below_same hw2
                      clear hw2
                      (try simp only [e1, e3])
                      go_wp2_with fail
                      refine hK.out _ _ (bthen hHeld hx2) (fun hHeld => ?_)
                      clear hK K
                      try simp only [Act.put, sa, s0, s1]
                      refine tk 30 q5be_79_8_30 (some 58) (v := ?v297) rfl rfl (by kernel_rfl) hHeld (by rfl) (fun _ _ _ x => x) (fun w h => ?y297) ?_; (case y297 => (try dsimp only at h); go_simp; try (with_reducible rfl)); try simp only [Act.put, sa, s0, s1]
                      refine tk 31 q5be_79_8_31 (some 59) (v := ?v298) rfl rfl (by kernel_rfl) hHeld (by rfl) (fun _ _ _ x => x) (fun w h => ?y298) ?_; (case y298 => (try dsimp only at h); go_simp; try (with_reducible rfl)); try simp only [Act.put, sa, s0, s1]
                      refine tk 32 q5be_79_8_32 (some 60) (v := ?v299) rfl rfl (by kernel_rfl) hHeld (by rfl) (fun _ _ _ x => x) (fun w h => ?y299) ?_; (case y299 => (try dsimp only at h); go_simp; try (with_reducible rfl)); try simp only [Act.put, sa, s0, s1]
                      refine tk 33 q5be_79_8_33 (some 61) (v := ?v300) rfl rfl (by kernel_rfl) hHeld (by rfl) (fun _ _ _ x => x) (fun w h => ?y300) ?_; (case y300 => (try dsimp only at h); go_simp; try (with_reducible rfl)); try simp only [Act.put, sa, s0, s1]
                      refine tk 34 q5be_79_8_34 (some 62) (v := ?v301) rfl rfl (by kernel_rfl) hHeld (by rfl) (fun _ _ _ x => x) (fun w h => ?y301) ?_; (case y301 => (try dsimp only at h); go_simp; try (with_reducible rfl)); try simp only [Act.put, sa, s0, s1]
                      refine tk 35 q5be_79_8_35 (some 63) (v := ?v302) rfl rfl (by kernel_rfl) hHeld (by rfl) (fun _ _ _ x => x) (fun w h => ?y302) ?_; (case y302 => (try dsimp only at h); go_simp; try (with_reducible rfl)); try simp only [Act.put, sa, s0, s1]
                      refine tk 36 q5be_79_8_36 (some 64) (v := ?v303) rfl rfl (by kernel_rfl) hHeld (by rfl) (fun _ _ _ x => x) (fun w h => ?y303) ?_; (case y303 => (try dsimp only at h); go_simp; try (with_reducible rfl)); try simp only [Act.put, sa, s0, s1]
                      refine wpAnyH_ready (rs := [37]) (by kernel_rfl) (by simp) ?_
                      refine AllReadyH.cons (o := q5be_79_8_37) rfl (fun K hK => ?_) AllReadyH.nil
                      go_simp
                      refine Calls.mono (hCa _ hHeld) ?_
                      rintro e w3 ⟨rfl, hw3⟩
                      have hx3 := below_same hw3
                      clear hw3
                      go_wp2_with fail
                      refine hK.out _ _ (bthen hHeld hx3) (fun hHeld => ?_)
                      clear hK K
                      try simp only [Act.put, sa, s0, s1]
                      refine tk 38 q5be_79_8_38 (some 66) (v := ?v304) rfl rfl (by kernel_rfl) hHeld (by rfl) (fun _ _ _ x => x) (fun w h => ?y304) ?_; (case y304 => (try dsimp only at h); go_simp; try (with_reducible rfl)); try simp only [Act.put, sa, s0, s1]
                      refine tk 39 q5be_79_8_39 (some 67) (v := ?v305) rfl rfl (by kernel_rfl) hHeld (by rfl) (fun _ _ _ x => x) (fun w h => ?y305) ?_; (case y305 => (try dsimp only at h); go_simp; try (with_reducible rfl)); try simp only [Act.put, sa, s0, s1]
                      refine tk 40 q5be_79_8_40 (some 68) (v := ?v306) rfl rfl (by kernel_rfl) hHeld (by rfl) (fun _ _ _ x => x) (fun w h => ?y306) ?_; (case y306 => (try dsimp only at h); go_simp; try (with_reducible rfl)); try simp only [Act.put, sa, s0, s1]
                      refine tk 41 q5be_79_8_41 (some 69) (v := ?v307) rfl rfl (by kernel_rfl) hHeld (by rfl) (fun _ _ _ x => x) (fun w h => ?y307) ?_; (case y307 => (try dsimp only at h); go_simp; try (with_reducible rfl)); try simp only [Act.put, sa, s0, s1]
                      refine tk 42 q5be_79_8_42 (some 70) (v := ?v308) rfl rfl (by kernel_rfl) hHeld (by rfl) (fun _ _ _ x => x) (fun w h => ?y308) ?_; (case y308 => (try dsimp only at h); go_simp; try (with_reducible rfl)); try simp only [Act.put, sa, s0, s1]
                      refine tk 43 q5be_79_8_43 (some 71) (v := ?v309) rfl rfl (by kernel_rfl) hHeld (by rfl) (fun _ _ _ x => x) (fun w h => ?y309) ?_; (case y309 => (try dsimp only at h); go_simp; try (with_reducible rfl)); try simp only [Act.put, sa, s0, s1]
                      refine wpAnyH_ready (rs := [44]) (by kernel_rfl) (by simp) ?_
                      refine AllReadyH.cons (o := q5be_79_8_44) rfl (fun K hK => ?_) AllReadyH.nil
                      go_simp
                      refine Calls.mono (hCb _ hHeld) ?_
                      rintro e w4 ⟨rfl, hw4⟩
                      have hx4 := below_same hw4
                      clear hw4
                      go_wp2_with fail
                      refine hK.out _ _ (bthen hHeld hx4) (fun hHeld => ?_)
                      clear hK K
                      try simp only [Act.put, sa, s0, s1]
                      refine tk 45 q5be_79_8_45 (some 73) (v := ?v310) rfl rfl (by kernel_rfl) hHeld (by rfl) (fun _ _ _ x => x) (fun w h => ?y310) ?_; (case y310 => (try dsimp only at h); go_simp; try (with_reducible rfl)); try simp only [Act.put, sa, s0, s1]
                      refine tk 46 q5be_79_8_46 (some 74) (v := ?v311) rfl rfl (by kernel_rfl) hHeld (by rfl) (fun _ _ _ x => x) (fun w h => ?y311) ?_; (case y311 => (try dsimp only at h); go_simp; try (with_reducible rfl)); try simp only [Act.put, sa, s0, s1]
                      refine tk 47 q5be_79_8_47 (some 75) (v := ?v312) rfl rfl (by kernel_rfl) hHeld (by rfl) (fun _ _ _ x => x) (fun w h => ?y312) ?_; (case y312 => (try dsimp only at h); go_simp; try (with_reducible rfl)); try simp only [Act.put, sa, s0, s1]
                      refine wpAnyH_done (by kernel_rfl) ?_ _
                      go_wp2_with fail
                      go_ret
                      exact ⟨by rw [HV.out]; rfl, bthen hbW hHeld⟩
                · have e3 : inRange n.fSure 0 n.fData.length = false := inRange_no hSu
                  have HV : Hid (specOk m = false) := HFAIL.out (by rw [HSI.out, HNI.out]; rw [decide_eq_false (by omega)]; rfl)
                  clear HFAIL HGO HSI HNI hSu HSP
                  refine wp_region_held_drew (S := fun W => Below wq.heap.size wq W) (by kernel_rfl) (Below.drew (Below.refl _ _)) (fun hHeld => ?_)
                  refine tk 0 q5be_79_8_0 (some 28) (v := ?v313) rfl rfl (by kernel_rfl) hHeld (by rfl) (fun _ _ _ x => x) (fun w h => ?y313) ?_; (case y313 => (try dsimp only at h); go_simp; try (with_reducible rfl)); try simp only [Act.put, sa, s0, s1]
                  refine tk 1 q5be_79_8_1 (some 29) (v := ?v314) rfl rfl (by kernel_rfl) hHeld (by rfl) (fun _ _ _ x => x) (fun w h => ?y314) ?_; (case y314 => (try dsimp only at h); go_simp; try (with_reducible rfl)); try simp only [Act.put, sa, s0, s1]
                  refine tk 2 q5be_79_8_2 (some 30) (v := ?v315) rfl rfl (by kernel_rfl) hHeld (by rfl) (fun _ _ _ x => x) (fun w h => ?y315) ?_; (case y315 => (try dsimp only at h); go_simp; try (with_reducible rfl)); try simp only [Act.put, sa, s0, s1]
                  refine tk 3 q5be_79_8_3 (some 31) (v := ?v316) rfl rfl (by kernel_rfl) hHeld (by rfl) (fun _ _ _ x => x) (fun w h => ?y316) ?_; (case y316 => (try dsimp only at h); go_simp; try (with_reducible rfl)); try simp only [Act.put, sa, s0, s1]
                  refine tk 4 q5be_79_8_4 (some 32) (v := ?v317) rfl rfl (by kernel_rfl) hHeld (by rfl) (fun _ _ _ x => x) (fun w h => ?y317) ?_; (case y317 => (try dsimp only at h); go_simp; try (with_reducible rfl)); try simp only [Act.put, sa, s0, s1]
                  refine wpAnyH_ready (rs := [5]) (by kernel_rfl) (by simp) ?_
                  refine AllReadyH.cons (o := q5be_79_8_5) rfl (fun K hK => ?_) AllReadyH.nil
                  go_simp
                  refine Calls.mono (l1In_any _ _ _ _) ?_
                  rintro e w1 ⟨rfl, hw1⟩
                  have hx1 := below_same hw1
                  clear hw1
                  (try simp only [e1, e3])
                  go_wp2_with fail
                  refine hK.out _ _ (bthen hHeld hx1) (fun hHeld => ?_)
                  clear hK K
                  try simp only [Act.put, sa, s0, s1]
                  refine tk 6 q5be_79_8_6 (some 34) (v := ?v318) rfl rfl (by kernel_rfl) hHeld (by rfl) (fun _ _ _ x => x) (fun w h => ?y318) ?_; (case y318 => (try dsimp only at h); go_simp; try (with_reducible rfl)); try simp only [Act.put, sa, s0, s1]
                  refine tk 7 q5be_79_8_7 (some 35) (v := ?v319) rfl rfl (by kernel_rfl) hHeld (by rfl) (fun _ _ _ x => x) (fun w h => ?y319) ?_; (case y319 => (try dsimp only at h); go_simp; try (with_reducible rfl)); try simp only [Act.put, sa, s0, s1]
                  refine tk 8 q5be_79_8_8 (some 36) (v := ?v320) rfl rfl (by kernel_rfl) hHeld (by rfl) (fun _ _ _ x => x) (fun w h => ?y320) ?_; (case y320 => (try dsimp only at h); go_simp; try (with_reducible rfl)); try simp only [Act.put, sa, s0, s1]
                  refine tk 9 q5be_79_8_9 (some 37) (v := ?v321) rfl rfl (by kernel_rfl) hHeld (by rfl) (fun _ _ _ x => x) (fun w h => ?y321) ?_; (case y321 => (try dsimp only at h); go_simp; try (with_reducible rfl)); try simp only [Act.put, sa, s0, s1]
                  refine tk 10 q5be_79_8_10 (some 38) (v := ?v322) rfl rfl (by kernel_rfl) hHeld (by rfl) (fun _ _ _ x => x) (fun w h => ?y322) ?_; (case y322 => (try dsimp only at h); go_simp; try (with_reducible rfl)); try simp only [Act.put, sa, s0, s1]
                  refine tk 11 q5be_79_8_11 (some 39) (v := ?v323) rfl rfl (by kernel_rfl) hHeld (by rfl) (fun _ _ _ x => x) (fun w h => ?y323) ?_; (case y323 => (try dsimp only at h); go_simp; try (with_reducible rfl)); try simp only [Act.put, sa, s0, s1]
                  refine tk 12 q5be_79_8_12 (some 40) (v := ?v324) rfl rfl (by kernel_rfl) hHeld (by rfl) (fun _ _ _ x => x) (fun w h => ?y324) ?_; (case y324 => (try dsimp only at h); go_simp; try (with_reducible rfl)); try simp only [Act.put, sa, s0, s1]
                  refine tk 13 q5be_79_8_13 (some 41) (v := ?v325) rfl rfl (by kernel_rfl) hHeld (by rfl) (fun _ _ _ x => x) (fun w h => ?y325) ?_; (case y325 => (try dsimp only at h); go_simp; try (with_reducible rfl)); try simp only [Act.put, sa, s0, s1]
                  refine tk 14 q5be_79_8_14 (some 42) (v := ?v326) rfl rfl (by kernel_rfl) hHeld (by rfl) (fun _ _ _ x => x) (fun w h => ?y326) ?_; (case y326 => (try dsimp only at h); go_simp; try (with_reducible rfl)); try simp only [Act.put, sa, s0, s1]
                  refine tk 15 q5be_79_8_15 (some 43) (v := ?v327) rfl rfl (by kernel_rfl) hHeld (by rfl) (fun _ _ _ x => x) (fun w h => ?y327) ?_; (case y327 => (try dsimp only at h); go_simp; try (with_reducible rfl)); try simp only [Act.put, sa, s0, s1]
                  refine tk 16 q5be_79_8_16 (some 44) (v := ?v328) rfl rfl (by kernel_rfl) hHeld (by rfl) (fun _ _ _ x => x) (fun w h => ?y328) ?_; (case y328 => (try dsimp only at h); go_simp; try (with_reducible rfl)); try simp only [Act.put, sa, s0, s1]
                  refine tk 17 q5be_79_8_17 (some 45) (v := ?v329) rfl rfl (by kernel_rfl) hHeld (by rfl) (fun _ _ _ x => x) (fun w h => ?y329) ?_; (case y329 => (try dsimp only at h); go_simp; try (with_reducible rfl)); try simp only [Act.put, sa, s0, s1]
                  refine tk 18 q5be_79_8_18 (some 46) (v := ?v330) rfl rfl (by kernel_rfl) hHeld (by rfl) (fun _ _ _ x => x) (fun w h => ?y330) ?_; (case y330 => (try dsimp only at h); go_simp; try (with_reducible rfl)); try simp only [Act.put, sa, s0, s1]
                  refine tk 19 q5be_79_8_19 (some 47) (v := ?v331) rfl rfl (by kernel_rfl) hHeld (by rfl) (fun _ _ _ x => x) (fun w h => ?y331) ?_; (case y331 => (try dsimp only at h); go_simp; try (with_reducible rfl)); try simp only [Act.put, sa, s0, s1]
                  refine tk 20 q5be_79_8_20 (some 48) (v := ?v332) rfl rfl (by kernel_rfl) hHeld (by rfl) (fun _ _ _ x => x) (fun w h => ?y332) ?_; (case y332 => (try dsimp only at h); go_simp; try (with_reducible rfl)); try simp only [Act.put, sa, s0, s1]
                  refine tk 21 q5be_79_8_21 (some 49) (v := ?v333) rfl rfl (by kernel_rfl) hHeld (by rfl) (fun _ _ _ x => x) (fun w h => ?y333) ?_; (case y333 => (try dsimp only at h); go_simp; try (with_reducible rfl)); try simp only [Act.put, sa, s0, s1]
                  refine tk 22 q5be_79_8_22 (some 50) (v := ?v334) rfl rfl (by kernel_rfl) hHeld (by rfl) (fun _ _ _ x => x) (fun w h => ?y334) ?_; (case y334 => (try dsimp only at h); go_simp; try (with_reducible rfl)); try simp only [Act.put, sa, s0, s1]
                  refine tk 23 q5be_79_8_23 (some 51) (v := ?v335) rfl rfl (by kernel_rfl) hHeld (by rfl) (fun _ _ _ x => x) (fun w h => ?y335) ?_; (case y335 => (try dsimp only at h); go_simp; try (with_reducible rfl)); try simp only [Act.put, sa, s0, s1]
                  refine tk 24 q5be_79_8_24 (some 52) (v := ?v336) rfl rfl (by kernel_rfl) hHeld (by rfl) (fun _ _ _ x => x) (fun w h => ?y336) ?_; (case y336 => (try dsimp only at h); go_simp; try (with_reducible rfl)); try simp only [Act.put, sa, s0, s1]
                  refine tk 25 q5be_79_8_25 (some 53) (v := ?v337) rfl rfl (by kernel_rfl) hHeld (by rfl) (fun _ _ _ x => x) (fun w h => ?y337) ?_; (case y337 => (try dsimp only at h); go_simp; try (with_reducible rfl)); try simp only [Act.put, sa, s0, s1]
                  refine tk 26 q5be_79_8_26 (some 54) (v := ?v338) rfl rfl (by kernel_rfl) hHeld (by rfl) (fun _ _ _ x => x) (fun w h => ?y338) ?_; (case y338 => (try dsimp only at h); go_simp; try (with_reducible rfl)); try simp only [Act.put, sa, s0, s1]
                  refine tk 27 q5be_79_8_27 (some 55) (v := ?v339) rfl rfl (by kernel_rfl) hHeld (by rfl) (fun _ _ _ x => x) (fun w h => ?y339) ?_; (case y339 => (try dsimp only at h); go_simp; try (with_reducible rfl)); try simp only [Act.put, sa, s0, s1]
                  refine tk 28 q5be_79_8_28 (some 56) (v := ?v340) rfl rfl (by kernel_rfl) hHeld (by rfl) (fun _ _ _ x => x) (fun w h => ?y340) ?_; (case y340 => (try dsimp only at h); go_simp; try (with_reducible rfl)); try simp only [Act.put, sa, s0, s1]
                  refine wpAnyH_ready (rs := [29]) (by kernel_rfl) (by simp) ?_
                  refine AllReadyH.cons (o := q5be_79_8_29) rfl (fun K hK => ?_) AllReadyH.nil
                  go_simp
                  refine Calls.mono (l1In_any _ _ _ _) ?_
                  rintro e w2 ⟨rfl, hw2⟩
                  have hx2 := below_same hw2
                  clear hw2
                  (try simp only [e1, e3])
                  go_wp2_with fail
                  refine hK.out _ _ (bthen hHeld hx2) (fun hHeld => ?_)
                  clear hK K
                  try simp only [Act.put, sa, s0, s1]
                  refine tk 30 q5be_79_8_30 (some 58) (v := ?v341) rfl rfl (by kernel_rfl) hHeld (by rfl) (fun _ _ _ x => x) (fun w h => ?y341) ?_; (case y341 => (try dsimp only at h); go_simp; try (with_reducible rfl)); try simp only [Act.put, sa, s0, s1]
                  refine tk 31 q5be_79_8_31 (some 59) (v := ?v342) rfl rfl (by kernel_rfl) hHeld (by rfl) (fun _ _ _ x => x) (fun w h => ?y342) ?_; (case y342 => (try dsimp only at h); go_simp; try (with_reducible rfl)); try simp only [Act.put, sa, s0, s1]
                  refine tk 32 q5be_79_8_32 (some 60) (v := ?v343) rfl rfl (by kernel_rfl) hHeld (by rfl) (fun _ _ _ x => x) (fun w h => ?y343) ?_; (case y343 => (try dsimp only at h); go_simp; try (with_reducible rfl)); try simp only [Act.put, sa, s0, s1]
                  refine tn 33 q5be_79_8_33 (some 61) rfl rfl (by kernel_rfl) hHeld (by rfl) (fun _ _ _ x => x) ?_; try simp only [Act.put, sa, s0, s1]
                  refine tn 34 q5be_79_8_34 (some 62) rfl rfl (by kernel_rfl) hHeld (by rfl) (fun _ _ _ x => x) ?_; try simp only [Act.put, sa, s0, s1]
                  refine tn 35 q5be_79_8_35 (some 63) rfl rfl (by kernel_rfl) hHeld (by rfl) (fun _ _ _ x => x) ?_; try simp only [Act.put, sa, s0, s1]
                  refine tn 36 q5be_79_8_36 (some 64) rfl rfl (by kernel_rfl) hHeld (by rfl) (fun _ _ _ x => x) ?_; try simp only [Act.put, sa, s0, s1]
                  refine tn 37 q5be_79_8_37 (some 65) rfl rfl (by kernel_rfl) hHeld (by rfl) (fun _ _ _ x => x) ?_; try simp only [Act.put, sa, s0, s1]
                  refine tn 38 q5be_79_8_38 (some 66) rfl rfl (by kernel_rfl) hHeld (by rfl) (fun _ _ _ x => x) ?_; try simp only [Act.put, sa, s0, s1]
                  refine tn 39 q5be_79_8_39 (some 67) rfl rfl (by kernel_rfl) hHeld (by rfl) (fun _ _ _ x => x) ?_; try simp only [Act.put, sa, s0, s1]
                  refine tn 40 q5be_79_8_40 (some 68) rfl rfl (by kernel_rfl) hHeld (by rfl) (fun _ _ _ x => x) ?_; try simp only [Act.put, sa, s0, s1]
                  refine tn 41 q5be_79_8_41 (some 69) rfl rfl (by kernel_rfl) hHeld (by rfl) (fun _ _ _ x => x) ?_; try simp only [Act.put, sa, s0, s1]
                  refine tn 42 q5be_79_8_42 (some 70) rfl rfl (by kernel_rfl) hHeld (by rfl) (fun _ _ _ x => x) ?_; try simp only [Act.put, sa, s0, s1]
                  refine tn 43 q5be_79_8_43 (some 71) rfl rfl (by kernel_rfl) hHeld (by rfl) (fun _ _ _ x => x) ?_; try simp only [Act.put, sa, s0, s1]
                  refine tn 44 q5be_79_8_44 (some 72) rfl rfl (by kernel_rfl) hHeld (by rfl) (fun _ _ _ x => x) ?_; try simp only [Act.put, sa, s0, s1]
                  refine tn 45 q5be_79_8_45 (some 73) rfl rfl (by kernel_rfl) hHeld (by rfl) (fun _ _ _ x => x) ?_; try simp only [Act.put, sa, s0, s1]
                  refine tn 46 q5be_79_8_46 (some 74) rfl rfl (by kernel_rfl) hHeld (by rfl) (fun _ _ _ x => x) ?_; try simp only [Act.put, sa, s0, s1]
                  refine tk 47 q5be_79_8_47 (some 75) (v := ?v358) rfl rfl (by kernel_rfl) hHeld (by rfl) (fun _ _ _ x => x) (fun w h => ?y358) ?_; (case y358 => (try dsimp only at h); go_simp; try (with_reducible rfl)); try simp only [Act.put, sa, s0, s1]
                  refine wpAnyH_done (by kernel_rfl) ?_ _
                  go_wp2_with fail
                  go_ret
                  exact ⟨by rw [HV.out]; rfl, bthen hbW hHeld⟩
              · have hp2 : n.fId ≤ pv := by omega
                have HV : Hid (specOk m = false) := HFAIL.out (by rw [HSI.out, HNI.out]; rw [decide_eq_false (by omega)]; rfl)
                have e3 := e1
                clear HFAIL HGO HSI HNI hp HSP
                refine wp_region_held_drew (S := fun W => Below wq.heap.size wq W) (by kernel_rfl) (Below.drew (Below.refl _ _)) (fun hHeld => ?_)
                refine tk 0 q5be_79_8_0 (some 28) (v := ?v359) rfl rfl (by kernel_rfl) hHeld (by rfl) (fun _ _ _ x => x) (fun w h => ?y359) ?_; (case y359 => (try dsimp only at h); go_simp; try (with_reducible rfl)); try simp only [Act.put, sa, s0, s1]
                refine tk 1 q5be_79_8_1 (some 29) (v := ?v360) rfl rfl (by kernel_rfl) hHeld (by rfl) (fun _ _ _ x => x) (fun w h => ?y360) ?_; (case y360 => (try dsimp only at h); go_simp; try (with_reducible rfl)); try simp only [Act.put, sa, s0, s1]
                refine tk 2 q5be_79_8_2 (some 30) (v := ?v361) rfl rfl (by kernel_rfl) hHeld (by rfl) (fun _ _ _ x => x) (fun w h => ?y361) ?_; (case y361 => (try dsimp only at h); go_simp; try (with_reducible rfl)); try simp only [Act.put, sa, s0, s1]
                refine tk 3 q5be_79_8_3 (some 31) (v := ?v362) rfl rfl (by kernel_rfl) hHeld (by rfl) (fun _ _ _ x => x) (fun w h => ?y362) ?_; (case y362 => (try dsimp only at h); go_simp; try (with_reducible rfl)); try simp only [Act.put, sa, s0, s1]
                refine tk 4 q5be_79_8_4 (some 32) (v := ?v363) rfl rfl (by kernel_rfl) hHeld (by rfl) (fun _ _ _ x => x) (fun w h => ?y363) ?_; (case y363 => (try dsimp only at h); go_simp; try (with_reducible rfl)); try simp only [Act.put, sa, s0, s1]
                refine wpAnyH_ready (rs := [5]) (by kernel_rfl) (by simp) ?_
                refine AllReadyH.cons (o := q5be_79_8_5) rfl (fun K hK => ?_) AllReadyH.nil
                go_simp
                refine Calls.mono (l1In_any _ _ _ _) ?_
                rintro e w1 ⟨rfl, hw1⟩
                have hx1 := below_same hw1
                clear hw1
                (try simp only [e1, e3])
                go_wp2_with fail
                refine hK.out _ _ (bthen hHeld hx1) (fun hHeld => ?_)
                clear hK K
                try simp only [Act.put, sa, s0, s1]
                refine tk 6 q5be_79_8_6 (some 34) (v := ?v364) rfl rfl (by kernel_rfl) hHeld (by rfl) (fun _ _ _ x => x) (fun w h => ?y364) ?_; (case y364 => (try dsimp only at h); go_simp; try (with_reducible rfl)); try simp only [Act.put, sa, s0, s1]
                refine tk 7 q5be_79_8_7 (some 35) (v := ?v365) rfl rfl (by kernel_rfl) hHeld (by rfl) (fun _ _ _ x => x) (fun w h => ?y365) ?_; (case y365 => (try dsimp only at h); go_simp; try (with_reducible rfl)); try simp only [Act.put, sa, s0, s1]
                refine tk 8 q5be_79_8_8 (some 36) (v := ?v366) rfl rfl (by kernel_rfl) hHeld (by rfl) (fun _ _ _ x => x) (fun w h => ?y366) ?_; (case y366 => (try dsimp only at h); go_simp; try (with_reducible rfl)); try simp only [Act.put, sa, s0, s1]
                refine tk 9 q5be_79_8_9 (some 37) (v := ?v367) rfl rfl (by kernel_rfl) hHeld (by rfl) (fun _ _ _ x => x) (fun w h => ?y367) ?_; (case y367 => (try dsimp only at h); go_simp; try (with_reducible rfl)); try simp only [Act.put, sa, s0, s1]
                refine tk 10 q5be_79_8_10 (some 38) (v := ?v368) rfl rfl (by kernel_rfl) hHeld (by rfl) (fun _ _ _ x => x) (fun w h => ?y368) ?_; (case y368 => (try dsimp only at h); go_simp; try (with_reducible rfl)); try simp only [Act.put, sa, s0, s1]
                refine tk 11 q5be_79_8_11 (some 39) (v := ?v369) rfl rfl (by kernel_rfl) hHeld (by rfl) (fun _ _ _ x => x) (fun w h => ?y369) ?_; (case y369 => (try dsimp only at h); go_simp; try (with_reducible rfl)); try simp only [Act.put, sa, s0, s1]
                refine tk 12 q5be_79_8_12 (some 40) (v := ?v370) rfl rfl (by kernel_rfl) hHeld (by rfl) (fun _ _ _ x => x) (fun w h => ?y370) ?_; (case y370 => (try dsimp only at h); go_simp; try (with_reducible rfl)); try simp only [Act.put, sa, s0, s1]
                refine tk 13 q5be_79_8_13 (some 41) (v := ?v371) rfl rfl (by kernel_rfl) hHeld (by rfl) (fun _ _ _ x => x) (fun w h => ?y371) ?_; (case y371 => (try dsimp only at h); go_simp; try (with_reducible rfl)); try simp only [Act.put, sa, s0, s1]
                refine tk 14 q5be_79_8_14 (some 42) (v := ?v372) rfl rfl (by kernel_rfl) hHeld (by rfl) (fun _ _ _ x => x) (fun w h => ?y372) ?_; (case y372 => (try dsimp only at h); go_simp; try (with_reducible rfl)); try simp only [Act.put, sa, s0, s1]
                refine tk 15 q5be_79_8_15 (some 43) (v := ?v373) rfl rfl (by kernel_rfl) hHeld (by rfl) (fun _ _ _ x => x) (fun w h => ?y373) ?_; (case y373 => (try dsimp only at h); go_simp; try (with_reducible rfl)); try simp only [Act.put, sa, s0, s1]
                refine tk 16 q5be_79_8_16 (some 44) (v := ?v374) rfl rfl (by kernel_rfl) hHeld (by rfl) (fun _ _ _ x => x) (fun w h => ?y374) ?_; (case y374 => (try dsimp only at h); go_simp; try (with_reducible rfl)); try simp only [Act.put, sa, s0, s1]
                refine tk 17 q5be_79_8_17 (some 45) (v := ?v375) rfl rfl (by kernel_rfl) hHeld (by rfl) (fun _ _ _ x => x) (fun w h => ?y375) ?_; (case y375 => (try dsimp only at h); go_simp; try (with_reducible rfl)); try simp only [Act.put, sa, s0, s1]
                refine tk 18 q5be_79_8_18 (some 46) (v := ?v376) rfl rfl (by kernel_rfl) hHeld (by rfl) (fun _ _ _ x => x) (fun w h => ?y376) ?_; (case y376 => (try dsimp only at h); go_simp; try (with_reducible rfl)); try simp only [Act.put, sa, s0, s1]
                refine tk 19 q5be_79_8_19 (some 47) (v := ?v377) rfl rfl (by kernel_rfl) hHeld (by rfl) (fun _ _ _ x => x) (fun w h => ?y377) ?_; (case y377 => (try dsimp only at h); go_simp; try (with_reducible rfl)); try simp only [Act.put, sa, s0, s1]
                refine tk 20 q5be_79_8_20 (some 48) (v := ?v378) rfl rfl (by kernel_rfl) hHeld (by rfl) (fun _ _ _ x => x) (fun w h => ?y378) ?_; (case y378 => (try dsimp only at h); go_simp; try (with_reducible rfl)); try simp only [Act.put, sa, s0, s1]
                refine tk 21 q5be_79_8_21 (some 49) (v := ?v379) rfl rfl (by kernel_rfl) hHeld (by rfl) (fun _ _ _ x => x) (fun w h => ?y379) ?_; (case y379 => (try dsimp only at h); go_simp; try (with_reducible rfl)); try simp only [Act.put, sa, s0, s1]
                refine tk 22 q5be_79_8_22 (some 50) (v := ?v380) rfl rfl (by kernel_rfl) hHeld (by rfl) (fun _ _ _ x => x) (fun w h => ?y380) ?_; (case y380 => (try dsimp only at h); go_simp; try (with_reducible rfl)); try simp only [Act.put, sa, s0, s1]
                refine tk 23 q5be_79_8_23 (some 51) (v := ?v381) rfl rfl (by kernel_rfl) hHeld (by rfl) (fun _ _ _ x => x) (fun w h => ?y381) ?_; (case y381 => (try dsimp only at h); go_simp; try (with_reducible rfl)); try simp only [Act.put, sa, s0, s1]
                refine tn 24 q5be_79_8_24 (some 52) rfl rfl (by kernel_rfl) hHeld (by rfl) (fun _ _ _ x => x) ?_; try simp only [Act.put, sa, s0, s1]
                refine tn 25 q5be_79_8_25 (some 53) rfl rfl (by kernel_rfl) hHeld (by rfl) (fun _ _ _ x => x) ?_; try simp only [Act.put, sa, s0, s1]
                refine tn 26 q5be_79_8_26 (some 54) rfl rfl (by kernel_rfl) hHeld (by rfl) (fun _ _ _ x => x) ?_; try simp only [Act.put, sa, s0, s1]
                refine tn 27 q5be_79_8_27 (some 55) rfl rfl (by kernel_rfl) hHeld (by rfl) (fun _ _ _ x => x) ?_; try simp only [Act.put, sa, s0, s1]
                refine tn 28 q5be_79_8_28 (some 56) rfl rfl (by kernel_rfl) hHeld (by rfl) (fun _ _ _ x => x) ?_; try simp only [Act.put, sa, s0, s1]
                refine tn 29 q5be_79_8_29 (some 57) rfl rfl (by kernel_rfl) hHeld (by rfl) (fun _ _ _ x => x) ?_; try simp only [Act.put, sa, s0, s1]
                refine tn 30 q5be_79_8_30 (some 58) rfl rfl (by kernel_rfl) hHeld (by rfl) (fun _ _ _ x => x) ?_; try simp only [Act.put, sa, s0, s1]
                refine tk 31 q5be_79_8_31 (some 59) (v := ?v389) rfl rfl (by kernel_rfl) hHeld (by rfl) (fun _ _ _ x => x) (fun w h => ?y389) ?_; (case y389 => (try dsimp only at h); go_simp; try (with_reducible rfl)); try simp only [Act.put, sa, s0, s1]
                refine tk 32 q5be_79_8_32 (some 60) (v := ?v390) rfl rfl (by kernel_rfl) hHeld (by rfl) (fun _ _ _ x => x) (fun w h => ?y390) ?_; (case y390 => (try dsimp only at h); go_simp; try (with_reducible rfl)); try simp only [Act.put, sa, s0, s1]
                refine tn 33 q5be_79_8_33 (some 61) rfl rfl (by kernel_rfl) hHeld (by rfl) (fun _ _ _ x => x) ?_; try simp only [Act.put, sa, s0, s1]
                refine tn 34 q5be_79_8_34 (some 62) rfl rfl (by kernel_rfl) hHeld (by rfl) (fun _ _ _ x => x) ?_; try simp only [Act.put, sa, s0, s1]
                refine tn 35 q5be_79_8_35 (some 63) rfl rfl (by kernel_rfl) hHeld (by rfl) (fun _ _ _ x => x) ?_; try simp only [Act.put, sa, s0, s1]
                refine tn 36 q5be_79_8_36 (some 64) rfl rfl (by kernel_rfl) hHeld (by rfl) (fun _ _ _ x => x) ?_; try simp only [Act.put, sa, s0, s1]
                refine tn 37 q5be_79_8_37 (some 65) rfl rfl (by kernel_rfl) hHeld (by rfl) (fun _ _ _ x => x) ?_; try simp only [Act.put, sa, s0, s1]
                refine tn 38 q5be_79_8_38 (some 66) rfl rfl (by kernel_rfl) hHeld (by rfl) (fun _ _ _ x => x) ?_; try simp only [Act.put, sa, s0, s1]
                refine tn 39 q5be_79_8_39 (some 67) rfl rfl (by kernel_rfl) hHeld (by rfl) (fun _ _ _ x => x) ?_; try simp only [Act.put, sa, s0, s1]
                refine tn 40 q5be_79_8_40 (some 68) rfl rfl (by kernel_rfl) hHeld (by rfl) (fun _ _ _ x => x) ?_; try simp only [Act.put, sa, s0, s1]
                refine tn 41 q5be_79_8_41 (some 69) rfl rfl (by kernel_rfl) hHeld (by rfl) (fun _ _ _ x => x) ?_; try simp only [Act.put, sa, s0, s1]
                refine tn 42 q5be_79_8_42 (some 70) rfl rfl (by kernel_rfl) hHeld (by rfl) (fun _ _ _ x => x) ?_; try simp only [Act.put, sa, s0, s1]
                refine tn 43 q5be_79_8_43 (some 71) rfl rfl (by kernel_rfl) hHeld (by rfl) (fun _ _ _ x => x) ?_; try simp only [Act.put, sa, s0, s1]
                refine tn 44 q5be_79_8_44 (some 72) rfl rfl (by kernel_rfl) hHeld (by rfl) (fun _ _ _ x => x) ?_; try simp only [Act.put, sa, s0, s1]
                refine tn 45 q5be_79_8_45 (some 73) rfl rfl (by kernel_rfl) hHeld (by rfl) (fun _ _ _ x => x) ?_; try simp only [Act.put, sa, s0, s1]
                refine tn 46 q5be_79_8_46 (some 74) rfl rfl (by kernel_rfl) hHeld (by rfl) (fun _ _ _ x => x) ?_; try simp only [Act.put, sa, s0, s1]
                refine tk 47 q5be_79_8_47 (some 75) (v := ?v405) rfl rfl (by kernel_rfl) hHeld (by rfl) (fun _ _ _ x => x) (fun w h => ?y405) ?_; (case y405 => (try dsimp only at h); go_simp; try (with_reducible rfl)); try simp only [Act.put, sa, s0, s1]
                refine wpAnyH_done (by kernel_rfl) ?_ _
                go_wp2_with fail
                go_ret
                exact ⟨by rw [HV.out]; rfl, bthen hbW hHeld⟩
          · have e1 : inRange n.fId 1 (m.fNext - 1) = false := inRange_no h1
            have HV : Hid (specOk m = false) := HFAIL.out (by rw [HSI.out, HNI.out]; rw [decide_eq_false (by omega)]; rfl)
            have e3 := e1
            clear HFAIL HGO HSI HNI h1 HSP
            refine wp_region_held_drew (S := fun W => Below wq.heap.size wq W) (by kernel_rfl) (Below.drew (Below.refl _ _)) (fun hHeld => ?_)
            refine tk 0 q5be_79_8_0 (some 28) (v := ?v406) rfl rfl (by kernel_rfl) hHeld (by rfl) (fun _ _ _ x => x) (fun w h => ?y406) ?_; (case y406 => (try dsimp only at h); go_simp; try (with_reducible rfl)); try simp only [Act.put, sa, s0, s1]
            refine tk 1 q5be_79_8_1 (some 29) (v := ?v407) rfl rfl (by kernel_rfl) hHeld (by rfl) (fun _ _ _ x => x) (fun w h => ?y407) ?_; (case y407 => (try dsimp only at h); go_simp; try (with_reducible rfl)); try simp only [Act.put, sa, s0, s1]
            refine tk 2 q5be_79_8_2 (some 30) (v := ?v408) rfl rfl (by kernel_rfl) hHeld (by rfl) (fun _ _ _ x => x) (fun w h => ?y408) ?_; (case y408 => (try dsimp only at h); go_simp; try (with_reducible rfl)); try simp only [Act.put, sa, s0, s1]
            refine tk 3 q5be_79_8_3 (some 31) (v := ?v409) rfl rfl (by kernel_rfl) hHeld (by rfl) (fun _ _ _ x => x) (fun w h => ?y409) ?_; (case y409 => (try dsimp only at h); go_simp; try (with_reducible rfl)); try simp only [Act.put, sa, s0, s1]
            refine tk 4 q5be_79_8_4 (some 32) (v := ?v410) rfl rfl (by kernel_rfl) hHeld (by rfl) (fun _ _ _ x => x) (fun w h => ?y410) ?_; (case y410 => (try dsimp only at h); go_simp; try (with_reducible rfl)); try simp only [Act.put, sa, s0, s1]
            refine wpAnyH_ready (rs := [5]) (by kernel_rfl) (by simp) ?_
            refine AllReadyH.cons (o := q5be_79_8_5) rfl (fun K hK => ?_) AllReadyH.nil
            go_simp
            refine Calls.mono (l1In_any _ _ _ _) ?_
            rintro e w1 ⟨rfl, hw1⟩
            have hx1 := below_same hw1
            clear hw1
            (try simp only [e1, e3])
            go_wp2_with fail
            refine hK.out _ _ (bthen hHeld hx1) (fun hHeld => ?_)
            clear hK K
            try simp only [Act.put, sa, s0, s1]
            refine tk 6 q5be_79_8_6 (some 34) (v := ?v411) rfl rfl (by kernel_rfl) hHeld (by rfl) (fun _ _ _ x => x) (fun w h => ?y411) ?_; (case y411 => (try dsimp only at h); go_simp; try (with_reducible rfl)); try simp only [Act.put, sa, s0, s1]
            refine tk 7 q5be_79_8_7 (some 35) (v := ?v412) rfl rfl (by kernel_rfl) hHeld (by rfl) (fun _ _ _ x => x) (fun w h => ?y412) ?_; (case y412 => (try dsimp only at h); go_simp; try (with_reducible rfl)); try simp only [Act.put, sa, s0, s1]
            refine tn 8 q5be_79_8_8 (some 36) rfl rfl (by kernel_rfl) hHeld (by rfl) (fun _ _ _ x => x) ?_; try simp only [Act.put, sa, s0, s1]
            refine tn 9 q5be_79_8_9 (some 37) rfl rfl (by kernel_rfl) hHeld (by rfl) (fun _ _ _ x => x) ?_; try simp only [Act.put, sa, s0, s1]
            refine tn 10 q5be_79_8_10 (some 38) rfl rfl (by kernel_rfl) hHeld (by rfl) (fun _ _ _ x => x) ?_; try simp only [Act.put, sa, s0, s1]
            refine tn 11 q5be_79_8_11 (some 39) rfl rfl (by kernel_rfl) hHeld (by rfl) (fun _ _ _ x => x) ?_; try simp only [Act.put, sa, s0, s1]
            refine tn 12 q5be_79_8_12 (some 40) rfl rfl (by kernel_rfl) hHeld (by rfl) (fun _ _ _ x => x) ?_; try simp only [Act.put, sa, s0, s1]
            refine tn 13 q5be_79_8_13 (some 41) rfl rfl (by kernel_rfl) hHeld (by rfl) (fun _ _ _ x => x) ?_; try simp only [Act.put, sa, s0, s1]
            refine tn 14 q5be_79_8_14 (some 42) rfl rfl (by kernel_rfl) hHeld (by rfl) (fun _ _ _ x => x) ?_; try simp only [Act.put, sa, s0, s1]
            refine tn 15 q5be_79_8_15 (some 43) rfl rfl (by kernel_rfl) hHeld (by rfl) (fun _ _ _ x => x) ?_; try simp only [Act.put, sa, s0, s1]
            refine tn 16 q5be_79_8_16 (some 44) rfl rfl (by kernel_rfl) hHeld (by rfl) (fun _ _ _ x => x) ?_; try simp only [Act.put, sa, s0, s1]
            refine tn 17 q5be_79_8_17 (some 45) rfl rfl (by kernel_rfl) hHeld (by rfl) (fun _ _ _ x => x) ?_; try simp only [Act.put, sa, s0, s1]
            refine tn 18 q5be_79_8_18 (some 46) rfl rfl (by kernel_rfl) hHeld (by rfl) (fun _ _ _ x => x) ?_; try simp only [Act.put, sa, s0, s1]
            refine tn 19 q5be_79_8_19 (some 47) rfl rfl (by kernel_rfl) hHeld (by rfl) (fun _ _ _ x => x) ?_; try simp only [Act.put, sa, s0, s1]
            refine tn 20 q5be_79_8_20 (some 48) rfl rfl (by kernel_rfl) hHeld (by rfl) (fun _ _ _ x => x) ?_; try simp only [Act.put, sa, s0, s1]
            refine tn 21 q5be_79_8_21 (some 49) rfl rfl (by kernel_rfl) hHeld (by rfl) (fun _ _ _ x => x) ?_; try simp only [Act.put, sa, s0, s1]
            refine tk 22 q5be_79_8_22 (some 50) (v := ?v427) rfl rfl (by kernel_rfl) hHeld (by rfl) (fun _ _ _ x => x) (fun w h => ?y427) ?_; (case y427 => (try dsimp only at h); go_simp; try (with_reducible rfl)); try simp only [Act.put, sa, s0, s1]
            refine tk 23 q5be_79_8_23 (some 51) (v := ?v428) rfl rfl (by kernel_rfl) hHeld (by rfl) (fun _ _ _ x => x) (fun w h => ?y428) ?_; (case y428 => (try dsimp only at h); go_simp; try (with_reducible rfl)); try simp only [Act.put, sa, s0, s1]
            refine tn 24 q5be_79_8_24 (some 52) rfl rfl (by kernel_rfl) hHeld (by rfl) (fun _ _ _ x => x) ?_; try simp only [Act.put, sa, s0, s1]
            refine tn 25 q5be_79_8_25 (some 53) rfl rfl (by kernel_rfl) hHeld (by rfl) (fun _ _ _ x => x) ?_; try simp only [Act.put, sa, s0, s1]
            refine tn 26 q5be_79_8_26 (some 54) rfl rfl (by kernel_rfl) hHeld (by rfl) (fun _ _ _ x => x) ?_; try simp only [Act.put, sa, s0, s1]
            refine tn 27 q5be_79_8_27 (some 55) rfl rfl (by kernel_rfl) hHeld (by rfl) (fun _ _ _ x => x) ?_; try simp only [Act.put, sa, s0, s1]
            refine tn 28 q5be_79_8_28 (some 56) rfl rfl (by kernel_rfl) hHeld (by rfl) (fun _ _ _ x => x) ?_; try simp only [Act.put, sa, s0, s1]
            refine tn 29 q5be_79_8_29 (some 57) rfl rfl (by kernel_rfl) hHeld (by rfl) (fun _ _ _ x => x) ?_; try simp only [Act.put, sa, s0, s1]
            refine tn 30 q5be_79_8_30 (some 58) rfl rfl (by kernel_rfl) hHeld (by rfl) (fun _ _ _ x => x) ?_; try simp only [Act.put, sa, s0, s1]
            refine tk 31 q5be_79_8_31 (some 59) (v := ?v436) rfl rfl (by kernel_rfl) hHeld (by rfl) (fun _ _ _ x => x) (fun w h => ?y436) ?_; (case y436 => (try dsimp only at h); go_simp; try (with_reducible rfl)); try simp only [Act.put, sa, s0, s1]
            refine tk 32 q5be_79_8_32 (some 60) (v := ?v437) rfl rfl (by kernel_rfl) hHeld (by rfl) (fun _ _ _ x => x) (fun w h => ?y437) ?_; (case y437 => (try dsimp only at h); go_simp; try (with_reducible rfl)); try simp only [Act.put, sa, s0, s1]
            refine tn 33 q5be_79_8_33 (some 61) rfl rfl (by kernel_rfl) hHeld (by rfl) (fun _ _ _ x => x) ?_; try simp only [Act.put, sa, s0, s1]
            refine tn 34 q5be_79_8_34 (some 62) rfl rfl (by kernel_rfl) hHeld (by rfl) (fun _ _ _ x => x) ?_; try simp only [Act.put, sa, s0, s1]
            refine tn 35 q5be_79_8_35 (some 63) rfl rfl (by kernel_rfl) hHeld (by rfl) (fun _ _ _ x => x) ?_; try simp only [Act.put, sa, s0, s1]
            refine tn 36 q5be_79_8_36 (some 64) rfl rfl (by kernel_rfl) hHeld (by rfl) (fun _ _ _ x => x) ?_; try simp only [Act.put, sa, s0, s1]
            refine tn 37 q5be_79_8_37 (some 65) rfl rfl (by kernel_rfl) hHeld (by rfl) (fun _ _ _ x => x) ?_; try simp only [Act.put, sa, s0, s1]
            refine tn 38 q5be_79_8_38 (some 66) rfl rfl (by kernel_rfl) hHeld (by rfl) (fun _ _ _ x => x) ?_; try simp only [Act.put, sa, s0, s1]
            refine tn 39 q5be_79_8_39 (some 67) rfl rfl (by kernel_rfl) hHeld (by rfl) (fun _ _ _ x => x) ?_; try simp only [Act.put, sa, s0, s1]
            refine tn 40 q5be_79_8_40 (some 68) rfl rfl (by kernel_rfl) hHeld (by rfl) (fun _ _ _ x => x) ?_; try simp only [Act.put, sa, s0, s1]
            refine tn 41 q5be_79_8_41 (some 69) rfl rfl (by kernel_rfl) hHeld (by rfl) (fun _ _ _ x => x) ?_; try simp only [Act.put, sa, s0, s1]
            refine tn 42 q5be_79_8_42 (some 70) rfl rfl (by kernel_rfl) hHeld (by rfl) (fun _ _ _ x => x) ?_; try simp only [Act.put, sa, s0, s1]
            refine tn 43 q5be_79_8_43 (some 71) rfl rfl (by kernel_rfl) hHeld (by rfl) (fun _ _ _ x => x) ?_; try simp only [Act.put, sa, s0, s1]
            refine tn 44 q5be_79_8_44 (some 72) rfl rfl (by kernel_rfl) hHeld (by rfl) (fun _ _ _ x => x) ?_; try simp only [Act.put, sa, s0, s1]
            refine tn 45 q5be_79_8_45 (some 73) rfl rfl (by kernel_rfl) hHeld (by rfl) (fun _ _ _ x => x) ?_; try simp only [Act.put, sa, s0, s1]
            refine tn 46 q5be_79_8_46 (some 74) rfl rfl (by kernel_rfl) hHeld (by rfl) (fun _ _ _ x => x) ?_; try simp only [Act.put, sa, s0, s1]
            refine tk 47 q5be_79_8_47 (some 75) (v := ?v452) rfl rfl (by kernel_rfl) hHeld (by rfl) (fun _ _ _ x => x) (fun w h => ?y452) ?_; (case y452 => (try dsimp only at h); go_simp; try (with_reducible rfl)); try simp only [Act.put, sa, s0, s1]
            refine wpAnyH_done (by kernel_rfl) ?_ _
            go_wp2_with fail
            go_ret
            exact ⟨by rw [HV.out]; rfl, bthen hbW hHeld⟩
        · have hkn : k = m.fInodes.length := by omega
          subst hkn
          rw [List.take_length]
          have HV0 : Hid ((okI m.fNext 0 m.fInodes && m.fInodes.all (isNamed m)) = true) := by
            show _ = true
            rw [HINV.out, List.drop_length]
            rfl
          have hCa := fun W (hb : Below wr.heap.size wr W) => l2Entries_any _ m a1 _ c1 m.fNames W (rDisk_good.mono (rDisk_good.below HR.out (bthen hbk hb)) (bthen hbk hb).size) (by omega) rfl (by omega) (LeafL.mono rEntry_good (HNL.out.below rEntry_good (bthen hbk hb)) (bthen hbk hb).size)
          have hCb := fun W (hb : Below wr.heap.size wr W) => l2Entries_any _ m a2 _ c2 m.fSafe W (rDisk_good.mono (rDisk_good.below HR.out (bthen hbk hb)) (bthen hbk hb).size) (by omega) rfl (by omega) (LeafL.mono rEntry_good (HSL.out.below rEntry_good (bthen hbk hb)) (bthen hbk hb).size)
          obtain ⟨sm, hsm⟩ : ∃ sm : Nat, sumW wInode m.fInodes = sm := ⟨_, rfl⟩
          obtain ⟨E1, hE1⟩ : ∃ E1 : Bool, (okE m.fInodes [] ByteArray.empty m.fNames && decide (m.fNames.length ≤ 30)) = E1 := ⟨_, rfl⟩
          obtain ⟨E2, hE2⟩ : ∃ E2 : Bool, (okE m.fInodes [] ByteArray.empty m.fSafe && decide (m.fSafe.length ≤ 30)) = E2 := ⟨_, rfl⟩
          have HFIN : Hid (specOk m = (decide (sm ≤ 60000) && E1 && E2)) := by
            show _ = _
            rw [HSP.out, HV0.out, hE1, hE2, hsm, Bool.true_and]
          simp only [hE1] at hCa
          simp only [hE2] at hCb
          rw [hsm] at hw2 ⊢
          clear hE1 hE2 hsm HSP HV0 HINV
          by_cases h6 : sm ≤ 60000
          · have HD := Hid.mk (decide_eq_true h6)
            cases E1
            · go_wp2_with fail
              refine Calls.mono (hCa _ (Below.refl _ _)) ?_
              rintro e w1 ⟨rfl, hx1⟩
              go_wp2_with fail
              go_ret
              exact ⟨by rw [HFIN.out]; simp, bthen hbk hx1⟩
            · go_wp2_with fail
              refine Calls.mono (hCa _ (Below.refl _ _)) ?_
              rintro e w1 ⟨rfl, hx1⟩
              have hb1 := hbx.under hx1
              have y0 := hb1.2 0 _ rfl
              have y1 := hb1.2 1 _ rfl
              have y2 := hb1.2 2 _ rfl
              have y3 := hb1.2 3 _ rfl
              go_wp2_with fail
              refine Calls.mono (hCb _ hx1) ?_
              rintro e w2 ⟨rfl, hx2⟩
              go_wp2_with fail
              go_ret
              exact ⟨by rw [HFIN.out, HD.out]; rfl, bthen hbk (bthen hx1 hx2)⟩
          · have HD := Hid.mk (decide_eq_false h6)
            go_wp2_with fail
            go_ret
            exact ⟨by rw [HFIN.out, HD.out]; rfl, hbk⟩
    · have HV : Hid (specOk m = false) := by
        show specOk m = false
        unfold specOk
        rw [decide_eq_false hL]
        simp
      have hL2 : (60 : Int) < (m.fInodes.length : Int) := by omega
      go_enter Tryz.func79, Tryz.ntmps79
      go_wp2_with (go_at_call 37; refine (l1In_any _ _ _ _).mono ?_; rintro e w' ⟨rfl, rfl⟩)
      go_ret
      exact ⟨by rw [HV.out]; rfl, (Below.refl _ _).alloc (Nat.le_refl _) _⟩
  · have e0 : inRange m.fNext 1 1000000 = false := inRange_no hN1
    have HV : Hid (specOk m = false) := by
      show specOk m = false
      unfold specOk
      rw [e0]
      simp
    go_enter Tryz.func79, Tryz.ntmps79
    go_wp2_with (go_at_call 37; refine (l1In_any _ _ _ _).mono ?_; rintro e w' ⟨rfl, rfl⟩)
    go_ret
    exact ⟨by rw [HV.out]; rfl, (Below.refl _ _).alloc (Nat.le_refl _) _⟩

theorem specDiskOk_b (cs : List Value) (m : MDisk) (w : World) (hr : rDisk w.heap.size w cs m) (hw : wDisk m ≤ 16777216) :
    Calls Tryz.prog 79 #[.agg cs.toArray] w fun e w' => e = .returned (.bool (diskOk m)) ∧ Below w.heap.size w w' := by
  rw [← specOk_eq]
  exact specDiskOk_any cs m w hr hw

theorem specDiskOk_c (cs : List Value) (m : MDisk) (w : World) (hr : rDisk w.heap.size w cs m) (hw : wDisk m ≤ 1048576) :
    Calls Tryz.prog 79 #[.agg cs.toArray] w fun e w' => e = .returned (.bool (diskOk m)) ∧ Below w.heap.size w w' :=
  specDiskOk_b cs m w hr (by omega)

end Go.Proofs.YtnohnkcijomdjaaGreatDoor
