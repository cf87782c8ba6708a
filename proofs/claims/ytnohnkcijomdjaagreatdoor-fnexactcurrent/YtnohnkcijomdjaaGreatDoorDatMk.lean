/-
  Marks left in what was handed out, and found again.
-/
import Derived.Test.YtnohnkcijomdjaaGreatDoorMarkT
import Derived.Test.YtnohnkcijomdjaaGreatDoorBytE
import Derived.Test.YtnohnkcijomdjaaGreatDoorDat
import Derived.Deep.RegionWith
namespace Go.Proofs.YtnohnkcijomdjaaGreatDoor
open Go.RowKit
set_option linter.unusedVariables false
set_option maxRecDepth 10000

def cntInode (m : MInode) : Nat := 1 + m.fData.length + 1
def hdInode (m : MInode) (q q' : Int) : Prop := m.fId = q ∧ m.fData = marks (q + 1) m.fData.length ∧ m.fSure = q + 1 + (m.fData.length : Int) ∧ q' = q + 1 + (m.fData.length : Int) + 1
theorem cntInode_le (m : MInode) : cntInode m ≤ 32 * (1 + wInode m) := by
  unfold cntInode wInode
  omega
theorem hdInode_end (m : MInode) (q q' : Int) (h : hdInode m q q') : q' = q + cntInode m := by
  obtain ⟨_, _, _, rfl⟩ := h
  unfold cntInode
  omega

set_option maxHeartbeats 1000000 in
theorem markInodeS_row (g cap n : Nat) (l : List MInode) (cur : Array Value) (Fs : List (List Nat)) (q : Int) (w : World) (hx : l.length = n) (hq : 0 ≤ q) (hq2 : q + sumW cntInode l ≤ 70368744177664) (ho : OwnRow 3 92 oInode w g cap l cur Fs) :
    Calls Tryz.prog 35 #[.slice (some ⟨g, 0, none⟩) n cap, .int .i64 q] w fun e w' => e = .returned (.int .i64 (q + sumW cntInode l)) ∧ ∃ l' cur', OwnRow 3 92 oInode w' g cap l' cur' Fs ∧ l'.length = n ∧ hdS hdInode l' q (q + sumW cntInode l) ∧ Turn (g :: Fs.flatten) w w' := by
  have HX := Hid.mk hx
  clear hx
  have hcap : n ≤ 9223372036854775807 := by have h1 := ho.le; have h2 := ho.max; have h3 := HX.out; unfold maxLen at h2; omega
  have HO := Hid.mk ho
  clear ho
  go_enter Tryz.func35, Tryz.ntmps35
  go_wp2_with fail
  go_loopw [1, 5] (fun kv i wr => ∃ (k : Nat) (kk : Int) (l' : List MInode) (cur' : Array Value), k ≤ n ∧ i = .int .i64 k ∧ kv = .int .i64 kk ∧ kk = q + sumW cntInode (l.take k) ∧ l'.length = k ∧ OwnRow 3 92 oInode wr g cap (l' ++ l.drop k) cur' Fs ∧ hdS hdInode l' q kk ∧ Turn (g :: Fs.flatten) w wr) (fun _ i _ => n - (intOf i).toNat)
  case atStart => exact ⟨0, q, [], cur, Nat.zero_le _, rfl, rfl, by simp [sumW], rfl, by simpa using HO.out, rfl, Turn.refl _ _⟩
  case round =>
    obtain ⟨k, kk, l', cur', hk, rfl, rfl, hkk, hl', hok, hh, htk⟩ := hrel
    by_cases hlt : k < n
    · have hkl : k < l.length := by rw [HX.out]; exact hlt
      have hlen2 : k < (l' ++ l.drop k).length := by rw [List.length_append, hl', List.length_drop]; omega
      have hw1 := sumW_take_succ (f := cntInode) hkl
      have hw2 := sumW_take_le cntInode l (k + 1)
      have hel := hok.each k hlen2
      rw [get_mid hl' hkl hlen2] at hel
      obtain ⟨hgF, hFN⟩ := hok.part hlen2
      have hE0 := Edit.start hok k (Fs.getD k [])
      generalize hcs : seg 3 cur' k = cs at hel hE0
      clear hcs
      have HOE := Hid.mk (fun w' cs' m' he ho => OwnRow.edit (w' := w') (cs := cs') (m' := m') oInode_good hok hlen2 he ho)
      have HS := Hid.mk (fun m' => set_mid hl' hkl m')
      have HH := Hid.mk (fun x q2 hx => hdS_snoc (x := x) (q2 := q2) hh hx)
      have HL' := Hid.mk hl'
      have HT := Hid.mk htk
      generalize hm0 : l[k] = m at *
      generalize Fs.getD k [] = Fk at *
      have HKK := Hid.mk hkk
      have HW1 := Hid.mk hw1
      have hlo : 0 ≤ kk := by omega
      have hup : kk + cntInode m ≤ 70368744177664 := by omega
      have HUP : Hid (kk + (1 + m.fData.length + 1 : Nat) ≤ 70368744177664) := hup
      have HU := HUP.out
      clear hm0 hok hh hl' htk hlen2 hkk hw1 hw2 hup
      obtain ⟨v1, F1, rfl, h0, h1, h2, hFk⟩ := hel
      obtain ⟨a1, c1, rfl, _⟩ := h1.read
      have q0 := hE0.cellAt (i := 0) (by omega) rfl
      have r0 := hE0.free (k * 3 + 0)
      rw [Nat.add_zero] at q0 r0
      have q1 := hE0.cellAt (i := 1) (by omega) rfl
      have r1 := hE0.free (k * 3 + 1)
      have q2 := hE0.cellAt (i := 2) (by omega) rfl
      have r2 := hE0.free (k * 3 + 2)
      skip
      have hN1 : F1.Nodup := by rw [hFk, List.append_nil] at hFN; exact hFN
      have hC := fun (W : World) (ht : Turn [g] wr W) => markByteS_o _ m.fData F1 (kk + 1) W (by omega) (by omega) (h1.frame (fun b hb => ht.block b (h1.lt b hb) (fun hm => by simp at hm; exact hgF (by rw [hFk, hm.symm]; simp [hb]))))
      go_wp2_with fail
      refine Calls.mono (hC _ ?_) ?_
      · repeat (first | with_reducible exact Turn.refl _ _ | refine Turn.setCell ?_ (by simp) _)
      clear hC
      rintro e w1 ⟨rfl, hown1, ht1⟩
      have hE1 := (hE0.set (i := 0) (by omega) (.int .i64 (kk))).keep (ht1.mono (fun b hb => by rw [hFk]; simp [hb])) hgF
      clear q0 r0
      clear q1 r1
      clear q2 r2
      have q0 := hE1.cellAt (i := 0) (by omega) rfl
      have r0 := hE1.free (k * 3 + 0)
      rw [Nat.add_zero] at q0 r0
      have q1 := hE1.cellAt (i := 1) (by omega) rfl
      have r1 := hE1.free (k * 3 + 1)
      have q2 := hE1.cellAt (i := 2) (by omega) rfl
      have r2 := hE1.free (k * 3 + 2)
      go_wp2_with fail
      go_roundw
      case rel =>
        have hed := HOE.out _ _ (⟨(kk), (marks (kk + 1) m.fData.length), (kk + 1 + (m.fData.length : Int))⟩) (hE1.set (i := 2) (by omega) (.int .i64 (kk + 1 + (m.fData.length : Int)))) ?own
        case own => exact ⟨_, F1, rfl, (show (Lit.int .i64 (kk)).wf = true from WalkArith.wf_i64 (by omega)), (hown1.frame (fun b hb => (show Turn [g] w1 _ from by repeat (first | with_reducible exact Turn.refl _ _ | refine Turn.setCell ?_ (by simp) _)).block b (hown1.lt b hb) (fun hm => by simp at hm; exact hgF (by rw [hFk, hm.symm]; simp [hb])))), (show (Lit.int .i64 (kk + 1 + (m.fData.length : Int))).wf = true from WalkArith.wf_i64 (by omega)), hFk⟩
        obtain ⟨⟨cur2, hrow2⟩, ht2⟩ := hed
        rw [HS.out] at hrow2
        refine ⟨k + 1, _, l' ++ [⟨(kk), (marks (kk + 1) m.fData.length), (kk + 1 + (m.fData.length : Int))⟩], cur2, by omega, by go_num, by go_num, ?_, by simp [HL'.out], hrow2, HH.out _ _ ?_, HT.out.trans ht2⟩
        · rw [HW1.out]; have h1 := HKK.out; have h2 : cntInode m = 1 + m.fData.length + 1 := rfl; omega
        · exact ⟨(by first | rfl | simp [marks_length]), (by simp [marks_length]), (by first | rfl | simp [marks_length]), (by first | rfl | simp [marks_length])⟩
      case measure => simp [intOf]; omega
    · have hkn : k = n := by omega
      have HT1 : Hid (l.take k = l) := List.take_of_length_le (by rw [HX.out]; omega)
      have HT2 : Hid (l.drop k = []) := List.drop_of_length_le (by rw [HX.out]; omega)
      rw [HT1.out] at hkk
      rw [HT2.out, List.append_nil] at hok
      have hk2 : 0 ≤ kk := by omega
      subst hkk
      go_wp2_with fail
      go_ret
      exact ⟨rfl, l', cur', hok, by rw [hl', hkn], hh, htk⟩

set_option maxHeartbeats 400000 in
theorem markInodeS_nil (q : Int) (w : World) :
    Calls Tryz.prog 35 #[.slice none 0 0, .int .i64 q] w fun e w' => e = .returned (.int .i64 q) ∧ w' = w := by
  go_enter Tryz.func35, Tryz.ntmps35
  go_wp2
  refine wp_loop_rounds 1 ?_
  rw [rounds_succ]
  go_wp2
  go_ret
  exact ⟨rfl, rfl⟩

theorem markInodeS_any (v : Value) (l : List MInode) (F : List Nat) (q : Int) (w : World) (hq : 0 ≤ q) (hq2 : q + sumW cntInode l ≤ 70368744177664) (ho : ownS 3 92 oInode w v l F) (hN : F.Nodup) :
    Calls Tryz.prog 35 #[v, .int .i64 q] w fun e w' => e = .returned (.int .i64 (q + sumW cntInode l)) ∧ ∃ l', ownS 3 92 oInode w' v l' F ∧ l'.length = l.length ∧ hdS hdInode l' q (q + sumW cntInode l) ∧ Turn F w w' := by
  rcases ho.open hN with ⟨rfl, rfl, rfl⟩ | ⟨g, cap, cur, Fs, rfl, hrow, rfl⟩
  · refine (markInodeS_nil q w).mono ?_
    rintro e w' ⟨rfl, rfl⟩
    exact ⟨by simp [sumW], [], ho, rfl, by simp [hdS, sumW], Turn.refl _ _⟩
  · refine (markInodeS_row g cap _ l cur Fs q w rfl hq hq2 hrow).mono ?_
    rintro e w' ⟨rfl, l', cur', hr', hl', hh, ht⟩
    refine ⟨rfl, l', ?_, hl', hh, ht⟩
    have := hr'.shut
    rw [hl'] at this
    exact this

def cntEntry (m : MEntry) : Nat := 1 + 1
def hdEntry (m : MEntry) (q q' : Int) : Prop := m.fName = mtext (q) ∧ m.fId = q + 1 ∧ q' = q + 1 + 1
theorem cntEntry_le (m : MEntry) : cntEntry m ≤ 32 * (1 + wEntry m) := by
  unfold cntEntry wEntry
  omega
theorem hdEntry_end (m : MEntry) (q q' : Int) (h : hdEntry m q q') : q' = q + cntEntry m := by
  obtain ⟨_, _, rfl⟩ := h
  unfold cntEntry
  omega

set_option maxHeartbeats 1000000 in
theorem markEntryS_row (g cap n : Nat) (l : List MEntry) (cur : Array Value) (Fs : List (List Nat)) (q : Int) (w : World) (hx : l.length = n) (hq : 0 ≤ q) (hq2 : q + sumW cntEntry l ≤ 70368744177664) (ho : OwnRow 2 90 oEntry w g cap l cur Fs) :
    Calls Tryz.prog 36 #[.slice (some ⟨g, 0, none⟩) n cap, .int .i64 q] w fun e w' => e = .returned (.int .i64 (q + sumW cntEntry l)) ∧ ∃ l' cur', OwnRow 2 90 oEntry w' g cap l' cur' Fs ∧ l'.length = n ∧ hdS hdEntry l' q (q + sumW cntEntry l) ∧ Turn (g :: Fs.flatten) w w' := by
  have HX := Hid.mk hx
  clear hx
  have hcap : n ≤ 9223372036854775807 := by have h1 := ho.le; have h2 := ho.max; have h3 := HX.out; unfold maxLen at h2; omega
  have HO := Hid.mk ho
  clear ho
  go_enter Tryz.func36, Tryz.ntmps36
  go_wp2_with fail
  go_loopw [1, 5] (fun kv i wr => ∃ (k : Nat) (kk : Int) (l' : List MEntry) (cur' : Array Value), k ≤ n ∧ i = .int .i64 k ∧ kv = .int .i64 kk ∧ kk = q + sumW cntEntry (l.take k) ∧ l'.length = k ∧ OwnRow 2 90 oEntry wr g cap (l' ++ l.drop k) cur' Fs ∧ hdS hdEntry l' q kk ∧ Turn (g :: Fs.flatten) w wr) (fun _ i _ => n - (intOf i).toNat)
  case atStart => exact ⟨0, q, [], cur, Nat.zero_le _, rfl, rfl, by simp [sumW], rfl, by simpa using HO.out, rfl, Turn.refl _ _⟩
  case round =>
    obtain ⟨k, kk, l', cur', hk, rfl, rfl, hkk, hl', hok, hh, htk⟩ := hrel
    by_cases hlt : k < n
    · have hkl : k < l.length := by rw [HX.out]; exact hlt
      have hlen2 : k < (l' ++ l.drop k).length := by rw [List.length_append, hl', List.length_drop]; omega
      have hw1 := sumW_take_succ (f := cntEntry) hkl
      have hw2 := sumW_take_le cntEntry l (k + 1)
      have hel := hok.each k hlen2
      rw [get_mid hl' hkl hlen2] at hel
      obtain ⟨hgF, hFN⟩ := hok.part hlen2
      have hE0 := Edit.start hok k (Fs.getD k [])
      generalize hcs : seg 2 cur' k = cs at hel hE0
      clear hcs
      have HOE := Hid.mk (fun w' cs' m' he ho => OwnRow.edit (w' := w') (cs := cs') (m' := m') oEntry_good hok hlen2 he ho)
      have HS := Hid.mk (fun m' => set_mid hl' hkl m')
      have HH := Hid.mk (fun x q2 hx => hdS_snoc (x := x) (q2 := q2) hh hx)
      have HL' := Hid.mk hl'
      have HT := Hid.mk htk
      generalize hm0 : l[k] = m at *
      generalize Fs.getD k [] = Fk at *
      have HKK := Hid.mk hkk
      have HW1 := Hid.mk hw1
      have hlo : 0 ≤ kk := by omega
      have hup : kk + cntEntry m ≤ 70368744177664 := by omega
      have HUP : Hid (kk + (1 + 1 : Nat) ≤ 70368744177664) := hup
      have HU := HUP.out
      clear hm0 hok hh hl' htk hlen2 hkk hw1 hw2 hup
      obtain ⟨rfl, h0, h1, hFk⟩ := hel
      have q0 := hE0.cellAt (i := 0) (by omega) rfl
      have r0 := hE0.free (k * 2 + 0)
      rw [Nat.add_zero] at q0 r0
      have q1 := hE0.cellAt (i := 1) (by omega) rfl
      have r1 := hE0.free (k * 2 + 1)
      skip
      go_wp2_with fail
      refine (markText_any (kk) _ (by omega) (by omega)).mono ?_
      rintro e w1 ⟨rfl, hb1⟩
      have hE1 := hE0.keep (Turn.ofBelow hb1) hgF
      clear q0 r0
      clear q1 r1
      have q0 := hE1.cellAt (i := 0) (by omega) rfl
      have r0 := hE1.free (k * 2 + 0)
      rw [Nat.add_zero] at q0 r0
      have q1 := hE1.cellAt (i := 1) (by omega) rfl
      have r1 := hE1.free (k * 2 + 1)
      go_wp2_with fail
      go_roundw
      case rel =>
        have hed := HOE.out _ _ (⟨(mtext (kk)), (kk + 1)⟩) ((hE1.set (i := 0) (by omega) (.string (mtext (kk)))).set (i := 1) (by omega) (.int .i64 (kk + 1))) ?own
        case own => exact ⟨rfl, (show (mtext (kk)).size ≤ 9223372036854775807 from Nat.le_trans (mtext_size _) (by omega)), (show (Lit.int .i64 (kk + 1)).wf = true from WalkArith.wf_i64 (by omega)), hFk⟩
        obtain ⟨⟨cur2, hrow2⟩, ht2⟩ := hed
        rw [HS.out] at hrow2
        refine ⟨k + 1, _, l' ++ [⟨(mtext (kk)), (kk + 1)⟩], cur2, by omega, by go_num, by go_num, ?_, by simp [HL'.out], hrow2, HH.out _ _ ?_, HT.out.trans ht2⟩
        · rw [HW1.out]; have h1 := HKK.out; have h2 : cntEntry m = 1 + 1 := rfl; omega
        · exact ⟨(by first | rfl | simp [marks_length]), (by first | rfl | simp [marks_length]), (by first | rfl | simp [marks_length])⟩
      case measure => simp [intOf]; omega
    · have hkn : k = n := by omega
      have HT1 : Hid (l.take k = l) := List.take_of_length_le (by rw [HX.out]; omega)
      have HT2 : Hid (l.drop k = []) := List.drop_of_length_le (by rw [HX.out]; omega)
      rw [HT1.out] at hkk
      rw [HT2.out, List.append_nil] at hok
      have hk2 : 0 ≤ kk := by omega
      subst hkk
      go_wp2_with fail
      go_ret
      exact ⟨rfl, l', cur', hok, by rw [hl', hkn], hh, htk⟩

set_option maxHeartbeats 400000 in
theorem markEntryS_nil (q : Int) (w : World) :
    Calls Tryz.prog 36 #[.slice none 0 0, .int .i64 q] w fun e w' => e = .returned (.int .i64 q) ∧ w' = w := by
  go_enter Tryz.func36, Tryz.ntmps36
  go_wp2
  refine wp_loop_rounds 1 ?_
  rw [rounds_succ]
  go_wp2
  go_ret
  exact ⟨rfl, rfl⟩

theorem markEntryS_any (v : Value) (l : List MEntry) (F : List Nat) (q : Int) (w : World) (hq : 0 ≤ q) (hq2 : q + sumW cntEntry l ≤ 70368744177664) (ho : ownS 2 90 oEntry w v l F) (hN : F.Nodup) :
    Calls Tryz.prog 36 #[v, .int .i64 q] w fun e w' => e = .returned (.int .i64 (q + sumW cntEntry l)) ∧ ∃ l', ownS 2 90 oEntry w' v l' F ∧ l'.length = l.length ∧ hdS hdEntry l' q (q + sumW cntEntry l) ∧ Turn F w w' := by
  rcases ho.open hN with ⟨rfl, rfl, rfl⟩ | ⟨g, cap, cur, Fs, rfl, hrow, rfl⟩
  · refine (markEntryS_nil q w).mono ?_
    rintro e w' ⟨rfl, rfl⟩
    exact ⟨by simp [sumW], [], ho, rfl, by simp [hdS, sumW], Turn.refl _ _⟩
  · refine (markEntryS_row g cap _ l cur Fs q w rfl hq hq2 hrow).mono ?_
    rintro e w' ⟨rfl, l', cur', hr', hl', hh, ht⟩
    refine ⟨rfl, l', ?_, hl', hh, ht⟩
    have := hr'.shut
    rw [hl'] at this
    exact this

def tcntDisk (m : MDisk) : Nat := sumW cntInode m.fInodes + sumW cntEntry m.fNames + sumW cntEntry m.fSafe
def htDisk (m : MDisk) (q q' : Int) : Prop := ∃ q1 q2 : Int, hdS hdInode m.fInodes q q1 ∧ hdS hdEntry m.fNames q1 q2 ∧ hdS hdEntry m.fSafe q2 q'

theorem tcntDisk_le (m : MDisk) : tcntDisk m ≤ 32 * wDisk m := by
  unfold tcntDisk wDisk
  have e0 := sumW_cnt_le cntInode_le m.fInodes
  have e1 := sumW_cnt_le cntEntry_le m.fNames
  have e2 := sumW_cnt_le cntEntry_le m.fSafe
  omega

set_option maxHeartbeats 1000000 in
theorem markDisk_b (cs : List Value) (m : MDisk) (F : List Nat) (q : Int) (w : World) (hq : 0 ≤ q) (hq2 : q + tcntDisk m ≤ 70368744177664) (ho : oDisk w cs m F) (hN : F.Nodup) :
    Calls Tryz.prog 15 #[.agg cs.toArray, .int .i64 q] w fun e w' => ∃ (m' : MDisk) (q' : Int), e = .returned (.int .i64 q') ∧ q ≤ q' ∧ q' ≤ q + tcntDisk m ∧ oDisk w' cs m' F ∧ htDisk m' q q' ∧ Turn F w w' := by
  have HLT : Hid (∀ b, b ∈ F → b < w.heap.size) := oDisk_good.lt ho
  obtain ⟨v0, F0, v1, F1, v2, F2, rfl, h0, h1, h2, h3, hFF⟩ := ho
  have HU : Hid (q + ((sumW cntInode m.fInodes + sumW cntEntry m.fNames + sumW cntEntry m.fSafe : Nat) : Int) ≤ 70368744177664) := hq2
  have hu := HU.out
  clear hq2
  obtain ⟨a0, c0, rfl, _⟩ := ownS.read oInode_good h0
  obtain ⟨a1, c1, rfl, _⟩ := ownS.read oEntry_good h1
  obtain ⟨a2, c2, rfl, _⟩ := ownS.read oEntry_good h2
  have hN0 := hN
  rw [hFF, List.append_nil] at hN0
  have hM0 : ∀ b, b ∈ F0 → b ∈ F := fun b hb => by rw [hFF]; simp [hb]
  have hM1 : ∀ b, b ∈ F1 → b ∈ F := fun b hb => by rw [hFF]; simp [hb]
  have hM2 : ∀ b, b ∈ F2 → b ∈ F := fun b hb => by rw [hFF]; simp [hb]
  obtain ⟨hP1, hNd2, hX2⟩ := List.nodup_append.1 hN0
  have hD0_2 : ∀ b, b ∈ F0 → b ∉ F2 := fun b h1 h2 => hX2 b (by simp [h1]) b h2 rfl
  have hD2_0 : ∀ b, b ∈ F2 → b ∉ F0 := fun b h1 h2 => hX2 b (by simp [h2]) b h1 rfl
  have hD1_2 : ∀ b, b ∈ F1 → b ∉ F2 := fun b h1 h2 => hX2 b (by simp [h1]) b h2 rfl
  have hD2_1 : ∀ b, b ∈ F2 → b ∉ F1 := fun b h1 h2 => hX2 b (by simp [h2]) b h1 rfl
  obtain ⟨hP0, hNd1, hX1⟩ := List.nodup_append.1 hP1
  have hD0_1 : ∀ b, b ∈ F0 → b ∉ F1 := fun b h1 h2 => hX1 b (by simp [h1]) b h2 rfl
  have hD1_0 : ∀ b, b ∈ F1 → b ∉ F0 := fun b h1 h2 => hX1 b (by simp [h2]) b h1 rfl
  have hNd0 := hP0
  clear hN0 hP0 hX1 hP1 hX2
  go_enter Tryz.func15, Tryz.ntmps15
  have hC := fun (W : World) (ht : Turn ([]) w W) => markInodeS_any _ m.fInodes F0 (q) W (by omega) (by omega) (ownS.frame oInode_good h0 (fun b hb => ht.block b (ownS.lt oInode_good h0 b hb) (by simp))) hNd0
  go_wp2_with fail
  refine Calls.mono (hC _ ?_) ?_
  · exact Turn.ofBelow ((Below.refl _ _).alloc (Nat.le_refl _) _)
  clear hC
  rintro e w1 ⟨rfl, l0, o0, ll0, hh0, t1⟩
  have hT1 : Turn (F0 ++ []) w w1 := Turn.trans (Turn.ofBelow ((Below.refl _ _).alloc (Nat.le_refl _) _)) (t1.mono (fun b hb => by simp [hb]))
  have e0 : w1.cell? ⟨w.heap.size, 0, none⟩ = some (.slice a0 m.fInodes.length c0) := (t1.cell (p := ⟨w.heap.size, 0, none⟩) (by simp) (fun hb => by have := HLT.out _ (hM0 _ hb); simp at this)).trans (by simp)
  have e1 : w1.cell? ⟨w.heap.size, 1, none⟩ = some (.slice a1 m.fNames.length c1) := (t1.cell (p := ⟨w.heap.size, 1, none⟩) (by simp) (fun hb => by have := HLT.out _ (hM0 _ hb); simp at this)).trans (by simp)
  have e2 : w1.cell? ⟨w.heap.size, 2, none⟩ = some (.slice a2 m.fSafe.length c2) := (t1.cell (p := ⟨w.heap.size, 2, none⟩) (by simp) (fun hb => by have := HLT.out _ (hM0 _ hb); simp at this)).trans (by simp)
  have hs1 : w.heap.size < w1.heap.size := by have h := t1.size; simp at h; omega
  have hC := fun (W : World) (ht : Turn (F0 ++ []) w W) => markEntryS_any _ m.fNames F1 (q + (sumW cntInode m.fInodes : Int)) W (by omega) (by omega) (ownS.frame oEntry_good h1 (fun b hb => ht.block b (ownS.lt oEntry_good h1 b hb) (fun hm => hD1_0 b hb (by simpa using hm)))) hNd1
  go_wp2_with fail
  refine Calls.mono (hC _ ?_) ?_
  · exact hT1
  clear hC
  rintro e w2 ⟨rfl, l1, o1, ll1, hh1, t2⟩
  have hT2 : Turn (F0 ++ F1 ++ []) w w2 := Turn.trans (hT1.mono (fun b hb => by simp only [List.append_nil, List.mem_append] at hb ⊢; simp [hb])) (t2.mono (fun b hb => by simp [hb]))
  replace e0 : w2.cell? ⟨w.heap.size, 0, none⟩ = some (.slice a0 m.fInodes.length c0) := (t2.cell (p := ⟨w.heap.size, 0, none⟩) hs1 (fun hb => by have := HLT.out _ (hM1 _ hb); simp at this)).trans e0
  replace e1 : w2.cell? ⟨w.heap.size, 1, none⟩ = some (.slice a1 m.fNames.length c1) := (t2.cell (p := ⟨w.heap.size, 1, none⟩) hs1 (fun hb => by have := HLT.out _ (hM1 _ hb); simp at this)).trans e1
  replace e2 : w2.cell? ⟨w.heap.size, 2, none⟩ = some (.slice a2 m.fSafe.length c2) := (t2.cell (p := ⟨w.heap.size, 2, none⟩) hs1 (fun hb => by have := HLT.out _ (hM1 _ hb); simp at this)).trans e2
  have hs2 : w.heap.size < w2.heap.size := Nat.lt_of_lt_of_le hs1 t2.size
  have hC := fun (W : World) (ht : Turn (F0 ++ F1 ++ []) w W) => markEntryS_any _ m.fSafe F2 (q + (sumW cntInode m.fInodes : Int) + (sumW cntEntry m.fNames : Int)) W (by omega) (by omega) (ownS.frame oEntry_good h2 (fun b hb => ht.block b (ownS.lt oEntry_good h2 b hb) (fun hm => by simp only [List.append_nil, List.mem_append] at hm; rcases hm with hm | hm <;> first | exact hD2_0 b hb hm | exact hD2_1 b hb hm))) hNd2
  go_wp2_with fail
  refine Calls.mono (hC _ ?_) ?_
  · exact hT2
  clear hC
  rintro e w3 ⟨rfl, l2, o2, ll2, hh2, t3⟩
  have hT3 : Turn (F0 ++ F1 ++ F2 ++ []) w w3 := Turn.trans (hT2.mono (fun b hb => by simp only [List.append_nil, List.mem_append] at hb ⊢; simp [hb])) (t3.mono (fun b hb => by simp [hb]))
  replace e0 : w3.cell? ⟨w.heap.size, 0, none⟩ = some (.slice a0 m.fInodes.length c0) := (t3.cell (p := ⟨w.heap.size, 0, none⟩) hs2 (fun hb => by have := HLT.out _ (hM2 _ hb); simp at this)).trans e0
  replace e1 : w3.cell? ⟨w.heap.size, 1, none⟩ = some (.slice a1 m.fNames.length c1) := (t3.cell (p := ⟨w.heap.size, 1, none⟩) hs2 (fun hb => by have := HLT.out _ (hM2 _ hb); simp at this)).trans e1
  replace e2 : w3.cell? ⟨w.heap.size, 2, none⟩ = some (.slice a2 m.fSafe.length c2) := (t3.cell (p := ⟨w.heap.size, 2, none⟩) hs2 (fun hb => by have := HLT.out _ (hM2 _ hb); simp at this)).trans e2
  have hs3 : w.heap.size < w3.heap.size := Nat.lt_of_lt_of_le hs2 t3.size
  have z0 := ownS.frame oInode_good o0 (fun b hb => ((t2.mono (G := F1 ++ F2 ++ []) (fun b hb => by simp [hb])).trans (t3.mono (fun b hb => by simp [hb]))).block b (ownS.lt oInode_good o0 b hb) (fun hm => by simp only [List.append_nil, List.mem_append] at hm; rcases hm with hm | hm <;> first | exact hD0_1 b hb hm | exact hD0_2 b hb hm))
  have z1 := ownS.frame oEntry_good o1 (fun b hb => (t3.mono (G := F2 ++ []) (fun b hb => by simp [hb])).block b (ownS.lt oEntry_good o1 b hb) (fun hm => hD1_2 b hb (by simpa using hm)))
  have z2 := o2
  clear t1 t2 t3
  go_wp2_with fail
  go_ret
  exact ⟨⟨(l0), (l1), (l2), (m.fNext)⟩, _, rfl, by omega, by unfold tcntDisk; omega, ⟨_, F0, _, F1, _, F2, rfl, z0, z1, z2, h3, hFF⟩, ⟨_, _, hh0, hh1, hh2⟩, hT3.mono (fun b hb => by rw [hFF]; simpa using hb)⟩

theorem markDisk_any (cs : List Value) (m : MDisk) (F : List Nat) (q : Int) (w : World) (hq : 0 ≤ q) (hq2 : q + tcntDisk m ≤ 70368744177664) (ho : oDisk w cs m F) (hN : F.Nodup) :
    Calls Tryz.prog 15 #[.agg cs.toArray, .int .i64 q] w fun e w' => ∃ (m' : MDisk) (q' : Int), e = .returned (.int .i64 q') ∧ q ≤ q' ∧ q' ≤ 70368744177664 ∧ oDisk w' cs m' F ∧ htDisk m' q q' ∧ Turn F w w' :=
  (markDisk_b cs m F q w hq hq2 ho hN).mono fun e w' ⟨m', q', h1, h2, h3, h4⟩ => ⟨m', q', h1, h2, by omega, h4⟩

end Go.Proofs.YtnohnkcijomdjaaGreatDoor
