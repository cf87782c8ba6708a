/-
  Part 3 of the texts that the proof leans on.
-/
import Derived.Test.YtnohnkcijomdjaaGreatDoorCur0
import Derived.Test.YtnohnkcijomdjaaGreatDoorCur1
import Derived.Test.YtnohnkcijomdjaaGreatDoorChecked
import Derived.Deep.RegionWith
import Derived.Test.YtnohnkcijomdjaaGreatDoorRows
import Derived.Deep.RegionHeld3
set_option linter.unusedVariables false
set_option linter.unusedSimpArgs false
set_option maxRecDepth 10000

namespace Go.Proofs.YtnohnkcijomdjaaGreatDoor
open Go.RowKit

def mtLoop : Nat → Int → ByteArray → ByteArray
  | 0, _, o => o
  | f + 1, k, o => if k ≤ 0 then o else mtLoop f (k / 10) (strOfNums [48 + k % 10] ++ o)

def mtext (q : Int) : ByteArray := if q ≤ 0 then strOfNums [109, 48] else strOfNums [109] ++ mtLoop (q.toNat + 1) q ByteArray.empty

theorem mtLoop_step {f : Nat} {k : Int} {o : ByteArray} (h : 0 < k) : mtLoop (f + 1) k o = mtLoop f (k / 10) (strOfNums [48 + k % 10] ++ o) := by
  rw [mtLoop, if_neg (by omega)]
theorem mtLoop_done {f : Nat} {k : Int} {o : ByteArray} (h : k ≤ 0) : mtLoop f k o = o := by
  cases f with
  | zero => rfl
  | succ f => rw [mtLoop, if_pos h]

set_option maxHeartbeats 400000 in
theorem markText_any (q : Int) (w : World) (hq : 0 ≤ q) (hq2 : q ≤ 140737488351232) :
    Calls Tryz.prog 53 #[.int .i64 q] w fun e w' => e = .returned (.string (mtext q)) ∧ Below w.heap.size w w' := by
  by_cases h0 : q ≤ 0
  · have HV : Hid (mtext q = strOfNums [109, 48]) := if_pos h0
    go_enter Tryz.func53, Tryz.ntmps53
    go_wp2
    go_ret
    exact ⟨by rw [HV.out]; rfl, Below.refl _ _⟩
  · have HV : Hid (mtext q = strOfNums [109] ++ mtLoop (q.toNat + 1) q ByteArray.empty) := if_neg h0
    go_enter Tryz.func53, Tryz.ntmps53
    go_wp2
    go_loopw [0, 3] (fun kk oo wr => ∃ (f : Nat) (k : Int) (o : ByteArray), kk = .int .i64 k ∧ oo = .string o ∧ 0 ≤ k ∧ k ≤ q ∧ k.toNat < f ∧ o.size + f = q.toNat + 1 ∧ mtLoop f k o = mtLoop (q.toNat + 1) q ByteArray.empty ∧ Below w.heap.size w wr) (fun kk _ _ => (intOf kk).toNat)
    case atStart => exact ⟨q.toNat + 1, q, ByteArray.empty, rfl, rfl, hq, by omega, by omega, by simp, rfl, Below.refl _ _⟩
    case round =>
      obtain ⟨f, k, o, rfl, rfl, hk0, hkq, hkf, hof, hm, hbk⟩ := hrel
      have HM := Hid.mk hm
      clear hm
      by_cases hlt : 0 < k
      · have hconv : (convert 60 9 (.slice (some ⟨wr.heap.size, 0, none⟩) 1 1)).run Tryz.prog (wr.alloc (.cells #[.int .u8 (48 + k % 10)] 5)) = .ok (.string (strOfNums [48 + k % 10])) (wr.alloc (.cells #[.int .u8 (48 + k % 10)] 5)) :=
          run_convert_bytes_arg _ 60 5 Tryz.underlying60 Tryz.underlying5 wr.heap.size 0 1 1 [48 + k % 10] rfl (fun i hi => by
            have h0 : i = 0 := by omega
            subst h0
            simp) 9 Tryz.underlying9
        obtain ⟨f', rfl⟩ : ∃ f', f = f' + 1 := ⟨f - 1, by omega⟩
        have HS := Hid.mk (mtLoop_step (f := f') (o := o) hlt)
        have HZ : Hid ((strOfNums [48 + k % 10] ++ o).size = 1 + o.size) := by
          show (strOfNums [48 + k % 10] ++ o).size = 1 + o.size
          rw [ByteArray.size_append, strOfNums_size]
          rfl
        have hz1 : (strOfNums [48 + k % 10]).size = 1 := strOfNums_size _
        generalize strOfNums [48 + k % 10] = d1 at hconv HS HZ hz1
        go_wp2
        go_roundw
        case rel => exact ⟨f', k / 10, d1 ++ o, by go_num, rfl, by omega, by omega, by omega, by rw [HZ.out]; omega, by rw [← HS.out]; exact HM.out, hbk.alloc hbk.size _⟩
        case measure => simp [intOf]; omega
      · have hk00 : k ≤ 0 := by omega
        have HD := Hid.mk (mtLoop_done (f := f) (o := o) hk00)
        go_wp2
        go_ret
        exact ⟨by rw [HV.out, ← HM.out, HD.out]; rfl, hbk⟩

theorem mtLoop_size (f : Nat) (k : Int) (o : ByteArray) : (mtLoop f k o).size ≤ o.size + f := by
  induction f generalizing k o with
  | zero => simp [mtLoop]
  | succ f ih =>
    rw [mtLoop]
    split
    · omega
    · refine Nat.le_trans (ih _ _) ?_
      rw [ByteArray.size_append, strOfNums_size]
      simp
      omega

theorem mtext_size (q : Int) : (mtext q).size ≤ q.toNat + 2 := by
  unfold mtext
  split
  · rw [strOfNums_size]; simp
  · rw [ByteArray.size_append, strOfNums_size]
    have := mtLoop_size (q.toNat + 1) q ByteArray.empty
    simp at this ⊢
    omega


def cntInode (m : MInode) : Nat := 1 + m.fData.length + 1
def hdInode (m : MInode) (q q' : Int) : Prop := m.fId = q ∧ m.fData = marks (q + 1) m.fData.length ∧ m.fSure = q + 1 + (m.fData.length : Int) ∧ q' = q + 1 + (m.fData.length : Int) + 1
theorem cntInode_le (m : MInode) : cntInode m ≤ 32 * (1 + wInode m) := by
  unfold cntInode wInode
  omega
set_option maxHeartbeats 1000000 in
theorem markInodeS_row (g cap n : Nat) (l : List MInode) (cur : Array Value) (Fs : List (List Nat)) (q : Int) (w : World) (hx : l.length = n) (hq : 0 ≤ q) (hq2 : q + sumW cntInode l ≤ 70368744177664) (ho : OwnRow 3 92 oInode w g cap l cur Fs) :
    Calls Tryz.prog 35 #[.slice (some ⟨g, 0, none⟩) n cap, .int .i64 q] w fun e w' => e = .returned (.int .i64 (q + sumW cntInode l)) ∧ ∃ l' cur', OwnRow 3 92 oInode w' g cap l' cur' Fs ∧ l'.length = n ∧ hdS hdInode l' q (q + sumW cntInode l) ∧ Turn (g :: Fs.flatten) w w' := by
  have HX := Hid.mk hx
  clear hx
  have hcap : n ≤ 9223372036854775807 := by have h1 := ho.le; have h2 := ho.max; have h3 := HX.out; unfold maxLen at h2; omega
  have HO := Hid.mk ho
  clear ho
  go_enter Tryz.func35, Tryz.ntmps35
  go_wp2_with fail
  go_loopw [1, 5] (fun kv i wr => ∃ (k : Nat) (kk : Int) (l' : List MInode) (cur' : Array Value), k ≤ n ∧ i = .int .i64 k ∧ kv = .int .i64 kk ∧ kk = q + sumW cntInode (l.take k) ∧ l'.length = k ∧ OwnRow 3 92 oInode wr g cap (l' ++ l.drop k) cur' Fs ∧ hdS hdInode l' q kk ∧ Turn (g :: Fs.flatten) w wr) (fun _ i _ => n - (intOf i).toNat)
  case atStart => exact ⟨0, q, [], cur, Nat.zero_le _, rfl, rfl, by simp [sumW], rfl, by simpa using HO.out, rfl, Turn.refl _ _⟩
  case round =>
    obtain ⟨k, kk, l', cur', hk, rfl, rfl, hkk, hl', hok, hh, htk⟩ := hrel
    by_cases hlt : k < n
    · have hkl : k < l.length := by rw [HX.out]; exact hlt
      have hlen2 : k < (l' ++ l.drop k).length := by rw [List.length_append, hl', List.length_drop]; omega
      have hw1 := sumW_take_succ (f := cntInode) hkl
      have hw2 := sumW_take_le cntInode l (k + 1)
      have hel := hok.each k hlen2
      rw [get_mid hl' hkl hlen2] at hel
      obtain ⟨hgF, hFN⟩ := hok.part hlen2
      have hE0 := Edit.start hok k (Fs.getD k [])
      generalize hcs : seg 3 cur' k = cs at hel hE0
      clear hcs
      have HOE := Hid.mk (fun w' cs' m' he ho => OwnRow.edit (w' := w') (cs := cs') (m' := m') oInode_good hok hlen2 he ho)
      have HS := Hid.mk (fun m' => set_mid hl' hkl m')
      have HH := Hid.mk (fun x q2 hx => hdS_snoc (x := x) (q2 := q2) hh hx)
      have HL' := Hid.mk hl'
      have HT := Hid.mk htk
      generalize hm0 : l[k] = m at *
      generalize Fs.getD k [] = Fk at *
      have HKK := Hid.mk hkk
      have HW1 := Hid.mk hw1
      have hlo : 0 ≤ kk := by omega
      have hup : kk + cntInode m ≤ 70368744177664 := by omega
      have HUP : Hid (kk + (1 + m.fData.length + 1 : Nat) ≤ 70368744177664) := hup
      have HU := HUP.out
      clear hm0 hok hh hl' htk hlen2 hkk hw1 hw2 hup
      obtain ⟨v1, F1, rfl, h0, h1, h2, hFk⟩ := hel
      obtain ⟨a1, c1, rfl, _⟩ := h1.read
      have q0 := hE0.cellAt (i := 0) (by omega) rfl
      have r0 := hE0.free (k * 3 + 0)
      rw [Nat.add_zero] at q0 r0
      have q1 := hE0.cellAt (i := 1) (by omega) rfl
      have r1 := hE0.free (k * 3 + 1)
      have q2 := hE0.cellAt (i := 2) (by omega) rfl
      have r2 := hE0.free (k * 3 + 2)
      skip
      have hN1 : F1.Nodup := by rw [hFk, List.append_nil] at hFN; exact hFN
      have hC := fun (W : World) (ht : Turn [g] wr W) => markByteS_o _ m.fData F1 (kk + 1) W (by omega) (by omega) (h1.frame (fun b hb => ht.block b (h1.lt b hb) (fun hm => by simp at hm; exact hgF (by rw [hFk, hm.symm]; simp [hb]))))
      go_wp2_with fail
      refine Calls.mono (hC _ ?_) ?_
      · repeat (first | with_reducible exact Turn.refl _ _ | refine Turn.setCell ?_ (by simp) _)
      clear hC
      rintro e w1 ⟨rfl, hown1, ht1⟩
      have hE1 := (hE0.set (i := 0) (by omega) (.int .i64 (kk))).keep (ht1.mono (fun b hb => by rw [hFk]; simp [hb])) hgF
      clear q0 r0
      clear q1 r1
      clear q2 r2
      have q0 := hE1.cellAt (i := 0) (by omega) rfl
      have r0 := hE1.free (k * 3 + 0)
      rw [Nat.add_zero] at q0 r0
      have q1 := hE1.cellAt (i := 1) (by omega) rfl
      have r1 := hE1.free (k * 3 + 1)
      have q2 := hE1.cellAt (i := 2) (by omega) rfl
      have r2 := hE1.free (k * 3 + 2)
      go_wp2_with fail
      go_roundw
      case rel =>
        have hed := HOE.out _ _ (⟨(kk), (marks (kk + 1) m.fData.length), (kk + 1 + (m.fData.length : Int))⟩) (hE1.set (i := 2) (by omega) (.int .i64 (kk + 1 + (m.fData.length : Int)))) ?own
        case own => exact ⟨_, F1, rfl, (show (Lit.int .i64 (kk)).wf = true from WalkArith.wf_i64 (by omega)), (hown1.frame (fun b hb => (show Turn [g] w1 _ from by repeat (first | with_reducible exact Turn.refl _ _ | refine Turn.setCell ?_ (by simp) _)).block b (hown1.lt b hb) (fun hm => by simp at hm; exact hgF (by rw [hFk, hm.symm]; simp [hb])))), (show (Lit.int .i64 (kk + 1 + (m.fData.length : Int))).wf = true from WalkArith.wf_i64 (by omega)), hFk⟩
        obtain ⟨⟨cur2, hrow2⟩, ht2⟩ := hed
        rw [HS.out] at hrow2
        refine ⟨k + 1, _, l' ++ [⟨(kk), (marks (kk + 1) m.fData.length), (kk + 1 + (m.fData.length : Int))⟩], cur2, by omega, by go_num, by go_num, ?_, by simp [HL'.out], hrow2, HH.out _ _ ?_, HT.out.trans ht2⟩
        · rw [HW1.out]; have h1 := HKK.out; have h2 : cntInode m = 1 + m.fData.length + 1 := rfl; omega
        · exact ⟨(by first | rfl | simp [marks_length]), (by simp [marks_length]), (by first | rfl | simp [marks_length]), (by first | rfl | simp [marks_length])⟩
      case measure => simp [intOf]; omega
    · have hkn : k = n := by omega
      have HT1 : Hid (l.take k = l) := List.take_of_length_le (by rw [HX.out]; omega)
      have HT2 : Hid (l.drop k = []) := List.drop_of_length_le (by rw [HX.out]; omega)
      rw [HT1.out] at hkk
      rw [HT2.out, List.append_nil] at hok
      have hk2 : 0 ≤ kk := by omega
      subst hkk
      go_wp2_with fail
      go_ret
      exact ⟨rfl, l', cur', hok, by rw [hl', hkn], hh, htk⟩

set_option maxHeartbeats 400000 in
theorem markInodeS_nil (q : Int) (w : World) :
    Calls Tryz.prog 35 #[.slice none 0 0, .int .i64 q] w fun e w' => e = .returned (.int .i64 q) ∧ w' = w := by
  go_enter Tryz.func35, Tryz.ntmps35
  go_wp2
  refine wp_loop_rounds 1 ?_
  rw [rounds_succ]
  go_wp2
  go_ret
  exact ⟨rfl, rfl⟩

theorem markInodeS_any (v : Value) (l : List MInode) (F : List Nat) (q : Int) (w : World) (hq : 0 ≤ q) (hq2 : q + sumW cntInode l ≤ 70368744177664) (ho : ownS 3 92 oInode w v l F) (hN : F.Nodup) :
    Calls Tryz.prog 35 #[v, .int .i64 q] w fun e w' => e = .returned (.int .i64 (q + sumW cntInode l)) ∧ ∃ l', ownS 3 92 oInode w' v l' F ∧ l'.length = l.length ∧ hdS hdInode l' q (q + sumW cntInode l) ∧ Turn F w w' := by
  rcases ho.open hN with ⟨rfl, rfl, rfl⟩ | ⟨g, cap, cur, Fs, rfl, hrow, rfl⟩
  · refine (markInodeS_nil q w).mono ?_
    rintro e w' ⟨rfl, rfl⟩
    exact ⟨by simp [sumW], [], ho, rfl, by simp [hdS, sumW], Turn.refl _ _⟩
  · refine (markInodeS_row g cap _ l cur Fs q w rfl hq hq2 hrow).mono ?_
    rintro e w' ⟨rfl, l', cur', hr', hl', hh, ht⟩
    refine ⟨rfl, l', ?_, hl', hh, ht⟩
    have := hr'.shut
    rw [hl'] at this
    exact this

def cntEntry (m : MEntry) : Nat := 1 + 1
def hdEntry (m : MEntry) (q q' : Int) : Prop := m.fName = mtext (q) ∧ m.fId = q + 1 ∧ q' = q + 1 + 1
theorem cntEntry_le (m : MEntry) : cntEntry m ≤ 32 * (1 + wEntry m) := by
  unfold cntEntry wEntry
  omega
set_option maxHeartbeats 1000000 in
theorem markEntryS_row (g cap n : Nat) (l : List MEntry) (cur : Array Value) (Fs : List (List Nat)) (q : Int) (w : World) (hx : l.length = n) (hq : 0 ≤ q) (hq2 : q + sumW cntEntry l ≤ 70368744177664) (ho : OwnRow 2 90 oEntry w g cap l cur Fs) :
    Calls Tryz.prog 36 #[.slice (some ⟨g, 0, none⟩) n cap, .int .i64 q] w fun e w' => e = .returned (.int .i64 (q + sumW cntEntry l)) ∧ ∃ l' cur', OwnRow 2 90 oEntry w' g cap l' cur' Fs ∧ l'.length = n ∧ hdS hdEntry l' q (q + sumW cntEntry l) ∧ Turn (g :: Fs.flatten) w w' := by
  have HX := Hid.mk hx
  clear hx
  have hcap : n ≤ 9223372036854775807 := by have h1 := ho.le; have h2 := ho.max; have h3 := HX.out; unfold maxLen at h2; omega
  have HO := Hid.mk ho
  clear ho
  go_enter Tryz.func36, Tryz.ntmps36
  go_wp2_with fail
  go_loopw [1, 5] (fun kv i wr => ∃ (k : Nat) (kk : Int) (l' : List MEntry) (cur' : Array Value), k ≤ n ∧ i = .int .i64 k ∧ kv = .int .i64 kk ∧ kk = q + sumW cntEntry (l.take k) ∧ l'.length = k ∧ OwnRow 2 90 oEntry wr g cap (l' ++ l.drop k) cur' Fs ∧ hdS hdEntry l' q kk ∧ Turn (g :: Fs.flatten) w wr) (fun _ i _ => n - (intOf i).toNat)
  case atStart => exact ⟨0, q, [], cur, Nat.zero_le _, rfl, rfl, by simp [sumW], rfl, by simpa using HO.out, rfl, Turn.refl _ _⟩
  case round =>
    obtain ⟨k, kk, l', cur', hk, rfl, rfl, hkk, hl', hok, hh, htk⟩ := hrel
    by_cases hlt : k < n
    · have hkl : k < l.length := by rw [HX.out]; exact hlt
      have hlen2 : k < (l' ++ l.drop k).length := by rw [List.length_append, hl', List.length_drop]; omega
      have hw1 := sumW_take_succ (f := cntEntry) hkl
      have hw2 := sumW_take_le cntEntry l (k + 1)
      have hel := hok.each k hlen2
      rw [get_mid hl' hkl hlen2] at hel
      obtain ⟨hgF, hFN⟩ := hok.part hlen2
      have hE0 := Edit.start hok k (Fs.getD k [])
      generalize hcs : seg 2 cur' k = cs at hel hE0
      clear hcs
      have HOE := Hid.mk (fun w' cs' m' he ho => OwnRow.edit (w' := w') (cs := cs') (m' := m') oEntry_good hok hlen2 he ho)
      have HS := Hid.mk (fun m' => set_mid hl' hkl m')
      have HH := Hid.mk (fun x q2 hx => hdS_snoc (x := x) (q2 := q2) hh hx)
      have HL' := Hid.mk hl'
      have HT := Hid.mk htk
      generalize hm0 : l[k] = m at *
      generalize Fs.getD k [] = Fk at *
      have HKK := Hid.mk hkk
      have HW1 := Hid.mk hw1
      have hlo : 0 ≤ kk := by omega
      have hup : kk + cntEntry m ≤ 70368744177664 := by omega
      have HUP : Hid (kk + (1 + 1 : Nat) ≤ 70368744177664) := hup
      have HU := HUP.out
      clear hm0 hok hh hl' htk hlen2 hkk hw1 hw2 hup
      obtain ⟨rfl, h0, h1, hFk⟩ := hel
      have q0 := hE0.cellAt (i := 0) (by omega) rfl
      have r0 := hE0.free (k * 2 + 0)
      rw [Nat.add_zero] at q0 r0
      have q1 := hE0.cellAt (i := 1) (by omega) rfl
      have r1 := hE0.free (k * 2 + 1)
      skip
      go_wp2_with fail
      refine (markText_any (kk) _ (by omega) (by omega)).mono ?_
      rintro e w1 ⟨rfl, hb1⟩
      have hE1 := hE0.keep (Turn.ofBelow hb1) hgF
      clear q0 r0
      clear q1 r1
      have q0 := hE1.cellAt (i := 0) (by omega) rfl
      have r0 := hE1.free (k * 2 + 0)
      rw [Nat.add_zero] at q0 r0
      have q1 := hE1.cellAt (i := 1) (by omega) rfl
      have r1 := hE1.free (k * 2 + 1)
      go_wp2_with fail
      go_roundw
      case rel =>
        have hed := HOE.out _ _ (⟨(mtext (kk)), (kk + 1)⟩) ((hE1.set (i := 0) (by omega) (.string (mtext (kk)))).set (i := 1) (by omega) (.int .i64 (kk + 1))) ?own
        case own => exact ⟨rfl, (show (mtext (kk)).size ≤ 9223372036854775807 from Nat.le_trans (mtext_size _) (by omega)), (show (Lit.int .i64 (kk + 1)).wf = true from WalkArith.wf_i64 (by omega)), hFk⟩
        obtain ⟨⟨cur2, hrow2⟩, ht2⟩ := hed
        rw [HS.out] at hrow2
        refine ⟨k + 1, _, l' ++ [⟨(mtext (kk)), (kk + 1)⟩], cur2, by omega, by go_num, by go_num, ?_, by simp [HL'.out], hrow2, HH.out _ _ ?_, HT.out.trans ht2⟩
        · rw [HW1.out]; have h1 := HKK.out; have h2 : cntEntry m = 1 + 1 := rfl; omega
        · exact ⟨(by first | rfl | simp [marks_length]), (by first | rfl | simp [marks_length]), (by first | rfl | simp [marks_length])⟩
      case measure => simp [intOf]; omega
    · have hkn : k = n := by omega
      have HT1 : Hid (l.take k = l) := List.take_of_length_le (by rw [HX.out]; omega)
      have HT2 : Hid (l.drop k = []) := List.drop_of_length_le (by rw [HX.out]; omega)
      rw [HT1.out] at hkk
      rw [HT2.out, List.append_nil] at hok
      have hk2 : 0 ≤ kk := by omega
      subst hkk
      go_wp2_with fail
      go_ret
      exact ⟨rfl, l', cur', hok, by rw [hl', hkn], hh, htk⟩

set_option maxHeartbeats 400000 in
theorem markEntryS_nil (q : Int) (w : World) :
    Calls Tryz.prog 36 #[.slice none 0 0, .int .i64 q] w fun e w' => e = .returned (.int .i64 q) ∧ w' = w := by
  go_enter Tryz.func36, Tryz.ntmps36
  go_wp2
  refine wp_loop_rounds 1 ?_
  rw [rounds_succ]
  go_wp2
  go_ret
  exact ⟨rfl, rfl⟩

theorem markEntryS_any (v : Value) (l : List MEntry) (F : List Nat) (q : Int) (w : World) (hq : 0 ≤ q) (hq2 : q + sumW cntEntry l ≤ 70368744177664) (ho : ownS 2 90 oEntry w v l F) (hN : F.Nodup) :
    Calls Tryz.prog 36 #[v, .int .i64 q] w fun e w' => e = .returned (.int .i64 (q + sumW cntEntry l)) ∧ ∃ l', ownS 2 90 oEntry w' v l' F ∧ l'.length = l.length ∧ hdS hdEntry l' q (q + sumW cntEntry l) ∧ Turn F w w' := by
  rcases ho.open hN with ⟨rfl, rfl, rfl⟩ | ⟨g, cap, cur, Fs, rfl, hrow, rfl⟩
  · refine (markEntryS_nil q w).mono ?_
    rintro e w' ⟨rfl, rfl⟩
    exact ⟨by simp [sumW], [], ho, rfl, by simp [hdS, sumW], Turn.refl _ _⟩
  · refine (markEntryS_row g cap _ l cur Fs q w rfl hq hq2 hrow).mono ?_
    rintro e w' ⟨rfl, l', cur', hr', hl', hh, ht⟩
    refine ⟨rfl, l', ?_, hl', hh, ht⟩
    have := hr'.shut
    rw [hl'] at this
    exact this

def tcntDisk (m : MDisk) : Nat := sumW cntInode m.fInodes + sumW cntEntry m.fNames + sumW cntEntry m.fSafe
def htDisk (m : MDisk) (q q' : Int) : Prop := ∃ q1 q2 : Int, hdS hdInode m.fInodes q q1 ∧ hdS hdEntry m.fNames q1 q2 ∧ hdS hdEntry m.fSafe q2 q'

theorem tcntDisk_le (m : MDisk) : tcntDisk m ≤ 32 * wDisk m := by
  unfold tcntDisk wDisk
  have e0 := sumW_cnt_le cntInode_le m.fInodes
  have e1 := sumW_cnt_le cntEntry_le m.fNames
  have e2 := sumW_cnt_le cntEntry_le m.fSafe
  omega

set_option maxHeartbeats 1000000 in
theorem markDisk_b (cs : List Value) (m : MDisk) (F : List Nat) (q : Int) (w : World) (hq : 0 ≤ q) (hq2 : q + tcntDisk m ≤ 70368744177664) (ho : oDisk w cs m F) (hN : F.Nodup) :
    Calls Tryz.prog 15 #[.agg cs.toArray, .int .i64 q] w fun e w' => ∃ (m' : MDisk) (q' : Int), e = .returned (.int .i64 q') ∧ q ≤ q' ∧ q' ≤ q + tcntDisk m ∧ oDisk w' cs m' F ∧ htDisk m' q q' ∧ Turn F w w' := by
  have HLT : Hid (∀ b, b ∈ F → b < w.heap.size) := oDisk_good.lt ho
  obtain ⟨v0, F0, v1, F1, v2, F2, rfl, h0, h1, h2, h3, hFF⟩ := ho
  have HU : Hid (q + ((sumW cntInode m.fInodes + sumW cntEntry m.fNames + sumW cntEntry m.fSafe : Nat) : Int) ≤ 70368744177664) := hq2
  have hu := HU.out
  clear hq2
  obtain ⟨a0, c0, rfl, _⟩ := ownS.read oInode_good h0
  obtain ⟨a1, c1, rfl, _⟩ := ownS.read oEntry_good h1
  obtain ⟨a2, c2, rfl, _⟩ := ownS.read oEntry_good h2
  have hN0 := hN
  rw [hFF, List.append_nil] at hN0
  have hM0 : ∀ b, b ∈ F0 → b ∈ F := fun b hb => by rw [hFF]; simp [hb]
  have hM1 : ∀ b, b ∈ F1 → b ∈ F := fun b hb => by rw [hFF]; simp [hb]
  have hM2 : ∀ b, b ∈ F2 → b ∈ F := fun b hb => by rw [hFF]; simp [hb]
  obtain ⟨hP1, hNd2, hX2⟩ := List.nodup_append.1 hN0
  have hD0_2 : ∀ b, b ∈ F0 → b ∉ F2 := fun b h1 h2 => hX2 b (by simp [h1]) b h2 rfl
  have hD2_0 : ∀ b, b ∈ F2 → b ∉ F0 := fun b h1 h2 => hX2 b (by simp [h2]) b h1 rfl
  have hD1_2 : ∀ b, b ∈ F1 → b ∉ F2 := fun b h1 h2 => hX2 b (by simp [h1]) b h2 rfl
  have hD2_1 : ∀ b, b ∈ F2 → b ∉ F1 := fun b h1 h2 => hX2 b (by simp [h2]) b h1 rfl
  obtain ⟨hP0, hNd1, hX1⟩ := List.nodup_append.1 hP1
  have hD0_1 : ∀ b, b ∈ F0 → b ∉ F1 := fun b h1 h2 => hX1 b (by simp [h1]) b h2 rfl
  have hD1_0 : ∀ b, b ∈ F1 → b ∉ F0 := fun b h1 h2 => hX1 b (by simp [h2]) b h1 rfl
  have hNd0 := hP0
  clear hN0 hP0 hX1 hP1 hX2
  go_enter Tryz.func15, Tryz.ntmps15
  have hC := fun (W : World) (ht : Turn ([]) w W) => markInodeS_any _ m.fInodes F0 (q) W (by omega) (by omega) (ownS.frame oInode_good h0 (fun b hb => ht.block b (ownS.lt oInode_good h0 b hb) (by simp))) hNd0
  go_wp2_with fail
  refine Calls.mono (hC _ ?_) ?_
  · exact Turn.ofBelow ((Below.refl _ _).alloc (Nat.le_refl _) _)
  clear hC
  rintro e w1 ⟨rfl, l0, o0, ll0, hh0, t1⟩
  have hT1 : Turn (F0 ++ []) w w1 := Turn.trans (Turn.ofBelow ((Below.refl _ _).alloc (Nat.le_refl _) _)) (t1.mono (fun b hb => by simp [hb]))
  have e0 : w1.cell? ⟨w.heap.size, 0, none⟩ = some (.slice a0 m.fInodes.length c0) := (t1.cell (p := ⟨w.heap.size, 0, none⟩) (by simp) (fun hb => by have := HLT.out _ (hM0 _ hb); simp at this)).trans (by simp)
  have e1 : w1.cell? ⟨w.heap.size, 1, none⟩ = some (.slice a1 m.fNames.length c1) := (t1.cell (p := ⟨w.heap.size, 1, none⟩) (by simp) (fun hb => by have := HLT.out _ (hM0 _ hb); simp at this)).trans (by simp)
  have e2 : w1.cell? ⟨w.heap.size, 2, none⟩ = some (.slice a2 m.fSafe.length c2) := (t1.cell (p := ⟨w.heap.size, 2, none⟩) (by simp) (fun hb => by have := HLT.out _ (hM0 _ hb); simp at this)).trans (by simp)
  have hs1 : w.heap.size < w1.heap.size := by have h := t1.size; simp at h; omega
  have hC := fun (W : World) (ht : Turn (F0 ++ []) w W) => markEntryS_any _ m.fNames F1 (q + (sumW cntInode m.fInodes : Int)) W (by omega) (by omega) (ownS.frame oEntry_good h1 (fun b hb => ht.block b (ownS.lt oEntry_good h1 b hb) (fun hm => hD1_0 b hb (by simpa using hm)))) hNd1
  go_wp2_with fail
  refine Calls.mono (hC _ ?_) ?_
  · exact hT1
  clear hC
  rintro e w2 ⟨rfl, l1, o1, ll1, hh1, t2⟩
  have hT2 : Turn (F0 ++ F1 ++ []) w w2 := Turn.trans (hT1.mono (fun b hb => by simp only [List.append_nil, List.mem_append] at hb ⊢; simp [hb])) (t2.mono (fun b hb => by simp [hb]))
  replace e0 : w2.cell? ⟨w.heap.size, 0, none⟩ = some (.slice a0 m.fInodes.length c0) := (t2.cell (p := ⟨w.heap.size, 0, none⟩) hs1 (fun hb => by have := HLT.out _ (hM1 _ hb); simp at this)).trans e0
  replace e1 : w2.cell? ⟨w.heap.size, 1, none⟩ = some (.slice a1 m.fNames.length c1) := (t2.cell (p := ⟨w.heap.size, 1, none⟩) hs1 (fun hb => by have := HLT.out _ (hM1 _ hb); simp at this)).trans e1
  replace e2 : w2.cell? ⟨w.heap.size, 2, none⟩ = some (.slice a2 m.fSafe.length c2) := (t2.cell (p := ⟨w.heap.size, 2, none⟩) hs1 (fun hb => by have := HLT.out _ (hM1 _ hb); simp at this)).trans e2
  have hs2 : w.heap.size < w2.heap.size := Nat.lt_of_lt_of_le hs1 t2.size
  have hC := fun (W : World) (ht : Turn (F0 ++ F1 ++ []) w W) => markEntryS_any _ m.fSafe F2 (q + (sumW cntInode m.fInodes : Int) + (sumW cntEntry m.fNames : Int)) W (by omega) (by omega) (ownS.frame oEntry_good h2 (fun b hb => ht.block b (ownS.lt oEntry_good h2 b hb) (fun hm => by simp only [List.append_nil, List.mem_append] at hm; rcases hm with hm | hm <;> first | exact hD2_0 b hb hm | exact hD2_1 b hb hm))) hNd2
  go_wp2_with fail
  refine Calls.mono (hC _ ?_) ?_
  · exact hT2
  clear hC
  rintro e w3 ⟨rfl, l2, o2, ll2, hh2, t3⟩
  have hT3 : Turn (F0 ++ F1 ++ F2 ++ []) w w3 := Turn.trans (hT2.mono (fun b hb => by simp only [List.append_nil, List.mem_append] at hb ⊢; simp [hb])) (t3.mono (fun b hb => by simp [hb]))
  replace e0 : w3.cell? ⟨w.heap.size, 0, none⟩ = some (.slice a0 m.fInodes.length c0) := (t3.cell (p := ⟨w.heap.size, 0, none⟩) hs2 (fun hb => by have := HLT.out _ (hM2 _ hb); simp at this)).trans e0
  replace e1 : w3.cell? ⟨w.heap.size, 1, none⟩ = some (.slice a1 m.fNames.length c1) := (t3.cell (p := ⟨w.heap.size, 1, none⟩) hs2 (fun hb => by have := HLT.out _ (hM2 _ hb); simp at this)).trans e1
  replace e2 : w3.cell? ⟨w.heap.size, 2, none⟩ = some (.slice a2 m.fSafe.length c2) := (t3.cell (p := ⟨w.heap.size, 2, none⟩) hs2 (fun hb => by have := HLT.out _ (hM2 _ hb); simp at this)).trans e2
  have hs3 : w.heap.size < w3.heap.size := Nat.lt_of_lt_of_le hs2 t3.size
  have z0 := ownS.frame oInode_good o0 (fun b hb => ((t2.mono (G := F1 ++ F2 ++ []) (fun b hb => by simp [hb])).trans (t3.mono (fun b hb => by simp [hb]))).block b (ownS.lt oInode_good o0 b hb) (fun hm => by simp only [List.append_nil, List.mem_append] at hm; rcases hm with hm | hm <;> first | exact hD0_1 b hb hm | exact hD0_2 b hb hm))
  have z1 := ownS.frame oEntry_good o1 (fun b hb => (t3.mono (G := F2 ++ []) (fun b hb => by simp [hb])).block b (ownS.lt oEntry_good o1 b hb) (fun hm => hD1_2 b hb (by simpa using hm)))
  have z2 := o2
  clear t1 t2 t3
  go_wp2_with fail
  go_ret
  exact ⟨⟨(l0), (l1), (l2), (m.fNext)⟩, _, rfl, by omega, by unfold tcntDisk; omega, ⟨_, F0, _, F1, _, F2, rfl, z0, z1, z2, h3, hFF⟩, ⟨_, _, hh0, hh1, hh2⟩, hT3.mono (fun b hb => by rw [hFF]; simpa using hb)⟩

theorem markDisk_any (cs : List Value) (m : MDisk) (F : List Nat) (q : Int) (w : World) (hq : 0 ≤ q) (hq2 : q + tcntDisk m ≤ 70368744177664) (ho : oDisk w cs m F) (hN : F.Nodup) :
    Calls Tryz.prog 15 #[.agg cs.toArray, .int .i64 q] w fun e w' => ∃ (m' : MDisk) (q' : Int), e = .returned (.int .i64 q') ∧ q ≤ q' ∧ q' ≤ 70368744177664 ∧ oDisk w' cs m' F ∧ htDisk m' q q' ∧ Turn F w w' :=
  (markDisk_b cs m F q w hq hq2 ho hN).mono fun e w' ⟨m', q', h1, h2, h3, h4⟩ => ⟨m', q', h1, h2, by omega, h4⟩


structure MMeta where
  fNo : Int
  fLevel : Int
  fLo : ByteArray
  fHi : ByteArray

def rMeta : Rep MMeta := fun B w cs m => cs = [.int .i64 m.fNo, .int .i64 m.fLevel, .string m.fLo, .string m.fHi] ∧ (Lit.int .i64 m.fNo).wf = true ∧ (Lit.int .i64 m.fLevel).wf = true ∧ m.fLo.size ≤ 9223372036854775807 ∧ m.fHi.size ≤ 9223372036854775807 ∧ True

theorem rMeta_good : rMeta.Good :=
  ⟨fun ⟨h, h0, h1, h2, h3, _⟩ hb => ⟨h, h0, h1, h2, h3, trivial⟩, fun ⟨h, h0, h1, h2, h3, _⟩ hB => ⟨h, h0, h1, h2, h3, trivial⟩⟩

def oMeta : ORep MMeta := fun w cs m F => cs = [.int .i64 m.fNo, .int .i64 m.fLevel, .string m.fLo, .string m.fHi] ∧ (Lit.int .i64 m.fNo).wf = true ∧ (Lit.int .i64 m.fLevel).wf = true ∧ m.fLo.size ≤ 9223372036854775807 ∧ m.fHi.size ≤ 9223372036854775807 ∧ F = []

theorem oMeta_good : oMeta.Good rMeta 4 := by
  refine ⟨?_, ?_, ?_, ?_⟩
  · rintro w w' cs m F ⟨rfl, h0, h1, h2, h3, rfl⟩ hb
    exact ⟨rfl, h0, h1, h2, h3, rfl⟩
  · rintro w cs m F ⟨rfl, h0, h1, h2, h3, rfl⟩ k hk
    cases hk
  · rintro w cs m F ⟨rfl, h0, h1, h2, h3, rfl⟩
    exact ⟨rfl, h0, h1, h2, h3, trivial⟩
  · rintro w cs m F ⟨rfl, h0, h1, h2, h3, rfl⟩
    rfl

def wMeta (m : MMeta) : Nat := m.fLo.size + m.fHi.size

structure MManifest where
  fNext : Int
  fLog : Int
  fTables : List MMeta

def rManifest : Rep MManifest := fun B w cs m => ∃ a2 : Option Addr, ∃ c2 : Nat, cs = [.int .i64 m.fNext, .int .i64 m.fLog, .slice a2 m.fTables.length c2] ∧ (Lit.int .i64 m.fNext).wf = true ∧ (Lit.int .i64 m.fLog).wf = true ∧ LeafL 4 rMeta B w a2 c2 m.fTables ∧ True

theorem rManifest_good : rManifest.Good :=
  ⟨fun ⟨a2, c2, h, h0, h1, h2, _⟩ hb => ⟨a2, c2, h, h0, h1, h2.below rMeta_good hb, trivial⟩, fun ⟨a2, c2, h, h0, h1, h2, _⟩ hB => ⟨a2, c2, h, h0, h1, h2.mono rMeta_good hB, trivial⟩⟩

def oManifest : ORep MManifest := fun w cs m F => ∃ v2 : Value, ∃ F2 : List Nat, cs = [.int .i64 m.fNext, .int .i64 m.fLog, v2] ∧ (Lit.int .i64 m.fNext).wf = true ∧ (Lit.int .i64 m.fLog).wf = true ∧ ownS 4 49 oMeta w v2 m.fTables F2 ∧ F = F2 ++ []

theorem oManifest_good : oManifest.Good rManifest 3 := by
  refine ⟨?_, ?_, ?_, ?_⟩
  · rintro w w' cs m F ⟨v2, F2, rfl, h0, h1, h2, rfl⟩ hb
    exact ⟨v2, F2, rfl, h0, h1, ownS.frame oMeta_good h2 (fun k hk => hb k (by simp [hk])), rfl⟩
  · rintro w cs m F ⟨v2, F2, rfl, h0, h1, h2, rfl⟩ k hk
    simp only [List.mem_append, List.not_mem_nil, or_false] at hk
    exact ownS.lt oMeta_good h2 k hk
  · rintro w cs m F ⟨v2, F2, rfl, h0, h1, h2, rfl⟩
    obtain ⟨a2, c2, rfl, g2⟩ := ownS.read oMeta_good h2
    exact ⟨a2, c2, rfl, h0, h1, g2, trivial⟩
  · rintro w cs m F ⟨v2, F2, rfl, h0, h1, h2, rfl⟩
    rfl

def wManifest (m : MManifest) : Nat := (m.fTables.length + sumW wMeta m.fTables)


set_option maxHeartbeats 1000000 in
theorem eqMeta_yes (cs1 cs2 : List Value) (m : MMeta) (w : World) (hr1 : rMeta w.heap.size w cs1 m) (hr2 : rMeta w.heap.size w cs2 m) (hsz : wMeta m ≤ 1099511627776) :
    Calls Tryz.prog 52 #[.agg cs1.toArray, .agg cs2.toArray] w fun e w' => e = .returned (.bool true) ∧ Below w.heap.size w w' := by
  obtain ⟨rfl, h0, h1, h2, h3, _⟩ := hr1
  obtain ⟨rfl, g0, g1, g2, g3, _⟩ := hr2
  have hsz' : m.fLo.size + m.fHi.size ≤ 1099511627776 := hsz
  clear hsz
  have hbA : ∀ o1 o2, Below w.heap.size w ((w.alloc o1).alloc o2) := fun o1 o2 => ((Below.refl _ _).alloc (Nat.le_refl _) o1).alloc (by simp) o2
  go_enter Tryz.func52, Tryz.ntmps52
  go_wp2_with fail
  go_ret
  exact ⟨rfl, (hbA _ _)⟩

set_option maxHeartbeats 1000000 in
theorem eqMetaS_yes (a b : Option Addr) (n ca cb : Nat) (l : List MMeta) (w : World) (hx : l.length = n) (hra : LeafL 4 rMeta w.heap.size w a ca l) (hrb : LeafL 4 rMeta w.heap.size w b cb l) (hsz : n + sumW wMeta l ≤ 1099511627776) :
    Calls Tryz.prog 24 #[.slice a n ca, .slice b n cb] w fun e w' => e = .returned (.bool true) ∧ Below w.heap.size w w' := by
  have HX := Hid.mk hx
  clear hx
  replace hra := hra.2.2
  replace hrb := hrb.2.2
  go_enter Tryz.func24, Tryz.ntmps24
  go_wp2_with fail
  go_loopw [5] (fun i wr => ∃ k : Nat, k ≤ n ∧ i = .int .i64 k ∧ Below w.heap.size w wr) (fun i _ => n - (intOf i).toNat)
  case atStart => exact ⟨0, Nat.zero_le _, rfl, Below.refl _ _⟩
  case round =>
    obtain ⟨k, hk, rfl, hbk⟩ := hrel
    by_cases hlt : k < n
    · have hkl : k < l.length := by rw [HX.out]; exact hlt
      have hwk := sumW_le (f := wMeta) hkl
      obtain ⟨bA, oA, rfl, hBA, csA, hlA, hcA, hrA⟩ := (hra.below rMeta_good hbk) k hkl
      obtain ⟨bB, oB, rfl, hBB, csB, hlB, hcB, hrB⟩ := (hrb.below rMeta_good hbk) k hkl
      have hrA' := rMeta_good.mono hrA hbk.size
      have hrB' := rMeta_good.mono hrB hbk.size
      generalize l[k] = m at *
      obtain ⟨rfl, h0, h1, h2, h3, _⟩ := hrA
      obtain ⟨rfl, g0, g1, g2, g3, _⟩ := hrB
      have k0 := hcA 0 _ rfl
      have j0 := hcB 0 _ rfl
      have k1 := hcA 1 _ rfl
      have j1 := hcB 1 _ rfl
      have k2 := hcA 2 _ rfl
      have j2 := hcB 2 _ rfl
      have k3 := hcA 3 _ rfl
      have j3 := hcB 3 _ rfl
      rw [Nat.add_zero] at k0 j0
      have hm : wMeta m ≤ 1099511627776 := by omega
      clear hcA hcB hlA hlB hra hrb hwk
      go_wp2_with fail
      go_region_with (go_at_call 52; refine (eqMeta_yes _ _ m _ (by exact hrA') (by exact hrB') hm).mono ?_; rintro e w1 ⟨rfl, hb1⟩)
      all_goals
        have hb2 : Below w.heap.size w w1 := Below.trans hbk (Below.mono (Below.trans (Below.drew (Below.refl _ _)) hb1) hbk.size)
        go_wp2_with fail
        go_roundw
        case rel => exact ⟨k + 1, by omega, by go_num, hb2⟩
        case measure => simp [intOf]; omega
    · go_wp2_with fail
      go_ret
      exact ⟨rfl, hbk⟩

set_option maxHeartbeats 1000000 in
theorem eqManifest_yes (cs1 cs2 : List Value) (m : MManifest) (w : World) (hr1 : rManifest w.heap.size w cs1 m) (hr2 : rManifest w.heap.size w cs2 m) (hsz : wManifest m ≤ 1099511627776) :
    Calls Tryz.prog 7 #[.agg cs1.toArray, .agg cs2.toArray] w fun e w' => e = .returned (.bool true) ∧ Below w.heap.size w w' := by
  obtain ⟨a2, c2, rfl, h0, h1, h2, _⟩ := hr1
  obtain ⟨b2, d2, rfl, g0, g1, g2, _⟩ := hr2
  have hsz' : (m.fTables.length + sumW wMeta m.fTables) ≤ 1099511627776 := hsz
  clear hsz
  have hbA : ∀ o1 o2, Below w.heap.size w ((w.alloc o1).alloc o2) := fun o1 o2 => ((Below.refl _ _).alloc (Nat.le_refl _) o1).alloc (by simp) o2
  go_enter Tryz.func7, Tryz.ntmps7
  have hC1 := fun (W : World) (hb : Below w.heap.size w W) => eqMetaS_yes a2 b2 _ c2 d2 m.fTables W rfl (LeafL.mono rMeta_good (h2.below rMeta_good hb) hb.size) (LeafL.mono rMeta_good (g2.below rMeta_good hb) hb.size) (by omega)
  go_wp2_with fail
  refine Calls.mono (hC1 _ ?_) ?_
  · exact (hbA _ _)
  rintro e w1 ⟨rfl, hx1⟩
  obtain ⟨hc1, hf1⟩ := bcell hx1
  have hz1 : w.heap.size + 1 + 1 ≤ w1.heap.size := by have h := hx1.size; first | omega | (simp at h; omega)
  have hy1a : w.heap.size < w1.heap.size := by omega
  have hy1b : w.heap.size + 1 < w1.heap.size := by omega
  have hB1 : Below w.heap.size w w1 := Below.trans (hbA _ _) (hx1.mono (by first | (simp; omega) | simp | omega))
  clear hC1
  go_wp2_with fail
  go_ret
  exact ⟨rfl, hB1⟩


def cntMeta (m : MMeta) : Nat := 1 + 1 + 1 + 1
def hdMeta (m : MMeta) (q q' : Int) : Prop := m.fNo = q ∧ m.fLevel = q + 1 ∧ m.fLo = mtext (q + 1 + 1) ∧ m.fHi = mtext (q + 1 + 1 + 1) ∧ q' = q + 1 + 1 + 1 + 1
theorem cntMeta_le (m : MMeta) : cntMeta m ≤ 32 * (1 + wMeta m) := by
  unfold cntMeta wMeta
  omega
theorem hdMeta_end (m : MMeta) (q q' : Int) (h : hdMeta m q q') : q' = q + cntMeta m := by
  obtain ⟨_, _, _, _, rfl⟩ := h
  unfold cntMeta
  omega

set_option maxHeartbeats 1000000 in
theorem markMetaS_row (g cap n : Nat) (l : List MMeta) (cur : Array Value) (Fs : List (List Nat)) (q : Int) (w : World) (hx : l.length = n) (hq : 0 ≤ q) (hq2 : q + sumW cntMeta l ≤ 70368744177664) (ho : OwnRow 4 49 oMeta w g cap l cur Fs) :
    Calls Tryz.prog 25 #[.slice (some ⟨g, 0, none⟩) n cap, .int .i64 q] w fun e w' => e = .returned (.int .i64 (q + sumW cntMeta l)) ∧ ∃ l' cur', OwnRow 4 49 oMeta w' g cap l' cur' Fs ∧ l'.length = n ∧ hdS hdMeta l' q (q + sumW cntMeta l) ∧ Turn (g :: Fs.flatten) w w' := by
  have HX := Hid.mk hx
  clear hx
  have hcap : n ≤ 9223372036854775807 := by have h1 := ho.le; have h2 := ho.max; have h3 := HX.out; unfold maxLen at h2; omega
  have HO := Hid.mk ho
  clear ho
  go_enter Tryz.func25, Tryz.ntmps25
  go_wp2_with fail
  go_loopw [1, 5] (fun kv i wr => ∃ (k : Nat) (kk : Int) (l' : List MMeta) (cur' : Array Value), k ≤ n ∧ i = .int .i64 k ∧ kv = .int .i64 kk ∧ kk = q + sumW cntMeta (l.take k) ∧ l'.length = k ∧ OwnRow 4 49 oMeta wr g cap (l' ++ l.drop k) cur' Fs ∧ hdS hdMeta l' q kk ∧ Turn (g :: Fs.flatten) w wr) (fun _ i _ => n - (intOf i).toNat)
  case atStart => exact ⟨0, q, [], cur, Nat.zero_le _, rfl, rfl, by simp [sumW], rfl, by simpa using HO.out, rfl, Turn.refl _ _⟩
  case round =>
    obtain ⟨k, kk, l', cur', hk, rfl, rfl, hkk, hl', hok, hh, htk⟩ := hrel
    by_cases hlt : k < n
    · have hkl : k < l.length := by rw [HX.out]; exact hlt
      have hlen2 : k < (l' ++ l.drop k).length := by rw [List.length_append, hl', List.length_drop]; omega
      have hw1 := sumW_take_succ (f := cntMeta) hkl
      have hw2 := sumW_take_le cntMeta l (k + 1)
      have hel := hok.each k hlen2
      rw [get_mid hl' hkl hlen2] at hel
      obtain ⟨hgF, hFN⟩ := hok.part hlen2
      have hE0 := Edit.start hok k (Fs.getD k [])
      generalize hcs : seg 4 cur' k = cs at hel hE0
      clear hcs
      have HOE := Hid.mk (fun w' cs' m' he ho => OwnRow.edit (w' := w') (cs := cs') (m' := m') oMeta_good hok hlen2 he ho)
      have HS := Hid.mk (fun m' => set_mid hl' hkl m')
      have HH := Hid.mk (fun x q2 hx => hdS_snoc (x := x) (q2 := q2) hh hx)
      have HL' := Hid.mk hl'
      have HT := Hid.mk htk
      generalize hm0 : l[k] = m at *
      generalize Fs.getD k [] = Fk at *
      have HKK := Hid.mk hkk
      have HW1 := Hid.mk hw1
      have hlo : 0 ≤ kk := by omega
      have hup : kk + cntMeta m ≤ 70368744177664 := by omega
      have HUP : Hid (kk + (1 + 1 + 1 + 1 : Nat) ≤ 70368744177664) := hup
      have HU := HUP.out
      clear hm0 hok hh hl' htk hlen2 hkk hw1 hw2 hup
      obtain ⟨rfl, h0, h1, h2, h3, hFk⟩ := hel
      have q0 := hE0.cellAt (i := 0) (by omega) rfl
      have r0 := hE0.free (k * 4 + 0)
      rw [Nat.add_zero] at q0 r0
      have q1 := hE0.cellAt (i := 1) (by omega) rfl
      have r1 := hE0.free (k * 4 + 1)
      have q2 := hE0.cellAt (i := 2) (by omega) rfl
      have r2 := hE0.free (k * 4 + 2)
      have q3 := hE0.cellAt (i := 3) (by omega) rfl
      have r3 := hE0.free (k * 4 + 3)
      skip
      go_wp2_with fail
      refine (markText_any (kk + 1 + 1) _ (by omega) (by omega)).mono ?_
      rintro e w1 ⟨rfl, hb1⟩
      have hE1 := ((hE0.set (i := 0) (by omega) (.int .i64 (kk))).set (i := 1) (by omega) (.int .i64 (kk + 1))).keep (Turn.ofBelow hb1) hgF
      clear q0 r0
      clear q1 r1
      clear q2 r2
      clear q3 r3
      have q0 := hE1.cellAt (i := 0) (by omega) rfl
      have r0 := hE1.free (k * 4 + 0)
      rw [Nat.add_zero] at q0 r0
      have q1 := hE1.cellAt (i := 1) (by omega) rfl
      have r1 := hE1.free (k * 4 + 1)
      have q2 := hE1.cellAt (i := 2) (by omega) rfl
      have r2 := hE1.free (k * 4 + 2)
      have q3 := hE1.cellAt (i := 3) (by omega) rfl
      have r3 := hE1.free (k * 4 + 3)
      go_wp2_with fail
      refine (markText_any (kk + 1 + 1 + 1) _ (by omega) (by omega)).mono ?_
      rintro e w2 ⟨rfl, hb2⟩
      have hE2 := (hE1.set (i := 2) (by omega) (.string (mtext (kk + 1 + 1)))).keep (Turn.ofBelow hb2) hgF
      clear q0 r0
      clear q1 r1
      clear q2 r2
      clear q3 r3
      have q0 := hE2.cellAt (i := 0) (by omega) rfl
      have r0 := hE2.free (k * 4 + 0)
      rw [Nat.add_zero] at q0 r0
      have q1 := hE2.cellAt (i := 1) (by omega) rfl
      have r1 := hE2.free (k * 4 + 1)
      have q2 := hE2.cellAt (i := 2) (by omega) rfl
      have r2 := hE2.free (k * 4 + 2)
      have q3 := hE2.cellAt (i := 3) (by omega) rfl
      have r3 := hE2.free (k * 4 + 3)
      go_wp2_with fail
      go_roundw
      case rel =>
        have hed := HOE.out _ _ (⟨(kk), (kk + 1), (mtext (kk + 1 + 1)), (mtext (kk + 1 + 1 + 1))⟩) (hE2.set (i := 3) (by omega) (.string (mtext (kk + 1 + 1 + 1)))) ?own
        case own => exact ⟨rfl, (show (Lit.int .i64 (kk)).wf = true from WalkArith.wf_i64 (by omega)), (show (Lit.int .i64 (kk + 1)).wf = true from WalkArith.wf_i64 (by omega)), (show (mtext (kk + 1 + 1)).size ≤ 9223372036854775807 from Nat.le_trans (mtext_size _) (by omega)), (show (mtext (kk + 1 + 1 + 1)).size ≤ 9223372036854775807 from Nat.le_trans (mtext_size _) (by omega)), hFk⟩
        obtain ⟨⟨cur2, hrow2⟩, ht2⟩ := hed
        rw [HS.out] at hrow2
        refine ⟨k + 1, _, l' ++ [⟨(kk), (kk + 1), (mtext (kk + 1 + 1)), (mtext (kk + 1 + 1 + 1))⟩], cur2, by omega, by go_num, by go_num, ?_, by simp [HL'.out], hrow2, HH.out _ _ ?_, HT.out.trans ht2⟩
        · rw [HW1.out]; have h1 := HKK.out; have h2 : cntMeta m = 1 + 1 + 1 + 1 := rfl; omega
        · exact ⟨(by first | rfl | simp [marks_length]), (by first | rfl | simp [marks_length]), (by first | rfl | simp [marks_length]), (by first | rfl | simp [marks_length]), (by first | rfl | simp [marks_length])⟩
      case measure => simp [intOf]; omega
    · have hkn : k = n := by omega
      have HT1 : Hid (l.take k = l) := List.take_of_length_le (by rw [HX.out]; omega)
      have HT2 : Hid (l.drop k = []) := List.drop_of_length_le (by rw [HX.out]; omega)
      rw [HT1.out] at hkk
      rw [HT2.out, List.append_nil] at hok
      have hk2 : 0 ≤ kk := by omega
      subst hkk
      go_wp2_with fail
      go_ret
      exact ⟨rfl, l', cur', hok, by rw [hl', hkn], hh, htk⟩

set_option maxHeartbeats 400000 in
theorem markMetaS_nil (q : Int) (w : World) :
    Calls Tryz.prog 25 #[.slice none 0 0, .int .i64 q] w fun e w' => e = .returned (.int .i64 q) ∧ w' = w := by
  go_enter Tryz.func25, Tryz.ntmps25
  go_wp2
  refine wp_loop_rounds 1 ?_
  rw [rounds_succ]
  go_wp2
  go_ret
  exact ⟨rfl, rfl⟩

theorem markMetaS_any (v : Value) (l : List MMeta) (F : List Nat) (q : Int) (w : World) (hq : 0 ≤ q) (hq2 : q + sumW cntMeta l ≤ 70368744177664) (ho : ownS 4 49 oMeta w v l F) (hN : F.Nodup) :
    Calls Tryz.prog 25 #[v, .int .i64 q] w fun e w' => e = .returned (.int .i64 (q + sumW cntMeta l)) ∧ ∃ l', ownS 4 49 oMeta w' v l' F ∧ l'.length = l.length ∧ hdS hdMeta l' q (q + sumW cntMeta l) ∧ Turn F w w' := by
  rcases ho.open hN with ⟨rfl, rfl, rfl⟩ | ⟨g, cap, cur, Fs, rfl, hrow, rfl⟩
  · refine (markMetaS_nil q w).mono ?_
    rintro e w' ⟨rfl, rfl⟩
    exact ⟨by simp [sumW], [], ho, rfl, by simp [hdS, sumW], Turn.refl _ _⟩
  · refine (markMetaS_row g cap _ l cur Fs q w rfl hq hq2 hrow).mono ?_
    rintro e w' ⟨rfl, l', cur', hr', hl', hh, ht⟩
    refine ⟨rfl, l', ?_, hl', hh, ht⟩
    have := hr'.shut
    rw [hl'] at this
    exact this

set_option maxHeartbeats 1000000 in
theorem heldMetaS_any (a : Option Addr) (n cap : Nat) (l : List MMeta) (q q' : Int) (w : World) (hx : l.length = n) (hr : LeafL 4 rMeta w.heap.size w a cap l) (hh : hdS hdMeta l q q') (hq : 0 ≤ q) (hq' : q' ≤ 70368744177664) :
    Calls Tryz.prog 26 #[.slice a n cap, .int .i64 q] w fun e w' => e = .returned (.int .i64 q') ∧ Below w.heap.size w w' := by
  have HX := Hid.mk hx
  clear hx
  have hcap : n ≤ 9223372036854775807 := by have h1 := hr.1; have h2 := hr.2.1; have h3 := HX.out; omega
  replace hr := hr.2.2
  have HH := Hid.mk hh
  clear hh
  go_enter Tryz.func26, Tryz.ntmps26
  go_wp2_with fail
  go_loopw [1, 5] (fun kv i wr => ∃ (k : Nat) (kk : Int), k ≤ n ∧ i = .int .i64 k ∧ kv = .int .i64 kk ∧ 0 ≤ kk ∧ hdS hdMeta (l.drop k) kk q' ∧ Below w.heap.size w wr) (fun _ i _ => n - (intOf i).toNat)
  case atStart => exact ⟨0, q, Nat.zero_le _, rfl, rfl, hq, by simpa using HH.out, Below.refl _ _⟩
  case round =>
    obtain ⟨k, kk, hk, rfl, rfl, hk0, hh, hbk⟩ := hrel
    by_cases hlt : k < n
    · have hkl : k < l.length := by rw [HX.out]; exact hlt
      rw [List.drop_eq_getElem_cons hkl] at hh
      obtain ⟨q1, hh1, hh2⟩ := hh
      have hqe := hdS_end hdMeta_end hh2
      obtain ⟨b1, o1, rfl, hB, cs, hcl, hcell, hrT⟩ := (hr.below rMeta_good hbk) k hkl
      have hrT := rMeta_good.mono hrT hbk.size
      generalize l[k] = m at *
      obtain ⟨f0, f1, f2, f3, hqf⟩ := hh1
      have hup : kk + 1 + 1 + 1 + 1 ≤ 70368744177664 := by omega
      have HR := Hid.mk hh2
      have HQ := Hid.mk hqf
      have hq10 : 0 ≤ q1 := by omega
      clear hh2 hqf hqe HH hr
      obtain ⟨rfl, h0, h1, h2, h3, _⟩ := hrT
      have k0 := hcell 0 _ rfl
      rw [Nat.add_zero] at k0
      have k1 := hcell 1 _ rfl
      have k2 := hcell 2 _ rfl
      have k3 := hcell 3 _ rfl
      rw [f0] at k0
      rw [f1] at k1
      rw [f2] at k2
      rw [f3] at k3
      clear hcell hcl
      have hy0 : b1 < wr.heap.size := Nat.lt_of_lt_of_le hB hbk.size
      go_wp2_with fail
      go_region_with (go_at_call 53; refine (markText_any (kk + 1 + 1) _ (by omega) (by omega)).mono ?_; rintro e w1 ⟨rfl, hb1⟩; have x2 : w1.cell? ⟨b1, o1 + k * 4 + 2, none⟩ = _ := (hb1.cell (p := ⟨b1, o1 + k * 4 + 2, none⟩) (by first | exact hy0 | simpa using hy0)).trans k2)
      all_goals
        have hB1 : Below wr.heap.size wr w1 := Below.trans (by repeat (first | with_reducible exact Below.refl _ _ | with_reducible assumption | refine Below.drew ?_ | refine Below.alloc ?_ (by simp) _)) (hb1.mono (by first | (with_reducible assumption) | (first | exact hB1.size | exact hB2.size | exact hB3.size) | simp))
        have hy1 : b1 < w1.heap.size := Nat.lt_of_lt_of_le hy0 hB1.size
        replace k2 : w1.cell? ⟨b1, o1 + k * 4 + 2, none⟩ = _ := (hb1.cell (p := ⟨b1, o1 + k * 4 + 2, none⟩) (by first | exact hy0 | simpa using hy0)).trans k2
        replace k3 : w1.cell? ⟨b1, o1 + k * 4 + 3, none⟩ = _ := (hb1.cell (p := ⟨b1, o1 + k * 4 + 3, none⟩) (by first | exact hy0 | simpa using hy0)).trans k3
        go_wp2_with fail
        go_region_with (go_at_call 53; refine (markText_any (kk + 1 + 1 + 1) _ (by omega) (by omega)).mono ?_; rintro e w2 ⟨rfl, hb2⟩; have x3 : w2.cell? ⟨b1, o1 + k * 4 + 3, none⟩ = _ := (hb2.cell (p := ⟨b1, o1 + k * 4 + 3, none⟩) (by first | exact hy1 | simpa using hy1)).trans k3)
        all_goals
          have hB2 : Below wr.heap.size wr w2 := Below.trans (by repeat (first | with_reducible exact Below.refl _ _ | with_reducible assumption | refine Below.drew ?_ | refine Below.alloc ?_ (by simp) _)) (hb2.mono (by first | (with_reducible assumption) | (first | exact hB1.size | exact hB2.size | exact hB3.size) | simp))
          have hy2 : b1 < w2.heap.size := Nat.lt_of_lt_of_le hy0 hB2.size
          replace k3 : w2.cell? ⟨b1, o1 + k * 4 + 3, none⟩ = _ := (hb2.cell (p := ⟨b1, o1 + k * 4 + 3, none⟩) (by first | exact hy1 | simpa using hy1)).trans k3
          go_wp2_with fail
          go_roundw
          case rel => exact ⟨k + 1, q1, by omega, by go_num, by rw [HQ.out] <;> go_num, hq10, HR.out, (Below.trans hbk (Below.mono (show Below wr.heap.size wr _ from by repeat (first | with_reducible exact Below.refl _ _ | with_reducible assumption | refine Below.drew ?_ | refine Below.alloc ?_ (by simp) _)) hbk.size))⟩
          case measure => simp [intOf]; omega
    · have hkn : k = n := by omega
      have HT2 : Hid (l.drop k = []) := List.drop_of_length_le (by rw [HX.out]; omega)
      rw [HT2.out] at hh
      have hqk : q' = kk := hh
      subst hqk
      go_wp2_with fail
      go_ret
      exact ⟨rfl, hbk⟩

def tcntManifest (m : MManifest) : Nat := sumW cntMeta m.fTables
def htManifest (m : MManifest) (q q' : Int) : Prop := hdS hdMeta m.fTables q q'

theorem tcntManifest_le (m : MManifest) : tcntManifest m ≤ 32 * wManifest m := by
  unfold tcntManifest wManifest
  have e2 := sumW_cnt_le cntMeta_le m.fTables
  omega

set_option maxHeartbeats 1000000 in
theorem markManifest_b (cs : List Value) (m : MManifest) (F : List Nat) (q : Int) (w : World) (hq : 0 ≤ q) (hq2 : q + tcntManifest m ≤ 70368744177664) (ho : oManifest w cs m F) (hN : F.Nodup) :
    Calls Tryz.prog 8 #[.agg cs.toArray, .int .i64 q] w fun e w' => ∃ (m' : MManifest) (q' : Int), e = .returned (.int .i64 q') ∧ q ≤ q' ∧ q' ≤ q + tcntManifest m ∧ oManifest w' cs m' F ∧ htManifest m' q q' ∧ Turn F w w' := by
  have HLT : Hid (∀ b, b ∈ F → b < w.heap.size) := oManifest_good.lt ho
  obtain ⟨v2, F2, rfl, h0, h1, h2, hFF⟩ := ho
  have HU : Hid (q + ((sumW cntMeta m.fTables : Nat) : Int) ≤ 70368744177664) := hq2
  have hu := HU.out
  clear hq2
  obtain ⟨a2, c2, rfl, _⟩ := ownS.read oMeta_good h2
  have hN0 := hN
  rw [hFF, List.append_nil] at hN0
  have hM2 : ∀ b, b ∈ F2 → b ∈ F := fun b hb => by rw [hFF]; simp [hb]
  have hNd2 := hN0
  clear hN0
  go_enter Tryz.func8, Tryz.ntmps8
  have hC := fun (W : World) (ht : Turn ([]) w W) => markMetaS_any _ m.fTables F2 (q) W (by omega) (by omega) (ownS.frame oMeta_good h2 (fun b hb => ht.block b (ownS.lt oMeta_good h2 b hb) (by simp))) hNd2
  go_wp2_with fail
  refine Calls.mono (hC _ ?_) ?_
  · exact Turn.ofBelow ((Below.refl _ _).alloc (Nat.le_refl _) _)
  clear hC
  rintro e w1 ⟨rfl, l2, o2, ll2, hh2, t1⟩
  have hT1 : Turn (F2 ++ []) w w1 := Turn.trans (Turn.ofBelow ((Below.refl _ _).alloc (Nat.le_refl _) _)) (t1.mono (fun b hb => by simp [hb]))
  have e2 : w1.cell? ⟨w.heap.size, 2, none⟩ = some (.slice a2 m.fTables.length c2) := (t1.cell (p := ⟨w.heap.size, 2, none⟩) (by simp) (fun hb => by have := HLT.out _ (hM2 _ hb); simp at this)).trans (by simp)
  have hs1 : w.heap.size < w1.heap.size := by have h := t1.size; simp at h; omega
  have z2 := o2
  clear t1
  go_wp2_with fail
  go_ret
  exact ⟨⟨(m.fNext), (m.fLog), (l2)⟩, _, rfl, by omega, by unfold tcntManifest; omega, ⟨_, F2, rfl, h0, h1, z2, hFF⟩, hh2, hT1.mono (fun b hb => by rw [hFF]; simpa using hb)⟩

theorem markManifest_any (cs : List Value) (m : MManifest) (F : List Nat) (q : Int) (w : World) (hq : 0 ≤ q) (hq2 : q + tcntManifest m ≤ 70368744177664) (ho : oManifest w cs m F) (hN : F.Nodup) :
    Calls Tryz.prog 8 #[.agg cs.toArray, .int .i64 q] w fun e w' => ∃ (m' : MManifest) (q' : Int), e = .returned (.int .i64 q') ∧ q ≤ q' ∧ q' ≤ 70368744177664 ∧ oManifest w' cs m' F ∧ htManifest m' q q' ∧ Turn F w w' :=
  (markManifest_b cs m F q w hq hq2 ho hN).mono fun e w' ⟨m', q', h1, h2, h3, h4⟩ => ⟨m', q', h1, h2, by omega, h4⟩

set_option maxHeartbeats 1000000 in
theorem heldManifest_any (cs : List Value) (m : MManifest) (q q' : Int) (w : World) (hr : rManifest w.heap.size w cs m) (hh : htManifest m q q') (hq : 0 ≤ q) (hq' : q' ≤ 70368744177664) :
    Calls Tryz.prog 9 #[.agg cs.toArray, .int .i64 q] w fun e w' => e = .returned (.int .i64 q') ∧ Below w.heap.size w w' := by
  obtain ⟨a2, c2, rfl, h0, h1, h2, _⟩ := hr
  have f2 := hh
  have hz2 := hdS_end hdMeta_end f2
  have HF2 := Hid.mk f2
  clear f2
  have hbe : 0 ≤ q' := by omega
  clear hz2
  go_enter Tryz.func9, Tryz.ntmps9
  have hC := fun (W : World) (hb : Below w.heap.size w W) => (heldMetaS_any a2 _ c2 m.fTables q q' W rfl (LeafL.mono rMeta_good (h2.below rMeta_good hb) hb.size) HF2.out (by omega) (by omega))
  go_wp2_with fail
  refine Calls.mono (hC _ ?_) ?_
  · exact (Below.refl _ _).alloc (Nat.le_refl _) _
  clear hC
  rintro e w1 ⟨rfl, hx1⟩
  have hB1 : Below w.heap.size w w1 := Below.trans ((Below.refl _ _).alloc (Nat.le_refl _) _) (hx1.mono (by simp))
  have hs1 : w.heap.size < w1.heap.size := by have h := hx1.size; simp at h; omega
  have e2 : w1.cell? ⟨w.heap.size, 2, none⟩ = some (.slice a2 m.fTables.length c2) := (hx1.cell (p := ⟨w.heap.size, 2, none⟩) (by simp)).trans (by simp)
  go_wp2_with fail
  go_ret
  exact ⟨rfl, hB1⟩

end Go.Proofs.YtnohnkcijomdjaaGreatDoor

namespace Go.Proofs.YtnohnkcijomdjaaGreatDoor
open Go

section
variable {P : Program} {md : Region.Mode} {ops : Array Oper} {Q : Exit → Act → World → Prop} {S : World → Prop}
/-- An operation that is wanted comes first: it yields v. -/
theorem tk (i : Nat) (oi : Oper) (d : Option Tmp) {v : Value} {fuel : Nat} {listed : Array Bool} {a : Act} {w : World} (hi : ops[i]? = some oi) (hd : oi.dst = d)
    (hc : (Region.noSelect ops && (Region.free md ops listed i && (Region.ready md ops listed).contains i)) = true) (hS : S w) (hw : Region.wanted oi (yielded ops a.tmps) = true)
    (hQ : ∀ c a w, Q (.panic c) (a.put d v) w → Q (.panic c) a w) (hy : ∀ w, S w → (execOp a.eval oi).run P w = .ok (.value v) w)
    (h : wpAnyH P md ops Q S fuel (listed.setIfInBounds i true) (a.put d v) w) : wpAnyH P md ops Q S (fuel + 1) listed a w := by
  subst hd
  simp only [Bool.and_eq_true] at hc
  exact wpAnyH_take hi hc.1 hc.2.1 hc.2.2 hQ (.inl ⟨hw, hy⟩) hS h
/-- One that is not wanted comes first. -/
theorem tn (i : Nat) (oi : Oper) (d : Option Tmp) {fuel : Nat} {listed : Array Bool} {a : Act} {w : World} (hi : ops[i]? = some oi) (hd : oi.dst = d)
    (hc : (Region.noSelect ops && (Region.free md ops listed i && (Region.ready md ops listed).contains i)) = true) (hS : S w) (hw : Region.wanted oi (yielded ops a.tmps) = false)
    (hQ : ∀ c a w, Q (.panic c) (a.put d undef) w → Q (.panic c) a w)
    (h : wpAnyH P md ops Q S fuel (listed.setIfInBounds i true) (a.put d undef) w) : wpAnyH P md ops Q S (fuel + 1) listed a w := by
  subst hd
  simp only [Bool.and_eq_true] at hc
  exact wpAnyH_take hi hc.1 hc.2.1 hc.2.2 hQ (.inr ⟨hw, rfl⟩) hS h
end
theorem sa {α : Type} (l : List α) (i : Nat) (a : α) : l.toArray.setIfInBounds i a = (l.set i a).toArray := List.setIfInBounds_toArray ..
theorem s0 {α : Type} (a b : α) (l : List α) : (a :: l).set 0 b = b :: l := rfl
theorem s1 {α : Type} (a b : α) (l : List α) (i : Nat) : (a :: l).set (i + 1) b = a :: l.set i b := rfl

end Go.Proofs.YtnohnkcijomdjaaGreatDoor
