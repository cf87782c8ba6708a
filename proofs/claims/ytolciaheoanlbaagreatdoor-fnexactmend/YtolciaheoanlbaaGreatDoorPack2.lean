/-
  Part 3 of the texts that the proof leans on.
-/
import Derived.Test.YtolciaheoanlbaaGreatDoorPack0
import Derived.Test.YtolciaheoanlbaaGreatDoorPack1
import Derived.Test.YtolciaheoanlbaaGreatDoorChecked
import Derived.Deep.RegionWith
import Derived.Deep.RegionHeld3
import Derived.WalkKit
import Derived.Maps.AppendAt

/-
  The text that the laws make of a number, to mark a string with it.
-/
namespace Go.Proofs.YtolciaheoanlbaaGreatDoor
open Go.RowKit
set_option maxRecDepth 10000
def mtLoop : Nat → Int → ByteArray → ByteArray
 | 0, _, o => o
 | f + 1, k, o => if k ≤ 0 then o else mtLoop f (k / 10) (strOfNums [48 + k % 10] ++ o)
def mtext (q : Int) : ByteArray := if q ≤ 0 then strOfNums [109, 48] else strOfNums [109] ++ mtLoop (q.toNat + 1) q ByteArray.empty
theorem mtLoop_step {f : Nat} {k : Int} {o : ByteArray} (h : 0 < k) : mtLoop (f + 1) k o = mtLoop f (k / 10) (strOfNums [48 + k % 10] ++ o) := by
 rw [mtLoop, if_neg (by omega)]
theorem mtLoop_done {f : Nat} {k : Int} {o : ByteArray} (h : k ≤ 0) : mtLoop f k o = o := by
 cases f with
 | zero => rfl
 | succ f => rw [mtLoop, if_pos h]
set_option maxHeartbeats 400000 in
theorem markText_any (q : Int) (w : World) (hq : 0 ≤ q) (hq2 : q ≤ 140737488351232) :
  Calls Tryz.prog 98 #[.int .i64 q] w fun e w' => e = .returned (.string (mtext q)) ∧ Below w.heap.size w w' := by
 by_cases h0 : q ≤ 0
 ·have HV : Hid (mtext q = strOfNums [109, 48]) := if_pos h0
  go_enter Tryz.func98, Tryz.ntmps98
  go_wp2
  go_ret
  exact ⟨by rw [HV.out]; rfl, Below.refl _ _⟩
 ·have HV : Hid (mtext q = strOfNums [109] ++ mtLoop (q.toNat + 1) q ByteArray.empty) := if_neg h0
  go_enter Tryz.func98, Tryz.ntmps98
  go_wp2
  go_loopw [0, 3] (fun kk oo wr => ∃ (f : Nat) (k : Int) (o : ByteArray), kk = .int .i64 k ∧ oo = .string o ∧ 0 ≤ k ∧ k ≤ q ∧ k.toNat < f ∧ o.size + f = q.toNat + 1 ∧ mtLoop f k o = mtLoop (q.toNat + 1) q ByteArray.empty ∧ Below w.heap.size w wr) (fun kk _ _ => (intOf kk).toNat)
  case atStart => exact ⟨q.toNat + 1, q, ByteArray.empty, rfl, rfl, hq, by omega, by omega, by simp, rfl, Below.refl _ _⟩
  case round =>
   obtain ⟨f, k, o, rfl, rfl, hk0, hkq, hkf, hof, hm, hbk⟩ := hrel
   have HM := Hid.mk hm
   clear hm
   by_cases hlt : 0 < k
   ·have hconv : (convert 62 9 (.slice (some ⟨wr.heap.size, 0, none⟩) 1 1)).run Tryz.prog (wr.alloc (.cells #[.int .u8 (48 + k % 10)] 5)) = .ok (.string (strOfNums [48 + k % 10])) (wr.alloc (.cells #[.int .u8 (48 + k % 10)] 5)) :=
     run_convert_bytes_arg _ 62 5 Tryz.underlying62 Tryz.underlying5 wr.heap.size 0 1 1 [48 + k % 10] rfl (fun i hi => by
      have h0 : i = 0 := by omega
      subst h0
      simp) 9 Tryz.underlying9
    obtain ⟨f', rfl⟩ : ∃ f', f = f' + 1 := ⟨f - 1, by omega⟩
    have HS := Hid.mk (mtLoop_step (f := f') (o := o) hlt)
    have HZ : Hid ((strOfNums [48 + k % 10] ++ o).size = 1 + o.size) := by
     show (strOfNums [48 + k % 10] ++ o).size = 1 + o.size
     rw [ByteArray.size_append, strOfNums_size]
     rfl
    have hz1 : (strOfNums [48 + k % 10]).size = 1 := strOfNums_size _
    generalize strOfNums [48 + k % 10] = d1 at hconv HS HZ hz1
    go_wp2
    go_roundw
    case rel => exact ⟨f', k / 10, d1 ++ o, by go_num, rfl, by omega, by omega, by omega, by rw [HZ.out]; omega, by rw [← HS.out]; exact HM.out, hbk.alloc hbk.size _⟩
    case measure => simp [intOf]; omega
   ·have hk00 : k ≤ 0 := by omega
    have HD := Hid.mk (mtLoop_done (f := f) (o := o) hk00)
    go_wp2
    go_ret
    exact ⟨by rw [HV.out, ← HM.out, HD.out]; rfl, hbk⟩
theorem mtLoop_size (f : Nat) (k : Int) (o : ByteArray) : (mtLoop f k o).size ≤ o.size + f := by
 induction f generalizing k o with
 | zero => simp [mtLoop]
 | succ f ih =>
  rw [mtLoop]
  split
  ·omega
  ·refine Nat.le_trans (ih _ _) ?_
   rw [ByteArray.size_append, strOfNums_size]
   simp
   omega
theorem mtext_size (q : Int) : (mtext q).size ≤ q.toNat + 2 := by
 unfold mtext
 split
 ·rw [strOfNums_size]; simp
 ·rw [ByteArray.size_append, strOfNums_size]
  have := mtLoop_size (q.toNat + 1) q ByteArray.empty
  simp at this ⊢
  omega
end Go.Proofs.YtolciaheoanlbaaGreatDoor

/-
  Marks left in what was handed out, and found again.
-/
namespace Go.Proofs.YtolciaheoanlbaaGreatDoor
open Go.RowKit
set_option linter.unusedVariables false
set_option maxRecDepth 10000
def cntInode (m : MInode) : Nat := 1 + m.fData.length + 1
def hdInode (m : MInode) (q q' : Int) : Prop := m.fId = q ∧ m.fData = marks (q + 1) m.fData.length ∧ m.fSure = q + 1 + (m.fData.length : Int) ∧ q' = q + 1 + (m.fData.length : Int) + 1
theorem cntInode_le (m : MInode) : cntInode m ≤ 32 * (1 + wInode m) := by
 unfold cntInode wInode
 omega
theorem hdInode_end (m : MInode) (q q' : Int) (h : hdInode m q q') : q' = q + cntInode m := by
 obtain ⟨_, _, _, rfl⟩ := h
 unfold cntInode
 omega
set_option maxHeartbeats 1000000 in
theorem markInodeS_row (g cap n : Nat) (l : List MInode) (cur : Array Value) (Fs : List (List Nat)) (q : Int) (w : World) (hx : l.length = n) (hq : 0 ≤ q) (hq2 : q + sumW cntInode l ≤ 70368744177664) (ho : OwnRow 3 73 oInode w g cap l cur Fs) :
  Calls Tryz.prog 44 #[.slice (some ⟨g, 0, none⟩) n cap, .int .i64 q] w fun e w' => e = .returned (.int .i64 (q + sumW cntInode l)) ∧ ∃ l' cur', OwnRow 3 73 oInode w' g cap l' cur' Fs ∧ l'.length = n ∧ hdS hdInode l' q (q + sumW cntInode l) ∧ Turn (g :: Fs.flatten) w w' := by
 have HX := Hid.mk hx
 clear hx
 have hcap : n ≤ 9223372036854775807 := by have h1 := ho.le; have h2 := ho.max; have h3 := HX.out; unfold maxLen at h2; omega
 have HO := Hid.mk ho
 clear ho
 go_enter Tryz.func44, Tryz.ntmps44
 go_wp2_with fail
 go_loopw [1, 5] (fun kv i wr => ∃ (k : Nat) (kk : Int) (l' : List MInode) (cur' : Array Value), k ≤ n ∧ i = .int .i64 k ∧ kv = .int .i64 kk ∧ kk = q + sumW cntInode (l.take k) ∧ l'.length = k ∧ OwnRow 3 73 oInode wr g cap (l' ++ l.drop k) cur' Fs ∧ hdS hdInode l' q kk ∧ Turn (g :: Fs.flatten) w wr) (fun _ i _ => n - (intOf i).toNat)
 case atStart => exact ⟨0, q, [], cur, Nat.zero_le _, rfl, rfl, by simp [sumW], rfl, by simpa using HO.out, rfl, Turn.refl _ _⟩
 case round =>
  obtain ⟨k, kk, l', cur', hk, rfl, rfl, hkk, hl', hok, hh, htk⟩ := hrel
  by_cases hlt : k < n
  ·have hkl : k < l.length := by rw [HX.out]; exact hlt
   have hlen2 : k < (l' ++ l.drop k).length := by rw [List.length_append, hl', List.length_drop]; omega
   have hw1 := sumW_take_succ (f := cntInode) hkl
   have hw2 := sumW_take_le cntInode l (k + 1)
   have hel := hok.each k hlen2
   rw [get_mid hl' hkl hlen2] at hel
   obtain ⟨hgF, hFN⟩ := hok.part hlen2
   have hE0 := Edit.start hok k (Fs.getD k [])
   generalize hcs : seg 3 cur' k = cs at hel hE0
   clear hcs
   have HOE := Hid.mk (fun w' cs' m' he ho => OwnRow.edit (w' := w') (cs := cs') (m' := m') oInode_good hok hlen2 he ho)
   have HS := Hid.mk (fun m' => set_mid hl' hkl m')
   have HH := Hid.mk (fun x q2 hx => hdS_snoc (x := x) (q2 := q2) hh hx)
   have HL' := Hid.mk hl'
   have HT := Hid.mk htk
   generalize hm0 : l[k] = m at *
   generalize Fs.getD k [] = Fk at *
   have HKK := Hid.mk hkk
   have HW1 := Hid.mk hw1
   have hlo : 0 ≤ kk := by omega
   have hup : kk + cntInode m ≤ 70368744177664 := by omega
   have HUP : Hid (kk + (1 + m.fData.length + 1 : Nat) ≤ 70368744177664) := hup
   have HU := HUP.out
   clear hm0 hok hh hl' htk hlen2 hkk hw1 hw2 hup
   obtain ⟨v1, F1, rfl, h0, h1, h2, hFk⟩ := hel
   obtain ⟨a1, c1, rfl, _⟩ := h1.read
   have q0 := hE0.cellAt (i := 0) (by omega) rfl
   have r0 := hE0.free (k * 3 + 0)
   rw [Nat.add_zero] at q0 r0
   have q1 := hE0.cellAt (i := 1) (by omega) rfl
   have r1 := hE0.free (k * 3 + 1)
   have q2 := hE0.cellAt (i := 2) (by omega) rfl
   have r2 := hE0.free (k * 3 + 2)
   skip
   have hN1 : F1.Nodup := by rw [hFk, List.append_nil] at hFN; exact hFN
   have hC := fun (W : World) (ht : Turn [g] wr W) => markByteS_o _ m.fData F1 (kk + 1) W (by omega) (by omega) (h1.frame (fun b hb => ht.block b (h1.lt b hb) (fun hm => by simp at hm; exact hgF (by rw [hFk, hm.symm]; simp [hb]))))
   go_wp2_with fail
   refine Calls.mono (hC _ ?_) ?_
   ·repeat (first | with_reducible exact Turn.refl _ _ | refine Turn.setCell ?_ (by simp) _)
   clear hC
   rintro e w1 ⟨rfl, hown1, ht1⟩
   have hE1 := (hE0.set (i := 0) (by omega) (.int .i64 (kk))).keep (ht1.mono (fun b hb => by rw [hFk]; simp [hb])) hgF
   clear q0 r0
   clear q1 r1
   clear q2 r2
   have q0 := hE1.cellAt (i := 0) (by omega) rfl
   have r0 := hE1.free (k * 3 + 0)
   rw [Nat.add_zero] at q0 r0
   have q1 := hE1.cellAt (i := 1) (by omega) rfl
   have r1 := hE1.free (k * 3 + 1)
   have q2 := hE1.cellAt (i := 2) (by omega) rfl
   have r2 := hE1.free (k * 3 + 2)
   go_wp2_with fail
   go_roundw
   case rel =>
    have hed := HOE.out _ _ (⟨(kk), (marks (kk + 1) m.fData.length), (kk + 1 + (m.fData.length : Int))⟩) (hE1.set (i := 2) (by omega) (.int .i64 (kk + 1 + (m.fData.length : Int)))) ?own
    case own => exact ⟨_, F1, rfl, (show (Lit.int .i64 (kk)).wf = true from WalkArith.wf_i64 (by omega)), (hown1.frame (fun b hb => (show Turn [g] w1 _ from by repeat (first | with_reducible exact Turn.refl _ _ | refine Turn.setCell ?_ (by simp) _)).block b (hown1.lt b hb) (fun hm => by simp at hm; exact hgF (by rw [hFk, hm.symm]; simp [hb])))), (show (Lit.int .i64 (kk + 1 + (m.fData.length : Int))).wf = true from WalkArith.wf_i64 (by omega)), hFk⟩
    obtain ⟨⟨cur2, hrow2⟩, ht2⟩ := hed
    rw [HS.out] at hrow2
    refine ⟨k + 1, _, l' ++ [⟨(kk), (marks (kk + 1) m.fData.length), (kk + 1 + (m.fData.length : Int))⟩], cur2, by omega, by go_num, by go_num, ?_, by simp [HL'.out], hrow2, HH.out _ _ ?_, HT.out.trans ht2⟩
    ·rw [HW1.out]; have h1 := HKK.out; have h2 : cntInode m = 1 + m.fData.length + 1 := rfl; omega
    ·exact ⟨(by first | rfl | simp [marks_length]), (by simp [marks_length]), (by first | rfl | simp [marks_length]), (by first | rfl | simp [marks_length])⟩
   case measure => simp [intOf]; omega
  ·have hkn : k = n := by omega
   have HT1 : Hid (l.take k = l) := List.take_of_length_le (by rw [HX.out]; omega)
   have HT2 : Hid (l.drop k = []) := List.drop_of_length_le (by rw [HX.out]; omega)
   rw [HT1.out] at hkk
   rw [HT2.out, List.append_nil] at hok
   have hk2 : 0 ≤ kk := by omega
   subst hkk
   go_wp2_with fail
   go_ret
   exact ⟨rfl, l', cur', hok, by rw [hl', hkn], hh, htk⟩
set_option maxHeartbeats 400000 in
theorem markInodeS_nil (q : Int) (w : World) :
  Calls Tryz.prog 44 #[.slice none 0 0, .int .i64 q] w fun e w' => e = .returned (.int .i64 q) ∧ w' = w := by
 go_enter Tryz.func44, Tryz.ntmps44
 go_wp2
 refine wp_loop_rounds 1 ?_
 rw [rounds_succ]
 go_wp2
 go_ret
 exact ⟨rfl, rfl⟩
theorem markInodeS_any (v : Value) (l : List MInode) (F : List Nat) (q : Int) (w : World) (hq : 0 ≤ q) (hq2 : q + sumW cntInode l ≤ 70368744177664) (ho : ownS 3 73 oInode w v l F) (hN : F.Nodup) :
  Calls Tryz.prog 44 #[v, .int .i64 q] w fun e w' => e = .returned (.int .i64 (q + sumW cntInode l)) ∧ ∃ l', ownS 3 73 oInode w' v l' F ∧ l'.length = l.length ∧ hdS hdInode l' q (q + sumW cntInode l) ∧ Turn F w w' := by
 rcases ho.open hN with ⟨rfl, rfl, rfl⟩ | ⟨g, cap, cur, Fs, rfl, hrow, rfl⟩
 ·refine (markInodeS_nil q w).mono ?_
  rintro e w' ⟨rfl, rfl⟩
  exact ⟨by simp [sumW], [], ho, rfl, by simp [hdS, sumW], Turn.refl _ _⟩
 ·refine (markInodeS_row g cap _ l cur Fs q w rfl hq hq2 hrow).mono ?_
  rintro e w' ⟨rfl, l', cur', hr', hl', hh, ht⟩
  refine ⟨rfl, l', ?_, hl', hh, ht⟩
  have := hr'.shut
  rw [hl'] at this
  exact this
set_option maxHeartbeats 1000000 in
theorem heldInodeS_any (a : Option Addr) (n cap : Nat) (l : List MInode) (q q' : Int) (w : World) (hx : l.length = n) (hr : LeafL 3 rInode w.heap.size w a cap l) (hh : hdS hdInode l q q') (hq : 0 ≤ q) (hq' : q' ≤ 70368744177664) :
  Calls Tryz.prog 47 #[.slice a n cap, .int .i64 q] w fun e w' => e = .returned (.int .i64 q') ∧ Below w.heap.size w w' := by
 have HX := Hid.mk hx
 clear hx
 have hcap : n ≤ 9223372036854775807 := by have h1 := hr.1; have h2 := hr.2.1; have h3 := HX.out; omega
 replace hr := hr.2.2
 have HH := Hid.mk hh
 clear hh
 go_enter Tryz.func47, Tryz.ntmps47
 go_wp2_with fail
 go_loopw [1, 5] (fun kv i wr => ∃ (k : Nat) (kk : Int), k ≤ n ∧ i = .int .i64 k ∧ kv = .int .i64 kk ∧ 0 ≤ kk ∧ hdS hdInode (l.drop k) kk q' ∧ Below w.heap.size w wr) (fun _ i _ => n - (intOf i).toNat)
 case atStart => exact ⟨0, q, Nat.zero_le _, rfl, rfl, hq, by simpa using HH.out, Below.refl _ _⟩
 case round =>
  obtain ⟨k, kk, hk, rfl, rfl, hk0, hh, hbk⟩ := hrel
  by_cases hlt : k < n
  ·have hkl : k < l.length := by rw [HX.out]; exact hlt
   rw [List.drop_eq_getElem_cons hkl] at hh
   obtain ⟨q1, hh1, hh2⟩ := hh
   have hqe := hdS_end hdInode_end hh2
   obtain ⟨b1, o1, rfl, hB, cs, hcl, hcell, hrT⟩ := (hr.below rInode_good hbk) k hkl
   have hrT := rInode_good.mono hrT hbk.size
   generalize l[k] = m at *
   obtain ⟨f0, f1, f2, hqf⟩ := hh1
   have hup : kk + 1 + (m.fData.length : Int) + 1 ≤ 70368744177664 := by omega
   have HR := Hid.mk hh2
   have HQ := Hid.mk hqf
   have hq10 : 0 ≤ q1 := by omega
   clear hh2 hqf hqe HH hr
   obtain ⟨a1, c1, rfl, h0, h1, h2, _⟩ := hrT
   have k0 := hcell 0 _ rfl
   rw [Nat.add_zero] at k0
   have k1 := hcell 1 _ rfl
   have k2 := hcell 2 _ rfl
   rw [f0] at k0
   rw [f2] at k2
   have HF1 := Hid.mk f1
   clear f1
   clear hcell hcl
   have hy0 : b1 < wr.heap.size := Nat.lt_of_lt_of_le hB hbk.size
   have hC := fun (W : World) (hb : Below wr.heap.size wr W) => heldByteS_o a1 _ c1 m.fData (kk + 1) W rfl (by omega) (by omega) (LeafB.mono (h1.below hb) hb.size) HF1.out
   go_wp2_with fail
   refine Calls.mono (hC _ ?_) ?_
   ·repeat (first | with_reducible exact Below.refl _ _ | with_reducible assumption | refine Below.drew ?_ | refine Below.alloc ?_ (by simp) _)
   clear hC
   rintro e w1 ⟨rfl, hw1⟩
   replace hw1 := hw1.symm
   subst hw1
   go_wp2_with fail
   go_roundw
   case rel => exact ⟨k + 1, q1, by omega, by go_num, by rw [HQ.out] <;> go_num, hq10, HR.out, (Below.trans hbk (Below.mono (show Below wr.heap.size wr _ from by repeat (first | with_reducible exact Below.refl _ _ | with_reducible assumption | refine Below.drew ?_ | refine Below.alloc ?_ (by simp) _)) hbk.size))⟩
   case measure => simp [intOf]; omega
  ·have hkn : k = n := by omega
   have HT2 : Hid (l.drop k = []) := List.drop_of_length_le (by rw [HX.out]; omega)
   rw [HT2.out] at hh
   have hqk : q' = kk := hh
   subst hqk
   go_wp2_with fail
   go_ret
   exact ⟨rfl, hbk⟩
def cntEntry (m : MEntry) : Nat := 1 + 1
def hdEntry (m : MEntry) (q q' : Int) : Prop := m.fName = mtext (q) ∧ m.fId = q + 1 ∧ q' = q + 1 + 1
theorem cntEntry_le (m : MEntry) : cntEntry m ≤ 32 * (1 + wEntry m) := by
 unfold cntEntry wEntry
 omega
theorem hdEntry_end (m : MEntry) (q q' : Int) (h : hdEntry m q q') : q' = q + cntEntry m := by
 obtain ⟨_, _, rfl⟩ := h
 unfold cntEntry
 omega
set_option maxHeartbeats 1000000 in
theorem markEntryS_row (g cap n : Nat) (l : List MEntry) (cur : Array Value) (Fs : List (List Nat)) (q : Int) (w : World) (hx : l.length = n) (hq : 0 ≤ q) (hq2 : q + sumW cntEntry l ≤ 70368744177664) (ho : OwnRow 2 106 oEntry w g cap l cur Fs) :
  Calls Tryz.prog 45 #[.slice (some ⟨g, 0, none⟩) n cap, .int .i64 q] w fun e w' => e = .returned (.int .i64 (q + sumW cntEntry l)) ∧ ∃ l' cur', OwnRow 2 106 oEntry w' g cap l' cur' Fs ∧ l'.length = n ∧ hdS hdEntry l' q (q + sumW cntEntry l) ∧ Turn (g :: Fs.flatten) w w' := by
 have HX := Hid.mk hx
 clear hx
 have hcap : n ≤ 9223372036854775807 := by have h1 := ho.le; have h2 := ho.max; have h3 := HX.out; unfold maxLen at h2; omega
 have HO := Hid.mk ho
 clear ho
 go_enter Tryz.func45, Tryz.ntmps45
 go_wp2_with fail
 go_loopw [1, 5] (fun kv i wr => ∃ (k : Nat) (kk : Int) (l' : List MEntry) (cur' : Array Value), k ≤ n ∧ i = .int .i64 k ∧ kv = .int .i64 kk ∧ kk = q + sumW cntEntry (l.take k) ∧ l'.length = k ∧ OwnRow 2 106 oEntry wr g cap (l' ++ l.drop k) cur' Fs ∧ hdS hdEntry l' q kk ∧ Turn (g :: Fs.flatten) w wr) (fun _ i _ => n - (intOf i).toNat)
 case atStart => exact ⟨0, q, [], cur, Nat.zero_le _, rfl, rfl, by simp [sumW], rfl, by simpa using HO.out, rfl, Turn.refl _ _⟩
 case round =>
  obtain ⟨k, kk, l', cur', hk, rfl, rfl, hkk, hl', hok, hh, htk⟩ := hrel
  by_cases hlt : k < n
  ·have hkl : k < l.length := by rw [HX.out]; exact hlt
   have hlen2 : k < (l' ++ l.drop k).length := by rw [List.length_append, hl', List.length_drop]; omega
   have hw1 := sumW_take_succ (f := cntEntry) hkl
   have hw2 := sumW_take_le cntEntry l (k + 1)
   have hel := hok.each k hlen2
   rw [get_mid hl' hkl hlen2] at hel
   obtain ⟨hgF, hFN⟩ := hok.part hlen2
   have hE0 := Edit.start hok k (Fs.getD k [])
   generalize hcs : seg 2 cur' k = cs at hel hE0
   clear hcs
   have HOE := Hid.mk (fun w' cs' m' he ho => OwnRow.edit (w' := w') (cs := cs') (m' := m') oEntry_good hok hlen2 he ho)
   have HS := Hid.mk (fun m' => set_mid hl' hkl m')
   have HH := Hid.mk (fun x q2 hx => hdS_snoc (x := x) (q2 := q2) hh hx)
   have HL' := Hid.mk hl'
   have HT := Hid.mk htk
   generalize hm0 : l[k] = m at *
   generalize Fs.getD k [] = Fk at *
   have HKK := Hid.mk hkk
   have HW1 := Hid.mk hw1
   have hlo : 0 ≤ kk := by omega
   have hup : kk + cntEntry m ≤ 70368744177664 := by omega
   have HUP : Hid (kk + (1 + 1 : Nat) ≤ 70368744177664) := hup
   have HU := HUP.out
   clear hm0 hok hh hl' htk hlen2 hkk hw1 hw2 hup
   obtain ⟨rfl, h0, h1, hFk⟩ := hel
   have q0 := hE0.cellAt (i := 0) (by omega) rfl
   have r0 := hE0.free (k * 2 + 0)
   rw [Nat.add_zero] at q0 r0
   have q1 := hE0.cellAt (i := 1) (by omega) rfl
   have r1 := hE0.free (k * 2 + 1)
   skip
   go_wp2_with fail
   refine (markText_any (kk) _ (by omega) (by omega)).mono ?_
   rintro e w1 ⟨rfl, hb1⟩
   have hE1 := hE0.keep (Turn.ofBelow hb1) hgF
   clear q0 r0
   clear q1 r1
   have q0 := hE1.cellAt (i := 0) (by omega) rfl
   have r0 := hE1.free (k * 2 + 0)
   rw [Nat.add_zero] at q0 r0
   have q1 := hE1.cellAt (i := 1) (by omega) rfl
   have r1 := hE1.free (k * 2 + 1)
   go_wp2_with fail
   go_roundw
   case rel =>
    have hed := HOE.out _ _ (⟨(mtext (kk)), (kk + 1)⟩) ((hE1.set (i := 0) (by omega) (.string (mtext (kk)))).set (i := 1) (by omega) (.int .i64 (kk + 1))) ?own
    case own => exact ⟨rfl, (show (mtext (kk)).size ≤ 9223372036854775807 from Nat.le_trans (mtext_size _) (by omega)), (show (Lit.int .i64 (kk + 1)).wf = true from WalkArith.wf_i64 (by omega)), hFk⟩
    obtain ⟨⟨cur2, hrow2⟩, ht2⟩ := hed
    rw [HS.out] at hrow2
    refine ⟨k + 1, _, l' ++ [⟨(mtext (kk)), (kk + 1)⟩], cur2, by omega, by go_num, by go_num, ?_, by simp [HL'.out], hrow2, HH.out _ _ ?_, HT.out.trans ht2⟩
    ·rw [HW1.out]; have h1 := HKK.out; have h2 : cntEntry m = 1 + 1 := rfl; omega
    ·exact ⟨(by first | rfl | simp [marks_length]), (by first | rfl | simp [marks_length]), (by first | rfl | simp [marks_length])⟩
   case measure => simp [intOf]; omega
  ·have hkn : k = n := by omega
   have HT1 : Hid (l.take k = l) := List.take_of_length_le (by rw [HX.out]; omega)
   have HT2 : Hid (l.drop k = []) := List.drop_of_length_le (by rw [HX.out]; omega)
   rw [HT1.out] at hkk
   rw [HT2.out, List.append_nil] at hok
   have hk2 : 0 ≤ kk := by omega
   subst hkk
   go_wp2_with fail
   go_ret
   exact ⟨rfl, l', cur', hok, by rw [hl', hkn], hh, htk⟩
set_option maxHeartbeats 400000 in
theorem markEntryS_nil (q : Int) (w : World) :
  Calls Tryz.prog 45 #[.slice none 0 0, .int .i64 q] w fun e w' => e = .returned (.int .i64 q) ∧ w' = w := by
 go_enter Tryz.func45, Tryz.ntmps45
 go_wp2
 refine wp_loop_rounds 1 ?_
 rw [rounds_succ]
 go_wp2
 go_ret
 exact ⟨rfl, rfl⟩
theorem markEntryS_any (v : Value) (l : List MEntry) (F : List Nat) (q : Int) (w : World) (hq : 0 ≤ q) (hq2 : q + sumW cntEntry l ≤ 70368744177664) (ho : ownS 2 106 oEntry w v l F) (hN : F.Nodup) :
  Calls Tryz.prog 45 #[v, .int .i64 q] w fun e w' => e = .returned (.int .i64 (q + sumW cntEntry l)) ∧ ∃ l', ownS 2 106 oEntry w' v l' F ∧ l'.length = l.length ∧ hdS hdEntry l' q (q + sumW cntEntry l) ∧ Turn F w w' := by
 rcases ho.open hN with ⟨rfl, rfl, rfl⟩ | ⟨g, cap, cur, Fs, rfl, hrow, rfl⟩
 ·refine (markEntryS_nil q w).mono ?_
  rintro e w' ⟨rfl, rfl⟩
  exact ⟨by simp [sumW], [], ho, rfl, by simp [hdS, sumW], Turn.refl _ _⟩
 ·refine (markEntryS_row g cap _ l cur Fs q w rfl hq hq2 hrow).mono ?_
  rintro e w' ⟨rfl, l', cur', hr', hl', hh, ht⟩
  refine ⟨rfl, l', ?_, hl', hh, ht⟩
  have := hr'.shut
  rw [hl'] at this
  exact this
set_option maxHeartbeats 1000000 in
theorem heldEntryS_any (a : Option Addr) (n cap : Nat) (l : List MEntry) (q q' : Int) (w : World) (hx : l.length = n) (hr : LeafL 2 rEntry w.heap.size w a cap l) (hh : hdS hdEntry l q q') (hq : 0 ≤ q) (hq' : q' ≤ 70368744177664) :
  Calls Tryz.prog 48 #[.slice a n cap, .int .i64 q] w fun e w' => e = .returned (.int .i64 q') ∧ Below w.heap.size w w' := by
 have HX := Hid.mk hx
 clear hx
 have hcap : n ≤ 9223372036854775807 := by have h1 := hr.1; have h2 := hr.2.1; have h3 := HX.out; omega
 replace hr := hr.2.2
 have HH := Hid.mk hh
 clear hh
 go_enter Tryz.func48, Tryz.ntmps48
 go_wp2_with fail
 go_loopw [1, 5] (fun kv i wr => ∃ (k : Nat) (kk : Int), k ≤ n ∧ i = .int .i64 k ∧ kv = .int .i64 kk ∧ 0 ≤ kk ∧ hdS hdEntry (l.drop k) kk q' ∧ Below w.heap.size w wr) (fun _ i _ => n - (intOf i).toNat)
 case atStart => exact ⟨0, q, Nat.zero_le _, rfl, rfl, hq, by simpa using HH.out, Below.refl _ _⟩
 case round =>
  obtain ⟨k, kk, hk, rfl, rfl, hk0, hh, hbk⟩ := hrel
  by_cases hlt : k < n
  ·have hkl : k < l.length := by rw [HX.out]; exact hlt
   rw [List.drop_eq_getElem_cons hkl] at hh
   obtain ⟨q1, hh1, hh2⟩ := hh
   have hqe := hdS_end hdEntry_end hh2
   obtain ⟨b1, o1, rfl, hB, cs, hcl, hcell, hrT⟩ := (hr.below rEntry_good hbk) k hkl
   have hrT := rEntry_good.mono hrT hbk.size
   generalize l[k] = m at *
   obtain ⟨f0, f1, hqf⟩ := hh1
   have hup : kk + 1 + 1 ≤ 70368744177664 := by omega
   have HR := Hid.mk hh2
   have HQ := Hid.mk hqf
   have hq10 : 0 ≤ q1 := by omega
   clear hh2 hqf hqe HH hr
   obtain ⟨rfl, h0, h1, _⟩ := hrT
   have k0 := hcell 0 _ rfl
   rw [Nat.add_zero] at k0
   have k1 := hcell 1 _ rfl
   rw [f0] at k0
   rw [f1] at k1
   clear hcell hcl
   have hy0 : b1 < wr.heap.size := Nat.lt_of_lt_of_le hB hbk.size
   go_wp2_with fail
   go_region_with (go_at_call 98; refine (markText_any (kk) _ (by omega) (by omega)).mono ?_; rintro e w1 ⟨rfl, hb1⟩; have x0 : w1.cell? ⟨b1, o1 + k * 2, none⟩ = _ := (hb1.cell (p := ⟨b1, o1 + k * 2, none⟩) (by first | exact hy0 | simpa using hy0)).trans k0)
   all_goals
    have hB1 : Below wr.heap.size wr w1 := Below.trans (by repeat (first | with_reducible exact Below.refl _ _ | with_reducible assumption | refine Below.drew ?_ | refine Below.alloc ?_ (by simp) _)) (hb1.mono (by simp))
    have hy1 : b1 < w1.heap.size := Nat.lt_of_lt_of_le hy0 hB1.size
    replace k0 : w1.cell? ⟨b1, o1 + k * 2, none⟩ = _ := (hb1.cell (p := ⟨b1, o1 + k * 2, none⟩) (by first | exact hy0 | simpa using hy0)).trans k0
    replace k1 : w1.cell? ⟨b1, o1 + k * 2 + 1, none⟩ = _ := (hb1.cell (p := ⟨b1, o1 + k * 2 + 1, none⟩) (by first | exact hy0 | simpa using hy0)).trans k1
    go_wp2_with fail
    go_roundw
    case rel => exact ⟨k + 1, q1, by omega, by go_num, by rw [HQ.out] <;> go_num, hq10, HR.out, (Below.trans hbk (Below.mono (show Below wr.heap.size wr _ from by repeat (first | with_reducible exact Below.refl _ _ | with_reducible assumption | refine Below.drew ?_ | refine Below.alloc ?_ (by simp) _)) hbk.size))⟩
    case measure => simp [intOf]; omega
  ·have hkn : k = n := by omega
   have HT2 : Hid (l.drop k = []) := List.drop_of_length_le (by rw [HX.out]; omega)
   rw [HT2.out] at hh
   have hqk : q' = kk := hh
   subst hqk
   go_wp2_with fail
   go_ret
   exact ⟨rfl, hbk⟩
def tcntDisk (m : MDisk) : Nat := sumW cntInode m.fInodes + sumW cntEntry m.fNames + sumW cntEntry m.fSafe
def htDisk (m : MDisk) (q q' : Int) : Prop := ∃ q1 q2 : Int, hdS hdInode m.fInodes q q1 ∧ hdS hdEntry m.fNames q1 q2 ∧ hdS hdEntry m.fSafe q2 q'
theorem tcntDisk_le (m : MDisk) : tcntDisk m ≤ 32 * wDisk m := by
 unfold tcntDisk wDisk
 have e0 := sumW_cnt_le cntInode_le m.fInodes
 have e1 := sumW_cnt_le cntEntry_le m.fNames
 have e2 := sumW_cnt_le cntEntry_le m.fSafe
 omega
set_option maxHeartbeats 1000000 in
theorem markDisk_b (cs : List Value) (m : MDisk) (F : List Nat) (q : Int) (w : World) (hq : 0 ≤ q) (hq2 : q + tcntDisk m ≤ 70368744177664) (ho : oDisk w cs m F) (hN : F.Nodup) :
  Calls Tryz.prog 13 #[.agg cs.toArray, .int .i64 q] w fun e w' => ∃ (m' : MDisk) (q' : Int), e = .returned (.int .i64 q') ∧ q ≤ q' ∧ q' ≤ q + tcntDisk m ∧ oDisk w' cs m' F ∧ htDisk m' q q' ∧ Turn F w w' := by
 have HLT : Hid (∀ b, b ∈ F → b < w.heap.size) := oDisk_good.lt ho
 obtain ⟨v0, F0, v1, F1, v2, F2, rfl, h0, h1, h2, h3, hFF⟩ := ho
 have HU : Hid (q + ((sumW cntInode m.fInodes + sumW cntEntry m.fNames + sumW cntEntry m.fSafe : Nat) : Int) ≤ 70368744177664) := hq2
 have hu := HU.out
 clear hq2
 obtain ⟨a0, c0, rfl, _⟩ := ownS.read oInode_good h0
 obtain ⟨a1, c1, rfl, _⟩ := ownS.read oEntry_good h1
 obtain ⟨a2, c2, rfl, _⟩ := ownS.read oEntry_good h2
 have hN0 := hN
 rw [hFF, List.append_nil] at hN0
 have hM0 : ∀ b, b ∈ F0 → b ∈ F := fun b hb => by rw [hFF]; simp [hb]
 have hM1 : ∀ b, b ∈ F1 → b ∈ F := fun b hb => by rw [hFF]; simp [hb]
 have hM2 : ∀ b, b ∈ F2 → b ∈ F := fun b hb => by rw [hFF]; simp [hb]
 obtain ⟨hP1, hNd2, hX2⟩ := List.nodup_append.1 hN0
 have hD0_2 : ∀ b, b ∈ F0 → b ∉ F2 := fun b h1 h2 => hX2 b (by simp [h1]) b h2 rfl
 have hD2_0 : ∀ b, b ∈ F2 → b ∉ F0 := fun b h1 h2 => hX2 b (by simp [h2]) b h1 rfl
 have hD1_2 : ∀ b, b ∈ F1 → b ∉ F2 := fun b h1 h2 => hX2 b (by simp [h1]) b h2 rfl
 have hD2_1 : ∀ b, b ∈ F2 → b ∉ F1 := fun b h1 h2 => hX2 b (by simp [h2]) b h1 rfl
 obtain ⟨hP0, hNd1, hX1⟩ := List.nodup_append.1 hP1
 have hD0_1 : ∀ b, b ∈ F0 → b ∉ F1 := fun b h1 h2 => hX1 b (by simp [h1]) b h2 rfl
 have hD1_0 : ∀ b, b ∈ F1 → b ∉ F0 := fun b h1 h2 => hX1 b (by simp [h2]) b h1 rfl
 have hNd0 := hP0
 clear hN0 hP0 hX1 hP1 hX2
 go_enter Tryz.func13, Tryz.ntmps13
 have hC := fun (W : World) (ht : Turn ([]) w W) => markInodeS_any _ m.fInodes F0 (q) W (by omega) (by omega) (ownS.frame oInode_good h0 (fun b hb => ht.block b (ownS.lt oInode_good h0 b hb) (by simp))) hNd0
 go_wp2_with fail
 refine Calls.mono (hC _ ?_) ?_
 ·exact Turn.ofBelow ((Below.refl _ _).alloc (Nat.le_refl _) _)
 clear hC
 rintro e w1 ⟨rfl, l0, o0, ll0, hh0, t1⟩
 have hT1 : Turn (F0 ++ []) w w1 := Turn.trans (Turn.ofBelow ((Below.refl _ _).alloc (Nat.le_refl _) _)) (t1.mono (fun b hb => by simp [hb]))
 have e0 : w1.cell? ⟨w.heap.size, 0, none⟩ = some (.slice a0 m.fInodes.length c0) := (t1.cell (p := ⟨w.heap.size, 0, none⟩) (by simp) (fun hb => by have := HLT.out _ (hM0 _ hb); simp at this)).trans (by simp)
 have e1 : w1.cell? ⟨w.heap.size, 1, none⟩ = some (.slice a1 m.fNames.length c1) := (t1.cell (p := ⟨w.heap.size, 1, none⟩) (by simp) (fun hb => by have := HLT.out _ (hM0 _ hb); simp at this)).trans (by simp)
 have e2 : w1.cell? ⟨w.heap.size, 2, none⟩ = some (.slice a2 m.fSafe.length c2) := (t1.cell (p := ⟨w.heap.size, 2, none⟩) (by simp) (fun hb => by have := HLT.out _ (hM0 _ hb); simp at this)).trans (by simp)
 have hs1 : w.heap.size < w1.heap.size := by have h := t1.size; simp at h; omega
 have hC := fun (W : World) (ht : Turn (F0 ++ []) w W) => markEntryS_any _ m.fNames F1 (q + (sumW cntInode m.fInodes : Int)) W (by omega) (by omega) (ownS.frame oEntry_good h1 (fun b hb => ht.block b (ownS.lt oEntry_good h1 b hb) (fun hm => hD1_0 b hb (by simpa using hm)))) hNd1
 go_wp2_with fail
 refine Calls.mono (hC _ ?_) ?_
 ·exact hT1
 clear hC
 rintro e w2 ⟨rfl, l1, o1, ll1, hh1, t2⟩
 have hT2 : Turn (F0 ++ F1 ++ []) w w2 := Turn.trans (hT1.mono (fun b hb => by simp only [List.append_nil, List.mem_append] at hb ⊢; simp [hb])) (t2.mono (fun b hb => by simp [hb]))
 replace e0 : w2.cell? ⟨w.heap.size, 0, none⟩ = some (.slice a0 m.fInodes.length c0) := (t2.cell (p := ⟨w.heap.size, 0, none⟩) hs1 (fun hb => by have := HLT.out _ (hM1 _ hb); simp at this)).trans e0
 replace e1 : w2.cell? ⟨w.heap.size, 1, none⟩ = some (.slice a1 m.fNames.length c1) := (t2.cell (p := ⟨w.heap.size, 1, none⟩) hs1 (fun hb => by have := HLT.out _ (hM1 _ hb); simp at this)).trans e1
 replace e2 : w2.cell? ⟨w.heap.size, 2, none⟩ = some (.slice a2 m.fSafe.length c2) := (t2.cell (p := ⟨w.heap.size, 2, none⟩) hs1 (fun hb => by have := HLT.out _ (hM1 _ hb); simp at this)).trans e2
 have hs2 : w.heap.size < w2.heap.size := Nat.lt_of_lt_of_le hs1 t2.size
 have hC := fun (W : World) (ht : Turn (F0 ++ F1 ++ []) w W) => markEntryS_any _ m.fSafe F2 (q + (sumW cntInode m.fInodes : Int) + (sumW cntEntry m.fNames : Int)) W (by omega) (by omega) (ownS.frame oEntry_good h2 (fun b hb => ht.block b (ownS.lt oEntry_good h2 b hb) (fun hm => by simp only [List.append_nil, List.mem_append] at hm; rcases hm with hm | hm <;> first | exact hD2_0 b hb hm | exact hD2_1 b hb hm))) hNd2
 go_wp2_with fail
 refine Calls.mono (hC _ ?_) ?_
 ·exact hT2
 clear hC
 rintro e w3 ⟨rfl, l2, o2, ll2, hh2, t3⟩
 have hT3 : Turn (F0 ++ F1 ++ F2 ++ []) w w3 := Turn.trans (hT2.mono (fun b hb => by simp only [List.append_nil, List.mem_append] at hb ⊢; simp [hb])) (t3.mono (fun b hb => by simp [hb]))
 replace e0 : w3.cell? ⟨w.heap.size, 0, none⟩ = some (.slice a0 m.fInodes.length c0) := (t3.cell (p := ⟨w.heap.size, 0, none⟩) hs2 (fun hb => by have := HLT.out _ (hM2 _ hb); simp at this)).trans e0
 replace e1 : w3.cell? ⟨w.heap.size, 1, none⟩ = some (.slice a1 m.fNames.length c1) := (t3.cell (p := ⟨w.heap.size, 1, none⟩) hs2 (fun hb => by have := HLT.out _ (hM2 _ hb); simp at this)).trans e1
 replace e2 : w3.cell? ⟨w.heap.size, 2, none⟩ = some (.slice a2 m.fSafe.length c2) := (t3.cell (p := ⟨w.heap.size, 2, none⟩) hs2 (fun hb => by have := HLT.out _ (hM2 _ hb); simp at this)).trans e2
 have hs3 : w.heap.size < w3.heap.size := Nat.lt_of_lt_of_le hs2 t3.size
 have z0 := ownS.frame oInode_good o0 (fun b hb => ((t2.mono (G := F1 ++ F2 ++ []) (fun b hb => by simp [hb])).trans (t3.mono (fun b hb => by simp [hb]))).block b (ownS.lt oInode_good o0 b hb) (fun hm => by simp only [List.append_nil, List.mem_append] at hm; rcases hm with hm | hm <;> first | exact hD0_1 b hb hm | exact hD0_2 b hb hm))
 have z1 := ownS.frame oEntry_good o1 (fun b hb => (t3.mono (G := F2 ++ []) (fun b hb => by simp [hb])).block b (ownS.lt oEntry_good o1 b hb) (fun hm => hD1_2 b hb (by simpa using hm)))
 have z2 := o2
 clear t1 t2 t3
 go_wp2_with fail
 go_ret
 exact ⟨⟨(l0), (l1), (l2), (m.fNext)⟩, _, rfl, by omega, by unfold tcntDisk; omega, ⟨_, F0, _, F1, _, F2, rfl, z0, z1, z2, h3, hFF⟩, ⟨_, _, hh0, hh1, hh2⟩, hT3.mono (fun b hb => by rw [hFF]; simpa using hb)⟩
theorem markDisk_any (cs : List Value) (m : MDisk) (F : List Nat) (q : Int) (w : World) (hq : 0 ≤ q) (hq2 : q + tcntDisk m ≤ 70368744177664) (ho : oDisk w cs m F) (hN : F.Nodup) :
  Calls Tryz.prog 13 #[.agg cs.toArray, .int .i64 q] w fun e w' => ∃ (m' : MDisk) (q' : Int), e = .returned (.int .i64 q') ∧ q ≤ q' ∧ q' ≤ 70368744177664 ∧ oDisk w' cs m' F ∧ htDisk m' q q' ∧ Turn F w w' :=
 (markDisk_b cs m F q w hq hq2 ho hN).mono fun e w' ⟨m', q', h1, h2, h3, h4⟩ => ⟨m', q', h1, h2, by omega, h4⟩
set_option maxHeartbeats 1000000 in
theorem heldDisk_any (cs : List Value) (m : MDisk) (q q' : Int) (w : World) (hr : rDisk w.heap.size w cs m) (hh : htDisk m q q') (hq : 0 ≤ q) (hq' : q' ≤ 70368744177664) :
  Calls Tryz.prog 15 #[.agg cs.toArray, .int .i64 q] w fun e w' => e = .returned (.int .i64 q') ∧ Below w.heap.size w w' := by
 obtain ⟨a0, c0, a1, c1, a2, c2, rfl, h0, h1, h2, h3, _⟩ := hr
 obtain ⟨q1, q2, f0, f1, f2⟩ := hh
 have hz0 := hdS_end hdInode_end f0
 have HF0 := Hid.mk f0
 have hz1 := hdS_end hdEntry_end f1
 have HF1 := Hid.mk f1
 have hz2 := hdS_end hdEntry_end f2
 have HF2 := Hid.mk f2
 clear f0 f1 f2
 have hb1 : 0 ≤ q1 ∧ q1 ≤ 70368744177664 := by omega
 have hb2 : 0 ≤ q2 ∧ q2 ≤ 70368744177664 := by omega
 have hbe : 0 ≤ q' := by omega
 clear hz0 hz1 hz2
 go_enter Tryz.func15, Tryz.ntmps15
 have hC := fun (W : World) (hb : Below w.heap.size w W) => (heldInodeS_any a0 _ c0 m.fInodes q q1 W rfl (LeafL.mono rInode_good (h0.below rInode_good hb) hb.size) HF0.out (by omega) (by omega))
 go_wp2_with fail
 refine Calls.mono (hC _ ?_) ?_
 ·exact (Below.refl _ _).alloc (Nat.le_refl _) _
 clear hC
 rintro e w1 ⟨rfl, hx1⟩
 have hB1 : Below w.heap.size w w1 := Below.trans ((Below.refl _ _).alloc (Nat.le_refl _) _) (hx1.mono (by simp))
 have hs1 : w.heap.size < w1.heap.size := by have h := hx1.size; simp at h; omega
 have e0 : w1.cell? ⟨w.heap.size, 0, none⟩ = some (.slice a0 m.fInodes.length c0) := (hx1.cell (p := ⟨w.heap.size, 0, none⟩) (by simp)).trans (by simp)
 have e1 : w1.cell? ⟨w.heap.size, 1, none⟩ = some (.slice a1 m.fNames.length c1) := (hx1.cell (p := ⟨w.heap.size, 1, none⟩) (by simp)).trans (by simp)
 have e2 : w1.cell? ⟨w.heap.size, 2, none⟩ = some (.slice a2 m.fSafe.length c2) := (hx1.cell (p := ⟨w.heap.size, 2, none⟩) (by simp)).trans (by simp)
 have hC := fun (W : World) (hb : Below w.heap.size w W) => (heldEntryS_any a1 _ c1 m.fNames q1 q2 W rfl (LeafL.mono rEntry_good (h1.below rEntry_good hb) hb.size) HF1.out (by omega) (by omega))
 go_wp2_with fail
 refine Calls.mono (hC _ ?_) ?_
 ·exact hB1
 clear hC
 rintro e w2 ⟨rfl, hx2⟩
 have hB2 : Below w.heap.size w w2 := Below.trans hB1 (hx2.mono hB1.size)
 have hs2 : w.heap.size < w2.heap.size := Nat.lt_of_lt_of_le hs1 hx2.size
 replace e0 : w2.cell? ⟨w.heap.size, 0, none⟩ = some (.slice a0 m.fInodes.length c0) := (hx2.cell (p := ⟨w.heap.size, 0, none⟩) hs1).trans e0
 replace e1 : w2.cell? ⟨w.heap.size, 1, none⟩ = some (.slice a1 m.fNames.length c1) := (hx2.cell (p := ⟨w.heap.size, 1, none⟩) hs1).trans e1
 replace e2 : w2.cell? ⟨w.heap.size, 2, none⟩ = some (.slice a2 m.fSafe.length c2) := (hx2.cell (p := ⟨w.heap.size, 2, none⟩) hs1).trans e2
 have hC := fun (W : World) (hb : Below w.heap.size w W) => (heldEntryS_any a2 _ c2 m.fSafe q2 q' W rfl (LeafL.mono rEntry_good (h2.below rEntry_good hb) hb.size) HF2.out (by omega) (by omega))
 go_wp2_with fail
 refine Calls.mono (hC _ ?_) ?_
 ·exact hB2
 clear hC
 rintro e w3 ⟨rfl, hx3⟩
 have hB3 : Below w.heap.size w w3 := Below.trans hB2 (hx3.mono hB2.size)
 have hs3 : w.heap.size < w3.heap.size := Nat.lt_of_lt_of_le hs2 hx3.size
 replace e0 : w3.cell? ⟨w.heap.size, 0, none⟩ = some (.slice a0 m.fInodes.length c0) := (hx3.cell (p := ⟨w.heap.size, 0, none⟩) hs2).trans e0
 replace e1 : w3.cell? ⟨w.heap.size, 1, none⟩ = some (.slice a1 m.fNames.length c1) := (hx3.cell (p := ⟨w.heap.size, 1, none⟩) hs2).trans e1
 replace e2 : w3.cell? ⟨w.heap.size, 2, none⟩ = some (.slice a2 m.fSafe.length c2) := (hx3.cell (p := ⟨w.heap.size, 2, none⟩) hs2).trans e2
 go_wp2_with fail
 go_ret
 exact ⟨rfl, hB3⟩
end Go.Proofs.YtolciaheoanlbaaGreatDoor

/-
  The moves of a walk through a region in open order, in few words; no program is named here.
-/
namespace Go.Proofs.YtolciaheoanlbaaGreatDoor
open Go
set_option linter.unusedVariables false
section
variable {P : Program} {md : Region.Mode} {ops : Array Oper} {Q : Exit → Act → World → Prop} {S : World → Prop}
theorem tk (i : Nat) (oi : Oper) (d : Option Tmp) {v : Value} {fuel : Nat} {listed : Array Bool} {a : Act} {w : World} (hi : ops[i]? = some oi) (hd : oi.dst = d)
  (hc : (Region.noSelect ops && (Region.free md ops listed i && (Region.ready md ops listed).contains i)) = true) (hS : S w) (hw : Region.wanted oi (yielded ops a.tmps) = true)
  (hQ : ∀ c a w, Q (.panic c) (a.put d v) w → Q (.panic c) a w) (hy : ∀ w, S w → (execOp a.eval oi).run P w = .ok (.value v) w)
  (h : wpAnyH P md ops Q S fuel (listed.setIfInBounds i true) (a.put d v) w) : wpAnyH P md ops Q S (fuel + 1) listed a w := by
 subst hd
 simp only [Bool.and_eq_true] at hc
 exact wpAnyH_take hi hc.1 hc.2.1 hc.2.2 hQ (.inl ⟨hw, hy⟩) hS h
theorem tn (i : Nat) (oi : Oper) (d : Option Tmp) {fuel : Nat} {listed : Array Bool} {a : Act} {w : World} (hi : ops[i]? = some oi) (hd : oi.dst = d)
  (hc : (Region.noSelect ops && (Region.free md ops listed i && (Region.ready md ops listed).contains i)) = true) (hS : S w) (hw : Region.wanted oi (yielded ops a.tmps) = false)
  (hQ : ∀ c a w, Q (.panic c) (a.put d undef) w → Q (.panic c) a w)
  (h : wpAnyH P md ops Q S fuel (listed.setIfInBounds i true) (a.put d undef) w) : wpAnyH P md ops Q S (fuel + 1) listed a w := by
 subst hd
 simp only [Bool.and_eq_true] at hc
 exact wpAnyH_take hi hc.1 hc.2.1 hc.2.2 hQ (.inr ⟨hw, rfl⟩) hS h
theorem tq (i : Nat) (oi : Oper) (t : Tmp) {v : Value} {fuel : Nat} {listed : Array Bool} {a : Act} {w : World} (hS : S w)
 (h : wpAnyH P md ops Q S fuel (listed.setIfInBounds i true) (a.put (some t) v) w) (hi : ops[i]? = some oi := by rfl) (hd : oi.dst = some t := by rfl)
 (hc : (Region.noSelect ops && (Region.free md ops listed i && (Region.ready md ops listed).contains i)) = true := by kernel_rfl) (hw : Region.wanted oi (yielded ops a.tmps) = true := by rfl)
 (hy : ∀ w, S w → (execOp a.eval oi).run P w = .ok (.value v) w := by intro w h; (try dsimp only at h); go_simp; try (with_reducible rfl))
 (hQ : ∀ c a w, Q (.panic c) (a.put (some t) v) w → Q (.panic c) a w := by first | exact fun _ _ _ x => x | exact fun _ _ _ h => by cases h.1) : wpAnyH P md ops Q S (fuel + 1) listed a w :=
 tk i oi (some t) hi hd hc hS hw hQ hy h
theorem tm (i : Nat) (oi : Oper) (t : Tmp) {fuel : Nat} {listed : Array Bool} {a : Act} {w : World} (hS : S w)
 (h : wpAnyH P md ops Q S fuel (listed.setIfInBounds i true) (a.put (some t) undef) w) (hi : ops[i]? = some oi := by rfl) (hd : oi.dst = some t := by rfl)
 (hc : (Region.noSelect ops && (Region.free md ops listed i && (Region.ready md ops listed).contains i)) = true := by kernel_rfl) (hw : Region.wanted oi (yielded ops a.tmps) = false := by rfl)
 (hQ : ∀ c a w, Q (.panic c) (a.put (some t) undef) w → Q (.panic c) a w := by first | exact fun _ _ _ x => x | exact fun _ _ _ h => by cases h.1) : wpAnyH P md ops Q S (fuel + 1) listed a w :=
 tn i oi (some t) hi hd hc hS hw hQ h
theorem arR (rs : List Nat) {fuel : Nat} {listed : Array Bool} {a : Act} {w : World} (h : AllReadyH P md ops Q S fuel listed a w rs) (hr : Region.ready md ops listed = rs := by kernel_rfl) (hne : rs ≠ [] := by simp) : wpAnyH P md ops Q S (fuel + 1) listed a w := wpAnyH_ready hr hne h
end
theorem sa {α : Type} (l : List α) (i : Nat) (a : α) : l.toArray.setIfInBounds i a = (l.set i a).toArray := List.setIfInBounds_toArray ..
theorem s0 {α : Type} (a b : α) (l : List α) : (a :: l).set 0 b = b :: l := rfl
theorem s1 {α : Type} (a b : α) (l : List α) (i : Nat) : (a :: l).set (i + 1) b = a :: l.set i b := rfl
end Go.Proofs.YtolciaheoanlbaaGreatDoor

/-
  Rows of structs that a call lays by appends: what they read as; no program is named here.
-/
namespace Go.Proofs.YtolciaheoanlbaaGreatDoor
open Go.RowKit
set_option linter.unusedVariables false
set_option linter.unusedSimpArgs false
theorem flatten_at {size : Nat} : ∀ {css : List (List Value)}, (∀ c, c ∈ css → c.length = size) → ∀ {j i : Nat}, i < size → css.flatten[j * size + i]? = (css[j]?).bind (fun c => c[i]?)
 | [], _, j, i, _ => by simp
 | c :: r, h, 0, i, hi => by
  have hc := h c (by simp)
  simp only [List.flatten_cons, Nat.zero_mul, Nat.zero_add, List.getElem?_cons_zero, Option.bind_some]
  rw [List.getElem?_append_left (by omega)]
 | c :: r, h, j + 1, i, hi => by
  have hc := h c (by simp)
  have ih := flatten_at (css := r) (fun x hx => h x (by simp [hx])) (j := j) hi
  simp only [List.flatten_cons, List.getElem?_cons_succ]
  rw [List.getElem?_append_right (by rw [Nat.succ_mul]; omega), ← ih]
  congr 1
  rw [Nat.succ_mul]
  omega
def RowR {α : Type} (size : Nat) (e : TypeId) (R : Rep α) (B : Nat) (w : World) (base : Nat) (v : Value) (l : List α) : Prop :=
 ∃ css : List (List Value), css.length = l.length ∧ (∀ c, c ∈ css → c.length = size) ∧ (∀ j, (h : j < l.length) → (h2 : j < css.length) → R B w css[j] l[j]) ∧ w.ownsRow base e size v l.length css.flatten
theorem RowR.start {α : Type} {size : Nat} {e : TypeId} {R : Rep α} {B : Nat} {w : World} {base : Nat} : RowR size e R B w base (.slice none 0 0) [] :=
 ⟨[], rfl, (fun _ h => by cases h), (fun _ h => by simp at h), by simp, .inl ⟨rfl, rfl⟩⟩
theorem RowR.leaf {α : Type} {size : Nat} {e : TypeId} {R : Rep α} (hR : R.Good) {B : Nat} {w : World} {base : Nat} {v : Value} {l : List α} (h : RowR size e R B w base v l) (hB : B ≤ w.heap.size) :
  ∃ a c, v = .slice a l.length c ∧ LeafL size R w.heap.size w a c l := by
 obtain ⟨css, h1, h2, h3, h4⟩ := h
 rcases h4.2 with ⟨rfl, h0⟩ | ⟨g, cap, cur, rfl, hb, hg, hnc, hm, hs, ht⟩
 ·have : l = [] := List.eq_nil_of_length_eq_zero h0
  subst this
  exact ⟨none, 0, rfl, by simp, by omega, fun j hj => by simp at hj⟩
 ·refine ⟨_, cap, rfl, hnc, by simpa [maxLen] using hm, fun j hj => ?_⟩
  have hj2 : j < css.length := by omega
  refine ⟨g, 0, rfl, (Array.getElem?_eq_some_iff.1 hg).1, css[j], h2 _ (List.getElem_mem hj2), fun i u hu => ?_, hR.mono (h3 j hj hj2) hB⟩
  have hi : i < size := by
   have := (List.getElem?_eq_some_iff.1 hu).1
   rw [h2 _ (List.getElem_mem hj2)] at this
   exact this
  have hf := flatten_at h2 (j := j) hi
  rw [List.getElem?_eq_getElem hj2, Option.bind_some, hu, ← ht, List.getElem?_take] at hf
  split at hf
  ·rw [Nat.zero_add, cell_of_row w g _ cur e (0, 0) hg]
   simpa using hf
  ·cases hf
theorem RowR.push {α : Type} {size : Nat} {e : TypeId} {R : Rep α} (hR : R.Good) {B : Nat} {w w' : World} {base : Nat} {v' : Value} {l : List α} {m : α} {cs : List Value} {css : List (List Value)}
  (h1 : css.length = l.length) (h2 : ∀ c, c ∈ css → c.length = size) (h3 : ∀ j, (h : j < l.length) → (h2 : j < css.length) → R B w css[j] l[j]) (hb : Below B w w') (hc : cs.length = size) (hr : R B w' cs m)
  (ho : w'.ownsRow base e size v' (l.length + 1) (css.flatten ++ cs)) : RowR size e R B w' base v' (l ++ [m]) := by
 refine ⟨css ++ [cs], by simp [h1], ?_, ?_, by simpa using ho⟩
 ·intro c hcm
  rcases List.mem_append.1 hcm with h | h
  ·exact h2 c h
  ·simp at h; subst h; exact hc
 ·intro j hj hj2
  by_cases hjl : j < l.length
  ·rw [List.getElem_append_left (by omega), List.getElem_append_left hjl]
   exact hR.below (h3 j hjl (by omega)) hb
  ·have hje : j = l.length := by simp at hj; omega
   subst hje
   rw [List.getElem_append_right (by omega), List.getElem_append_right (Nat.le_refl _)]
   simp [h1, hr]
theorem bx_news {w : World} {b : Nat} {vs : List Value} (h : Bx w b vs) : ∀ j u, vs[j]? = some u → w.cell? ((⟨b, 0, none⟩ : Addr).add j) = some u := by
 intro j u hu
 have h2 := h.2 j u hu
 have e : ((⟨b, 0, none⟩ : Addr).add j) = ⟨b, j, none⟩ := by
  unfold Addr.add
  split
  ·next h0 => subst h0; rfl
  ·simp
 rw [e]
 exact h2
theorem RowR.lt {α : Type} {size : Nat} {e : TypeId} {R : Rep α} {B : Nat} {w : World} {base : Nat} {v : Value} {l : List α} (h : RowR size e R B w base v l) : ∀ k, v.ownBlock = some k → base ≤ k ∧ k < w.heap.size := by
 obtain ⟨css, h1, h2, h3, h4⟩ := h
 exact fun k hk => h4.lt k hk
theorem RowR.base {α : Type} {size : Nat} {e : TypeId} {R : Rep α} {B : Nat} {w : World} {base base' : Nat} {v : Value} {l : List α} (h : RowR size e R B w base v l) (hb : base' ≤ base) : RowR size e R B w base' v l := by
 obtain ⟨css, h1, h2, h3, h4⟩ := h
 exact ⟨css, h1, h2, h3, own_base h4 hb⟩
theorem RowR.keep {α : Type} {size : Nat} {e : TypeId} {R : Rep α} (hR : R.Good) {B : Nat} {w w' : World} {base : Nat} {v : Value} {l : List α} (h : RowR size e R B w base v l) (hb : Below w.heap.size w w') (hB : B ≤ w.heap.size) : RowR size e R B w' base v l := by
 obtain ⟨css, h1, h2, h3, h4⟩ := h
 exact ⟨css, h1, h2, fun j hj hj2 => hR.below (h3 j hj hj2) (hb.mono hB), own_below h4 hb⟩
end Go.Proofs.YtolciaheoanlbaaGreatDoor

/-
  A list of structs of one's own of which one cell is written, or that is made longer; no program is named here.
-/
namespace Go.Proofs.YtolciaheoanlbaaGreatDoor
open Go.RowKit
set_option linter.unusedVariables false
set_option linter.unusedSimpArgs false
theorem flatten_nodup_iff : ∀ {Fs : List (List Nat)}, Fs.flatten.Nodup ↔ (∀ F, F ∈ Fs → F.Nodup) ∧ Fs.Pairwise (fun F G => ∀ x, x ∈ F → x ∉ G)
 | [] => by simp
 | F :: r => by
  rw [List.flatten_cons, List.nodup_append, flatten_nodup_iff, List.pairwise_cons]
  constructor
  ·rintro ⟨h1, ⟨h2, h3⟩, h4⟩
   refine ⟨?_, fun G hG x hx hxG => h4 x hx x (List.mem_flatten.2 ⟨G, hG, hxG⟩) rfl, h3⟩
   intro G hG
   rcases List.mem_cons.1 hG with rfl | hG
   ·exact h1
   ·exact h2 G hG
  ·rintro ⟨h1, h2, h3⟩
   refine ⟨h1 F (by simp), ⟨fun G hG => h1 G (by simp [hG]), h3⟩, ?_⟩
   intro x hx y hy hxy
   subst hxy
   obtain ⟨G, hG, hxG⟩ := List.mem_flatten.1 hy
   exact h2 G hG x hx hxG
theorem set_nodup {Fs : List (List Nat)} {k : Nat} {G Fn : List Nat} (hk : k < Fs.length) (h : Fs.flatten.Nodup) (hG : G.Nodup) (hsub : ∀ b, b ∈ G → b ∈ Fs.getD k [] ∨ b ∈ Fn) (hnew : ∀ b, b ∈ Fn → b ∉ Fs.flatten) :
  (Fs.set k G).flatten.Nodup ∧ ∀ b, b ∈ (Fs.set k G).flatten → b ∈ Fs.flatten ∨ b ∈ Fn := by
 have hgd : Fs.getD k [] = Fs[k] := by rw [List.getD_eq_getElem?_getD, List.getElem?_eq_getElem hk]; rfl
 rw [hgd] at hsub
 rw [flatten_nodup_iff] at h
 have hp := List.pairwise_iff_getElem.1 h.2
 refine ⟨flatten_nodup_iff.2 ⟨?_, ?_⟩, ?_⟩
 ·intro F hF
  obtain ⟨i, hi, rfl⟩ := List.mem_iff_getElem.1 hF
  rw [List.getElem_set]
  split
  ·exact hG
  ·exact h.1 _ (List.getElem_mem _)
 ·rw [List.pairwise_iff_getElem]
  intro i j hi hj hij x hx hxj
  simp only [List.length_set] at hi hj
  rw [List.getElem_set] at hx hxj
  split at hx
  ·next hik =>
   subst hik
   rw [if_neg (by omega)] at hxj
   rcases hsub x hx with h1 | h1
   ·exact hp k j hk hj hij x h1 hxj
   ·exact hnew x h1 (List.mem_flatten.2 ⟨_, List.getElem_mem hj, hxj⟩)
  ·split at hxj
   ·next hjk =>
    subst hjk
    rcases hsub x hxj with h1 | h1
    ·exact hp i k hi hk hij x hx h1
    ·exact hnew x h1 (List.mem_flatten.2 ⟨_, List.getElem_mem hi, hx⟩)
   ·exact hp i j hi hj hij x hx hxj
 ·intro b hb
  obtain ⟨F, hF, hbF⟩ := List.mem_flatten.1 hb
  obtain ⟨i, hi, rfl⟩ := List.mem_iff_getElem.1 hF
  rw [List.getElem_set] at hbF
  split at hbF
  ·rcases hsub b hbF with h1 | h1
   ·exact .inl (List.mem_flatten.2 ⟨_, List.getElem_mem hk, h1⟩)
   ·exact .inr h1
  ·exact .inl (List.mem_flatten.2 ⟨_, List.getElem_mem _, hbF⟩)
theorem ownS.shape {α : Type} {size : Nat} {e : TypeId} {O : ORep α} {w : World} {v : Value} {l : List α} {F : List Nat} (h : ownS size e O w v l F) (hl : 0 < l.length) :
  ∃ g cap, v = .slice (some ⟨g, 0, none⟩) l.length cap ∧ g ∈ F ∧ g < w.heap.size := by
 rcases h with ⟨_, rfl, _⟩ | ⟨g, cap, cur, Fs, h1, h2, h3, h4, h5, h6, h7, rfl⟩
 ·simp at hl
 ·exact ⟨g, cap, h1, by simp, (Array.getElem?_eq_some_iff.1 h2).1⟩
theorem ownS.cellPut {α : Type} {size : Nat} {e : TypeId} {O : ORep α} {R : Rep α} (hO : O.Good R size) {w : World} {g cap : Nat} {l : List α} {F : List Nat} (h : ownS size e O w (.slice (some ⟨g, 0, none⟩) l.length cap) l F) (hN : F.Nodup)
  {k i : Nat} (hk : k < l.length) (hi : i < size) (u : Value) (m' : α) (Fn : List Nat) (hFn : ∀ b, b ∈ Fn → b ∉ F)
  (hm : ∀ cs Fk, O w cs l[k] Fk → Fk.Nodup → ∃ G, O w (cs.set i u) m' G ∧ G.Nodup ∧ ∀ b, b ∈ G → b ∈ Fk ∨ b ∈ Fn) :
  ∃ F', ownS size e O (w.setCell ⟨g, k * size + i, none⟩ u) (.slice (some ⟨g, 0, none⟩) l.length cap) (l.set k m') F' ∧ F'.Nodup ∧ (∀ b, b ∈ F' → b ∈ F ∨ b ∈ Fn) ∧ g ∈ F := by
 rcases h with ⟨h0, _, _⟩ | ⟨g', cap', cur, Fs, h1, h2, h3, h4, h5, h6, h7, rfl⟩
 ·cases h0
 ·simp only [Value.slice.injEq, Option.some.injEq, Addr.mk.injEq, and_true, true_and] at h1
  obtain ⟨rfl, rfl⟩ := h1
  rw [List.nodup_cons] at hN
  have hkF : k < Fs.length := by omega
  have hgk : Fs.getD k [] = Fs[k] := by rw [List.getD_eq_getElem?_getD, List.getElem?_eq_getElem hkF]; rfl
  have hnk : (Fs.getD k []).Nodup := by rw [hgk]; exact (flatten_nodup_iff.1 hN.2).1 _ (List.getElem_mem hkF)
  obtain ⟨G, g1, g2, g3⟩ := hm _ _ (h7 k hk) hnk
  have hFn' : ∀ b, b ∈ Fn → b ∉ Fs.flatten := fun b hb hb2 => hFn b hb (List.mem_cons_of_mem _ hb2)
  obtain ⟨n1, n2⟩ := set_nodup hkF hN.2 g2 g3 hFn'
  have hgF : g ∉ (Fs.set k G).flatten := by
   intro hg
   rcases n2 g hg with hg | hg
   ·exact hN.1 hg
   ·exact hFn g hg (by simp)
  have hs := heap_setCell_same w g (k * size + i) cur e u h2
  refine ⟨g :: (Fs.set k G).flatten, .inr ⟨g, cap, cur.setIfInBounds (k * size + i) u, Fs.set k G, by simp, hs, by simpa using h3, h4, by simpa using h5, by simp [h6], ?_, rfl⟩, List.nodup_cons.2 ⟨hgF, n1⟩, ?_, by simp⟩
  ·intro j hj
   have hj' : j < l.length := by simpa using hj
   have hfr : ∀ b, b ∈ (Fs.set k G).getD j [] → (w.setCell ⟨g, k * size + i, none⟩ u).heap[b]? = w.heap[b]? := by
    intro b hb
    have hbf : b ∈ (Fs.set k G).flatten := mem_flatten_getD (by simp; omega) hb
    exact heap_setCell_other w ⟨g, k * size + i, none⟩ b u (fun hh => hgF (by have : b = g := hh; rw [← this]; exact hbf))
   have hlen : cur.toList.length = cap * size := by simpa using h5
   by_cases hjk : j = k
   ·subst hjk
    have e1 : ((cur.setIfInBounds (j * size + i) u).toList.drop (j * size)).take size = ((cur.toList.drop (j * size)).take size).set i u := by
     rw [Array.toList_setIfInBounds]
     apply List.ext_getElem?
     intro x
     rw [List.getElem?_take, List.getElem?_drop, List.getElem?_set, List.getElem?_set, List.getElem?_take, List.getElem?_drop]
     by_cases hx : x < size
     ·rw [if_pos hx, if_pos hx]
      by_cases hxi : i = x
      ·subst hxi
       have hmul : (j + 1) * size ≤ cap * size := Nat.mul_le_mul_right _ (by omega)
       rw [Nat.succ_mul] at hmul
       rw [if_pos rfl, if_pos rfl, if_pos (by omega), if_pos (by simp; omega)]
      ·rw [if_neg (by omega), if_neg hxi]
     ·rw [if_neg hx, if_neg (by omega), if_neg hx]
    have e2 : (Fs.set j G).getD j [] = G := by rw [List.getD_eq_getElem?_getD, List.getElem?_set_self (by omega)]; rfl
    rw [List.getElem_set_self, e1]
    rw [e2] at hfr ⊢
    exact hO.frame g1 hfr
   ·have e1 : ((cur.setIfInBounds (k * size + i) u).toList.drop (j * size)).take size = (cur.toList.drop (j * size)).take size := by
     rw [Array.toList_setIfInBounds]
     apply List.ext_getElem?
     intro x
     rw [List.getElem?_take, List.getElem?_drop, List.getElem?_set, List.getElem?_take, List.getElem?_drop]
     by_cases hx : x < size
     ·rw [if_pos hx, if_pos hx]
      have : k * size + i ≠ j * size + x := by
       intro hh
       rcases Nat.lt_or_gt_of_ne hjk with hlt | hlt
       ·have hmul : (j + 1) * size ≤ k * size := Nat.mul_le_mul_right _ hlt
        rw [Nat.succ_mul] at hmul; omega
       ·have hmul : (k + 1) * size ≤ j * size := Nat.mul_le_mul_right _ hlt
        rw [Nat.succ_mul] at hmul; omega
      rw [if_neg this]
     ·rw [if_neg hx, if_neg hx]
    have e2 : (Fs.set k G).getD j [] = Fs.getD j [] := by rw [List.getD_eq_getElem?_getD, List.getD_eq_getElem?_getD, List.getElem?_set_ne (Ne.symm hjk)]
    rw [List.getElem_set_ne (Ne.symm hjk), e1]
    rw [e2] at hfr ⊢
    exact hO.frame (h7 j hj') hfr
  ·intro b hb
   rcases List.mem_cons.1 hb with rfl | hb
   ·exact .inl (by simp)
   ·rcases n2 b hb with h | h
    ·exact .inl (List.mem_cons_of_mem _ h)
    ·exact .inr h
theorem ownS.cells {α : Type} {size : Nat} {e : TypeId} {O : ORep α} {R : Rep α} (hO : O.Good R size) {w : World} {g cap : Nat} {l : List α} {F : List Nat} (h : ownS size e O w (.slice (some ⟨g, 0, none⟩) l.length cap) l F) {k : Nat} (hk : k < l.length) :
  ∃ cs Fk, O w cs l[k] Fk ∧ (∀ b, b ∈ Fk → b ∈ F) ∧ (F.Nodup → Fk.Nodup) ∧ (∀ i u, cs[i]? = some u → w.cell? ⟨g, k * size + i, none⟩ = some u) ∧ ∀ i, w.frozen? ⟨g, i, none⟩ = false := by
 rcases h with ⟨h0, _, _⟩ | ⟨g', cap', cur, Fs, h1, h2, h3, h4, h5, h6, h7, rfl⟩
 ·cases h0
 ·simp only [Value.slice.injEq, Option.some.injEq, Addr.mk.injEq, and_true, true_and] at h1
  obtain ⟨rfl, rfl⟩ := h1
  have hkF : k < Fs.length := by omega
  have hgk : Fs.getD k [] = Fs[k] := by rw [List.getD_eq_getElem?_getD, List.getElem?_eq_getElem hkF]; rfl
  refine ⟨_, _, h7 k hk, fun b hb => List.mem_cons_of_mem _ (mem_flatten_getD hkF hb), fun hN => ?_, fun i u hu => ?_, fun i => frozen_of_row w g i cur e h2⟩
  ·rw [hgk]
   exact (flatten_nodup_iff.1 (List.nodup_cons.1 hN).2).1 _ (List.getElem_mem hkF)
  ·rw [cell_of_row w g _ cur e (0, 0) h2]
   rw [List.getElem?_take] at hu
   split at hu
   ·rw [List.getElem?_drop] at hu
    simpa using hu
   ·cases hu
end Go.Proofs.YtolciaheoanlbaaGreatDoor
