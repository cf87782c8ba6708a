/-
  Marks left in what was handed out, and found again.
-/
import Derived.Test.YtmigamgcmhdncaaDoorRows
import Derived.Test.YtmigamgcmhdncaaDoorKit
import Derived.Test.YtmigamgcmhdncaaDoorDatN
import Derived.Test.YtmigamgcmhdncaaDoorChecked
import Derived.Test.YtmigamgcmhdncaaDoorGDat
import Derived.Deep.RegionWith
namespace Go.Proofs.YtmigamgcmhdncaaDoor
open Go.RowKit
set_option linter.unusedVariables false
set_option maxRecDepth 10000

def cntDot (m : MDot) : Nat := 1 + 1
def hdDot (m : MDot) (q q' : Int) : Prop := m.fR = q ∧ m.fN = q + 1 ∧ q' = q + 1 + 1
theorem cntDot_le (m : MDot) : cntDot m ≤ 32 * (1 + wDot m) := by
  unfold cntDot wDot
  omega
theorem hdDot_end (m : MDot) (q q' : Int) (h : hdDot m q q') : q' = q + cntDot m := by
  obtain ⟨_, _, rfl⟩ := h
  unfold cntDot
  omega

set_option maxHeartbeats 1000000 in
theorem markDotS_row (g cap n : Nat) (l : List MDot) (cur : Array Value) (Fs : List (List Nat)) (q : Int) (w : World) (hx : l.length = n) (hq : 0 ≤ q) (hq2 : q + sumW cntDot l ≤ 70368744177664) (ho : OwnRow 2 40 oDot w g cap l cur Fs) :
    Calls Tryd.prog 16 #[.slice (some ⟨g, 0, none⟩) n cap, .int .i64 q] w fun e w' => e = .returned (.int .i64 (q + sumW cntDot l)) ∧ ∃ l' cur', OwnRow 2 40 oDot w' g cap l' cur' Fs ∧ l'.length = n ∧ hdS hdDot l' q (q + sumW cntDot l) ∧ Turn (g :: Fs.flatten) w w' := by
  have HX := Hid.mk hx
  clear hx
  have hcap : n ≤ 9223372036854775807 := by have h1 := ho.le; have h2 := ho.max; have h3 := HX.out; unfold maxLen at h2; omega
  have HO := Hid.mk ho
  clear ho
  go_enter Tryd.func16, Tryd.ntmps16
  go_wp2_with fail
  go_loopw [1, 5] (fun kv i wr => ∃ (k : Nat) (kk : Int) (l' : List MDot) (cur' : Array Value), k ≤ n ∧ i = .int .i64 k ∧ kv = .int .i64 kk ∧ kk = q + sumW cntDot (l.take k) ∧ l'.length = k ∧ OwnRow 2 40 oDot wr g cap (l' ++ l.drop k) cur' Fs ∧ hdS hdDot l' q kk ∧ Turn (g :: Fs.flatten) w wr) (fun _ i _ => n - (intOf i).toNat)
  case atStart => exact ⟨0, q, [], cur, Nat.zero_le _, rfl, rfl, by simp [sumW], rfl, by simpa using HO.out, rfl, Turn.refl _ _⟩
  case round =>
    obtain ⟨k, kk, l', cur', hk, rfl, rfl, hkk, hl', hok, hh, htk⟩ := hrel
    by_cases hlt : k < n
    · have hkl : k < l.length := by rw [HX.out]; exact hlt
      have hlen2 : k < (l' ++ l.drop k).length := by rw [List.length_append, hl', List.length_drop]; omega
      have hw1 := sumW_take_succ (f := cntDot) hkl
      have hw2 := sumW_take_le cntDot l (k + 1)
      have hel := hok.each k hlen2
      rw [get_mid hl' hkl hlen2] at hel
      obtain ⟨hgF, hFN⟩ := hok.part hlen2
      have hE0 := Edit.start hok k (Fs.getD k [])
      generalize hcs : seg 2 cur' k = cs at hel hE0
      clear hcs
      have HOE := Hid.mk (fun w' cs' m' he ho => OwnRow.edit (w' := w') (cs := cs') (m' := m') oDot_good hok hlen2 he ho)
      have HS := Hid.mk (fun m' => set_mid hl' hkl m')
      have HH := Hid.mk (fun x q2 hx => hdS_snoc (x := x) (q2 := q2) hh hx)
      have HL' := Hid.mk hl'
      have HT := Hid.mk htk
      generalize hm0 : l[k] = m at *
      generalize Fs.getD k [] = Fk at *
      have HKK := Hid.mk hkk
      have HW1 := Hid.mk hw1
      have hlo : 0 ≤ kk := by omega
      have hup : kk + cntDot m ≤ 70368744177664 := by omega
      have HUP : Hid (kk + (1 + 1 : Nat) ≤ 70368744177664) := hup
      have HU := HUP.out
      clear hm0 hok hh hl' htk hlen2 hkk hw1 hw2 hup
      obtain ⟨rfl, h0, h1, hFk⟩ := hel
      have q0 := hE0.cellAt (i := 0) (by omega) rfl
      have r0 := hE0.free (k * 2 + 0)
      rw [Nat.add_zero] at q0 r0
      have q1 := hE0.cellAt (i := 1) (by omega) rfl
      have r1 := hE0.free (k * 2 + 1)
      skip
      go_wp2_with fail
      go_roundw
      case rel =>
        have hed := HOE.out _ _ (⟨(kk), (kk + 1)⟩) ((hE0.set (i := 0) (by omega) (.int .i64 (kk))).set (i := 1) (by omega) (.int .i64 (kk + 1))) ?own
        case own => exact ⟨rfl, (show (Lit.int .i64 (kk)).wf = true from WalkArith.wf_i64 (by omega)), (show (Lit.int .i64 (kk + 1)).wf = true from WalkArith.wf_i64 (by omega)), hFk⟩
        obtain ⟨⟨cur2, hrow2⟩, ht2⟩ := hed
        rw [HS.out] at hrow2
        refine ⟨k + 1, _, l' ++ [⟨(kk), (kk + 1)⟩], cur2, by omega, by go_num, by go_num, ?_, by simp [HL'.out], hrow2, HH.out _ _ ?_, HT.out.trans ht2⟩
        · rw [HW1.out]; have h1 := HKK.out; have h2 : cntDot m = 1 + 1 := rfl; omega
        · exact ⟨(by first | rfl | simp [marks_length]), (by first | rfl | simp [marks_length]), (by first | rfl | simp [marks_length])⟩
      case measure => simp [intOf]; omega
    · have hkn : k = n := by omega
      have HT1 : Hid (l.take k = l) := List.take_of_length_le (by rw [HX.out]; omega)
      have HT2 : Hid (l.drop k = []) := List.drop_of_length_le (by rw [HX.out]; omega)
      rw [HT1.out] at hkk
      rw [HT2.out, List.append_nil] at hok
      have hk2 : 0 ≤ kk := by omega
      subst hkk
      go_wp2_with fail
      go_ret
      exact ⟨rfl, l', cur', hok, by rw [hl', hkn], hh, htk⟩

set_option maxHeartbeats 400000 in
theorem markDotS_nil (q : Int) (w : World) :
    Calls Tryd.prog 16 #[.slice none 0 0, .int .i64 q] w fun e w' => e = .returned (.int .i64 q) ∧ w' = w := by
  go_enter Tryd.func16, Tryd.ntmps16
  go_wp2
  refine wp_loop_rounds 1 ?_
  rw [rounds_succ]
  go_wp2
  go_ret
  exact ⟨rfl, rfl⟩

theorem markDotS_any (v : Value) (l : List MDot) (F : List Nat) (q : Int) (w : World) (hq : 0 ≤ q) (hq2 : q + sumW cntDot l ≤ 70368744177664) (ho : ownS 2 40 oDot w v l F) (hN : F.Nodup) :
    Calls Tryd.prog 16 #[v, .int .i64 q] w fun e w' => e = .returned (.int .i64 (q + sumW cntDot l)) ∧ ∃ l', ownS 2 40 oDot w' v l' F ∧ l'.length = l.length ∧ hdS hdDot l' q (q + sumW cntDot l) ∧ Turn F w w' := by
  rcases ho.open hN with ⟨rfl, rfl, rfl⟩ | ⟨g, cap, cur, Fs, rfl, hrow, rfl⟩
  · refine (markDotS_nil q w).mono ?_
    rintro e w' ⟨rfl, rfl⟩
    exact ⟨by simp [sumW], [], ho, rfl, by simp [hdS, sumW], Turn.refl _ _⟩
  · refine (markDotS_row g cap _ l cur Fs q w rfl hq hq2 hrow).mono ?_
    rintro e w' ⟨rfl, l', cur', hr', hl', hh, ht⟩
    refine ⟨rfl, l', ?_, hl', hh, ht⟩
    have := hr'.shut
    rw [hl'] at this
    exact this

set_option maxHeartbeats 1000000 in
theorem heldDotS_any (a : Option Addr) (n cap : Nat) (l : List MDot) (q q' : Int) (w : World) (hx : l.length = n) (hr : LeafL 2 rDot w.heap.size w a cap l) (hh : hdS hdDot l q q') (hq : 0 ≤ q) (hq' : q' ≤ 70368744177664) :
    Calls Tryd.prog 17 #[.slice a n cap, .int .i64 q] w fun e w' => e = .returned (.int .i64 q') ∧ Below w.heap.size w w' := by
  have HX := Hid.mk hx
  clear hx
  have hcap : n ≤ 9223372036854775807 := by have h1 := hr.1; have h2 := hr.2.1; have h3 := HX.out; omega
  replace hr := hr.2.2
  have HH := Hid.mk hh
  clear hh
  go_enter Tryd.func17, Tryd.ntmps17
  go_wp2_with fail
  go_loopw [1, 5] (fun kv i wr => ∃ (k : Nat) (kk : Int), k ≤ n ∧ i = .int .i64 k ∧ kv = .int .i64 kk ∧ 0 ≤ kk ∧ hdS hdDot (l.drop k) kk q' ∧ Below w.heap.size w wr) (fun _ i _ => n - (intOf i).toNat)
  case atStart => exact ⟨0, q, Nat.zero_le _, rfl, rfl, hq, by simpa using HH.out, Below.refl _ _⟩
  case round =>
    obtain ⟨k, kk, hk, rfl, rfl, hk0, hh, hbk⟩ := hrel
    by_cases hlt : k < n
    · have hkl : k < l.length := by rw [HX.out]; exact hlt
      rw [List.drop_eq_getElem_cons hkl] at hh
      obtain ⟨q1, hh1, hh2⟩ := hh
      have hqe := hdS_end hdDot_end hh2
      obtain ⟨b1, o1, rfl, hB, cs, hcl, hcell, hrT⟩ := (hr.below rDot_good hbk) k hkl
      have hrT := rDot_good.mono hrT hbk.size
      generalize l[k] = m at *
      obtain ⟨f0, f1, hqf⟩ := hh1
      have hup : kk + 1 + 1 ≤ 70368744177664 := by omega
      have HR := Hid.mk hh2
      have HQ := Hid.mk hqf
      have hq10 : 0 ≤ q1 := by omega
      clear hh2 hqf hqe HH hr
      obtain ⟨rfl, h0, h1, _⟩ := hrT
      have k0 := hcell 0 _ rfl
      rw [Nat.add_zero] at k0
      have k1 := hcell 1 _ rfl
      rw [f0] at k0
      rw [f1] at k1
      clear hcell hcl
      have hy0 : b1 < wr.heap.size := Nat.lt_of_lt_of_le hB hbk.size
      go_wp2_with fail
      go_roundw
      case rel => exact ⟨k + 1, q1, by omega, by go_num, by rw [HQ.out] <;> go_num, hq10, HR.out, (Below.trans hbk (Below.mono (show Below wr.heap.size wr _ from by repeat (first | with_reducible exact Below.refl _ _ | with_reducible assumption | refine Below.drew ?_ | refine Below.alloc ?_ (by simp) _)) hbk.size))⟩
      case measure => simp [intOf]; omega
    · have hkn : k = n := by omega
      have HT2 : Hid (l.drop k = []) := List.drop_of_length_le (by rw [HX.out]; omega)
      rw [HT2.out] at hh
      have hqk : q' = kk := hh
      subst hqk
      go_wp2_with fail
      go_ret
      exact ⟨rfl, hbk⟩

def cntItem (m : MItem) : Nat := 1 + 1 + sumW cntDot m.fDeps
def hdItem (m : MItem) (q q' : Int) : Prop := m.fD.fR = q ∧ m.fD.fN = q + 1 ∧ hdS hdDot m.fDeps (q + 1 + 1) (q + 1 + 1 + (sumW cntDot m.fDeps : Int)) ∧ q' = q + 1 + 1 + (sumW cntDot m.fDeps : Int)
theorem cntItem_le (m : MItem) : cntItem m ≤ 32 * (1 + wItem m) := by
  unfold cntItem wItem
  have e2 := sumW_cnt_le cntDot_le m.fDeps
  omega
theorem hdItem_end (m : MItem) (q q' : Int) (h : hdItem m q q') : q' = q + cntItem m := by
  obtain ⟨_, _, _, rfl⟩ := h
  unfold cntItem
  omega

set_option maxHeartbeats 1000000 in
theorem markItemS_row (g cap n : Nat) (l : List MItem) (cur : Array Value) (Fs : List (List Nat)) (q : Int) (w : World) (hx : l.length = n) (hq : 0 ≤ q) (hq2 : q + sumW cntItem l ≤ 70368744177664) (ho : OwnRow 3 52 oItem w g cap l cur Fs) :
    Calls Tryd.prog 43 #[.slice (some ⟨g, 0, none⟩) n cap, .int .i64 q] w fun e w' => e = .returned (.int .i64 (q + sumW cntItem l)) ∧ ∃ l' cur', OwnRow 3 52 oItem w' g cap l' cur' Fs ∧ l'.length = n ∧ hdS hdItem l' q (q + sumW cntItem l) ∧ Turn (g :: Fs.flatten) w w' := by
  have HX := Hid.mk hx
  clear hx
  have hcap : n ≤ 9223372036854775807 := by have h1 := ho.le; have h2 := ho.max; have h3 := HX.out; unfold maxLen at h2; omega
  have HO := Hid.mk ho
  clear ho
  go_enter Tryd.func43, Tryd.ntmps43
  go_wp2_with fail
  go_loopw [1, 5] (fun kv i wr => ∃ (k : Nat) (kk : Int) (l' : List MItem) (cur' : Array Value), k ≤ n ∧ i = .int .i64 k ∧ kv = .int .i64 kk ∧ kk = q + sumW cntItem (l.take k) ∧ l'.length = k ∧ OwnRow 3 52 oItem wr g cap (l' ++ l.drop k) cur' Fs ∧ hdS hdItem l' q kk ∧ Turn (g :: Fs.flatten) w wr) (fun _ i _ => n - (intOf i).toNat)
  case atStart => exact ⟨0, q, [], cur, Nat.zero_le _, rfl, rfl, by simp [sumW], rfl, by simpa using HO.out, rfl, Turn.refl _ _⟩
  case round =>
    obtain ⟨k, kk, l', cur', hk, rfl, rfl, hkk, hl', hok, hh, htk⟩ := hrel
    by_cases hlt : k < n
    · have hkl : k < l.length := by rw [HX.out]; exact hlt
      have hlen2 : k < (l' ++ l.drop k).length := by rw [List.length_append, hl', List.length_drop]; omega
      have hw1 := sumW_take_succ (f := cntItem) hkl
      have hw2 := sumW_take_le cntItem l (k + 1)
      have hel := hok.each k hlen2
      rw [get_mid hl' hkl hlen2] at hel
      obtain ⟨hgF, hFN⟩ := hok.part hlen2
      have hE0 := Edit.start hok k (Fs.getD k [])
      generalize hcs : seg 3 cur' k = cs at hel hE0
      clear hcs
      have HOE := Hid.mk (fun w' cs' m' he ho => OwnRow.edit (w' := w') (cs := cs') (m' := m') oItem_good hok hlen2 he ho)
      have HS := Hid.mk (fun m' => set_mid hl' hkl m')
      have HH := Hid.mk (fun x q2 hx => hdS_snoc (x := x) (q2 := q2) hh hx)
      have HL' := Hid.mk hl'
      have HT := Hid.mk htk
      generalize hm0 : l[k] = m at *
      generalize Fs.getD k [] = Fk at *
      have HKK := Hid.mk hkk
      have HW1 := Hid.mk hw1
      have hlo : 0 ≤ kk := by omega
      have hup : kk + cntItem m ≤ 70368744177664 := by omega
      have HUP : Hid (kk + (1 + 1 + sumW cntDot m.fDeps : Nat) ≤ 70368744177664) := hup
      have HU := HUP.out
      clear hm0 hok hh hl' htk hlen2 hkk hw1 hw2 hup
      obtain ⟨v2, F2, rfl, h0, h1, h2, hFk⟩ := hel
      obtain ⟨a2, c2, rfl, _⟩ := ownS.read oDot_good h2
      have q0 := hE0.cellAt (i := 0) (by omega) rfl
      have r0 := hE0.free (k * 3 + 0)
      rw [Nat.add_zero] at q0 r0
      have q1 := hE0.cellAt (i := 1) (by omega) rfl
      have r1 := hE0.free (k * 3 + 1)
      have q2 := hE0.cellAt (i := 2) (by omega) rfl
      have r2 := hE0.free (k * 3 + 2)
      skip
      have hN2 : F2.Nodup := by rw [hFk, List.append_nil] at hFN; exact hFN
      have hC := fun (W : World) (ht : Turn [g] wr W) => markDotS_any _ m.fDeps F2 (kk + 1 + 1) W (by omega) (by omega) (ownS.frame oDot_good h2 (fun b hb => ht.block b (ownS.lt oDot_good h2 b hb) (fun hm => by simp at hm; exact hgF (by rw [hFk, hm.symm]; simp [hb])))) hN2
      go_wp2_with fail
      refine Calls.mono (hC _ ?_) ?_
      · repeat (first | with_reducible exact Turn.refl _ _ | refine Turn.setCell ?_ (by simp) _)
      clear hC
      rintro e w1 ⟨rfl, l1, hown1, hll1, hh1, ht1⟩
      have hE1 := ((hE0.set (i := 0) (by omega) (.int .i64 (kk))).set (i := 1) (by omega) (.int .i64 (kk + 1))).keep (ht1.mono (fun b hb => by rw [hFk]; simp [hb])) hgF
      clear q0 r0
      clear q1 r1
      clear q2 r2
      have q0 := hE1.cellAt (i := 0) (by omega) rfl
      have r0 := hE1.free (k * 3 + 0)
      rw [Nat.add_zero] at q0 r0
      have q1 := hE1.cellAt (i := 1) (by omega) rfl
      have r1 := hE1.free (k * 3 + 1)
      have q2 := hE1.cellAt (i := 2) (by omega) rfl
      have r2 := hE1.free (k * 3 + 2)
      go_wp2_with fail
      go_roundw
      case rel =>
        have hed := HOE.out _ _ (⟨⟨(kk), (kk + 1)⟩, (l1)⟩) hE1 ?own
        case own => exact ⟨_, F2, rfl, (show (Lit.int .i64 (kk)).wf = true from WalkArith.wf_i64 (by omega)), (show (Lit.int .i64 (kk + 1)).wf = true from WalkArith.wf_i64 (by omega)), (ownS.frame oDot_good hown1 (fun b hb => (show Turn [g] w1 _ from by repeat (first | with_reducible exact Turn.refl _ _ | refine Turn.setCell ?_ (by simp) _)).block b (ownS.lt oDot_good hown1 b hb) (fun hm => by simp at hm; exact hgF (by rw [hFk, hm.symm]; simp [hb])))), hFk⟩
        obtain ⟨⟨cur2, hrow2⟩, ht2⟩ := hed
        rw [HS.out] at hrow2
        refine ⟨k + 1, _, l' ++ [⟨⟨(kk), (kk + 1)⟩, (l1)⟩], cur2, by omega, by go_num, by go_num, ?_, by simp [HL'.out], hrow2, HH.out _ _ ?_, HT.out.trans ht2⟩
        · rw [HW1.out]; have h1 := HKK.out; have h2 : cntItem m = 1 + 1 + sumW cntDot m.fDeps := rfl; omega
        · have hse : sumW cntDot m.fDeps = sumW cntDot l1 := by have h := hdS_end hdDot_end hh1; omega
          refine ⟨rfl, rfl, ?_, ?_⟩
          · show hdS hdDot l1 _ (kk + 1 + 1 + (sumW cntDot l1 : Int)); rw [← hse]; exact hh1
          · show _ = kk + 1 + 1 + (sumW cntDot l1 : Int); rw [← hse]
      case measure => simp [intOf]; omega
    · have hkn : k = n := by omega
      have HT1 : Hid (l.take k = l) := List.take_of_length_le (by rw [HX.out]; omega)
      have HT2 : Hid (l.drop k = []) := List.drop_of_length_le (by rw [HX.out]; omega)
      rw [HT1.out] at hkk
      rw [HT2.out, List.append_nil] at hok
      have hk2 : 0 ≤ kk := by omega
      subst hkk
      go_wp2_with fail
      go_ret
      exact ⟨rfl, l', cur', hok, by rw [hl', hkn], hh, htk⟩

set_option maxHeartbeats 400000 in
theorem markItemS_nil (q : Int) (w : World) :
    Calls Tryd.prog 43 #[.slice none 0 0, .int .i64 q] w fun e w' => e = .returned (.int .i64 q) ∧ w' = w := by
  go_enter Tryd.func43, Tryd.ntmps43
  go_wp2
  refine wp_loop_rounds 1 ?_
  rw [rounds_succ]
  go_wp2
  go_ret
  exact ⟨rfl, rfl⟩

theorem markItemS_any (v : Value) (l : List MItem) (F : List Nat) (q : Int) (w : World) (hq : 0 ≤ q) (hq2 : q + sumW cntItem l ≤ 70368744177664) (ho : ownS 3 52 oItem w v l F) (hN : F.Nodup) :
    Calls Tryd.prog 43 #[v, .int .i64 q] w fun e w' => e = .returned (.int .i64 (q + sumW cntItem l)) ∧ ∃ l', ownS 3 52 oItem w' v l' F ∧ l'.length = l.length ∧ hdS hdItem l' q (q + sumW cntItem l) ∧ Turn F w w' := by
  rcases ho.open hN with ⟨rfl, rfl, rfl⟩ | ⟨g, cap, cur, Fs, rfl, hrow, rfl⟩
  · refine (markItemS_nil q w).mono ?_
    rintro e w' ⟨rfl, rfl⟩
    exact ⟨by simp [sumW], [], ho, rfl, by simp [hdS, sumW], Turn.refl _ _⟩
  · refine (markItemS_row g cap _ l cur Fs q w rfl hq hq2 hrow).mono ?_
    rintro e w' ⟨rfl, l', cur', hr', hl', hh, ht⟩
    refine ⟨rfl, l', ?_, hl', hh, ht⟩
    have := hr'.shut
    rw [hl'] at this
    exact this

def tcntGraph (m : MGraph) : Nat := sumW cntItem m.fItems
def htGraph (m : MGraph) (q q' : Int) : Prop := hdS hdItem m.fItems q q'

theorem tcntGraph_le (m : MGraph) : tcntGraph m ≤ 32 * wGraph m := by
  unfold tcntGraph wGraph
  have e0 := sumW_cnt_le cntItem_le m.fItems
  omega

set_option maxHeartbeats 1000000 in
theorem markGraph_b (cs : List Value) (m : MGraph) (F : List Nat) (q : Int) (w : World) (hq : 0 ≤ q) (hq2 : q + tcntGraph m ≤ 70368744177664) (ho : oGraph w cs m F) (hN : F.Nodup) :
    Calls Tryd.prog 15 #[.agg cs.toArray, .int .i64 q] w fun e w' => ∃ (m' : MGraph) (q' : Int), e = .returned (.int .i64 q') ∧ q ≤ q' ∧ q' ≤ q + tcntGraph m ∧ oGraph w' cs m' F ∧ htGraph m' q q' ∧ Turn F w w' := by
  have HLT : Hid (∀ b, b ∈ F → b < w.heap.size) := oGraph_good.lt ho
  obtain ⟨v0, F0, rfl, h0, hFF⟩ := ho
  have HU : Hid (q + ((sumW cntItem m.fItems : Nat) : Int) ≤ 70368744177664) := hq2
  have hu := HU.out
  clear hq2
  obtain ⟨a0, c0, rfl, _⟩ := ownS.read oItem_good h0
  have hN0 := hN
  rw [hFF, List.append_nil] at hN0
  have hM0 : ∀ b, b ∈ F0 → b ∈ F := fun b hb => by rw [hFF]; simp [hb]
  have hNd0 := hN0
  clear hN0
  go_enter Tryd.func15, Tryd.ntmps15
  have hC := fun (W : World) (ht : Turn ([]) w W) => markItemS_any _ m.fItems F0 (q) W (by omega) (by omega) (ownS.frame oItem_good h0 (fun b hb => ht.block b (ownS.lt oItem_good h0 b hb) (by simp))) hNd0
  go_wp2_with fail
  refine Calls.mono (hC _ ?_) ?_
  · exact Turn.ofBelow ((Below.refl _ _).alloc (Nat.le_refl _) _)
  clear hC
  rintro e w1 ⟨rfl, l0, o0, ll0, hh0, t1⟩
  have hT1 : Turn (F0 ++ []) w w1 := Turn.trans (Turn.ofBelow ((Below.refl _ _).alloc (Nat.le_refl _) _)) (t1.mono (fun b hb => by simp [hb]))
  have e0 : w1.cell? ⟨w.heap.size, 0, none⟩ = some (.slice a0 m.fItems.length c0) := (t1.cell (p := ⟨w.heap.size, 0, none⟩) (by simp) (fun hb => by have := HLT.out _ (hM0 _ hb); simp at this)).trans (by simp)
  have hs1 : w.heap.size < w1.heap.size := by have h := t1.size; simp at h; omega
  have z0 := o0
  clear t1
  go_wp2_with fail
  go_ret
  exact ⟨⟨(l0)⟩, _, rfl, by omega, by unfold tcntGraph; omega, ⟨_, F0, rfl, z0, hFF⟩, hh0, hT1.mono (fun b hb => by rw [hFF]; simpa using hb)⟩

theorem markGraph_any (cs : List Value) (m : MGraph) (F : List Nat) (q : Int) (w : World) (hq : 0 ≤ q) (hq2 : q + tcntGraph m ≤ 70368744177664) (ho : oGraph w cs m F) (hN : F.Nodup) :
    Calls Tryd.prog 15 #[.agg cs.toArray, .int .i64 q] w fun e w' => ∃ (m' : MGraph) (q' : Int), e = .returned (.int .i64 q') ∧ q ≤ q' ∧ q' ≤ 70368744177664 ∧ oGraph w' cs m' F ∧ htGraph m' q q' ∧ Turn F w w' :=
  (markGraph_b cs m F q w hq hq2 ho hN).mono fun e w' ⟨m', q', h1, h2, h3, h4⟩ => ⟨m', q', h1, h2, by omega, h4⟩

end Go.Proofs.YtmigamgcmhdncaaDoor
