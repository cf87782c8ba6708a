/-
  Marks left in what was handed out, and found again.
-/
import Derived.Test.YtembioiaeimegaaMarkT
import Derived.Test.YtembioiaeimegaaChecked
import Derived.Test.YtembioiaeimegaaUDat
import Derived.Deep.RegionWith
namespace Go.Proofs.Ytembioiaeimegaa
open Go.RowKit
set_option linter.unusedVariables false
set_option linter.unusedSimpArgs false
set_option maxRecDepth 10000

def cntDot (m : MDot) : Nat := 1 + 1
def hdDot (m : MDot) (q q' : Int) : Prop := m.fR = q ∧ m.fN = q + 1 ∧ q' = q + 1 + 1
theorem cntDot_le (m : MDot) : cntDot m ≤ 32 * (1 + wDot m) := by
  unfold cntDot wDot
  omega
theorem hdDot_end (m : MDot) (q q' : Int) (h : hdDot m q q') : q' = q + cntDot m := by
  obtain ⟨_, _, rfl⟩ := h
  unfold cntDot
  omega

set_option maxHeartbeats 1000000 in
theorem markDotS_row (g cap n : Nat) (l : List MDot) (cur : Array Value) (Fs : List (List Nat)) (q : Int) (w : World) (hx : l.length = n) (hq : 0 ≤ q) (hq2 : q + sumW cntDot l ≤ 70368744177664) (ho : OwnRow 2 83 oDot w g cap l cur Fs) :
    Calls Try.prog 40 #[.slice (some ⟨g, 0, none⟩) n cap, .int .i64 q] w fun e w' => e = .returned (.int .i64 (q + sumW cntDot l)) ∧ ∃ l' cur', OwnRow 2 83 oDot w' g cap l' cur' Fs ∧ l'.length = n ∧ hdS hdDot l' q (q + sumW cntDot l) ∧ Turn (g :: Fs.flatten) w w' := by
  have HX := Hid.mk hx
  clear hx
  have hcap : n ≤ 9223372036854775807 := by have h1 := ho.le; have h2 := ho.max; have h3 := HX.out; unfold maxLen at h2; omega
  have HO := Hid.mk ho
  clear ho
  go_enter Try.func40, Try.ntmps40
  go_wp2_with fail
  go_loopw [1, 5] (fun kv i wr => ∃ (k : Nat) (kk : Int) (l' : List MDot) (cur' : Array Value), k ≤ n ∧ i = .int .i64 k ∧ kv = .int .i64 kk ∧ kk = q + sumW cntDot (l.take k) ∧ l'.length = k ∧ OwnRow 2 83 oDot wr g cap (l' ++ l.drop k) cur' Fs ∧ hdS hdDot l' q kk ∧ Turn (g :: Fs.flatten) w wr) (fun _ i _ => n - (intOf i).toNat)
  case atStart => exact ⟨0, q, [], cur, Nat.zero_le _, rfl, rfl, by simp [sumW], rfl, by simpa using HO.out, rfl, Turn.refl _ _⟩
  case round =>
    obtain ⟨k, kk, l', cur', hk, rfl, rfl, hkk, hl', hok, hh, htk⟩ := hrel
    by_cases hlt : k < n
    · have hkl : k < l.length := by rw [HX.out]; exact hlt
      have hlen2 : k < (l' ++ l.drop k).length := by rw [List.length_append, hl', List.length_drop]; omega
      have hw1 := sumW_take_succ (f := cntDot) hkl
      have hw2 := sumW_take_le cntDot l (k + 1)
      have hel := hok.each k hlen2
      rw [get_mid hl' hkl hlen2] at hel
      obtain ⟨hgF, hFN⟩ := hok.part hlen2
      have hE0 := Edit.start hok k (Fs.getD k [])
      generalize hcs : seg 2 cur' k = cs at hel hE0
      clear hcs
      have HOE := Hid.mk (fun w' cs' m' he ho => OwnRow.edit (w' := w') (cs := cs') (m' := m') oDot_good hok hlen2 he ho)
      have HS := Hid.mk (fun m' => set_mid hl' hkl m')
      have HH := Hid.mk (fun x q2 hx => hdS_snoc (x := x) (q2 := q2) hh hx)
      have HL' := Hid.mk hl'
      have HT := Hid.mk htk
      generalize hm0 : l[k] = m at *
      generalize Fs.getD k [] = Fk at *
      have HKK := Hid.mk hkk
      have HW1 := Hid.mk hw1
      have hlo : 0 ≤ kk := by omega
      have hup : kk + cntDot m ≤ 70368744177664 := by omega
      have HUP : Hid (kk + (1 + 1 : Nat) ≤ 70368744177664) := hup
      have HU := HUP.out
      clear hm0 hok hh hl' htk hlen2 hkk hw1 hw2 hup
      obtain ⟨rfl, h0, h1, hFk⟩ := hel
      have q0 := hE0.cellAt (i := 0) (by omega) rfl
      have r0 := hE0.free (k * 2 + 0)
      rw [Nat.add_zero] at q0 r0
      have q1 := hE0.cellAt (i := 1) (by omega) rfl
      have r1 := hE0.free (k * 2 + 1)
      skip
      go_wp2_with fail
      go_roundw
      case rel =>
        have hed := HOE.out _ _ (⟨(kk), (kk + 1)⟩) ((hE0.set (i := 0) (by omega) (.int .i64 (kk))).set (i := 1) (by omega) (.int .i64 (kk + 1))) ?own
        case own => exact ⟨rfl, (show (Lit.int .i64 (kk)).wf = true from WalkArith.wf_i64 (by omega)), (show (Lit.int .i64 (kk + 1)).wf = true from WalkArith.wf_i64 (by omega)), hFk⟩
        obtain ⟨⟨cur2, hrow2⟩, ht2⟩ := hed
        rw [HS.out] at hrow2
        refine ⟨k + 1, _, l' ++ [⟨(kk), (kk + 1)⟩], cur2, by omega, by go_num, by go_num, ?_, by simp [HL'.out], hrow2, HH.out _ _ ?_, HT.out.trans ht2⟩
        · rw [HW1.out]; have h1 := HKK.out; have h2 : cntDot m = 1 + 1 := rfl; omega
        · exact ⟨(by first | rfl | simp [marks_length]), (by first | rfl | simp [marks_length]), (by first | rfl | simp [marks_length])⟩
      case measure => simp [intOf]; omega
    · have hkn : k = n := by omega
      have HT1 : Hid (l.take k = l) := List.take_of_length_le (by rw [HX.out]; omega)
      have HT2 : Hid (l.drop k = []) := List.drop_of_length_le (by rw [HX.out]; omega)
      rw [HT1.out] at hkk
      rw [HT2.out, List.append_nil] at hok
      have hk2 : 0 ≤ kk := by omega
      subst hkk
      go_wp2_with fail
      go_ret
      exact ⟨rfl, l', cur', hok, by rw [hl', hkn], hh, htk⟩

set_option maxHeartbeats 400000 in
theorem markDotS_nil (q : Int) (w : World) :
    Calls Try.prog 40 #[.slice none 0 0, .int .i64 q] w fun e w' => e = .returned (.int .i64 q) ∧ w' = w := by
  go_enter Try.func40, Try.ntmps40
  go_wp2
  refine wp_loop_rounds 1 ?_
  rw [rounds_succ]
  go_wp2
  go_ret
  exact ⟨rfl, rfl⟩

theorem markDotS_any (v : Value) (l : List MDot) (F : List Nat) (q : Int) (w : World) (hq : 0 ≤ q) (hq2 : q + sumW cntDot l ≤ 70368744177664) (ho : ownS 2 83 oDot w v l F) (hN : F.Nodup) :
    Calls Try.prog 40 #[v, .int .i64 q] w fun e w' => e = .returned (.int .i64 (q + sumW cntDot l)) ∧ ∃ l', ownS 2 83 oDot w' v l' F ∧ l'.length = l.length ∧ hdS hdDot l' q (q + sumW cntDot l) ∧ Turn F w w' := by
  rcases ho.open hN with ⟨rfl, rfl, rfl⟩ | ⟨g, cap, cur, Fs, rfl, hrow, rfl⟩
  · refine (markDotS_nil q w).mono ?_
    rintro e w' ⟨rfl, rfl⟩
    exact ⟨by simp [sumW], [], ho, rfl, by simp [hdS, sumW], Turn.refl _ _⟩
  · refine (markDotS_row g cap _ l cur Fs q w rfl hq hq2 hrow).mono ?_
    rintro e w' ⟨rfl, l', cur', hr', hl', hh, ht⟩
    refine ⟨rfl, l', ?_, hl', hh, ht⟩
    have := hr'.shut
    rw [hl'] at this
    exact this

def cntRec (m : MRec) : Nat := 1 + 1 + 1 + 1 + 1 + sumW cntDot m.fDeps + 1
def hdRec (m : MRec) (q q' : Int) : Prop := m.fD.fR = q ∧ m.fD.fN = q + 1 ∧ m.fC.fKind = q + 1 + 1 ∧ m.fC.fKey = mtext (q + 1 + 1 + 1) ∧ m.fC.fVal = mtext (q + 1 + 1 + 1 + 1) ∧ hdS hdDot m.fDeps (q + 1 + 1 + 1 + 1 + 1) (q + 1 + 1 + 1 + 1 + 1 + (sumW cntDot m.fDeps : Int)) ∧ m.fSure = ((q + 1 + 1 + 1 + 1 + 1 + (sumW cntDot m.fDeps : Int)) % 3 == 0) ∧ q' = q + 1 + 1 + 1 + 1 + 1 + (sumW cntDot m.fDeps : Int) + 1
theorem cntRec_le (m : MRec) : cntRec m ≤ 32 * (1 + wRec m) := by
  unfold cntRec wRec
  have e5 := sumW_cnt_le cntDot_le m.fDeps
  omega
theorem hdRec_end (m : MRec) (q q' : Int) (h : hdRec m q q') : q' = q + cntRec m := by
  obtain ⟨_, _, _, _, _, _, _, rfl⟩ := h
  unfold cntRec
  omega

set_option maxHeartbeats 1000000 in
theorem markRecS_row (g cap n : Nat) (l : List MRec) (cur : Array Value) (Fs : List (List Nat)) (q : Int) (w : World) (hx : l.length = n) (hq : 0 ≤ q) (hq2 : q + sumW cntRec l ≤ 70368744177664) (ho : OwnRow 7 121 oRec w g cap l cur Fs) :
    Calls Try.prog 38 #[.slice (some ⟨g, 0, none⟩) n cap, .int .i64 q] w fun e w' => e = .returned (.int .i64 (q + sumW cntRec l)) ∧ ∃ l' cur', OwnRow 7 121 oRec w' g cap l' cur' Fs ∧ l'.length = n ∧ hdS hdRec l' q (q + sumW cntRec l) ∧ Turn (g :: Fs.flatten) w w' := by
  have HX := Hid.mk hx
  clear hx
  have hcap : n ≤ 9223372036854775807 := by have h1 := ho.le; have h2 := ho.max; have h3 := HX.out; unfold maxLen at h2; omega
  have HO := Hid.mk ho
  clear ho
  go_enter Try.func38, Try.ntmps38
  go_wp2_with fail
  go_loopw [1, 5] (fun kv i wr => ∃ (k : Nat) (kk : Int) (l' : List MRec) (cur' : Array Value), k ≤ n ∧ i = .int .i64 k ∧ kv = .int .i64 kk ∧ kk = q + sumW cntRec (l.take k) ∧ l'.length = k ∧ OwnRow 7 121 oRec wr g cap (l' ++ l.drop k) cur' Fs ∧ hdS hdRec l' q kk ∧ Turn (g :: Fs.flatten) w wr) (fun _ i _ => n - (intOf i).toNat)
  case atStart => exact ⟨0, q, [], cur, Nat.zero_le _, rfl, rfl, by simp [sumW], rfl, by simpa using HO.out, rfl, Turn.refl _ _⟩
  case round =>
    obtain ⟨k, kk, l', cur', hk, rfl, rfl, hkk, hl', hok, hh, htk⟩ := hrel
    by_cases hlt : k < n
    · have hkl : k < l.length := by rw [HX.out]; exact hlt
      have hlen2 : k < (l' ++ l.drop k).length := by rw [List.length_append, hl', List.length_drop]; omega
      have hw1 := sumW_take_succ (f := cntRec) hkl
      have hw2 := sumW_take_le cntRec l (k + 1)
      have hel := hok.each k hlen2
      rw [get_mid hl' hkl hlen2] at hel
      obtain ⟨hgF, hFN⟩ := hok.part hlen2
      have hE0 := Edit.start hok k (Fs.getD k [])
      generalize hcs : seg 7 cur' k = cs at hel hE0
      clear hcs
      have HOE := Hid.mk (fun w' cs' m' he ho => OwnRow.edit (w' := w') (cs := cs') (m' := m') oRec_good hok hlen2 he ho)
      have HS := Hid.mk (fun m' => set_mid hl' hkl m')
      have HH := Hid.mk (fun x q2 hx => hdS_snoc (x := x) (q2 := q2) hh hx)
      have HL' := Hid.mk hl'
      have HT := Hid.mk htk
      generalize hm0 : l[k] = m at *
      generalize Fs.getD k [] = Fk at *
      have HKK := Hid.mk hkk
      have HW1 := Hid.mk hw1
      have hlo : 0 ≤ kk := by omega
      have hup : kk + cntRec m ≤ 70368744177664 := by omega
      have HUP : Hid (kk + (1 + 1 + 1 + 1 + 1 + sumW cntDot m.fDeps + 1 : Nat) ≤ 70368744177664) := hup
      have HU := HUP.out
      clear hm0 hok hh hl' htk hlen2 hkk hw1 hw2 hup
      obtain ⟨v5, F5, rfl, h0, h1, h2, h3, h4, h5, h6, hFk⟩ := hel
      obtain ⟨a5, c5, rfl, _⟩ := ownS.read oDot_good h5
      have q0 := hE0.cellAt (i := 0) (by omega) rfl
      have r0 := hE0.free (k * 7 + 0)
      rw [Nat.add_zero] at q0 r0
      have q1 := hE0.cellAt (i := 1) (by omega) rfl
      have r1 := hE0.free (k * 7 + 1)
      have q2 := hE0.cellAt (i := 2) (by omega) rfl
      have r2 := hE0.free (k * 7 + 2)
      have q3 := hE0.cellAt (i := 3) (by omega) rfl
      have r3 := hE0.free (k * 7 + 3)
      have q4 := hE0.cellAt (i := 4) (by omega) rfl
      have r4 := hE0.free (k * 7 + 4)
      have q5 := hE0.cellAt (i := 5) (by omega) rfl
      have r5 := hE0.free (k * 7 + 5)
      have q6 := hE0.cellAt (i := 6) (by omega) rfl
      have r6 := hE0.free (k * 7 + 6)
      skip
      go_wp2_with fail
      refine (markText_any (kk + 1 + 1 + 1) _ (by omega) (by omega)).mono ?_
      rintro e w1 ⟨rfl, hb1⟩
      have hE1 := (((hE0.set (i := 0) (by omega) (.int .i64 (kk))).set (i := 1) (by omega) (.int .i64 (kk + 1))).set (i := 2) (by omega) (.int .i64 (kk + 1 + 1))).keep (Turn.ofBelow hb1) hgF
      clear q0 r0
      clear q1 r1
      clear q2 r2
      clear q3 r3
      clear q4 r4
      clear q5 r5
      clear q6 r6
      have q0 := hE1.cellAt (i := 0) (by omega) rfl
      have r0 := hE1.free (k * 7 + 0)
      rw [Nat.add_zero] at q0 r0
      have q1 := hE1.cellAt (i := 1) (by omega) rfl
      have r1 := hE1.free (k * 7 + 1)
      have q2 := hE1.cellAt (i := 2) (by omega) rfl
      have r2 := hE1.free (k * 7 + 2)
      have q3 := hE1.cellAt (i := 3) (by omega) rfl
      have r3 := hE1.free (k * 7 + 3)
      have q4 := hE1.cellAt (i := 4) (by omega) rfl
      have r4 := hE1.free (k * 7 + 4)
      have q5 := hE1.cellAt (i := 5) (by omega) rfl
      have r5 := hE1.free (k * 7 + 5)
      have q6 := hE1.cellAt (i := 6) (by omega) rfl
      have r6 := hE1.free (k * 7 + 6)
      go_wp2_with fail
      refine (markText_any (kk + 1 + 1 + 1 + 1) _ (by omega) (by omega)).mono ?_
      rintro e w2 ⟨rfl, hb2⟩
      have hE2 := (hE1.set (i := 3) (by omega) (.string (mtext (kk + 1 + 1 + 1)))).keep (Turn.ofBelow hb2) hgF
      clear q0 r0
      clear q1 r1
      clear q2 r2
      clear q3 r3
      clear q4 r4
      clear q5 r5
      clear q6 r6
      have q0 := hE2.cellAt (i := 0) (by omega) rfl
      have r0 := hE2.free (k * 7 + 0)
      rw [Nat.add_zero] at q0 r0
      have q1 := hE2.cellAt (i := 1) (by omega) rfl
      have r1 := hE2.free (k * 7 + 1)
      have q2 := hE2.cellAt (i := 2) (by omega) rfl
      have r2 := hE2.free (k * 7 + 2)
      have q3 := hE2.cellAt (i := 3) (by omega) rfl
      have r3 := hE2.free (k * 7 + 3)
      have q4 := hE2.cellAt (i := 4) (by omega) rfl
      have r4 := hE2.free (k * 7 + 4)
      have q5 := hE2.cellAt (i := 5) (by omega) rfl
      have r5 := hE2.free (k * 7 + 5)
      have q6 := hE2.cellAt (i := 6) (by omega) rfl
      have r6 := hE2.free (k * 7 + 6)
      have hN5 : F5.Nodup := by rw [hFk, List.append_nil] at hFN; exact hFN
      have hC := fun (W : World) (ht : Turn [g] wr W) => markDotS_any _ m.fDeps F5 (kk + 1 + 1 + 1 + 1 + 1) W (by omega) (by omega) (ownS.frame oDot_good h5 (fun b hb => ht.block b (ownS.lt oDot_good h5 b hb) (fun hm => by simp at hm; exact hgF (by rw [hFk, hm.symm]; simp [hb])))) hN5
      go_wp2_with fail
      refine Calls.mono (hC _ ?_) ?_
      · repeat (first | with_reducible exact Turn.refl _ _ | refine Turn.setCell ?_ (by simp) _ | with_reducible refine Turn.trans ?_ (Turn.ofBelow hb1) | with_reducible refine Turn.trans ?_ (Turn.ofBelow hb2))
      clear hC
      rintro e w3 ⟨rfl, l3, hown3, hll3, hh3, ht3⟩
      have hE3 := (hE2.set (i := 4) (by omega) (.string (mtext (kk + 1 + 1 + 1 + 1)))).keep (ht3.mono (fun b hb => by rw [hFk]; simp [hb])) hgF
      clear q0 r0
      clear q1 r1
      clear q2 r2
      clear q3 r3
      clear q4 r4
      clear q5 r5
      clear q6 r6
      have q0 := hE3.cellAt (i := 0) (by omega) rfl
      have r0 := hE3.free (k * 7 + 0)
      rw [Nat.add_zero] at q0 r0
      have q1 := hE3.cellAt (i := 1) (by omega) rfl
      have r1 := hE3.free (k * 7 + 1)
      have q2 := hE3.cellAt (i := 2) (by omega) rfl
      have r2 := hE3.free (k * 7 + 2)
      have q3 := hE3.cellAt (i := 3) (by omega) rfl
      have r3 := hE3.free (k * 7 + 3)
      have q4 := hE3.cellAt (i := 4) (by omega) rfl
      have r4 := hE3.free (k * 7 + 4)
      have q5 := hE3.cellAt (i := 5) (by omega) rfl
      have r5 := hE3.free (k * 7 + 5)
      have q6 := hE3.cellAt (i := 6) (by omega) rfl
      have r6 := hE3.free (k * 7 + 6)
      go_wp2_with fail
      go_roundw
      case rel =>
        have hed := HOE.out _ _ (⟨⟨(kk), (kk + 1)⟩, ⟨(kk + 1 + 1), (mtext (kk + 1 + 1 + 1)), (mtext (kk + 1 + 1 + 1 + 1))⟩, (l3), (((kk + 1 + 1 + 1 + 1 + 1 + (sumW cntDot m.fDeps : Int)) % 3 == 0))⟩) (hE3.set (i := 6) (by omega) (.bool ((kk + 1 + 1 + 1 + 1 + 1 + (sumW cntDot m.fDeps : Int)) % 3 == 0))) ?own
        case own => exact ⟨_, F5, rfl, (show (Lit.int .i64 (kk)).wf = true from WalkArith.wf_i64 (by omega)), (show (Lit.int .i64 (kk + 1)).wf = true from WalkArith.wf_i64 (by omega)), (show (Lit.int .i64 (kk + 1 + 1)).wf = true from WalkArith.wf_i64 (by omega)), (show (mtext (kk + 1 + 1 + 1)).size ≤ 9223372036854775807 from Nat.le_trans (mtext_size _) (by omega)), (show (mtext (kk + 1 + 1 + 1 + 1)).size ≤ 9223372036854775807 from Nat.le_trans (mtext_size _) (by omega)), (ownS.frame oDot_good hown3 (fun b hb => (show Turn [g] w3 _ from by repeat (first | with_reducible exact Turn.refl _ _ | refine Turn.setCell ?_ (by simp) _ | with_reducible refine Turn.trans ?_ (Turn.ofBelow hb1) | with_reducible refine Turn.trans ?_ (Turn.ofBelow hb2))).block b (ownS.lt oDot_good hown3 b hb) (fun hm => by simp at hm; exact hgF (by rw [hFk, hm.symm]; simp [hb])))), trivial, hFk⟩
        obtain ⟨⟨cur2, hrow2⟩, ht2⟩ := hed
        rw [HS.out] at hrow2
        refine ⟨k + 1, _, l' ++ [⟨⟨(kk), (kk + 1)⟩, ⟨(kk + 1 + 1), (mtext (kk + 1 + 1 + 1)), (mtext (kk + 1 + 1 + 1 + 1))⟩, (l3), (((kk + 1 + 1 + 1 + 1 + 1 + (sumW cntDot m.fDeps : Int)) % 3 == 0))⟩], cur2, by omega, by go_num, by go_num, ?_, by simp [HL'.out], hrow2, HH.out _ _ ?_, HT.out.trans ht2⟩
        · rw [HW1.out]; have h1 := HKK.out; have h2 : cntRec m = 1 + 1 + 1 + 1 + 1 + sumW cntDot m.fDeps + 1 := rfl; omega
        · have e5 : sumW cntDot m.fDeps = sumW cntDot l3 := by have h := hdS_end hdDot_end hh3; omega
          unfold hdRec
          simp only [← e5]
          exact ⟨(by first | rfl | simp [marks_length]), (by first | rfl | simp [marks_length]), (by first | rfl | simp [marks_length]), (by first | rfl | simp [marks_length]), (by first | rfl | simp [marks_length]), hh3, (by first | rfl | simp [marks_length]), (by first | rfl | simp [marks_length])⟩
      case measure => simp [intOf]; omega
    · have hkn : k = n := by omega
      have HT1 : Hid (l.take k = l) := List.take_of_length_le (by rw [HX.out]; omega)
      have HT2 : Hid (l.drop k = []) := List.drop_of_length_le (by rw [HX.out]; omega)
      rw [HT1.out] at hkk
      rw [HT2.out, List.append_nil] at hok
      have hk2 : 0 ≤ kk := by omega
      subst hkk
      go_wp2_with fail
      go_ret
      exact ⟨rfl, l', cur', hok, by rw [hl', hkn], hh, htk⟩

set_option maxHeartbeats 400000 in
theorem markRecS_nil (q : Int) (w : World) :
    Calls Try.prog 38 #[.slice none 0 0, .int .i64 q] w fun e w' => e = .returned (.int .i64 q) ∧ w' = w := by
  go_enter Try.func38, Try.ntmps38
  go_wp2
  refine wp_loop_rounds 1 ?_
  rw [rounds_succ]
  go_wp2
  go_ret
  exact ⟨rfl, rfl⟩

theorem markRecS_any (v : Value) (l : List MRec) (F : List Nat) (q : Int) (w : World) (hq : 0 ≤ q) (hq2 : q + sumW cntRec l ≤ 70368744177664) (ho : ownS 7 121 oRec w v l F) (hN : F.Nodup) :
    Calls Try.prog 38 #[v, .int .i64 q] w fun e w' => e = .returned (.int .i64 (q + sumW cntRec l)) ∧ ∃ l', ownS 7 121 oRec w' v l' F ∧ l'.length = l.length ∧ hdS hdRec l' q (q + sumW cntRec l) ∧ Turn F w w' := by
  rcases ho.open hN with ⟨rfl, rfl, rfl⟩ | ⟨g, cap, cur, Fs, rfl, hrow, rfl⟩
  · refine (markRecS_nil q w).mono ?_
    rintro e w' ⟨rfl, rfl⟩
    exact ⟨by simp [sumW], [], ho, rfl, by simp [hdS, sumW], Turn.refl _ _⟩
  · refine (markRecS_row g cap _ l cur Fs q w rfl hq hq2 hrow).mono ?_
    rintro e w' ⟨rfl, l', cur', hr', hl', hh, ht⟩
    refine ⟨rfl, l', ?_, hl', hh, ht⟩
    have := hr'.shut
    rw [hl'] at this
    exact this

def cntAck (m : MAck) : Nat := 1 + 1 + 1
def hdAck (m : MAck) (q q' : Int) : Prop := m.fD.fR = q ∧ m.fD.fN = q + 1 ∧ m.fFrom = q + 1 + 1 ∧ q' = q + 1 + 1 + 1
theorem cntAck_le (m : MAck) : cntAck m ≤ 32 * (1 + wAck m) := by
  unfold cntAck wAck
  omega
theorem hdAck_end (m : MAck) (q q' : Int) (h : hdAck m q q') : q' = q + cntAck m := by
  obtain ⟨_, _, _, rfl⟩ := h
  unfold cntAck
  omega

set_option maxHeartbeats 1000000 in
theorem markAckS_row (g cap n : Nat) (l : List MAck) (cur : Array Value) (Fs : List (List Nat)) (q : Int) (w : World) (hx : l.length = n) (hq : 0 ≤ q) (hq2 : q + sumW cntAck l ≤ 70368744177664) (ho : OwnRow 3 123 oAck w g cap l cur Fs) :
    Calls Try.prog 39 #[.slice (some ⟨g, 0, none⟩) n cap, .int .i64 q] w fun e w' => e = .returned (.int .i64 (q + sumW cntAck l)) ∧ ∃ l' cur', OwnRow 3 123 oAck w' g cap l' cur' Fs ∧ l'.length = n ∧ hdS hdAck l' q (q + sumW cntAck l) ∧ Turn (g :: Fs.flatten) w w' := by
  have HX := Hid.mk hx
  clear hx
  have hcap : n ≤ 9223372036854775807 := by have h1 := ho.le; have h2 := ho.max; have h3 := HX.out; unfold maxLen at h2; omega
  have HO := Hid.mk ho
  clear ho
  go_enter Try.func39, Try.ntmps39
  go_wp2_with fail
  go_loopw [1, 5] (fun kv i wr => ∃ (k : Nat) (kk : Int) (l' : List MAck) (cur' : Array Value), k ≤ n ∧ i = .int .i64 k ∧ kv = .int .i64 kk ∧ kk = q + sumW cntAck (l.take k) ∧ l'.length = k ∧ OwnRow 3 123 oAck wr g cap (l' ++ l.drop k) cur' Fs ∧ hdS hdAck l' q kk ∧ Turn (g :: Fs.flatten) w wr) (fun _ i _ => n - (intOf i).toNat)
  case atStart => exact ⟨0, q, [], cur, Nat.zero_le _, rfl, rfl, by simp [sumW], rfl, by simpa using HO.out, rfl, Turn.refl _ _⟩
  case round =>
    obtain ⟨k, kk, l', cur', hk, rfl, rfl, hkk, hl', hok, hh, htk⟩ := hrel
    by_cases hlt : k < n
    · have hkl : k < l.length := by rw [HX.out]; exact hlt
      have hlen2 : k < (l' ++ l.drop k).length := by rw [List.length_append, hl', List.length_drop]; omega
      have hw1 := sumW_take_succ (f := cntAck) hkl
      have hw2 := sumW_take_le cntAck l (k + 1)
      have hel := hok.each k hlen2
      rw [get_mid hl' hkl hlen2] at hel
      obtain ⟨hgF, hFN⟩ := hok.part hlen2
      have hE0 := Edit.start hok k (Fs.getD k [])
      generalize hcs : seg 3 cur' k = cs at hel hE0
      clear hcs
      have HOE := Hid.mk (fun w' cs' m' he ho => OwnRow.edit (w' := w') (cs := cs') (m' := m') oAck_good hok hlen2 he ho)
      have HS := Hid.mk (fun m' => set_mid hl' hkl m')
      have HH := Hid.mk (fun x q2 hx => hdS_snoc (x := x) (q2 := q2) hh hx)
      have HL' := Hid.mk hl'
      have HT := Hid.mk htk
      generalize hm0 : l[k] = m at *
      generalize Fs.getD k [] = Fk at *
      have HKK := Hid.mk hkk
      have HW1 := Hid.mk hw1
      have hlo : 0 ≤ kk := by omega
      have hup : kk + cntAck m ≤ 70368744177664 := by omega
      have HUP : Hid (kk + (1 + 1 + 1 : Nat) ≤ 70368744177664) := hup
      have HU := HUP.out
      clear hm0 hok hh hl' htk hlen2 hkk hw1 hw2 hup
      obtain ⟨rfl, h0, h1, h2, hFk⟩ := hel
      have q0 := hE0.cellAt (i := 0) (by omega) rfl
      have r0 := hE0.free (k * 3 + 0)
      rw [Nat.add_zero] at q0 r0
      have q1 := hE0.cellAt (i := 1) (by omega) rfl
      have r1 := hE0.free (k * 3 + 1)
      have q2 := hE0.cellAt (i := 2) (by omega) rfl
      have r2 := hE0.free (k * 3 + 2)
      skip
      go_wp2_with fail
      go_roundw
      case rel =>
        have hed := HOE.out _ _ (⟨⟨(kk), (kk + 1)⟩, (kk + 1 + 1)⟩) (((hE0.set (i := 0) (by omega) (.int .i64 (kk))).set (i := 1) (by omega) (.int .i64 (kk + 1))).set (i := 2) (by omega) (.int .i64 (kk + 1 + 1))) ?own
        case own => exact ⟨rfl, (show (Lit.int .i64 (kk)).wf = true from WalkArith.wf_i64 (by omega)), (show (Lit.int .i64 (kk + 1)).wf = true from WalkArith.wf_i64 (by omega)), (show (Lit.int .i64 (kk + 1 + 1)).wf = true from WalkArith.wf_i64 (by omega)), hFk⟩
        obtain ⟨⟨cur2, hrow2⟩, ht2⟩ := hed
        rw [HS.out] at hrow2
        refine ⟨k + 1, _, l' ++ [⟨⟨(kk), (kk + 1)⟩, (kk + 1 + 1)⟩], cur2, by omega, by go_num, by go_num, ?_, by simp [HL'.out], hrow2, HH.out _ _ ?_, HT.out.trans ht2⟩
        · rw [HW1.out]; have h1 := HKK.out; have h2 : cntAck m = 1 + 1 + 1 := rfl; omega
        · exact ⟨(by first | rfl | simp [marks_length]), (by first | rfl | simp [marks_length]), (by first | rfl | simp [marks_length]), (by first | rfl | simp [marks_length])⟩
      case measure => simp [intOf]; omega
    · have hkn : k = n := by omega
      have HT1 : Hid (l.take k = l) := List.take_of_length_le (by rw [HX.out]; omega)
      have HT2 : Hid (l.drop k = []) := List.drop_of_length_le (by rw [HX.out]; omega)
      rw [HT1.out] at hkk
      rw [HT2.out, List.append_nil] at hok
      have hk2 : 0 ≤ kk := by omega
      subst hkk
      go_wp2_with fail
      go_ret
      exact ⟨rfl, l', cur', hok, by rw [hl', hkn], hh, htk⟩

set_option maxHeartbeats 400000 in
theorem markAckS_nil (q : Int) (w : World) :
    Calls Try.prog 39 #[.slice none 0 0, .int .i64 q] w fun e w' => e = .returned (.int .i64 q) ∧ w' = w := by
  go_enter Try.func39, Try.ntmps39
  go_wp2
  refine wp_loop_rounds 1 ?_
  rw [rounds_succ]
  go_wp2
  go_ret
  exact ⟨rfl, rfl⟩

theorem markAckS_any (v : Value) (l : List MAck) (F : List Nat) (q : Int) (w : World) (hq : 0 ≤ q) (hq2 : q + sumW cntAck l ≤ 70368744177664) (ho : ownS 3 123 oAck w v l F) (hN : F.Nodup) :
    Calls Try.prog 39 #[v, .int .i64 q] w fun e w' => e = .returned (.int .i64 (q + sumW cntAck l)) ∧ ∃ l', ownS 3 123 oAck w' v l' F ∧ l'.length = l.length ∧ hdS hdAck l' q (q + sumW cntAck l) ∧ Turn F w w' := by
  rcases ho.open hN with ⟨rfl, rfl, rfl⟩ | ⟨g, cap, cur, Fs, rfl, hrow, rfl⟩
  · refine (markAckS_nil q w).mono ?_
    rintro e w' ⟨rfl, rfl⟩
    exact ⟨by simp [sumW], [], ho, rfl, by simp [hdS, sumW], Turn.refl _ _⟩
  · refine (markAckS_row g cap _ l cur Fs q w rfl hq hq2 hrow).mono ?_
    rintro e w' ⟨rfl, l', cur', hr', hl', hh, ht⟩
    refine ⟨rfl, l', ?_, hl', hh, ht⟩
    have := hr'.shut
    rw [hl'] at this
    exact this

def cntPair (m : MPair) : Nat := 1 + 1 + 1
def hdPair (m : MPair) (q q' : Int) : Prop := m.fKey = mtext (q) ∧ m.fVal = mtext (q + 1) ∧ m.fGone = ((q + 1 + 1) % 3 == 0) ∧ q' = q + 1 + 1 + 1
theorem cntPair_le (m : MPair) : cntPair m ≤ 32 * (1 + wPair m) := by
  unfold cntPair wPair
  omega
theorem hdPair_end (m : MPair) (q q' : Int) (h : hdPair m q q') : q' = q + cntPair m := by
  obtain ⟨_, _, _, rfl⟩ := h
  unfold cntPair
  omega

set_option maxHeartbeats 1000000 in
theorem markPairS_row (g cap n : Nat) (l : List MPair) (cur : Array Value) (Fs : List (List Nat)) (q : Int) (w : World) (hx : l.length = n) (hq : 0 ≤ q) (hq2 : q + sumW cntPair l ≤ 70368744177664) (ho : OwnRow 3 55 oPair w g cap l cur Fs) :
    Calls Try.prog 11 #[.slice (some ⟨g, 0, none⟩) n cap, .int .i64 q] w fun e w' => e = .returned (.int .i64 (q + sumW cntPair l)) ∧ ∃ l' cur', OwnRow 3 55 oPair w' g cap l' cur' Fs ∧ l'.length = n ∧ hdS hdPair l' q (q + sumW cntPair l) ∧ Turn (g :: Fs.flatten) w w' := by
  have HX := Hid.mk hx
  clear hx
  have hcap : n ≤ 9223372036854775807 := by have h1 := ho.le; have h2 := ho.max; have h3 := HX.out; unfold maxLen at h2; omega
  have HO := Hid.mk ho
  clear ho
  go_enter Try.func11, Try.ntmps11
  go_wp2_with fail
  go_loopw [1, 5] (fun kv i wr => ∃ (k : Nat) (kk : Int) (l' : List MPair) (cur' : Array Value), k ≤ n ∧ i = .int .i64 k ∧ kv = .int .i64 kk ∧ kk = q + sumW cntPair (l.take k) ∧ l'.length = k ∧ OwnRow 3 55 oPair wr g cap (l' ++ l.drop k) cur' Fs ∧ hdS hdPair l' q kk ∧ Turn (g :: Fs.flatten) w wr) (fun _ i _ => n - (intOf i).toNat)
  case atStart => exact ⟨0, q, [], cur, Nat.zero_le _, rfl, rfl, by simp [sumW], rfl, by simpa using HO.out, rfl, Turn.refl _ _⟩
  case round =>
    obtain ⟨k, kk, l', cur', hk, rfl, rfl, hkk, hl', hok, hh, htk⟩ := hrel
    by_cases hlt : k < n
    · have hkl : k < l.length := by rw [HX.out]; exact hlt
      have hlen2 : k < (l' ++ l.drop k).length := by rw [List.length_append, hl', List.length_drop]; omega
      have hw1 := sumW_take_succ (f := cntPair) hkl
      have hw2 := sumW_take_le cntPair l (k + 1)
      have hel := hok.each k hlen2
      rw [get_mid hl' hkl hlen2] at hel
      obtain ⟨hgF, hFN⟩ := hok.part hlen2
      have hE0 := Edit.start hok k (Fs.getD k [])
      generalize hcs : seg 3 cur' k = cs at hel hE0
      clear hcs
      have HOE := Hid.mk (fun w' cs' m' he ho => OwnRow.edit (w' := w') (cs := cs') (m' := m') oPair_good hok hlen2 he ho)
      have HS := Hid.mk (fun m' => set_mid hl' hkl m')
      have HH := Hid.mk (fun x q2 hx => hdS_snoc (x := x) (q2 := q2) hh hx)
      have HL' := Hid.mk hl'
      have HT := Hid.mk htk
      generalize hm0 : l[k] = m at *
      generalize Fs.getD k [] = Fk at *
      have HKK := Hid.mk hkk
      have HW1 := Hid.mk hw1
      have hlo : 0 ≤ kk := by omega
      have hup : kk + cntPair m ≤ 70368744177664 := by omega
      have HUP : Hid (kk + (1 + 1 + 1 : Nat) ≤ 70368744177664) := hup
      have HU := HUP.out
      clear hm0 hok hh hl' htk hlen2 hkk hw1 hw2 hup
      obtain ⟨rfl, h0, h1, h2, hFk⟩ := hel
      have q0 := hE0.cellAt (i := 0) (by omega) rfl
      have r0 := hE0.free (k * 3 + 0)
      rw [Nat.add_zero] at q0 r0
      have q1 := hE0.cellAt (i := 1) (by omega) rfl
      have r1 := hE0.free (k * 3 + 1)
      have q2 := hE0.cellAt (i := 2) (by omega) rfl
      have r2 := hE0.free (k * 3 + 2)
      skip
      go_wp2_with fail
      refine (markText_any (kk) _ (by omega) (by omega)).mono ?_
      rintro e w1 ⟨rfl, hb1⟩
      have hE1 := hE0.keep (Turn.ofBelow hb1) hgF
      clear q0 r0
      clear q1 r1
      clear q2 r2
      have q0 := hE1.cellAt (i := 0) (by omega) rfl
      have r0 := hE1.free (k * 3 + 0)
      rw [Nat.add_zero] at q0 r0
      have q1 := hE1.cellAt (i := 1) (by omega) rfl
      have r1 := hE1.free (k * 3 + 1)
      have q2 := hE1.cellAt (i := 2) (by omega) rfl
      have r2 := hE1.free (k * 3 + 2)
      go_wp2_with fail
      refine (markText_any (kk + 1) _ (by omega) (by omega)).mono ?_
      rintro e w2 ⟨rfl, hb2⟩
      have hE2 := (hE1.set (i := 0) (by omega) (.string (mtext (kk)))).keep (Turn.ofBelow hb2) hgF
      clear q0 r0
      clear q1 r1
      clear q2 r2
      have q0 := hE2.cellAt (i := 0) (by omega) rfl
      have r0 := hE2.free (k * 3 + 0)
      rw [Nat.add_zero] at q0 r0
      have q1 := hE2.cellAt (i := 1) (by omega) rfl
      have r1 := hE2.free (k * 3 + 1)
      have q2 := hE2.cellAt (i := 2) (by omega) rfl
      have r2 := hE2.free (k * 3 + 2)
      go_wp2_with fail
      go_roundw
      case rel =>
        have hed := HOE.out _ _ (⟨(mtext (kk)), (mtext (kk + 1)), (((kk + 1 + 1) % 3 == 0))⟩) ((hE2.set (i := 1) (by omega) (.string (mtext (kk + 1)))).set (i := 2) (by omega) (.bool ((kk + 1 + 1) % 3 == 0))) ?own
        case own => exact ⟨rfl, (show (mtext (kk)).size ≤ 9223372036854775807 from Nat.le_trans (mtext_size _) (by omega)), (show (mtext (kk + 1)).size ≤ 9223372036854775807 from Nat.le_trans (mtext_size _) (by omega)), trivial, hFk⟩
        obtain ⟨⟨cur2, hrow2⟩, ht2⟩ := hed
        rw [HS.out] at hrow2
        refine ⟨k + 1, _, l' ++ [⟨(mtext (kk)), (mtext (kk + 1)), (((kk + 1 + 1) % 3 == 0))⟩], cur2, by omega, by go_num, by go_num, ?_, by simp [HL'.out], hrow2, HH.out _ _ ?_, HT.out.trans ht2⟩
        · rw [HW1.out]; have h1 := HKK.out; have h2 : cntPair m = 1 + 1 + 1 := rfl; omega
        · exact ⟨(by first | rfl | simp [marks_length]), (by first | rfl | simp [marks_length]), (by first | rfl | simp [marks_length]), (by first | rfl | simp [marks_length])⟩
      case measure => simp [intOf]; omega
    · have hkn : k = n := by omega
      have HT1 : Hid (l.take k = l) := List.take_of_length_le (by rw [HX.out]; omega)
      have HT2 : Hid (l.drop k = []) := List.drop_of_length_le (by rw [HX.out]; omega)
      rw [HT1.out] at hkk
      rw [HT2.out, List.append_nil] at hok
      have hk2 : 0 ≤ kk := by omega
      subst hkk
      go_wp2_with fail
      go_ret
      exact ⟨rfl, l', cur', hok, by rw [hl', hkn], hh, htk⟩

set_option maxHeartbeats 400000 in
theorem markPairS_nil (q : Int) (w : World) :
    Calls Try.prog 11 #[.slice none 0 0, .int .i64 q] w fun e w' => e = .returned (.int .i64 q) ∧ w' = w := by
  go_enter Try.func11, Try.ntmps11
  go_wp2
  refine wp_loop_rounds 1 ?_
  rw [rounds_succ]
  go_wp2
  go_ret
  exact ⟨rfl, rfl⟩

theorem markPairS_any (v : Value) (l : List MPair) (F : List Nat) (q : Int) (w : World) (hq : 0 ≤ q) (hq2 : q + sumW cntPair l ≤ 70368744177664) (ho : ownS 3 55 oPair w v l F) (hN : F.Nodup) :
    Calls Try.prog 11 #[v, .int .i64 q] w fun e w' => e = .returned (.int .i64 (q + sumW cntPair l)) ∧ ∃ l', ownS 3 55 oPair w' v l' F ∧ l'.length = l.length ∧ hdS hdPair l' q (q + sumW cntPair l) ∧ Turn F w w' := by
  rcases ho.open hN with ⟨rfl, rfl, rfl⟩ | ⟨g, cap, cur, Fs, rfl, hrow, rfl⟩
  · refine (markPairS_nil q w).mono ?_
    rintro e w' ⟨rfl, rfl⟩
    exact ⟨by simp [sumW], [], ho, rfl, by simp [hdS, sumW], Turn.refl _ _⟩
  · refine (markPairS_row g cap _ l cur Fs q w rfl hq hq2 hrow).mono ?_
    rintro e w' ⟨rfl, l', cur', hr', hl', hh, ht⟩
    refine ⟨rfl, l', ?_, hl', hh, ht⟩
    have := hr'.shut
    rw [hl'] at this
    exact this

set_option maxHeartbeats 1000000 in
theorem heldPairS_any (a : Option Addr) (n cap : Nat) (l : List MPair) (q q' : Int) (w : World) (hx : l.length = n) (hr : LeafL 3 rPair w.heap.size w a cap l) (hh : hdS hdPair l q q') (hq : 0 ≤ q) (hq' : q' ≤ 70368744177664) :
    Calls Try.prog 12 #[.slice a n cap, .int .i64 q] w fun e w' => e = .returned (.int .i64 q') ∧ Below w.heap.size w w' := by
  have HX := Hid.mk hx
  clear hx
  have hcap : n ≤ 9223372036854775807 := by have h1 := hr.1; have h2 := hr.2.1; have h3 := HX.out; omega
  replace hr := hr.2.2
  have HH := Hid.mk hh
  clear hh
  go_enter Try.func12, Try.ntmps12
  go_wp2_with fail
  go_loopw [1, 5] (fun kv i wr => ∃ (k : Nat) (kk : Int), k ≤ n ∧ i = .int .i64 k ∧ kv = .int .i64 kk ∧ 0 ≤ kk ∧ hdS hdPair (l.drop k) kk q' ∧ Below w.heap.size w wr) (fun _ i _ => n - (intOf i).toNat)
  case atStart => exact ⟨0, q, Nat.zero_le _, rfl, rfl, hq, by simpa using HH.out, Below.refl _ _⟩
  case round =>
    obtain ⟨k, kk, hk, rfl, rfl, hk0, hh, hbk⟩ := hrel
    by_cases hlt : k < n
    · have hkl : k < l.length := by rw [HX.out]; exact hlt
      rw [List.drop_eq_getElem_cons hkl] at hh
      obtain ⟨q1, hh1, hh2⟩ := hh
      have hqe := hdS_end hdPair_end hh2
      obtain ⟨b1, o1, rfl, hB, cs, hcl, hcell, hrT⟩ := (hr.below rPair_good hbk) k hkl
      have hrT := rPair_good.mono hrT hbk.size
      generalize l[k] = m at *
      obtain ⟨f0, f1, f2, hqf⟩ := hh1
      have hup : kk + 1 + 1 + 1 ≤ 70368744177664 := by omega
      have HR := Hid.mk hh2
      have HQ := Hid.mk hqf
      have hq10 : 0 ≤ q1 := by omega
      clear hh2 hqf hqe HH hr
      obtain ⟨rfl, h0, h1, h2, _⟩ := hrT
      have k0 := hcell 0 _ rfl
      rw [Nat.add_zero] at k0
      have k1 := hcell 1 _ rfl
      have k2 := hcell 2 _ rfl
      rw [f0] at k0
      rw [f1] at k1
      rw [f2] at k2
      clear hcell hcl
      have hy0 : b1 < wr.heap.size := Nat.lt_of_lt_of_le hB hbk.size
      go_wp2_with fail
      go_region_with (go_at_call 27; refine (markText_any (kk) _ (by omega) (by omega)).mono ?_; rintro e w1 ⟨rfl, hb1⟩; have x0 : w1.cell? ⟨b1, o1 + k * 3, none⟩ = _ := (hb1.cell (p := ⟨b1, o1 + k * 3, none⟩) (by first | exact hy0 | simpa using hy0)).trans k0)
      all_goals
        have hB1 : Below wr.heap.size wr w1 := Below.trans (by repeat (first | with_reducible exact Below.refl _ _ | with_reducible assumption | refine Below.drew ?_ | refine Below.alloc ?_ (by simp) _)) (hb1.mono (by first | (with_reducible assumption) | (first | exact hB1.size | exact hB2.size | exact hB3.size) | simp))
        have hy1 : b1 < w1.heap.size := Nat.lt_of_lt_of_le hy0 hB1.size
        replace k0 : w1.cell? ⟨b1, o1 + k * 3, none⟩ = _ := (hb1.cell (p := ⟨b1, o1 + k * 3, none⟩) (by first | exact hy0 | simpa using hy0)).trans k0
        replace k1 : w1.cell? ⟨b1, o1 + k * 3 + 1, none⟩ = _ := (hb1.cell (p := ⟨b1, o1 + k * 3 + 1, none⟩) (by first | exact hy0 | simpa using hy0)).trans k1
        replace k2 : w1.cell? ⟨b1, o1 + k * 3 + 2, none⟩ = _ := (hb1.cell (p := ⟨b1, o1 + k * 3 + 2, none⟩) (by first | exact hy0 | simpa using hy0)).trans k2
        go_wp2_with fail
        go_region_with (go_at_call 27; refine (markText_any (kk + 1) _ (by omega) (by omega)).mono ?_; rintro e w2 ⟨rfl, hb2⟩; have x1 : w2.cell? ⟨b1, o1 + k * 3 + 1, none⟩ = _ := (hb2.cell (p := ⟨b1, o1 + k * 3 + 1, none⟩) (by first | exact hy1 | simpa using hy1)).trans k1)
        all_goals
          have hB2 : Below wr.heap.size wr w2 := Below.trans (by repeat (first | with_reducible exact Below.refl _ _ | with_reducible assumption | refine Below.drew ?_ | refine Below.alloc ?_ (by simp) _)) (hb2.mono (by first | (with_reducible assumption) | (first | exact hB1.size | exact hB2.size | exact hB3.size) | simp))
          have hy2 : b1 < w2.heap.size := Nat.lt_of_lt_of_le hy0 hB2.size
          replace k1 : w2.cell? ⟨b1, o1 + k * 3 + 1, none⟩ = _ := (hb2.cell (p := ⟨b1, o1 + k * 3 + 1, none⟩) (by first | exact hy1 | simpa using hy1)).trans k1
          replace k2 : w2.cell? ⟨b1, o1 + k * 3 + 2, none⟩ = _ := (hb2.cell (p := ⟨b1, o1 + k * 3 + 2, none⟩) (by first | exact hy1 | simpa using hy1)).trans k2
          go_wp2_with fail
          go_roundw
          case rel => exact ⟨k + 1, q1, by omega, by go_num, by rw [HQ.out] <;> go_num, hq10, HR.out, (Below.trans hbk (Below.mono (show Below wr.heap.size wr _ from by repeat (first | with_reducible exact Below.refl _ _ | with_reducible assumption | refine Below.drew ?_ | refine Below.alloc ?_ (by simp) _)) hbk.size))⟩
          case measure => simp [intOf]; omega
    · have hkn : k = n := by omega
      have HT2 : Hid (l.drop k = []) := List.drop_of_length_le (by rw [HX.out]; omega)
      rw [HT2.out] at hh
      have hqk : q' = kk := hh
      subst hqk
      go_wp2_with fail
      go_ret
      exact ⟨rfl, hbk⟩

def cntAnswer (m : MAnswer) : Nat := 1 + 1 + 1 + 1
def hdAnswer (m : MAnswer) (q q' : Int) : Prop := m.fD.fR = q ∧ m.fD.fN = q + 1 ∧ m.fVal = mtext (q + 1 + 1) ∧ m.fHas = ((q + 1 + 1 + 1) % 3 == 0) ∧ q' = q + 1 + 1 + 1 + 1
theorem cntAnswer_le (m : MAnswer) : cntAnswer m ≤ 32 * (1 + wAnswer m) := by
  unfold cntAnswer wAnswer
  omega
theorem hdAnswer_end (m : MAnswer) (q q' : Int) (h : hdAnswer m q q') : q' = q + cntAnswer m := by
  obtain ⟨_, _, _, _, rfl⟩ := h
  unfold cntAnswer
  omega

set_option maxHeartbeats 1000000 in
theorem markAnswerS_row (g cap n : Nat) (l : List MAnswer) (cur : Array Value) (Fs : List (List Nat)) (q : Int) (w : World) (hx : l.length = n) (hq : 0 ≤ q) (hq2 : q + sumW cntAnswer l ≤ 70368744177664) (ho : OwnRow 4 125 oAnswer w g cap l cur Fs) :
    Calls Try.prog 41 #[.slice (some ⟨g, 0, none⟩) n cap, .int .i64 q] w fun e w' => e = .returned (.int .i64 (q + sumW cntAnswer l)) ∧ ∃ l' cur', OwnRow 4 125 oAnswer w' g cap l' cur' Fs ∧ l'.length = n ∧ hdS hdAnswer l' q (q + sumW cntAnswer l) ∧ Turn (g :: Fs.flatten) w w' := by
  have HX := Hid.mk hx
  clear hx
  have hcap : n ≤ 9223372036854775807 := by have h1 := ho.le; have h2 := ho.max; have h3 := HX.out; unfold maxLen at h2; omega
  have HO := Hid.mk ho
  clear ho
  go_enter Try.func41, Try.ntmps41
  go_wp2_with fail
  go_loopw [1, 5] (fun kv i wr => ∃ (k : Nat) (kk : Int) (l' : List MAnswer) (cur' : Array Value), k ≤ n ∧ i = .int .i64 k ∧ kv = .int .i64 kk ∧ kk = q + sumW cntAnswer (l.take k) ∧ l'.length = k ∧ OwnRow 4 125 oAnswer wr g cap (l' ++ l.drop k) cur' Fs ∧ hdS hdAnswer l' q kk ∧ Turn (g :: Fs.flatten) w wr) (fun _ i _ => n - (intOf i).toNat)
  case atStart => exact ⟨0, q, [], cur, Nat.zero_le _, rfl, rfl, by simp [sumW], rfl, by simpa using HO.out, rfl, Turn.refl _ _⟩
  case round =>
    obtain ⟨k, kk, l', cur', hk, rfl, rfl, hkk, hl', hok, hh, htk⟩ := hrel
    by_cases hlt : k < n
    · have hkl : k < l.length := by rw [HX.out]; exact hlt
      have hlen2 : k < (l' ++ l.drop k).length := by rw [List.length_append, hl', List.length_drop]; omega
      have hw1 := sumW_take_succ (f := cntAnswer) hkl
      have hw2 := sumW_take_le cntAnswer l (k + 1)
      have hel := hok.each k hlen2
      rw [get_mid hl' hkl hlen2] at hel
      obtain ⟨hgF, hFN⟩ := hok.part hlen2
      have hE0 := Edit.start hok k (Fs.getD k [])
      generalize hcs : seg 4 cur' k = cs at hel hE0
      clear hcs
      have HOE := Hid.mk (fun w' cs' m' he ho => OwnRow.edit (w' := w') (cs := cs') (m' := m') oAnswer_good hok hlen2 he ho)
      have HS := Hid.mk (fun m' => set_mid hl' hkl m')
      have HH := Hid.mk (fun x q2 hx => hdS_snoc (x := x) (q2 := q2) hh hx)
      have HL' := Hid.mk hl'
      have HT := Hid.mk htk
      generalize hm0 : l[k] = m at *
      generalize Fs.getD k [] = Fk at *
      have HKK := Hid.mk hkk
      have HW1 := Hid.mk hw1
      have hlo : 0 ≤ kk := by omega
      have hup : kk + cntAnswer m ≤ 70368744177664 := by omega
      have HUP : Hid (kk + (1 + 1 + 1 + 1 : Nat) ≤ 70368744177664) := hup
      have HU := HUP.out
      clear hm0 hok hh hl' htk hlen2 hkk hw1 hw2 hup
      obtain ⟨rfl, h0, h1, h2, h3, hFk⟩ := hel
      have q0 := hE0.cellAt (i := 0) (by omega) rfl
      have r0 := hE0.free (k * 4 + 0)
      rw [Nat.add_zero] at q0 r0
      have q1 := hE0.cellAt (i := 1) (by omega) rfl
      have r1 := hE0.free (k * 4 + 1)
      have q2 := hE0.cellAt (i := 2) (by omega) rfl
      have r2 := hE0.free (k * 4 + 2)
      have q3 := hE0.cellAt (i := 3) (by omega) rfl
      have r3 := hE0.free (k * 4 + 3)
      skip
      go_wp2_with fail
      refine (markText_any (kk + 1 + 1) _ (by omega) (by omega)).mono ?_
      rintro e w1 ⟨rfl, hb1⟩
      have hE1 := ((hE0.set (i := 0) (by omega) (.int .i64 (kk))).set (i := 1) (by omega) (.int .i64 (kk + 1))).keep (Turn.ofBelow hb1) hgF
      clear q0 r0
      clear q1 r1
      clear q2 r2
      clear q3 r3
      have q0 := hE1.cellAt (i := 0) (by omega) rfl
      have r0 := hE1.free (k * 4 + 0)
      rw [Nat.add_zero] at q0 r0
      have q1 := hE1.cellAt (i := 1) (by omega) rfl
      have r1 := hE1.free (k * 4 + 1)
      have q2 := hE1.cellAt (i := 2) (by omega) rfl
      have r2 := hE1.free (k * 4 + 2)
      have q3 := hE1.cellAt (i := 3) (by omega) rfl
      have r3 := hE1.free (k * 4 + 3)
      go_wp2_with fail
      go_roundw
      case rel =>
        have hed := HOE.out _ _ (⟨⟨(kk), (kk + 1)⟩, (mtext (kk + 1 + 1)), (((kk + 1 + 1 + 1) % 3 == 0))⟩) ((hE1.set (i := 2) (by omega) (.string (mtext (kk + 1 + 1)))).set (i := 3) (by omega) (.bool ((kk + 1 + 1 + 1) % 3 == 0))) ?own
        case own => exact ⟨rfl, (show (Lit.int .i64 (kk)).wf = true from WalkArith.wf_i64 (by omega)), (show (Lit.int .i64 (kk + 1)).wf = true from WalkArith.wf_i64 (by omega)), (show (mtext (kk + 1 + 1)).size ≤ 9223372036854775807 from Nat.le_trans (mtext_size _) (by omega)), trivial, hFk⟩
        obtain ⟨⟨cur2, hrow2⟩, ht2⟩ := hed
        rw [HS.out] at hrow2
        refine ⟨k + 1, _, l' ++ [⟨⟨(kk), (kk + 1)⟩, (mtext (kk + 1 + 1)), (((kk + 1 + 1 + 1) % 3 == 0))⟩], cur2, by omega, by go_num, by go_num, ?_, by simp [HL'.out], hrow2, HH.out _ _ ?_, HT.out.trans ht2⟩
        · rw [HW1.out]; have h1 := HKK.out; have h2 : cntAnswer m = 1 + 1 + 1 + 1 := rfl; omega
        · exact ⟨(by first | rfl | simp [marks_length]), (by first | rfl | simp [marks_length]), (by first | rfl | simp [marks_length]), (by first | rfl | simp [marks_length]), (by first | rfl | simp [marks_length])⟩
      case measure => simp [intOf]; omega
    · have hkn : k = n := by omega
      have HT1 : Hid (l.take k = l) := List.take_of_length_le (by rw [HX.out]; omega)
      have HT2 : Hid (l.drop k = []) := List.drop_of_length_le (by rw [HX.out]; omega)
      rw [HT1.out] at hkk
      rw [HT2.out, List.append_nil] at hok
      have hk2 : 0 ≤ kk := by omega
      subst hkk
      go_wp2_with fail
      go_ret
      exact ⟨rfl, l', cur', hok, by rw [hl', hkn], hh, htk⟩

set_option maxHeartbeats 400000 in
theorem markAnswerS_nil (q : Int) (w : World) :
    Calls Try.prog 41 #[.slice none 0 0, .int .i64 q] w fun e w' => e = .returned (.int .i64 q) ∧ w' = w := by
  go_enter Try.func41, Try.ntmps41
  go_wp2
  refine wp_loop_rounds 1 ?_
  rw [rounds_succ]
  go_wp2
  go_ret
  exact ⟨rfl, rfl⟩

theorem markAnswerS_any (v : Value) (l : List MAnswer) (F : List Nat) (q : Int) (w : World) (hq : 0 ≤ q) (hq2 : q + sumW cntAnswer l ≤ 70368744177664) (ho : ownS 4 125 oAnswer w v l F) (hN : F.Nodup) :
    Calls Try.prog 41 #[v, .int .i64 q] w fun e w' => e = .returned (.int .i64 (q + sumW cntAnswer l)) ∧ ∃ l', ownS 4 125 oAnswer w' v l' F ∧ l'.length = l.length ∧ hdS hdAnswer l' q (q + sumW cntAnswer l) ∧ Turn F w w' := by
  rcases ho.open hN with ⟨rfl, rfl, rfl⟩ | ⟨g, cap, cur, Fs, rfl, hrow, rfl⟩
  · refine (markAnswerS_nil q w).mono ?_
    rintro e w' ⟨rfl, rfl⟩
    exact ⟨by simp [sumW], [], ho, rfl, by simp [hdS, sumW], Turn.refl _ _⟩
  · refine (markAnswerS_row g cap _ l cur Fs q w rfl hq hq2 hrow).mono ?_
    rintro e w' ⟨rfl, l', cur', hr', hl', hh, ht⟩
    refine ⟨rfl, l', ?_, hl', hh, ht⟩
    have := hr'.shut
    rw [hl'] at this
    exact this

def cntReplica (m : MReplica) : Nat := 1 + 1 + 1 + sumW cntRec m.fRecs + sumW cntAck m.fAcks + sumW cntDot m.fDone + sumW cntPair m.fMap + sumW cntAnswer m.fSaid
def hdReplica (m : MReplica) (q q' : Int) : Prop := m.fId = q ∧ m.fN = q + 1 ∧ m.fNext = q + 1 + 1 ∧ hdS hdRec m.fRecs (q + 1 + 1 + 1) (q + 1 + 1 + 1 + (sumW cntRec m.fRecs : Int)) ∧ hdS hdAck m.fAcks (q + 1 + 1 + 1 + (sumW cntRec m.fRecs : Int)) (q + 1 + 1 + 1 + (sumW cntRec m.fRecs : Int) + (sumW cntAck m.fAcks : Int)) ∧ hdS hdDot m.fDone (q + 1 + 1 + 1 + (sumW cntRec m.fRecs : Int) + (sumW cntAck m.fAcks : Int)) (q + 1 + 1 + 1 + (sumW cntRec m.fRecs : Int) + (sumW cntAck m.fAcks : Int) + (sumW cntDot m.fDone : Int)) ∧ hdS hdPair m.fMap (q + 1 + 1 + 1 + (sumW cntRec m.fRecs : Int) + (sumW cntAck m.fAcks : Int) + (sumW cntDot m.fDone : Int)) (q + 1 + 1 + 1 + (sumW cntRec m.fRecs : Int) + (sumW cntAck m.fAcks : Int) + (sumW cntDot m.fDone : Int) + (sumW cntPair m.fMap : Int)) ∧ hdS hdAnswer m.fSaid (q + 1 + 1 + 1 + (sumW cntRec m.fRecs : Int) + (sumW cntAck m.fAcks : Int) + (sumW cntDot m.fDone : Int) + (sumW cntPair m.fMap : Int)) (q + 1 + 1 + 1 + (sumW cntRec m.fRecs : Int) + (sumW cntAck m.fAcks : Int) + (sumW cntDot m.fDone : Int) + (sumW cntPair m.fMap : Int) + (sumW cntAnswer m.fSaid : Int)) ∧ q' = q + 1 + 1 + 1 + (sumW cntRec m.fRecs : Int) + (sumW cntAck m.fAcks : Int) + (sumW cntDot m.fDone : Int) + (sumW cntPair m.fMap : Int) + (sumW cntAnswer m.fSaid : Int)
theorem cntReplica_le (m : MReplica) : cntReplica m ≤ 32 * (1 + wReplica m) := by
  unfold cntReplica wReplica
  have e3 := sumW_cnt_le cntRec_le m.fRecs
  have e4 := sumW_cnt_le cntAck_le m.fAcks
  have e5 := sumW_cnt_le cntDot_le m.fDone
  have e6 := sumW_cnt_le cntPair_le m.fMap
  have e7 := sumW_cnt_le cntAnswer_le m.fSaid
  omega
theorem hdReplica_end (m : MReplica) (q q' : Int) (h : hdReplica m q q') : q' = q + cntReplica m := by
  obtain ⟨_, _, _, _, _, _, _, _, rfl⟩ := h
  unfold cntReplica
  omega

set_option maxHeartbeats 1000000 in
theorem markReplicaS_row (g cap n : Nat) (l : List MReplica) (cur : Array Value) (Fs : List (List Nat)) (q : Int) (w : World) (hx : l.length = n) (hq : 0 ≤ q) (hq2 : q + sumW cntReplica l ≤ 70368744177664) (ho : OwnRow 8 49 oReplica w g cap l cur Fs) :
    Calls Try.prog 24 #[.slice (some ⟨g, 0, none⟩) n cap, .int .i64 q] w fun e w' => e = .returned (.int .i64 (q + sumW cntReplica l)) ∧ ∃ l' cur', OwnRow 8 49 oReplica w' g cap l' cur' Fs ∧ l'.length = n ∧ hdS hdReplica l' q (q + sumW cntReplica l) ∧ Turn (g :: Fs.flatten) w w' := by
  have HX := Hid.mk hx
  clear hx
  have hcap : n ≤ 9223372036854775807 := by have h1 := ho.le; have h2 := ho.max; have h3 := HX.out; unfold maxLen at h2; omega
  have HO := Hid.mk ho
  clear ho
  go_enter Try.func24, Try.ntmps24
  go_wp2_with fail
  go_loopw [1, 5] (fun kv i wr => ∃ (k : Nat) (kk : Int) (l' : List MReplica) (cur' : Array Value), k ≤ n ∧ i = .int .i64 k ∧ kv = .int .i64 kk ∧ kk = q + sumW cntReplica (l.take k) ∧ l'.length = k ∧ OwnRow 8 49 oReplica wr g cap (l' ++ l.drop k) cur' Fs ∧ hdS hdReplica l' q kk ∧ Turn (g :: Fs.flatten) w wr) (fun _ i _ => n - (intOf i).toNat)
  case atStart => exact ⟨0, q, [], cur, Nat.zero_le _, rfl, rfl, by simp [sumW], rfl, by simpa using HO.out, rfl, Turn.refl _ _⟩
  case round =>
    obtain ⟨k, kk, l', cur', hk, rfl, rfl, hkk, hl', hok, hh, htk⟩ := hrel
    by_cases hlt : k < n
    · have hkl : k < l.length := by rw [HX.out]; exact hlt
      have hlen2 : k < (l' ++ l.drop k).length := by rw [List.length_append, hl', List.length_drop]; omega
      have hw1 := sumW_take_succ (f := cntReplica) hkl
      have hw2 := sumW_take_le cntReplica l (k + 1)
      have hel := hok.each k hlen2
      rw [get_mid hl' hkl hlen2] at hel
      obtain ⟨hgF, hFN⟩ := hok.part hlen2
      have hE0 := Edit.start hok k (Fs.getD k [])
      generalize hcs : seg 8 cur' k = cs at hel hE0
      clear hcs
      have HOE := Hid.mk (fun w' cs' m' he ho => OwnRow.edit (w' := w') (cs := cs') (m' := m') oReplica_good hok hlen2 he ho)
      have HS := Hid.mk (fun m' => set_mid hl' hkl m')
      have HH := Hid.mk (fun x q2 hx => hdS_snoc (x := x) (q2 := q2) hh hx)
      have HL' := Hid.mk hl'
      have HT := Hid.mk htk
      generalize hm0 : l[k] = m at *
      generalize Fs.getD k [] = Fk at *
      have HKK := Hid.mk hkk
      have HW1 := Hid.mk hw1
      have hlo : 0 ≤ kk := by omega
      have hup : kk + cntReplica m ≤ 70368744177664 := by omega
      have HUP : Hid (kk + (1 + 1 + 1 + sumW cntRec m.fRecs + sumW cntAck m.fAcks + sumW cntDot m.fDone + sumW cntPair m.fMap + sumW cntAnswer m.fSaid : Nat) ≤ 70368744177664) := hup
      have HU := HUP.out
      clear hm0 hok hh hl' htk hlen2 hkk hw1 hw2 hup
      obtain ⟨v3, F3, v4, F4, v5, F5, v6, F6, v7, F7, rfl, h0, h1, h2, h3, h4, h5, h6, h7, hFk⟩ := hel
      obtain ⟨a3, c3, rfl, _⟩ := ownS.read oRec_good h3
      obtain ⟨a4, c4, rfl, _⟩ := ownS.read oAck_good h4
      obtain ⟨a5, c5, rfl, _⟩ := ownS.read oDot_good h5
      obtain ⟨a6, c6, rfl, _⟩ := ownS.read oPair_good h6
      obtain ⟨a7, c7, rfl, _⟩ := ownS.read oAnswer_good h7
      have hN0 := hFN
      rw [hFk, List.append_nil] at hN0
      obtain ⟨hP3, hN7, hX7⟩ := List.nodup_append.1 hN0
      have hD3_7 : ∀ b, b ∈ F3 → b ∉ F7 := fun b h1 h2 => hX7 b (by simp [h1]) b h2 rfl
      have hD7_3 : ∀ b, b ∈ F7 → b ∉ F3 := fun b h1 h2 => hX7 b (by simp [h2]) b h1 rfl
      have hD4_7 : ∀ b, b ∈ F4 → b ∉ F7 := fun b h1 h2 => hX7 b (by simp [h1]) b h2 rfl
      have hD7_4 : ∀ b, b ∈ F7 → b ∉ F4 := fun b h1 h2 => hX7 b (by simp [h2]) b h1 rfl
      have hD5_7 : ∀ b, b ∈ F5 → b ∉ F7 := fun b h1 h2 => hX7 b (by simp [h1]) b h2 rfl
      have hD7_5 : ∀ b, b ∈ F7 → b ∉ F5 := fun b h1 h2 => hX7 b (by simp [h2]) b h1 rfl
      have hD6_7 : ∀ b, b ∈ F6 → b ∉ F7 := fun b h1 h2 => hX7 b (by simp [h1]) b h2 rfl
      have hD7_6 : ∀ b, b ∈ F7 → b ∉ F6 := fun b h1 h2 => hX7 b (by simp [h2]) b h1 rfl
      obtain ⟨hP2, hN6, hX6⟩ := List.nodup_append.1 hP3
      have hD3_6 : ∀ b, b ∈ F3 → b ∉ F6 := fun b h1 h2 => hX6 b (by simp [h1]) b h2 rfl
      have hD6_3 : ∀ b, b ∈ F6 → b ∉ F3 := fun b h1 h2 => hX6 b (by simp [h2]) b h1 rfl
      have hD4_6 : ∀ b, b ∈ F4 → b ∉ F6 := fun b h1 h2 => hX6 b (by simp [h1]) b h2 rfl
      have hD6_4 : ∀ b, b ∈ F6 → b ∉ F4 := fun b h1 h2 => hX6 b (by simp [h2]) b h1 rfl
      have hD5_6 : ∀ b, b ∈ F5 → b ∉ F6 := fun b h1 h2 => hX6 b (by simp [h1]) b h2 rfl
      have hD6_5 : ∀ b, b ∈ F6 → b ∉ F5 := fun b h1 h2 => hX6 b (by simp [h2]) b h1 rfl
      obtain ⟨hP1, hN5, hX5⟩ := List.nodup_append.1 hP2
      have hD3_5 : ∀ b, b ∈ F3 → b ∉ F5 := fun b h1 h2 => hX5 b (by simp [h1]) b h2 rfl
      have hD5_3 : ∀ b, b ∈ F5 → b ∉ F3 := fun b h1 h2 => hX5 b (by simp [h2]) b h1 rfl
      have hD4_5 : ∀ b, b ∈ F4 → b ∉ F5 := fun b h1 h2 => hX5 b (by simp [h1]) b h2 rfl
      have hD5_4 : ∀ b, b ∈ F5 → b ∉ F4 := fun b h1 h2 => hX5 b (by simp [h2]) b h1 rfl
      obtain ⟨hP0, hN4, hX4⟩ := List.nodup_append.1 hP1
      have hD3_4 : ∀ b, b ∈ F3 → b ∉ F4 := fun b h1 h2 => hX4 b (by simp [h1]) b h2 rfl
      have hD4_3 : ∀ b, b ∈ F4 → b ∉ F3 := fun b h1 h2 => hX4 b (by simp [h2]) b h1 rfl
      have hN3 := hP0
      clear hN0 hP0 hX4 hP1 hX5 hP2 hX6 hP3 hX7
      have q0 := hE0.cellAt (i := 0) (by omega) rfl
      have r0 := hE0.free (k * 8 + 0)
      rw [Nat.add_zero] at q0 r0
      have q1 := hE0.cellAt (i := 1) (by omega) rfl
      have r1 := hE0.free (k * 8 + 1)
      have q2 := hE0.cellAt (i := 2) (by omega) rfl
      have r2 := hE0.free (k * 8 + 2)
      have q3 := hE0.cellAt (i := 3) (by omega) rfl
      have r3 := hE0.free (k * 8 + 3)
      have q4 := hE0.cellAt (i := 4) (by omega) rfl
      have r4 := hE0.free (k * 8 + 4)
      have q5 := hE0.cellAt (i := 5) (by omega) rfl
      have r5 := hE0.free (k * 8 + 5)
      have q6 := hE0.cellAt (i := 6) (by omega) rfl
      have r6 := hE0.free (k * 8 + 6)
      have q7 := hE0.cellAt (i := 7) (by omega) rfl
      have r7 := hE0.free (k * 8 + 7)
      skip
      have hC := fun (W : World) (ht : Turn [g] wr W) => markRecS_any _ m.fRecs F3 (kk + 1 + 1 + 1) W (by omega) (by omega) (ownS.frame oRec_good h3 (fun b hb => ht.block b (ownS.lt oRec_good h3 b hb) (fun hm => by simp at hm; exact hgF (by rw [hFk, hm.symm]; simp [hb])))) hN3
      go_wp2_with fail
      refine Calls.mono (hC _ ?_) ?_
      · repeat (first | with_reducible exact Turn.refl _ _ | refine Turn.setCell ?_ (by simp) _)
      clear hC
      rintro e w1 ⟨rfl, l1, hown1, hll1, hh1, ht1⟩
      have hE1 := (((hE0.set (i := 0) (by omega) (.int .i64 (kk))).set (i := 1) (by omega) (.int .i64 (kk + 1))).set (i := 2) (by omega) (.int .i64 (kk + 1 + 1))).keep (ht1.mono (fun b hb => by rw [hFk]; simp [hb])) hgF
      clear q0 r0
      clear q1 r1
      clear q2 r2
      clear q3 r3
      clear q4 r4
      clear q5 r5
      clear q6 r6
      clear q7 r7
      have q0 := hE1.cellAt (i := 0) (by omega) rfl
      have r0 := hE1.free (k * 8 + 0)
      rw [Nat.add_zero] at q0 r0
      have q1 := hE1.cellAt (i := 1) (by omega) rfl
      have r1 := hE1.free (k * 8 + 1)
      have q2 := hE1.cellAt (i := 2) (by omega) rfl
      have r2 := hE1.free (k * 8 + 2)
      have q3 := hE1.cellAt (i := 3) (by omega) rfl
      have r3 := hE1.free (k * 8 + 3)
      have q4 := hE1.cellAt (i := 4) (by omega) rfl
      have r4 := hE1.free (k * 8 + 4)
      have q5 := hE1.cellAt (i := 5) (by omega) rfl
      have r5 := hE1.free (k * 8 + 5)
      have q6 := hE1.cellAt (i := 6) (by omega) rfl
      have r6 := hE1.free (k * 8 + 6)
      have q7 := hE1.cellAt (i := 7) (by omega) rfl
      have r7 := hE1.free (k * 8 + 7)
      have hC := fun (W : World) (ht : Turn (g :: (F3 ++ [])) wr W) => markAckS_any _ m.fAcks F4 (kk + 1 + 1 + 1 + (sumW cntRec m.fRecs : Int)) W (by omega) (by omega) (ownS.frame oAck_good h4 (fun b hb => ht.block b (ownS.lt oAck_good h4 b hb) (fun hm => by simp only [List.mem_cons, List.append_nil, List.mem_append] at hm; rcases hm with hm | hm <;> first | exact hgF (by rw [hFk, hm.symm]; simp [hb]) | exact hD4_3 b hb hm))) hN4
      go_wp2_with fail
      refine Calls.mono (hC _ ?_) ?_
      · repeat (first | with_reducible exact Turn.refl _ _ | refine Turn.setCell ?_ (by simp) _ | with_reducible refine Turn.trans ?_ (ht1.mono (fun b hb => by simp [hb])))
      clear hC
      rintro e w2 ⟨rfl, l2, hown2, hll2, hh2, ht2⟩
      have hE2 := hE1.keep (ht2.mono (fun b hb => by rw [hFk]; simp [hb])) hgF
      clear q0 r0
      clear q1 r1
      clear q2 r2
      clear q3 r3
      clear q4 r4
      clear q5 r5
      clear q6 r6
      clear q7 r7
      have q0 := hE2.cellAt (i := 0) (by omega) rfl
      have r0 := hE2.free (k * 8 + 0)
      rw [Nat.add_zero] at q0 r0
      have q1 := hE2.cellAt (i := 1) (by omega) rfl
      have r1 := hE2.free (k * 8 + 1)
      have q2 := hE2.cellAt (i := 2) (by omega) rfl
      have r2 := hE2.free (k * 8 + 2)
      have q3 := hE2.cellAt (i := 3) (by omega) rfl
      have r3 := hE2.free (k * 8 + 3)
      have q4 := hE2.cellAt (i := 4) (by omega) rfl
      have r4 := hE2.free (k * 8 + 4)
      have q5 := hE2.cellAt (i := 5) (by omega) rfl
      have r5 := hE2.free (k * 8 + 5)
      have q6 := hE2.cellAt (i := 6) (by omega) rfl
      have r6 := hE2.free (k * 8 + 6)
      have q7 := hE2.cellAt (i := 7) (by omega) rfl
      have r7 := hE2.free (k * 8 + 7)
      have hC := fun (W : World) (ht : Turn (g :: (F3 ++ F4 ++ [])) wr W) => markDotS_any _ m.fDone F5 (kk + 1 + 1 + 1 + (sumW cntRec m.fRecs : Int) + (sumW cntAck m.fAcks : Int)) W (by omega) (by omega) (ownS.frame oDot_good h5 (fun b hb => ht.block b (ownS.lt oDot_good h5 b hb) (fun hm => by simp only [List.mem_cons, List.append_nil, List.mem_append] at hm; rcases hm with hm | (hm | hm) <;> first | exact hgF (by rw [hFk, hm.symm]; simp [hb]) | exact hD5_3 b hb hm | exact hD5_4 b hb hm))) hN5
      go_wp2_with fail
      refine Calls.mono (hC _ ?_) ?_
      · repeat (first | with_reducible exact Turn.refl _ _ | refine Turn.setCell ?_ (by simp) _ | with_reducible refine Turn.trans ?_ (ht1.mono (fun b hb => by simp [hb])) | with_reducible refine Turn.trans ?_ (ht2.mono (fun b hb => by simp [hb])))
      clear hC
      rintro e w3 ⟨rfl, l3, hown3, hll3, hh3, ht3⟩
      have hE3 := hE2.keep (ht3.mono (fun b hb => by rw [hFk]; simp [hb])) hgF
      clear q0 r0
      clear q1 r1
      clear q2 r2
      clear q3 r3
      clear q4 r4
      clear q5 r5
      clear q6 r6
      clear q7 r7
      have q0 := hE3.cellAt (i := 0) (by omega) rfl
      have r0 := hE3.free (k * 8 + 0)
      rw [Nat.add_zero] at q0 r0
      have q1 := hE3.cellAt (i := 1) (by omega) rfl
      have r1 := hE3.free (k * 8 + 1)
      have q2 := hE3.cellAt (i := 2) (by omega) rfl
      have r2 := hE3.free (k * 8 + 2)
      have q3 := hE3.cellAt (i := 3) (by omega) rfl
      have r3 := hE3.free (k * 8 + 3)
      have q4 := hE3.cellAt (i := 4) (by omega) rfl
      have r4 := hE3.free (k * 8 + 4)
      have q5 := hE3.cellAt (i := 5) (by omega) rfl
      have r5 := hE3.free (k * 8 + 5)
      have q6 := hE3.cellAt (i := 6) (by omega) rfl
      have r6 := hE3.free (k * 8 + 6)
      have q7 := hE3.cellAt (i := 7) (by omega) rfl
      have r7 := hE3.free (k * 8 + 7)
      have hC := fun (W : World) (ht : Turn (g :: (F3 ++ F4 ++ F5 ++ [])) wr W) => markPairS_any _ m.fMap F6 (kk + 1 + 1 + 1 + (sumW cntRec m.fRecs : Int) + (sumW cntAck m.fAcks : Int) + (sumW cntDot m.fDone : Int)) W (by omega) (by omega) (ownS.frame oPair_good h6 (fun b hb => ht.block b (ownS.lt oPair_good h6 b hb) (fun hm => by simp only [List.mem_cons, List.append_nil, List.mem_append] at hm; rcases hm with hm | ((hm | hm) | hm) <;> first | exact hgF (by rw [hFk, hm.symm]; simp [hb]) | exact hD6_3 b hb hm | exact hD6_4 b hb hm | exact hD6_5 b hb hm))) hN6
      go_wp2_with fail
      refine Calls.mono (hC _ ?_) ?_
      · repeat (first | with_reducible exact Turn.refl _ _ | refine Turn.setCell ?_ (by simp) _ | with_reducible refine Turn.trans ?_ (ht1.mono (fun b hb => by simp [hb])) | with_reducible refine Turn.trans ?_ (ht2.mono (fun b hb => by simp [hb])) | with_reducible refine Turn.trans ?_ (ht3.mono (fun b hb => by simp [hb])))
      clear hC
      rintro e w4 ⟨rfl, l4, hown4, hll4, hh4, ht4⟩
      have hE4 := hE3.keep (ht4.mono (fun b hb => by rw [hFk]; simp [hb])) hgF
      clear q0 r0
      clear q1 r1
      clear q2 r2
      clear q3 r3
      clear q4 r4
      clear q5 r5
      clear q6 r6
      clear q7 r7
      have q0 := hE4.cellAt (i := 0) (by omega) rfl
      have r0 := hE4.free (k * 8 + 0)
      rw [Nat.add_zero] at q0 r0
      have q1 := hE4.cellAt (i := 1) (by omega) rfl
      have r1 := hE4.free (k * 8 + 1)
      have q2 := hE4.cellAt (i := 2) (by omega) rfl
      have r2 := hE4.free (k * 8 + 2)
      have q3 := hE4.cellAt (i := 3) (by omega) rfl
      have r3 := hE4.free (k * 8 + 3)
      have q4 := hE4.cellAt (i := 4) (by omega) rfl
      have r4 := hE4.free (k * 8 + 4)
      have q5 := hE4.cellAt (i := 5) (by omega) rfl
      have r5 := hE4.free (k * 8 + 5)
      have q6 := hE4.cellAt (i := 6) (by omega) rfl
      have r6 := hE4.free (k * 8 + 6)
      have q7 := hE4.cellAt (i := 7) (by omega) rfl
      have r7 := hE4.free (k * 8 + 7)
      have hC := fun (W : World) (ht : Turn (g :: (F3 ++ F4 ++ F5 ++ F6 ++ [])) wr W) => markAnswerS_any _ m.fSaid F7 (kk + 1 + 1 + 1 + (sumW cntRec m.fRecs : Int) + (sumW cntAck m.fAcks : Int) + (sumW cntDot m.fDone : Int) + (sumW cntPair m.fMap : Int)) W (by omega) (by omega) (ownS.frame oAnswer_good h7 (fun b hb => ht.block b (ownS.lt oAnswer_good h7 b hb) (fun hm => by simp only [List.mem_cons, List.append_nil, List.mem_append] at hm; rcases hm with hm | (((hm | hm) | hm) | hm) <;> first | exact hgF (by rw [hFk, hm.symm]; simp [hb]) | exact hD7_3 b hb hm | exact hD7_4 b hb hm | exact hD7_5 b hb hm | exact hD7_6 b hb hm))) hN7
      go_wp2_with fail
      refine Calls.mono (hC _ ?_) ?_
      · repeat (first | with_reducible exact Turn.refl _ _ | refine Turn.setCell ?_ (by simp) _ | with_reducible refine Turn.trans ?_ (ht1.mono (fun b hb => by simp [hb])) | with_reducible refine Turn.trans ?_ (ht2.mono (fun b hb => by simp [hb])) | with_reducible refine Turn.trans ?_ (ht3.mono (fun b hb => by simp [hb])) | with_reducible refine Turn.trans ?_ (ht4.mono (fun b hb => by simp [hb])))
      clear hC
      rintro e w5 ⟨rfl, l5, hown5, hll5, hh5, ht5⟩
      have hE5 := hE4.keep (ht5.mono (fun b hb => by rw [hFk]; simp [hb])) hgF
      clear q0 r0
      clear q1 r1
      clear q2 r2
      clear q3 r3
      clear q4 r4
      clear q5 r5
      clear q6 r6
      clear q7 r7
      have q0 := hE5.cellAt (i := 0) (by omega) rfl
      have r0 := hE5.free (k * 8 + 0)
      rw [Nat.add_zero] at q0 r0
      have q1 := hE5.cellAt (i := 1) (by omega) rfl
      have r1 := hE5.free (k * 8 + 1)
      have q2 := hE5.cellAt (i := 2) (by omega) rfl
      have r2 := hE5.free (k * 8 + 2)
      have q3 := hE5.cellAt (i := 3) (by omega) rfl
      have r3 := hE5.free (k * 8 + 3)
      have q4 := hE5.cellAt (i := 4) (by omega) rfl
      have r4 := hE5.free (k * 8 + 4)
      have q5 := hE5.cellAt (i := 5) (by omega) rfl
      have r5 := hE5.free (k * 8 + 5)
      have q6 := hE5.cellAt (i := 6) (by omega) rfl
      have r6 := hE5.free (k * 8 + 6)
      have q7 := hE5.cellAt (i := 7) (by omega) rfl
      have r7 := hE5.free (k * 8 + 7)
      go_wp2_with fail
      go_roundw
      case rel =>
        have hed := HOE.out _ _ (⟨(kk), (kk + 1), (kk + 1 + 1), (l1), (l2), (l3), (l4), (l5)⟩) hE5 ?own
        case own => exact ⟨_, F3, _, F4, _, F5, _, F6, _, F7, rfl, (show (Lit.int .i64 (kk)).wf = true from WalkArith.wf_i64 (by omega)), (show (Lit.int .i64 (kk + 1)).wf = true from WalkArith.wf_i64 (by omega)), (show (Lit.int .i64 (kk + 1 + 1)).wf = true from WalkArith.wf_i64 (by omega)), (ownS.frame oRec_good hown1 (fun b hb => (show Turn (g :: (F4 ++ F5 ++ F6 ++ F7 ++ [])) w1 _ from by repeat (first | with_reducible exact Turn.refl _ _ | refine Turn.setCell ?_ (by simp) _ | with_reducible refine Turn.trans ?_ (ht2.mono (fun b hb => by simp [hb])) | with_reducible refine Turn.trans ?_ (ht3.mono (fun b hb => by simp [hb])) | with_reducible refine Turn.trans ?_ (ht4.mono (fun b hb => by simp [hb])) | with_reducible refine Turn.trans ?_ (ht5.mono (fun b hb => by simp [hb])))).block b (ownS.lt oRec_good hown1 b hb) (fun hm => by simp only [List.mem_cons, List.append_nil, List.mem_append] at hm; rcases hm with hm | (((hm | hm) | hm) | hm) <;> first | exact hgF (by rw [hFk, hm.symm]; simp [hb]) | exact hD3_4 b hb hm | exact hD3_5 b hb hm | exact hD3_6 b hb hm | exact hD3_7 b hb hm))), (ownS.frame oAck_good hown2 (fun b hb => (show Turn (g :: (F5 ++ F6 ++ F7 ++ [])) w2 _ from by repeat (first | with_reducible exact Turn.refl _ _ | refine Turn.setCell ?_ (by simp) _ | with_reducible refine Turn.trans ?_ (ht3.mono (fun b hb => by simp [hb])) | with_reducible refine Turn.trans ?_ (ht4.mono (fun b hb => by simp [hb])) | with_reducible refine Turn.trans ?_ (ht5.mono (fun b hb => by simp [hb])))).block b (ownS.lt oAck_good hown2 b hb) (fun hm => by simp only [List.mem_cons, List.append_nil, List.mem_append] at hm; rcases hm with hm | ((hm | hm) | hm) <;> first | exact hgF (by rw [hFk, hm.symm]; simp [hb]) | exact hD4_5 b hb hm | exact hD4_6 b hb hm | exact hD4_7 b hb hm))), (ownS.frame oDot_good hown3 (fun b hb => (show Turn (g :: (F6 ++ F7 ++ [])) w3 _ from by repeat (first | with_reducible exact Turn.refl _ _ | refine Turn.setCell ?_ (by simp) _ | with_reducible refine Turn.trans ?_ (ht4.mono (fun b hb => by simp [hb])) | with_reducible refine Turn.trans ?_ (ht5.mono (fun b hb => by simp [hb])))).block b (ownS.lt oDot_good hown3 b hb) (fun hm => by simp only [List.mem_cons, List.append_nil, List.mem_append] at hm; rcases hm with hm | (hm | hm) <;> first | exact hgF (by rw [hFk, hm.symm]; simp [hb]) | exact hD5_6 b hb hm | exact hD5_7 b hb hm))), (ownS.frame oPair_good hown4 (fun b hb => (show Turn (g :: (F7 ++ [])) w4 _ from by repeat (first | with_reducible exact Turn.refl _ _ | refine Turn.setCell ?_ (by simp) _ | with_reducible refine Turn.trans ?_ (ht5.mono (fun b hb => by simp [hb])))).block b (ownS.lt oPair_good hown4 b hb) (fun hm => by simp only [List.mem_cons, List.append_nil, List.mem_append] at hm; rcases hm with hm | hm <;> first | exact hgF (by rw [hFk, hm.symm]; simp [hb]) | exact hD6_7 b hb hm))), (ownS.frame oAnswer_good hown5 (fun b hb => (show Turn [g] w5 _ from by repeat (first | with_reducible exact Turn.refl _ _ | refine Turn.setCell ?_ (by simp) _)).block b (ownS.lt oAnswer_good hown5 b hb) (fun hm => by simp at hm; exact hgF (by rw [hFk, hm.symm]; simp [hb])))), hFk⟩
        obtain ⟨⟨cur2, hrow2⟩, ht2⟩ := hed
        rw [HS.out] at hrow2
        refine ⟨k + 1, _, l' ++ [⟨(kk), (kk + 1), (kk + 1 + 1), (l1), (l2), (l3), (l4), (l5)⟩], cur2, by omega, by go_num, by go_num, ?_, by simp [HL'.out], hrow2, HH.out _ _ ?_, HT.out.trans ht2⟩
        · rw [HW1.out]; have h1 := HKK.out; have h2 : cntReplica m = 1 + 1 + 1 + sumW cntRec m.fRecs + sumW cntAck m.fAcks + sumW cntDot m.fDone + sumW cntPair m.fMap + sumW cntAnswer m.fSaid := rfl; omega
        · have e3 : sumW cntRec m.fRecs = sumW cntRec l1 := by have h := hdS_end hdRec_end hh1; omega
          have e4 : sumW cntAck m.fAcks = sumW cntAck l2 := by have h := hdS_end hdAck_end hh2; omega
          have e5 : sumW cntDot m.fDone = sumW cntDot l3 := by have h := hdS_end hdDot_end hh3; omega
          have e6 : sumW cntPair m.fMap = sumW cntPair l4 := by have h := hdS_end hdPair_end hh4; omega
          have e7 : sumW cntAnswer m.fSaid = sumW cntAnswer l5 := by have h := hdS_end hdAnswer_end hh5; omega
          unfold hdReplica
          simp only [← e3, ← e4, ← e5, ← e6, ← e7]
          exact ⟨(by first | rfl | simp [marks_length]), (by first | rfl | simp [marks_length]), (by first | rfl | simp [marks_length]), hh1, hh2, hh3, hh4, hh5, (by first | rfl | simp [marks_length])⟩
      case measure => simp [intOf]; omega
    · have hkn : k = n := by omega
      have HT1 : Hid (l.take k = l) := List.take_of_length_le (by rw [HX.out]; omega)
      have HT2 : Hid (l.drop k = []) := List.drop_of_length_le (by rw [HX.out]; omega)
      rw [HT1.out] at hkk
      rw [HT2.out, List.append_nil] at hok
      have hk2 : 0 ≤ kk := by omega
      subst hkk
      go_wp2_with fail
      go_ret
      exact ⟨rfl, l', cur', hok, by rw [hl', hkn], hh, htk⟩

set_option maxHeartbeats 400000 in
theorem markReplicaS_nil (q : Int) (w : World) :
    Calls Try.prog 24 #[.slice none 0 0, .int .i64 q] w fun e w' => e = .returned (.int .i64 q) ∧ w' = w := by
  go_enter Try.func24, Try.ntmps24
  go_wp2
  refine wp_loop_rounds 1 ?_
  rw [rounds_succ]
  go_wp2
  go_ret
  exact ⟨rfl, rfl⟩

theorem markReplicaS_any (v : Value) (l : List MReplica) (F : List Nat) (q : Int) (w : World) (hq : 0 ≤ q) (hq2 : q + sumW cntReplica l ≤ 70368744177664) (ho : ownS 8 49 oReplica w v l F) (hN : F.Nodup) :
    Calls Try.prog 24 #[v, .int .i64 q] w fun e w' => e = .returned (.int .i64 (q + sumW cntReplica l)) ∧ ∃ l', ownS 8 49 oReplica w' v l' F ∧ l'.length = l.length ∧ hdS hdReplica l' q (q + sumW cntReplica l) ∧ Turn F w w' := by
  rcases ho.open hN with ⟨rfl, rfl, rfl⟩ | ⟨g, cap, cur, Fs, rfl, hrow, rfl⟩
  · refine (markReplicaS_nil q w).mono ?_
    rintro e w' ⟨rfl, rfl⟩
    exact ⟨by simp [sumW], [], ho, rfl, by simp [hdS, sumW], Turn.refl _ _⟩
  · refine (markReplicaS_row g cap _ l cur Fs q w rfl hq hq2 hrow).mono ?_
    rintro e w' ⟨rfl, l', cur', hr', hl', hh, ht⟩
    refine ⟨rfl, l', ?_, hl', hh, ht⟩
    have := hr'.shut
    rw [hl'] at this
    exact this

def cntMsg (m : MMsg) : Nat := 1 + 1 + 1 + 1 + 1 + 1 + 1 + 1 + sumW cntDot m.fDeps
def hdMsg (m : MMsg) (q q' : Int) : Prop := m.fKind = q ∧ m.fFrom = q + 1 ∧ m.fTo = q + 1 + 1 ∧ m.fD.fR = q + 1 + 1 + 1 ∧ m.fD.fN = q + 1 + 1 + 1 + 1 ∧ m.fC.fKind = q + 1 + 1 + 1 + 1 + 1 ∧ m.fC.fKey = mtext (q + 1 + 1 + 1 + 1 + 1 + 1) ∧ m.fC.fVal = mtext (q + 1 + 1 + 1 + 1 + 1 + 1 + 1) ∧ hdS hdDot m.fDeps (q + 1 + 1 + 1 + 1 + 1 + 1 + 1 + 1) (q + 1 + 1 + 1 + 1 + 1 + 1 + 1 + 1 + (sumW cntDot m.fDeps : Int)) ∧ q' = q + 1 + 1 + 1 + 1 + 1 + 1 + 1 + 1 + (sumW cntDot m.fDeps : Int)
theorem cntMsg_le (m : MMsg) : cntMsg m ≤ 32 * (1 + wMsg m) := by
  unfold cntMsg wMsg
  have e8 := sumW_cnt_le cntDot_le m.fDeps
  omega
theorem hdMsg_end (m : MMsg) (q q' : Int) (h : hdMsg m q q') : q' = q + cntMsg m := by
  obtain ⟨_, _, _, _, _, _, _, _, _, rfl⟩ := h
  unfold cntMsg
  omega

set_option maxHeartbeats 1000000 in
theorem markMsgS_row (g cap n : Nat) (l : List MMsg) (cur : Array Value) (Fs : List (List Nat)) (q : Int) (w : World) (hx : l.length = n) (hq : 0 ≤ q) (hq2 : q + sumW cntMsg l ≤ 70368744177664) (ho : OwnRow 9 86 oMsg w g cap l cur Fs) :
    Calls Try.prog 25 #[.slice (some ⟨g, 0, none⟩) n cap, .int .i64 q] w fun e w' => e = .returned (.int .i64 (q + sumW cntMsg l)) ∧ ∃ l' cur', OwnRow 9 86 oMsg w' g cap l' cur' Fs ∧ l'.length = n ∧ hdS hdMsg l' q (q + sumW cntMsg l) ∧ Turn (g :: Fs.flatten) w w' := by
  have HX := Hid.mk hx
  clear hx
  have hcap : n ≤ 9223372036854775807 := by have h1 := ho.le; have h2 := ho.max; have h3 := HX.out; unfold maxLen at h2; omega
  have HO := Hid.mk ho
  clear ho
  go_enter Try.func25, Try.ntmps25
  go_wp2_with fail
  go_loopw [1, 5] (fun kv i wr => ∃ (k : Nat) (kk : Int) (l' : List MMsg) (cur' : Array Value), k ≤ n ∧ i = .int .i64 k ∧ kv = .int .i64 kk ∧ kk = q + sumW cntMsg (l.take k) ∧ l'.length = k ∧ OwnRow 9 86 oMsg wr g cap (l' ++ l.drop k) cur' Fs ∧ hdS hdMsg l' q kk ∧ Turn (g :: Fs.flatten) w wr) (fun _ i _ => n - (intOf i).toNat)
  case atStart => exact ⟨0, q, [], cur, Nat.zero_le _, rfl, rfl, by simp [sumW], rfl, by simpa using HO.out, rfl, Turn.refl _ _⟩
  case round =>
    obtain ⟨k, kk, l', cur', hk, rfl, rfl, hkk, hl', hok, hh, htk⟩ := hrel
    by_cases hlt : k < n
    · have hkl : k < l.length := by rw [HX.out]; exact hlt
      have hlen2 : k < (l' ++ l.drop k).length := by rw [List.length_append, hl', List.length_drop]; omega
      have hw1 := sumW_take_succ (f := cntMsg) hkl
      have hw2 := sumW_take_le cntMsg l (k + 1)
      have hel := hok.each k hlen2
      rw [get_mid hl' hkl hlen2] at hel
      obtain ⟨hgF, hFN⟩ := hok.part hlen2
      have hE0 := Edit.start hok k (Fs.getD k [])
      generalize hcs : seg 9 cur' k = cs at hel hE0
      clear hcs
      have HOE := Hid.mk (fun w' cs' m' he ho => OwnRow.edit (w' := w') (cs := cs') (m' := m') oMsg_good hok hlen2 he ho)
      have HS := Hid.mk (fun m' => set_mid hl' hkl m')
      have HH := Hid.mk (fun x q2 hx => hdS_snoc (x := x) (q2 := q2) hh hx)
      have HL' := Hid.mk hl'
      have HT := Hid.mk htk
      generalize hm0 : l[k] = m at *
      generalize Fs.getD k [] = Fk at *
      have HKK := Hid.mk hkk
      have HW1 := Hid.mk hw1
      have hlo : 0 ≤ kk := by omega
      have hup : kk + cntMsg m ≤ 70368744177664 := by omega
      have HUP : Hid (kk + (1 + 1 + 1 + 1 + 1 + 1 + 1 + 1 + sumW cntDot m.fDeps : Nat) ≤ 70368744177664) := hup
      have HU := HUP.out
      clear hm0 hok hh hl' htk hlen2 hkk hw1 hw2 hup
      obtain ⟨v8, F8, rfl, h0, h1, h2, h3, h4, h5, h6, h7, h8, hFk⟩ := hel
      obtain ⟨a8, c8, rfl, _⟩ := ownS.read oDot_good h8
      have q0 := hE0.cellAt (i := 0) (by omega) rfl
      have r0 := hE0.free (k * 9 + 0)
      rw [Nat.add_zero] at q0 r0
      have q1 := hE0.cellAt (i := 1) (by omega) rfl
      have r1 := hE0.free (k * 9 + 1)
      have q2 := hE0.cellAt (i := 2) (by omega) rfl
      have r2 := hE0.free (k * 9 + 2)
      have q3 := hE0.cellAt (i := 3) (by omega) rfl
      have r3 := hE0.free (k * 9 + 3)
      have q4 := hE0.cellAt (i := 4) (by omega) rfl
      have r4 := hE0.free (k * 9 + 4)
      have q5 := hE0.cellAt (i := 5) (by omega) rfl
      have r5 := hE0.free (k * 9 + 5)
      have q6 := hE0.cellAt (i := 6) (by omega) rfl
      have r6 := hE0.free (k * 9 + 6)
      have q7 := hE0.cellAt (i := 7) (by omega) rfl
      have r7 := hE0.free (k * 9 + 7)
      have q8 := hE0.cellAt (i := 8) (by omega) rfl
      have r8 := hE0.free (k * 9 + 8)
      skip
      go_wp2_with fail
      refine (markText_any (kk + 1 + 1 + 1 + 1 + 1 + 1) _ (by omega) (by omega)).mono ?_
      rintro e w1 ⟨rfl, hb1⟩
      have hE1 := ((((((hE0.set (i := 0) (by omega) (.int .i64 (kk))).set (i := 1) (by omega) (.int .i64 (kk + 1))).set (i := 2) (by omega) (.int .i64 (kk + 1 + 1))).set (i := 3) (by omega) (.int .i64 (kk + 1 + 1 + 1))).set (i := 4) (by omega) (.int .i64 (kk + 1 + 1 + 1 + 1))).set (i := 5) (by omega) (.int .i64 (kk + 1 + 1 + 1 + 1 + 1))).keep (Turn.ofBelow hb1) hgF
      clear q0 r0
      clear q1 r1
      clear q2 r2
      clear q3 r3
      clear q4 r4
      clear q5 r5
      clear q6 r6
      clear q7 r7
      clear q8 r8
      have q0 := hE1.cellAt (i := 0) (by omega) rfl
      have r0 := hE1.free (k * 9 + 0)
      rw [Nat.add_zero] at q0 r0
      have q1 := hE1.cellAt (i := 1) (by omega) rfl
      have r1 := hE1.free (k * 9 + 1)
      have q2 := hE1.cellAt (i := 2) (by omega) rfl
      have r2 := hE1.free (k * 9 + 2)
      have q3 := hE1.cellAt (i := 3) (by omega) rfl
      have r3 := hE1.free (k * 9 + 3)
      have q4 := hE1.cellAt (i := 4) (by omega) rfl
      have r4 := hE1.free (k * 9 + 4)
      have q5 := hE1.cellAt (i := 5) (by omega) rfl
      have r5 := hE1.free (k * 9 + 5)
      have q6 := hE1.cellAt (i := 6) (by omega) rfl
      have r6 := hE1.free (k * 9 + 6)
      have q7 := hE1.cellAt (i := 7) (by omega) rfl
      have r7 := hE1.free (k * 9 + 7)
      have q8 := hE1.cellAt (i := 8) (by omega) rfl
      have r8 := hE1.free (k * 9 + 8)
      go_wp2_with fail
      refine (markText_any (kk + 1 + 1 + 1 + 1 + 1 + 1 + 1) _ (by omega) (by omega)).mono ?_
      rintro e w2 ⟨rfl, hb2⟩
      have hE2 := (hE1.set (i := 6) (by omega) (.string (mtext (kk + 1 + 1 + 1 + 1 + 1 + 1)))).keep (Turn.ofBelow hb2) hgF
      clear q0 r0
      clear q1 r1
      clear q2 r2
      clear q3 r3
      clear q4 r4
      clear q5 r5
      clear q6 r6
      clear q7 r7
      clear q8 r8
      have q0 := hE2.cellAt (i := 0) (by omega) rfl
      have r0 := hE2.free (k * 9 + 0)
      rw [Nat.add_zero] at q0 r0
      have q1 := hE2.cellAt (i := 1) (by omega) rfl
      have r1 := hE2.free (k * 9 + 1)
      have q2 := hE2.cellAt (i := 2) (by omega) rfl
      have r2 := hE2.free (k * 9 + 2)
      have q3 := hE2.cellAt (i := 3) (by omega) rfl
      have r3 := hE2.free (k * 9 + 3)
      have q4 := hE2.cellAt (i := 4) (by omega) rfl
      have r4 := hE2.free (k * 9 + 4)
      have q5 := hE2.cellAt (i := 5) (by omega) rfl
      have r5 := hE2.free (k * 9 + 5)
      have q6 := hE2.cellAt (i := 6) (by omega) rfl
      have r6 := hE2.free (k * 9 + 6)
      have q7 := hE2.cellAt (i := 7) (by omega) rfl
      have r7 := hE2.free (k * 9 + 7)
      have q8 := hE2.cellAt (i := 8) (by omega) rfl
      have r8 := hE2.free (k * 9 + 8)
      have hN8 : F8.Nodup := by rw [hFk, List.append_nil] at hFN; exact hFN
      have hC := fun (W : World) (ht : Turn [g] wr W) => markDotS_any _ m.fDeps F8 (kk + 1 + 1 + 1 + 1 + 1 + 1 + 1 + 1) W (by omega) (by omega) (ownS.frame oDot_good h8 (fun b hb => ht.block b (ownS.lt oDot_good h8 b hb) (fun hm => by simp at hm; exact hgF (by rw [hFk, hm.symm]; simp [hb])))) hN8
      go_wp2_with fail
      refine Calls.mono (hC _ ?_) ?_
      · repeat (first | with_reducible exact Turn.refl _ _ | refine Turn.setCell ?_ (by simp) _ | with_reducible refine Turn.trans ?_ (Turn.ofBelow hb1) | with_reducible refine Turn.trans ?_ (Turn.ofBelow hb2))
      clear hC
      rintro e w3 ⟨rfl, l3, hown3, hll3, hh3, ht3⟩
      have hE3 := (hE2.set (i := 7) (by omega) (.string (mtext (kk + 1 + 1 + 1 + 1 + 1 + 1 + 1)))).keep (ht3.mono (fun b hb => by rw [hFk]; simp [hb])) hgF
      clear q0 r0
      clear q1 r1
      clear q2 r2
      clear q3 r3
      clear q4 r4
      clear q5 r5
      clear q6 r6
      clear q7 r7
      clear q8 r8
      have q0 := hE3.cellAt (i := 0) (by omega) rfl
      have r0 := hE3.free (k * 9 + 0)
      rw [Nat.add_zero] at q0 r0
      have q1 := hE3.cellAt (i := 1) (by omega) rfl
      have r1 := hE3.free (k * 9 + 1)
      have q2 := hE3.cellAt (i := 2) (by omega) rfl
      have r2 := hE3.free (k * 9 + 2)
      have q3 := hE3.cellAt (i := 3) (by omega) rfl
      have r3 := hE3.free (k * 9 + 3)
      have q4 := hE3.cellAt (i := 4) (by omega) rfl
      have r4 := hE3.free (k * 9 + 4)
      have q5 := hE3.cellAt (i := 5) (by omega) rfl
      have r5 := hE3.free (k * 9 + 5)
      have q6 := hE3.cellAt (i := 6) (by omega) rfl
      have r6 := hE3.free (k * 9 + 6)
      have q7 := hE3.cellAt (i := 7) (by omega) rfl
      have r7 := hE3.free (k * 9 + 7)
      have q8 := hE3.cellAt (i := 8) (by omega) rfl
      have r8 := hE3.free (k * 9 + 8)
      go_wp2_with fail
      go_roundw
      case rel =>
        have hed := HOE.out _ _ (⟨(kk), (kk + 1), (kk + 1 + 1), ⟨(kk + 1 + 1 + 1), (kk + 1 + 1 + 1 + 1)⟩, ⟨(kk + 1 + 1 + 1 + 1 + 1), (mtext (kk + 1 + 1 + 1 + 1 + 1 + 1)), (mtext (kk + 1 + 1 + 1 + 1 + 1 + 1 + 1))⟩, (l3)⟩) hE3 ?own
        case own => exact ⟨_, F8, rfl, (show (Lit.int .i64 (kk)).wf = true from WalkArith.wf_i64 (by omega)), (show (Lit.int .i64 (kk + 1)).wf = true from WalkArith.wf_i64 (by omega)), (show (Lit.int .i64 (kk + 1 + 1)).wf = true from WalkArith.wf_i64 (by omega)), (show (Lit.int .i64 (kk + 1 + 1 + 1)).wf = true from WalkArith.wf_i64 (by omega)), (show (Lit.int .i64 (kk + 1 + 1 + 1 + 1)).wf = true from WalkArith.wf_i64 (by omega)), (show (Lit.int .i64 (kk + 1 + 1 + 1 + 1 + 1)).wf = true from WalkArith.wf_i64 (by omega)), (show (mtext (kk + 1 + 1 + 1 + 1 + 1 + 1)).size ≤ 9223372036854775807 from Nat.le_trans (mtext_size _) (by omega)), (show (mtext (kk + 1 + 1 + 1 + 1 + 1 + 1 + 1)).size ≤ 9223372036854775807 from Nat.le_trans (mtext_size _) (by omega)), (ownS.frame oDot_good hown3 (fun b hb => (show Turn [g] w3 _ from by repeat (first | with_reducible exact Turn.refl _ _ | refine Turn.setCell ?_ (by simp) _ | with_reducible refine Turn.trans ?_ (Turn.ofBelow hb1) | with_reducible refine Turn.trans ?_ (Turn.ofBelow hb2))).block b (ownS.lt oDot_good hown3 b hb) (fun hm => by simp at hm; exact hgF (by rw [hFk, hm.symm]; simp [hb])))), hFk⟩
        obtain ⟨⟨cur2, hrow2⟩, ht2⟩ := hed
        rw [HS.out] at hrow2
        refine ⟨k + 1, _, l' ++ [⟨(kk), (kk + 1), (kk + 1 + 1), ⟨(kk + 1 + 1 + 1), (kk + 1 + 1 + 1 + 1)⟩, ⟨(kk + 1 + 1 + 1 + 1 + 1), (mtext (kk + 1 + 1 + 1 + 1 + 1 + 1)), (mtext (kk + 1 + 1 + 1 + 1 + 1 + 1 + 1))⟩, (l3)⟩], cur2, by omega, by go_num, by go_num, ?_, by simp [HL'.out], hrow2, HH.out _ _ ?_, HT.out.trans ht2⟩
        · rw [HW1.out]; have h1 := HKK.out; have h2 : cntMsg m = 1 + 1 + 1 + 1 + 1 + 1 + 1 + 1 + sumW cntDot m.fDeps := rfl; omega
        · have e8 : sumW cntDot m.fDeps = sumW cntDot l3 := by have h := hdS_end hdDot_end hh3; omega
          unfold hdMsg
          simp only [← e8]
          exact ⟨(by first | rfl | simp [marks_length]), (by first | rfl | simp [marks_length]), (by first | rfl | simp [marks_length]), (by first | rfl | simp [marks_length]), (by first | rfl | simp [marks_length]), (by first | rfl | simp [marks_length]), (by first | rfl | simp [marks_length]), (by first | rfl | simp [marks_length]), hh3, (by first | rfl | simp [marks_length])⟩
      case measure => simp [intOf]; omega
    · have hkn : k = n := by omega
      have HT1 : Hid (l.take k = l) := List.take_of_length_le (by rw [HX.out]; omega)
      have HT2 : Hid (l.drop k = []) := List.drop_of_length_le (by rw [HX.out]; omega)
      rw [HT1.out] at hkk
      rw [HT2.out, List.append_nil] at hok
      have hk2 : 0 ≤ kk := by omega
      subst hkk
      go_wp2_with fail
      go_ret
      exact ⟨rfl, l', cur', hok, by rw [hl', hkn], hh, htk⟩

set_option maxHeartbeats 400000 in
theorem markMsgS_nil (q : Int) (w : World) :
    Calls Try.prog 25 #[.slice none 0 0, .int .i64 q] w fun e w' => e = .returned (.int .i64 q) ∧ w' = w := by
  go_enter Try.func25, Try.ntmps25
  go_wp2
  refine wp_loop_rounds 1 ?_
  rw [rounds_succ]
  go_wp2
  go_ret
  exact ⟨rfl, rfl⟩

theorem markMsgS_any (v : Value) (l : List MMsg) (F : List Nat) (q : Int) (w : World) (hq : 0 ≤ q) (hq2 : q + sumW cntMsg l ≤ 70368744177664) (ho : ownS 9 86 oMsg w v l F) (hN : F.Nodup) :
    Calls Try.prog 25 #[v, .int .i64 q] w fun e w' => e = .returned (.int .i64 (q + sumW cntMsg l)) ∧ ∃ l', ownS 9 86 oMsg w' v l' F ∧ l'.length = l.length ∧ hdS hdMsg l' q (q + sumW cntMsg l) ∧ Turn F w w' := by
  rcases ho.open hN with ⟨rfl, rfl, rfl⟩ | ⟨g, cap, cur, Fs, rfl, hrow, rfl⟩
  · refine (markMsgS_nil q w).mono ?_
    rintro e w' ⟨rfl, rfl⟩
    exact ⟨by simp [sumW], [], ho, rfl, by simp [hdS, sumW], Turn.refl _ _⟩
  · refine (markMsgS_row g cap _ l cur Fs q w rfl hq hq2 hrow).mono ?_
    rintro e w' ⟨rfl, l', cur', hr', hl', hh, ht⟩
    refine ⟨rfl, l', ?_, hl', hh, ht⟩
    have := hr'.shut
    rw [hl'] at this
    exact this

def cntAsked (m : MAsked) : Nat := 1 + 1 + 1 + 1 + 1 + sumW cntDot m.fBefore
def hdAsked (m : MAsked) (q q' : Int) : Prop := m.fD.fR = q ∧ m.fD.fN = q + 1 ∧ m.fC.fKind = q + 1 + 1 ∧ m.fC.fKey = mtext (q + 1 + 1 + 1) ∧ m.fC.fVal = mtext (q + 1 + 1 + 1 + 1) ∧ hdS hdDot m.fBefore (q + 1 + 1 + 1 + 1 + 1) (q + 1 + 1 + 1 + 1 + 1 + (sumW cntDot m.fBefore : Int)) ∧ q' = q + 1 + 1 + 1 + 1 + 1 + (sumW cntDot m.fBefore : Int)
theorem cntAsked_le (m : MAsked) : cntAsked m ≤ 32 * (1 + wAsked m) := by
  unfold cntAsked wAsked
  have e5 := sumW_cnt_le cntDot_le m.fBefore
  omega
theorem hdAsked_end (m : MAsked) (q q' : Int) (h : hdAsked m q q') : q' = q + cntAsked m := by
  obtain ⟨_, _, _, _, _, _, rfl⟩ := h
  unfold cntAsked
  omega

set_option maxHeartbeats 1000000 in
theorem markAskedS_row (g cap n : Nat) (l : List MAsked) (cur : Array Value) (Fs : List (List Nat)) (q : Int) (w : World) (hx : l.length = n) (hq : 0 ≤ q) (hq2 : q + sumW cntAsked l ≤ 70368744177664) (ho : OwnRow 6 89 oAsked w g cap l cur Fs) :
    Calls Try.prog 26 #[.slice (some ⟨g, 0, none⟩) n cap, .int .i64 q] w fun e w' => e = .returned (.int .i64 (q + sumW cntAsked l)) ∧ ∃ l' cur', OwnRow 6 89 oAsked w' g cap l' cur' Fs ∧ l'.length = n ∧ hdS hdAsked l' q (q + sumW cntAsked l) ∧ Turn (g :: Fs.flatten) w w' := by
  have HX := Hid.mk hx
  clear hx
  have hcap : n ≤ 9223372036854775807 := by have h1 := ho.le; have h2 := ho.max; have h3 := HX.out; unfold maxLen at h2; omega
  have HO := Hid.mk ho
  clear ho
  go_enter Try.func26, Try.ntmps26
  go_wp2_with fail
  go_loopw [1, 5] (fun kv i wr => ∃ (k : Nat) (kk : Int) (l' : List MAsked) (cur' : Array Value), k ≤ n ∧ i = .int .i64 k ∧ kv = .int .i64 kk ∧ kk = q + sumW cntAsked (l.take k) ∧ l'.length = k ∧ OwnRow 6 89 oAsked wr g cap (l' ++ l.drop k) cur' Fs ∧ hdS hdAsked l' q kk ∧ Turn (g :: Fs.flatten) w wr) (fun _ i _ => n - (intOf i).toNat)
  case atStart => exact ⟨0, q, [], cur, Nat.zero_le _, rfl, rfl, by simp [sumW], rfl, by simpa using HO.out, rfl, Turn.refl _ _⟩
  case round =>
    obtain ⟨k, kk, l', cur', hk, rfl, rfl, hkk, hl', hok, hh, htk⟩ := hrel
    by_cases hlt : k < n
    · have hkl : k < l.length := by rw [HX.out]; exact hlt
      have hlen2 : k < (l' ++ l.drop k).length := by rw [List.length_append, hl', List.length_drop]; omega
      have hw1 := sumW_take_succ (f := cntAsked) hkl
      have hw2 := sumW_take_le cntAsked l (k + 1)
      have hel := hok.each k hlen2
      rw [get_mid hl' hkl hlen2] at hel
      obtain ⟨hgF, hFN⟩ := hok.part hlen2
      have hE0 := Edit.start hok k (Fs.getD k [])
      generalize hcs : seg 6 cur' k = cs at hel hE0
      clear hcs
      have HOE := Hid.mk (fun w' cs' m' he ho => OwnRow.edit (w' := w') (cs := cs') (m' := m') oAsked_good hok hlen2 he ho)
      have HS := Hid.mk (fun m' => set_mid hl' hkl m')
      have HH := Hid.mk (fun x q2 hx => hdS_snoc (x := x) (q2 := q2) hh hx)
      have HL' := Hid.mk hl'
      have HT := Hid.mk htk
      generalize hm0 : l[k] = m at *
      generalize Fs.getD k [] = Fk at *
      have HKK := Hid.mk hkk
      have HW1 := Hid.mk hw1
      have hlo : 0 ≤ kk := by omega
      have hup : kk + cntAsked m ≤ 70368744177664 := by omega
      have HUP : Hid (kk + (1 + 1 + 1 + 1 + 1 + sumW cntDot m.fBefore : Nat) ≤ 70368744177664) := hup
      have HU := HUP.out
      clear hm0 hok hh hl' htk hlen2 hkk hw1 hw2 hup
      obtain ⟨v5, F5, rfl, h0, h1, h2, h3, h4, h5, hFk⟩ := hel
      obtain ⟨a5, c5, rfl, _⟩ := ownS.read oDot_good h5
      have q0 := hE0.cellAt (i := 0) (by omega) rfl
      have r0 := hE0.free (k * 6 + 0)
      rw [Nat.add_zero] at q0 r0
      have q1 := hE0.cellAt (i := 1) (by omega) rfl
      have r1 := hE0.free (k * 6 + 1)
      have q2 := hE0.cellAt (i := 2) (by omega) rfl
      have r2 := hE0.free (k * 6 + 2)
      have q3 := hE0.cellAt (i := 3) (by omega) rfl
      have r3 := hE0.free (k * 6 + 3)
      have q4 := hE0.cellAt (i := 4) (by omega) rfl
      have r4 := hE0.free (k * 6 + 4)
      have q5 := hE0.cellAt (i := 5) (by omega) rfl
      have r5 := hE0.free (k * 6 + 5)
      skip
      go_wp2_with fail
      refine (markText_any (kk + 1 + 1 + 1) _ (by omega) (by omega)).mono ?_
      rintro e w1 ⟨rfl, hb1⟩
      have hE1 := (((hE0.set (i := 0) (by omega) (.int .i64 (kk))).set (i := 1) (by omega) (.int .i64 (kk + 1))).set (i := 2) (by omega) (.int .i64 (kk + 1 + 1))).keep (Turn.ofBelow hb1) hgF
      clear q0 r0
      clear q1 r1
      clear q2 r2
      clear q3 r3
      clear q4 r4
      clear q5 r5
      have q0 := hE1.cellAt (i := 0) (by omega) rfl
      have r0 := hE1.free (k * 6 + 0)
      rw [Nat.add_zero] at q0 r0
      have q1 := hE1.cellAt (i := 1) (by omega) rfl
      have r1 := hE1.free (k * 6 + 1)
      have q2 := hE1.cellAt (i := 2) (by omega) rfl
      have r2 := hE1.free (k * 6 + 2)
      have q3 := hE1.cellAt (i := 3) (by omega) rfl
      have r3 := hE1.free (k * 6 + 3)
      have q4 := hE1.cellAt (i := 4) (by omega) rfl
      have r4 := hE1.free (k * 6 + 4)
      have q5 := hE1.cellAt (i := 5) (by omega) rfl
      have r5 := hE1.free (k * 6 + 5)
      go_wp2_with fail
      refine (markText_any (kk + 1 + 1 + 1 + 1) _ (by omega) (by omega)).mono ?_
      rintro e w2 ⟨rfl, hb2⟩
      have hE2 := (hE1.set (i := 3) (by omega) (.string (mtext (kk + 1 + 1 + 1)))).keep (Turn.ofBelow hb2) hgF
      clear q0 r0
      clear q1 r1
      clear q2 r2
      clear q3 r3
      clear q4 r4
      clear q5 r5
      have q0 := hE2.cellAt (i := 0) (by omega) rfl
      have r0 := hE2.free (k * 6 + 0)
      rw [Nat.add_zero] at q0 r0
      have q1 := hE2.cellAt (i := 1) (by omega) rfl
      have r1 := hE2.free (k * 6 + 1)
      have q2 := hE2.cellAt (i := 2) (by omega) rfl
      have r2 := hE2.free (k * 6 + 2)
      have q3 := hE2.cellAt (i := 3) (by omega) rfl
      have r3 := hE2.free (k * 6 + 3)
      have q4 := hE2.cellAt (i := 4) (by omega) rfl
      have r4 := hE2.free (k * 6 + 4)
      have q5 := hE2.cellAt (i := 5) (by omega) rfl
      have r5 := hE2.free (k * 6 + 5)
      have hN5 : F5.Nodup := by rw [hFk, List.append_nil] at hFN; exact hFN
      have hC := fun (W : World) (ht : Turn [g] wr W) => markDotS_any _ m.fBefore F5 (kk + 1 + 1 + 1 + 1 + 1) W (by omega) (by omega) (ownS.frame oDot_good h5 (fun b hb => ht.block b (ownS.lt oDot_good h5 b hb) (fun hm => by simp at hm; exact hgF (by rw [hFk, hm.symm]; simp [hb])))) hN5
      go_wp2_with fail
      refine Calls.mono (hC _ ?_) ?_
      · repeat (first | with_reducible exact Turn.refl _ _ | refine Turn.setCell ?_ (by simp) _ | with_reducible refine Turn.trans ?_ (Turn.ofBelow hb1) | with_reducible refine Turn.trans ?_ (Turn.ofBelow hb2))
      clear hC
      rintro e w3 ⟨rfl, l3, hown3, hll3, hh3, ht3⟩
      have hE3 := (hE2.set (i := 4) (by omega) (.string (mtext (kk + 1 + 1 + 1 + 1)))).keep (ht3.mono (fun b hb => by rw [hFk]; simp [hb])) hgF
      clear q0 r0
      clear q1 r1
      clear q2 r2
      clear q3 r3
      clear q4 r4
      clear q5 r5
      have q0 := hE3.cellAt (i := 0) (by omega) rfl
      have r0 := hE3.free (k * 6 + 0)
      rw [Nat.add_zero] at q0 r0
      have q1 := hE3.cellAt (i := 1) (by omega) rfl
      have r1 := hE3.free (k * 6 + 1)
      have q2 := hE3.cellAt (i := 2) (by omega) rfl
      have r2 := hE3.free (k * 6 + 2)
      have q3 := hE3.cellAt (i := 3) (by omega) rfl
      have r3 := hE3.free (k * 6 + 3)
      have q4 := hE3.cellAt (i := 4) (by omega) rfl
      have r4 := hE3.free (k * 6 + 4)
      have q5 := hE3.cellAt (i := 5) (by omega) rfl
      have r5 := hE3.free (k * 6 + 5)
      go_wp2_with fail
      go_roundw
      case rel =>
        have hed := HOE.out _ _ (⟨⟨(kk), (kk + 1)⟩, ⟨(kk + 1 + 1), (mtext (kk + 1 + 1 + 1)), (mtext (kk + 1 + 1 + 1 + 1))⟩, (l3)⟩) hE3 ?own
        case own => exact ⟨_, F5, rfl, (show (Lit.int .i64 (kk)).wf = true from WalkArith.wf_i64 (by omega)), (show (Lit.int .i64 (kk + 1)).wf = true from WalkArith.wf_i64 (by omega)), (show (Lit.int .i64 (kk + 1 + 1)).wf = true from WalkArith.wf_i64 (by omega)), (show (mtext (kk + 1 + 1 + 1)).size ≤ 9223372036854775807 from Nat.le_trans (mtext_size _) (by omega)), (show (mtext (kk + 1 + 1 + 1 + 1)).size ≤ 9223372036854775807 from Nat.le_trans (mtext_size _) (by omega)), (ownS.frame oDot_good hown3 (fun b hb => (show Turn [g] w3 _ from by repeat (first | with_reducible exact Turn.refl _ _ | refine Turn.setCell ?_ (by simp) _ | with_reducible refine Turn.trans ?_ (Turn.ofBelow hb1) | with_reducible refine Turn.trans ?_ (Turn.ofBelow hb2))).block b (ownS.lt oDot_good hown3 b hb) (fun hm => by simp at hm; exact hgF (by rw [hFk, hm.symm]; simp [hb])))), hFk⟩
        obtain ⟨⟨cur2, hrow2⟩, ht2⟩ := hed
        rw [HS.out] at hrow2
        refine ⟨k + 1, _, l' ++ [⟨⟨(kk), (kk + 1)⟩, ⟨(kk + 1 + 1), (mtext (kk + 1 + 1 + 1)), (mtext (kk + 1 + 1 + 1 + 1))⟩, (l3)⟩], cur2, by omega, by go_num, by go_num, ?_, by simp [HL'.out], hrow2, HH.out _ _ ?_, HT.out.trans ht2⟩
        · rw [HW1.out]; have h1 := HKK.out; have h2 : cntAsked m = 1 + 1 + 1 + 1 + 1 + sumW cntDot m.fBefore := rfl; omega
        · have e5 : sumW cntDot m.fBefore = sumW cntDot l3 := by have h := hdS_end hdDot_end hh3; omega
          unfold hdAsked
          simp only [← e5]
          exact ⟨(by first | rfl | simp [marks_length]), (by first | rfl | simp [marks_length]), (by first | rfl | simp [marks_length]), (by first | rfl | simp [marks_length]), (by first | rfl | simp [marks_length]), hh3, (by first | rfl | simp [marks_length])⟩
      case measure => simp [intOf]; omega
    · have hkn : k = n := by omega
      have HT1 : Hid (l.take k = l) := List.take_of_length_le (by rw [HX.out]; omega)
      have HT2 : Hid (l.drop k = []) := List.drop_of_length_le (by rw [HX.out]; omega)
      rw [HT1.out] at hkk
      rw [HT2.out, List.append_nil] at hok
      have hk2 : 0 ≤ kk := by omega
      subst hkk
      go_wp2_with fail
      go_ret
      exact ⟨rfl, l', cur', hok, by rw [hl', hkn], hh, htk⟩

set_option maxHeartbeats 400000 in
theorem markAskedS_nil (q : Int) (w : World) :
    Calls Try.prog 26 #[.slice none 0 0, .int .i64 q] w fun e w' => e = .returned (.int .i64 q) ∧ w' = w := by
  go_enter Try.func26, Try.ntmps26
  go_wp2
  refine wp_loop_rounds 1 ?_
  rw [rounds_succ]
  go_wp2
  go_ret
  exact ⟨rfl, rfl⟩

theorem markAskedS_any (v : Value) (l : List MAsked) (F : List Nat) (q : Int) (w : World) (hq : 0 ≤ q) (hq2 : q + sumW cntAsked l ≤ 70368744177664) (ho : ownS 6 89 oAsked w v l F) (hN : F.Nodup) :
    Calls Try.prog 26 #[v, .int .i64 q] w fun e w' => e = .returned (.int .i64 (q + sumW cntAsked l)) ∧ ∃ l', ownS 6 89 oAsked w' v l' F ∧ l'.length = l.length ∧ hdS hdAsked l' q (q + sumW cntAsked l) ∧ Turn F w w' := by
  rcases ho.open hN with ⟨rfl, rfl, rfl⟩ | ⟨g, cap, cur, Fs, rfl, hrow, rfl⟩
  · refine (markAskedS_nil q w).mono ?_
    rintro e w' ⟨rfl, rfl⟩
    exact ⟨by simp [sumW], [], ho, rfl, by simp [hdS, sumW], Turn.refl _ _⟩
  · refine (markAskedS_row g cap _ l cur Fs q w rfl hq hq2 hrow).mono ?_
    rintro e w' ⟨rfl, l', cur', hr', hl', hh, ht⟩
    refine ⟨rfl, l', ?_, hl', hh, ht⟩
    have := hr'.shut
    rw [hl'] at this
    exact this

def tcntCluster (m : MCluster) : Nat := sumW cntReplica m.fReps + sumW cntMsg m.fNet + sumW cntAsked m.fAsked
def htCluster (m : MCluster) (q q' : Int) : Prop := ∃ q1 q2 : Int, hdS hdReplica m.fReps q q1 ∧ hdS hdMsg m.fNet q1 q2 ∧ hdS hdAsked m.fAsked q2 q'

theorem tcntCluster_le (m : MCluster) : tcntCluster m ≤ 32 * wCluster m := by
  unfold tcntCluster wCluster
  have e0 := sumW_cnt_le cntReplica_le m.fReps
  have e1 := sumW_cnt_le cntMsg_le m.fNet
  have e2 := sumW_cnt_le cntAsked_le m.fAsked
  omega

set_option maxHeartbeats 1000000 in
theorem markCluster_b (cs : List Value) (m : MCluster) (F : List Nat) (q : Int) (w : World) (hq : 0 ≤ q) (hq2 : q + tcntCluster m ≤ 70368744177664) (ho : oCluster w cs m F) (hN : F.Nodup) :
    Calls Try.prog 10 #[.agg cs.toArray, .int .i64 q] w fun e w' => ∃ (m' : MCluster) (q' : Int), e = .returned (.int .i64 q') ∧ q ≤ q' ∧ q' ≤ q + tcntCluster m ∧ oCluster w' cs m' F ∧ htCluster m' q q' ∧ Turn F w w' := by
  have HLT : Hid (∀ b, b ∈ F → b < w.heap.size) := oCluster_good.lt ho
  obtain ⟨v0, F0, v1, F1, v2, F2, rfl, h0, h1, h2, hFF⟩ := ho
  have HU : Hid (q + ((sumW cntReplica m.fReps + sumW cntMsg m.fNet + sumW cntAsked m.fAsked : Nat) : Int) ≤ 70368744177664) := hq2
  have hu := HU.out
  clear hq2
  obtain ⟨a0, c0, rfl, _⟩ := ownS.read oReplica_good h0
  obtain ⟨a1, c1, rfl, _⟩ := ownS.read oMsg_good h1
  obtain ⟨a2, c2, rfl, _⟩ := ownS.read oAsked_good h2
  have hN0 := hN
  rw [hFF, List.append_nil] at hN0
  have hM0 : ∀ b, b ∈ F0 → b ∈ F := fun b hb => by rw [hFF]; simp [hb]
  have hM1 : ∀ b, b ∈ F1 → b ∈ F := fun b hb => by rw [hFF]; simp [hb]
  have hM2 : ∀ b, b ∈ F2 → b ∈ F := fun b hb => by rw [hFF]; simp [hb]
  obtain ⟨hP1, hNd2, hX2⟩ := List.nodup_append.1 hN0
  have hD0_2 : ∀ b, b ∈ F0 → b ∉ F2 := fun b h1 h2 => hX2 b (by simp [h1]) b h2 rfl
  have hD2_0 : ∀ b, b ∈ F2 → b ∉ F0 := fun b h1 h2 => hX2 b (by simp [h2]) b h1 rfl
  have hD1_2 : ∀ b, b ∈ F1 → b ∉ F2 := fun b h1 h2 => hX2 b (by simp [h1]) b h2 rfl
  have hD2_1 : ∀ b, b ∈ F2 → b ∉ F1 := fun b h1 h2 => hX2 b (by simp [h2]) b h1 rfl
  obtain ⟨hP0, hNd1, hX1⟩ := List.nodup_append.1 hP1
  have hD0_1 : ∀ b, b ∈ F0 → b ∉ F1 := fun b h1 h2 => hX1 b (by simp [h1]) b h2 rfl
  have hD1_0 : ∀ b, b ∈ F1 → b ∉ F0 := fun b h1 h2 => hX1 b (by simp [h2]) b h1 rfl
  have hNd0 := hP0
  clear hN0 hP0 hX1 hP1 hX2
  go_enter Try.func10, Try.ntmps10
  have hC := fun (W : World) (ht : Turn ([]) w W) => markReplicaS_any _ m.fReps F0 (q) W (by omega) (by omega) (ownS.frame oReplica_good h0 (fun b hb => ht.block b (ownS.lt oReplica_good h0 b hb) (by simp))) hNd0
  go_wp2_with fail
  refine Calls.mono (hC _ ?_) ?_
  · exact Turn.ofBelow ((Below.refl _ _).alloc (Nat.le_refl _) _)
  clear hC
  rintro e w1 ⟨rfl, l0, o0, ll0, hh0, t1⟩
  have hT1 : Turn (F0 ++ []) w w1 := Turn.trans (Turn.ofBelow ((Below.refl _ _).alloc (Nat.le_refl _) _)) (t1.mono (fun b hb => by simp [hb]))
  have e0 : w1.cell? ⟨w.heap.size, 0, none⟩ = some (.slice a0 m.fReps.length c0) := (t1.cell (p := ⟨w.heap.size, 0, none⟩) (by simp) (fun hb => by have := HLT.out _ (hM0 _ hb); simp at this)).trans (by simp)
  have e1 : w1.cell? ⟨w.heap.size, 1, none⟩ = some (.slice a1 m.fNet.length c1) := (t1.cell (p := ⟨w.heap.size, 1, none⟩) (by simp) (fun hb => by have := HLT.out _ (hM0 _ hb); simp at this)).trans (by simp)
  have e2 : w1.cell? ⟨w.heap.size, 2, none⟩ = some (.slice a2 m.fAsked.length c2) := (t1.cell (p := ⟨w.heap.size, 2, none⟩) (by simp) (fun hb => by have := HLT.out _ (hM0 _ hb); simp at this)).trans (by simp)
  have hs1 : w.heap.size < w1.heap.size := by have h := t1.size; simp at h; omega
  have hC := fun (W : World) (ht : Turn (F0 ++ []) w W) => markMsgS_any _ m.fNet F1 (q + (sumW cntReplica m.fReps : Int)) W (by omega) (by omega) (ownS.frame oMsg_good h1 (fun b hb => ht.block b (ownS.lt oMsg_good h1 b hb) (fun hm => hD1_0 b hb (by simpa using hm)))) hNd1
  go_wp2_with fail
  refine Calls.mono (hC _ ?_) ?_
  · exact hT1
  clear hC
  rintro e w2 ⟨rfl, l1, o1, ll1, hh1, t2⟩
  have hT2 : Turn (F0 ++ F1 ++ []) w w2 := Turn.trans (hT1.mono (fun b hb => by simp only [List.append_nil, List.mem_append] at hb ⊢; simp [hb])) (t2.mono (fun b hb => by simp [hb]))
  replace e0 : w2.cell? ⟨w.heap.size, 0, none⟩ = some (.slice a0 m.fReps.length c0) := (t2.cell (p := ⟨w.heap.size, 0, none⟩) hs1 (fun hb => by have := HLT.out _ (hM1 _ hb); simp at this)).trans e0
  replace e1 : w2.cell? ⟨w.heap.size, 1, none⟩ = some (.slice a1 m.fNet.length c1) := (t2.cell (p := ⟨w.heap.size, 1, none⟩) hs1 (fun hb => by have := HLT.out _ (hM1 _ hb); simp at this)).trans e1
  replace e2 : w2.cell? ⟨w.heap.size, 2, none⟩ = some (.slice a2 m.fAsked.length c2) := (t2.cell (p := ⟨w.heap.size, 2, none⟩) hs1 (fun hb => by have := HLT.out _ (hM1 _ hb); simp at this)).trans e2
  have hs2 : w.heap.size < w2.heap.size := Nat.lt_of_lt_of_le hs1 t2.size
  have hC := fun (W : World) (ht : Turn (F0 ++ F1 ++ []) w W) => markAskedS_any _ m.fAsked F2 (q + (sumW cntReplica m.fReps : Int) + (sumW cntMsg m.fNet : Int)) W (by omega) (by omega) (ownS.frame oAsked_good h2 (fun b hb => ht.block b (ownS.lt oAsked_good h2 b hb) (fun hm => by simp only [List.append_nil, List.mem_append] at hm; rcases hm with hm | hm <;> first | exact hD2_0 b hb hm | exact hD2_1 b hb hm))) hNd2
  go_wp2_with fail
  refine Calls.mono (hC _ ?_) ?_
  · exact hT2
  clear hC
  rintro e w3 ⟨rfl, l2, o2, ll2, hh2, t3⟩
  have hT3 : Turn (F0 ++ F1 ++ F2 ++ []) w w3 := Turn.trans (hT2.mono (fun b hb => by simp only [List.append_nil, List.mem_append] at hb ⊢; simp [hb])) (t3.mono (fun b hb => by simp [hb]))
  replace e0 : w3.cell? ⟨w.heap.size, 0, none⟩ = some (.slice a0 m.fReps.length c0) := (t3.cell (p := ⟨w.heap.size, 0, none⟩) hs2 (fun hb => by have := HLT.out _ (hM2 _ hb); simp at this)).trans e0
  replace e1 : w3.cell? ⟨w.heap.size, 1, none⟩ = some (.slice a1 m.fNet.length c1) := (t3.cell (p := ⟨w.heap.size, 1, none⟩) hs2 (fun hb => by have := HLT.out _ (hM2 _ hb); simp at this)).trans e1
  replace e2 : w3.cell? ⟨w.heap.size, 2, none⟩ = some (.slice a2 m.fAsked.length c2) := (t3.cell (p := ⟨w.heap.size, 2, none⟩) hs2 (fun hb => by have := HLT.out _ (hM2 _ hb); simp at this)).trans e2
  have hs3 : w.heap.size < w3.heap.size := Nat.lt_of_lt_of_le hs2 t3.size
  have z0 := ownS.frame oReplica_good o0 (fun b hb => ((t2.mono (G := F1 ++ F2 ++ []) (fun b hb => by simp [hb])).trans (t3.mono (fun b hb => by simp [hb]))).block b (ownS.lt oReplica_good o0 b hb) (fun hm => by simp only [List.append_nil, List.mem_append] at hm; rcases hm with hm | hm <;> first | exact hD0_1 b hb hm | exact hD0_2 b hb hm))
  have z1 := ownS.frame oMsg_good o1 (fun b hb => (t3.mono (G := F2 ++ []) (fun b hb => by simp [hb])).block b (ownS.lt oMsg_good o1 b hb) (fun hm => hD1_2 b hb (by simpa using hm)))
  have z2 := o2
  clear t1 t2 t3
  go_wp2_with fail
  go_ret
  exact ⟨⟨(l0), (l1), (l2)⟩, _, rfl, by omega, by unfold tcntCluster; omega, ⟨_, F0, _, F1, _, F2, rfl, z0, z1, z2, hFF⟩, ⟨_, _, hh0, hh1, hh2⟩, hT3.mono (fun b hb => by rw [hFF]; simpa using hb)⟩

theorem markCluster_any (cs : List Value) (m : MCluster) (F : List Nat) (q : Int) (w : World) (hq : 0 ≤ q) (hq2 : q + tcntCluster m ≤ 70368744177664) (ho : oCluster w cs m F) (hN : F.Nodup) :
    Calls Try.prog 10 #[.agg cs.toArray, .int .i64 q] w fun e w' => ∃ (m' : MCluster) (q' : Int), e = .returned (.int .i64 q') ∧ q ≤ q' ∧ q' ≤ 70368744177664 ∧ oCluster w' cs m' F ∧ htCluster m' q q' ∧ Turn F w w' :=
  (markCluster_b cs m F q w hq hq2 ho hN).mono fun e w' ⟨m', q', h1, h2, h3, h4⟩ => ⟨m', q', h1, h2, by omega, h4⟩

end Go.Proofs.Ytembioiaeimegaa
