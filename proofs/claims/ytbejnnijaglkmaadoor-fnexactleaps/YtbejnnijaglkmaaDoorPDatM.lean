/-
  Marks left in what was handed out, and found again.
-/
import Derived.Test.YtbejnnijaglkmaaDoorMarkT
import Derived.Test.YtbejnnijaglkmaaDoorByteL
import Derived.Test.YtbejnnijaglkmaaDoorPDat
import Derived.Deep.RegionWith
namespace Go.Proofs.YtbejnnijaglkmaaDoor
open Go.RowKit
set_option linter.unusedVariables false
set_option maxRecDepth 10000

def cntPair (m : MPair) : Nat := 1 + 1 + 1
def hdPair (m : MPair) (q q' : Int) : Prop := m.fKey = mtext (q) ∧ m.fVal = mtext (q + 1) ∧ m.fGone = ((q + 1 + 1) % 3 == 0) ∧ q' = q + 1 + 1 + 1
theorem cntPair_le (m : MPair) : cntPair m ≤ 32 * (1 + wPair m) := by
  unfold cntPair wPair
  omega
theorem hdPair_end (m : MPair) (q q' : Int) (h : hdPair m q q') : q' = q + cntPair m := by
  obtain ⟨_, _, _, rfl⟩ := h
  unfold cntPair
  omega

set_option maxHeartbeats 1000000 in
theorem markPairS_row (g cap n : Nat) (l : List MPair) (cur : Array Value) (Fs : List (List Nat)) (q : Int) (w : World) (hx : l.length = n) (hq : 0 ≤ q) (hq2 : q + sumW cntPair l ≤ 70368744177664) (ho : OwnRow 3 76 oPair w g cap l cur Fs) :
    Calls Tryd.prog 27 #[.slice (some ⟨g, 0, none⟩) n cap, .int .i64 q] w fun e w' => e = .returned (.int .i64 (q + sumW cntPair l)) ∧ ∃ l' cur', OwnRow 3 76 oPair w' g cap l' cur' Fs ∧ l'.length = n ∧ hdS hdPair l' q (q + sumW cntPair l) ∧ Turn (g :: Fs.flatten) w w' := by
  have HX := Hid.mk hx
  clear hx
  have hcap : n ≤ 9223372036854775807 := by have h1 := ho.le; have h2 := ho.max; have h3 := HX.out; unfold maxLen at h2; omega
  have HO := Hid.mk ho
  clear ho
  go_enter Tryd.func27, Tryd.ntmps27
  go_wp2_with fail
  go_loopw [1, 5] (fun kv i wr => ∃ (k : Nat) (kk : Int) (l' : List MPair) (cur' : Array Value), k ≤ n ∧ i = .int .i64 k ∧ kv = .int .i64 kk ∧ kk = q + sumW cntPair (l.take k) ∧ l'.length = k ∧ OwnRow 3 76 oPair wr g cap (l' ++ l.drop k) cur' Fs ∧ hdS hdPair l' q kk ∧ Turn (g :: Fs.flatten) w wr) (fun _ i _ => n - (intOf i).toNat)
  case atStart => exact ⟨0, q, [], cur, Nat.zero_le _, rfl, rfl, by simp [sumW], rfl, by simpa using HO.out, rfl, Turn.refl _ _⟩
  case round =>
    obtain ⟨k, kk, l', cur', hk, rfl, rfl, hkk, hl', hok, hh, htk⟩ := hrel
    by_cases hlt : k < n
    · have hkl : k < l.length := by rw [HX.out]; exact hlt
      have hlen2 : k < (l' ++ l.drop k).length := by rw [List.length_append, hl', List.length_drop]; omega
      have hw1 := sumW_take_succ (f := cntPair) hkl
      have hw2 := sumW_take_le cntPair l (k + 1)
      have hel := hok.each k hlen2
      rw [get_mid hl' hkl hlen2] at hel
      obtain ⟨hgF, hFN⟩ := hok.part hlen2
      have hE0 := Edit.start hok k (Fs.getD k [])
      generalize hcs : seg 3 cur' k = cs at hel hE0
      clear hcs
      have HOE := Hid.mk (fun w' cs' m' he ho => OwnRow.edit (w' := w') (cs := cs') (m' := m') oPair_good hok hlen2 he ho)
      have HS := Hid.mk (fun m' => set_mid hl' hkl m')
      have HH := Hid.mk (fun x q2 hx => hdS_snoc (x := x) (q2 := q2) hh hx)
      have HL' := Hid.mk hl'
      have HT := Hid.mk htk
      generalize hm0 : l[k] = m at *
      generalize Fs.getD k [] = Fk at *
      have HKK := Hid.mk hkk
      have HW1 := Hid.mk hw1
      have hlo : 0 ≤ kk := by omega
      have hup : kk + cntPair m ≤ 70368744177664 := by omega
      have HUP : Hid (kk + (1 + 1 + 1 : Nat) ≤ 70368744177664) := hup
      have HU := HUP.out
      clear hm0 hok hh hl' htk hlen2 hkk hw1 hw2 hup
      obtain ⟨rfl, h0, h1, h2, hFk⟩ := hel
      have q0 := hE0.cellAt (i := 0) (by omega) rfl
      have r0 := hE0.free (k * 3 + 0)
      rw [Nat.add_zero] at q0 r0
      have q1 := hE0.cellAt (i := 1) (by omega) rfl
      have r1 := hE0.free (k * 3 + 1)
      have q2 := hE0.cellAt (i := 2) (by omega) rfl
      have r2 := hE0.free (k * 3 + 2)
      skip
      go_wp2_with fail
      refine (markText_any (kk) _ (by omega) (by omega)).mono ?_
      rintro e w1 ⟨rfl, hb1⟩
      have hE1 := hE0.keep (Turn.ofBelow hb1) hgF
      clear q0 r0
      clear q1 r1
      clear q2 r2
      have q0 := hE1.cellAt (i := 0) (by omega) rfl
      have r0 := hE1.free (k * 3 + 0)
      rw [Nat.add_zero] at q0 r0
      have q1 := hE1.cellAt (i := 1) (by omega) rfl
      have r1 := hE1.free (k * 3 + 1)
      have q2 := hE1.cellAt (i := 2) (by omega) rfl
      have r2 := hE1.free (k * 3 + 2)
      go_wp2_with fail
      refine (markText_any (kk + 1) _ (by omega) (by omega)).mono ?_
      rintro e w2 ⟨rfl, hb2⟩
      have hE2 := (hE1.set (i := 0) (by omega) (.string (mtext (kk)))).keep (Turn.ofBelow hb2) hgF
      clear q0 r0
      clear q1 r1
      clear q2 r2
      have q0 := hE2.cellAt (i := 0) (by omega) rfl
      have r0 := hE2.free (k * 3 + 0)
      rw [Nat.add_zero] at q0 r0
      have q1 := hE2.cellAt (i := 1) (by omega) rfl
      have r1 := hE2.free (k * 3 + 1)
      have q2 := hE2.cellAt (i := 2) (by omega) rfl
      have r2 := hE2.free (k * 3 + 2)
      go_wp2_with fail
      go_roundw
      case rel =>
        have hed := HOE.out _ _ (⟨(mtext (kk)), (mtext (kk + 1)), (((kk + 1 + 1) % 3 == 0))⟩) ((hE2.set (i := 1) (by omega) (.string (mtext (kk + 1)))).set (i := 2) (by omega) (.bool ((kk + 1 + 1) % 3 == 0))) ?own
        case own => exact ⟨rfl, (show (mtext (kk)).size ≤ 9223372036854775807 from Nat.le_trans (mtext_size _) (by omega)), (show (mtext (kk + 1)).size ≤ 9223372036854775807 from Nat.le_trans (mtext_size _) (by omega)), trivial, hFk⟩
        obtain ⟨⟨cur2, hrow2⟩, ht2⟩ := hed
        rw [HS.out] at hrow2
        refine ⟨k + 1, _, l' ++ [⟨(mtext (kk)), (mtext (kk + 1)), (((kk + 1 + 1) % 3 == 0))⟩], cur2, by omega, by go_num, by go_num, ?_, by simp [HL'.out], hrow2, HH.out _ _ ?_, HT.out.trans ht2⟩
        · rw [HW1.out]; have h1 := HKK.out; have h2 : cntPair m = 1 + 1 + 1 := rfl; omega
        · exact ⟨(by first | rfl | simp [marks_length]), (by first | rfl | simp [marks_length]), (by first | rfl | simp [marks_length]), (by first | rfl | simp [marks_length])⟩
      case measure => simp [intOf]; omega
    · have hkn : k = n := by omega
      have HT1 : Hid (l.take k = l) := List.take_of_length_le (by rw [HX.out]; omega)
      have HT2 : Hid (l.drop k = []) := List.drop_of_length_le (by rw [HX.out]; omega)
      rw [HT1.out] at hkk
      rw [HT2.out, List.append_nil] at hok
      have hk2 : 0 ≤ kk := by omega
      subst hkk
      go_wp2_with fail
      go_ret
      exact ⟨rfl, l', cur', hok, by rw [hl', hkn], hh, htk⟩

set_option maxHeartbeats 400000 in
theorem markPairS_nil (q : Int) (w : World) :
    Calls Tryd.prog 27 #[.slice none 0 0, .int .i64 q] w fun e w' => e = .returned (.int .i64 q) ∧ w' = w := by
  go_enter Tryd.func27, Tryd.ntmps27
  go_wp2
  refine wp_loop_rounds 1 ?_
  rw [rounds_succ]
  go_wp2
  go_ret
  exact ⟨rfl, rfl⟩

theorem markPairS_any (v : Value) (l : List MPair) (F : List Nat) (q : Int) (w : World) (hq : 0 ≤ q) (hq2 : q + sumW cntPair l ≤ 70368744177664) (ho : ownS 3 76 oPair w v l F) (hN : F.Nodup) :
    Calls Tryd.prog 27 #[v, .int .i64 q] w fun e w' => e = .returned (.int .i64 (q + sumW cntPair l)) ∧ ∃ l', ownS 3 76 oPair w' v l' F ∧ l'.length = l.length ∧ hdS hdPair l' q (q + sumW cntPair l) ∧ Turn F w w' := by
  rcases ho.open hN with ⟨rfl, rfl, rfl⟩ | ⟨g, cap, cur, Fs, rfl, hrow, rfl⟩
  · refine (markPairS_nil q w).mono ?_
    rintro e w' ⟨rfl, rfl⟩
    exact ⟨by simp [sumW], [], ho, rfl, by simp [hdS, sumW], Turn.refl _ _⟩
  · refine (markPairS_row g cap _ l cur Fs q w rfl hq hq2 hrow).mono ?_
    rintro e w' ⟨rfl, l', cur', hr', hl', hh, ht⟩
    refine ⟨rfl, l', ?_, hl', hh, ht⟩
    have := hr'.shut
    rw [hl'] at this
    exact this

set_option maxHeartbeats 1000000 in
theorem heldPairS_any (a : Option Addr) (n cap : Nat) (l : List MPair) (q q' : Int) (w : World) (hx : l.length = n) (hr : LeafL 3 rPair w.heap.size w a cap l) (hh : hdS hdPair l q q') (hq : 0 ≤ q) (hq' : q' ≤ 70368744177664) :
    Calls Tryd.prog 28 #[.slice a n cap, .int .i64 q] w fun e w' => e = .returned (.int .i64 q') ∧ Below w.heap.size w w' := by
  have HX := Hid.mk hx
  clear hx
  have hcap : n ≤ 9223372036854775807 := by have h1 := hr.1; have h2 := hr.2.1; have h3 := HX.out; omega
  replace hr := hr.2.2
  have HH := Hid.mk hh
  clear hh
  go_enter Tryd.func28, Tryd.ntmps28
  go_wp2_with fail
  go_loopw [1, 5] (fun kv i wr => ∃ (k : Nat) (kk : Int), k ≤ n ∧ i = .int .i64 k ∧ kv = .int .i64 kk ∧ 0 ≤ kk ∧ hdS hdPair (l.drop k) kk q' ∧ Below w.heap.size w wr) (fun _ i _ => n - (intOf i).toNat)
  case atStart => exact ⟨0, q, Nat.zero_le _, rfl, rfl, hq, by simpa using HH.out, Below.refl _ _⟩
  case round =>
    obtain ⟨k, kk, hk, rfl, rfl, hk0, hh, hbk⟩ := hrel
    by_cases hlt : k < n
    · have hkl : k < l.length := by rw [HX.out]; exact hlt
      rw [List.drop_eq_getElem_cons hkl] at hh
      obtain ⟨q1, hh1, hh2⟩ := hh
      have hqe := hdS_end hdPair_end hh2
      obtain ⟨b1, o1, rfl, hB, cs, hcl, hcell, hrT⟩ := (hr.below rPair_good hbk) k hkl
      have hrT := rPair_good.mono hrT hbk.size
      generalize l[k] = m at *
      obtain ⟨f0, f1, f2, hqf⟩ := hh1
      have hup : kk + 1 + 1 + 1 ≤ 70368744177664 := by omega
      have HR := Hid.mk hh2
      have HQ := Hid.mk hqf
      have hq10 : 0 ≤ q1 := by omega
      clear hh2 hqf hqe HH hr
      obtain ⟨rfl, h0, h1, h2, _⟩ := hrT
      have k0 := hcell 0 _ rfl
      rw [Nat.add_zero] at k0
      have k1 := hcell 1 _ rfl
      have k2 := hcell 2 _ rfl
      rw [f0] at k0
      rw [f1] at k1
      rw [f2] at k2
      clear hcell hcl
      have hy0 : b1 < wr.heap.size := Nat.lt_of_lt_of_le hB hbk.size
      go_wp2_with fail
      go_region_with (go_at_call 60; refine (markText_any (kk) _ (by omega) (by omega)).mono ?_; rintro e w1 ⟨rfl, hb1⟩; have x0 : w1.cell? ⟨b1, o1 + k * 3, none⟩ = _ := (hb1.cell (p := ⟨b1, o1 + k * 3, none⟩) (by first | exact hy0 | simpa using hy0)).trans k0)
      all_goals
        have hB1 : Below wr.heap.size wr w1 := Below.trans (by repeat (first | with_reducible exact Below.refl _ _ | with_reducible assumption | refine Below.drew ?_ | refine Below.alloc ?_ (by simp) _)) (hb1.mono (by first | (with_reducible assumption) | (first | exact hB1.size | exact hB2.size | exact hB3.size) | simp))
        have hy1 : b1 < w1.heap.size := Nat.lt_of_lt_of_le hy0 hB1.size
        replace k0 : w1.cell? ⟨b1, o1 + k * 3, none⟩ = _ := (hb1.cell (p := ⟨b1, o1 + k * 3, none⟩) (by first | exact hy0 | simpa using hy0)).trans k0
        replace k1 : w1.cell? ⟨b1, o1 + k * 3 + 1, none⟩ = _ := (hb1.cell (p := ⟨b1, o1 + k * 3 + 1, none⟩) (by first | exact hy0 | simpa using hy0)).trans k1
        replace k2 : w1.cell? ⟨b1, o1 + k * 3 + 2, none⟩ = _ := (hb1.cell (p := ⟨b1, o1 + k * 3 + 2, none⟩) (by first | exact hy0 | simpa using hy0)).trans k2
        go_wp2_with fail
        go_region_with (go_at_call 60; refine (markText_any (kk + 1) _ (by omega) (by omega)).mono ?_; rintro e w2 ⟨rfl, hb2⟩; have x1 : w2.cell? ⟨b1, o1 + k * 3 + 1, none⟩ = _ := (hb2.cell (p := ⟨b1, o1 + k * 3 + 1, none⟩) (by first | exact hy1 | simpa using hy1)).trans k1)
        all_goals
          have hB2 : Below wr.heap.size wr w2 := Below.trans (by repeat (first | with_reducible exact Below.refl _ _ | with_reducible assumption | refine Below.drew ?_ | refine Below.alloc ?_ (by simp) _)) (hb2.mono (by first | (with_reducible assumption) | (first | exact hB1.size | exact hB2.size | exact hB3.size) | simp))
          have hy2 : b1 < w2.heap.size := Nat.lt_of_lt_of_le hy0 hB2.size
          replace k1 : w2.cell? ⟨b1, o1 + k * 3 + 1, none⟩ = _ := (hb2.cell (p := ⟨b1, o1 + k * 3 + 1, none⟩) (by first | exact hy1 | simpa using hy1)).trans k1
          replace k2 : w2.cell? ⟨b1, o1 + k * 3 + 2, none⟩ = _ := (hb2.cell (p := ⟨b1, o1 + k * 3 + 2, none⟩) (by first | exact hy1 | simpa using hy1)).trans k2
          go_wp2_with fail
          go_roundw
          case rel => exact ⟨k + 1, q1, by omega, by go_num, by rw [HQ.out] <;> go_num, hq10, HR.out, (Below.trans hbk (Below.mono (show Below wr.heap.size wr _ from by repeat (first | with_reducible exact Below.refl _ _ | with_reducible assumption | refine Below.drew ?_ | refine Below.alloc ?_ (by simp) _)) hbk.size))⟩
          case measure => simp [intOf]; omega
    · have hkn : k = n := by omega
      have HT2 : Hid (l.drop k = []) := List.drop_of_length_le (by rw [HX.out]; omega)
      rw [HT2.out] at hh
      have hqk : q' = kk := hh
      subst hqk
      go_wp2_with fail
      go_ret
      exact ⟨rfl, hbk⟩

end Go.Proofs.YtbejnnijaglkmaaDoor
