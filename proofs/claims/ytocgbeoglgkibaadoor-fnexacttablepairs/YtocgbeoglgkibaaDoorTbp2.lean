/-
  Part 3 of the texts that the proof leans on.
-/
import Derived.Test.YtocgbeoglgkibaaDoorRows
import Derived.Test.YtocgbeoglgkibaaDoorTbp0
import Derived.Test.YtocgbeoglgkibaaDoorTbp1
import Derived.Test.YtocgbeoglgkibaaDoorChecked
import Derived.Deep.RegionWith
import Derived.Deep.RegionHeld3
import Derived.Lib.ConvBytes
import Derived.Laws.BitsLemmas
import Derived.Laws.BitsAllLaws
set_option linter.unusedVariables false
set_option linter.unusedSimpArgs false
set_option maxRecDepth 10000

namespace Go.Proofs.YtocgbeoglgkibaaDoor
open Go.RowKit

def mtLoop : Nat → Int → ByteArray → ByteArray
  | 0, _, o => o
  | f + 1, k, o => if k ≤ 0 then o else mtLoop f (k / 10) (strOfNums [48 + k % 10] ++ o)

def mtext (q : Int) : ByteArray := if q ≤ 0 then strOfNums [109, 48] else strOfNums [109] ++ mtLoop (q.toNat + 1) q ByteArray.empty

theorem mtLoop_step {f : Nat} {k : Int} {o : ByteArray} (h : 0 < k) : mtLoop (f + 1) k o = mtLoop f (k / 10) (strOfNums [48 + k % 10] ++ o) := by
  rw [mtLoop, if_neg (by omega)]
theorem mtLoop_done {f : Nat} {k : Int} {o : ByteArray} (h : k ≤ 0) : mtLoop f k o = o := by
  cases f with
  | zero => rfl
  | succ f => rw [mtLoop, if_pos h]

set_option maxHeartbeats 400000 in
theorem markText_any (q : Int) (w : World) (hq : 0 ≤ q) (hq2 : q ≤ 140737488351232) :
    Calls Tryd.prog 21 #[.int .i64 q] w fun e w' => e = .returned (.string (mtext q)) ∧ Below w.heap.size w w' := by
  by_cases h0 : q ≤ 0
  · have HV : Hid (mtext q = strOfNums [109, 48]) := if_pos h0
    go_enter Tryd.func21, Tryd.ntmps21
    go_wp2
    go_ret
    exact ⟨by rw [HV.out]; rfl, Below.refl _ _⟩
  · have HV : Hid (mtext q = strOfNums [109] ++ mtLoop (q.toNat + 1) q ByteArray.empty) := if_neg h0
    go_enter Tryd.func21, Tryd.ntmps21
    go_wp2
    go_loopw [0, 3] (fun kk oo wr => ∃ (f : Nat) (k : Int) (o : ByteArray), kk = .int .i64 k ∧ oo = .string o ∧ 0 ≤ k ∧ k ≤ q ∧ k.toNat < f ∧ o.size + f = q.toNat + 1 ∧ mtLoop f k o = mtLoop (q.toNat + 1) q ByteArray.empty ∧ Below w.heap.size w wr) (fun kk _ _ => (intOf kk).toNat)
    case atStart => exact ⟨q.toNat + 1, q, ByteArray.empty, rfl, rfl, hq, by omega, by omega, by simp, rfl, Below.refl _ _⟩
    case round =>
      obtain ⟨f, k, o, rfl, rfl, hk0, hkq, hkf, hof, hm, hbk⟩ := hrel
      have HM := Hid.mk hm
      clear hm
      by_cases hlt : 0 < k
      · have hconv : (convert 22 9 (.slice (some ⟨wr.heap.size, 0, none⟩) 1 1)).run Tryd.prog (wr.alloc (.cells #[.int .u8 (48 + k % 10)] 5)) = .ok (.string (strOfNums [48 + k % 10])) (wr.alloc (.cells #[.int .u8 (48 + k % 10)] 5)) :=
          run_convert_bytes_arg _ 22 5 Tryd.underlying22 Tryd.underlying5 wr.heap.size 0 1 1 [48 + k % 10] rfl (fun i hi => by
            have h0 : i = 0 := by omega
            subst h0
            simp) 9 Tryd.underlying9
        obtain ⟨f', rfl⟩ : ∃ f', f = f' + 1 := ⟨f - 1, by omega⟩
        have HS := Hid.mk (mtLoop_step (f := f') (o := o) hlt)
        have HZ : Hid ((strOfNums [48 + k % 10] ++ o).size = 1 + o.size) := by
          show (strOfNums [48 + k % 10] ++ o).size = 1 + o.size
          rw [ByteArray.size_append, strOfNums_size]
          rfl
        have hz1 : (strOfNums [48 + k % 10]).size = 1 := strOfNums_size _
        generalize strOfNums [48 + k % 10] = d1 at hconv HS HZ hz1
        go_wp2
        go_roundw
        case rel => exact ⟨f', k / 10, d1 ++ o, by go_num, rfl, by omega, by omega, by omega, by rw [HZ.out]; omega, by rw [← HS.out]; exact HM.out, hbk.alloc hbk.size _⟩
        case measure => simp [intOf]; omega
      · have hk00 : k ≤ 0 := by omega
        have HD := Hid.mk (mtLoop_done (f := f) (o := o) hk00)
        go_wp2
        go_ret
        exact ⟨by rw [HV.out, ← HM.out, HD.out]; rfl, hbk⟩

theorem mtLoop_size (f : Nat) (k : Int) (o : ByteArray) : (mtLoop f k o).size ≤ o.size + f := by
  induction f generalizing k o with
  | zero => simp [mtLoop]
  | succ f ih =>
    rw [mtLoop]
    split
    · omega
    · refine Nat.le_trans (ih _ _) ?_
      rw [ByteArray.size_append, strOfNums_size]
      simp
      omega

theorem mtext_size (q : Int) : (mtext q).size ≤ q.toNat + 2 := by
  unfold mtext
  split
  · rw [strOfNums_size]; simp
  · rw [ByteArray.size_append, strOfNums_size]
    have := mtLoop_size (q.toNat + 1) q ByteArray.empty
    simp at this ⊢
    omega


def cntPair (m : MPair) : Nat := 1 + 1 + 1
def hdPair (m : MPair) (q q' : Int) : Prop := m.fKey = mtext (q) ∧ m.fVal = mtext (q + 1) ∧ m.fGone = ((q + 1 + 1) % 3 == 0) ∧ q' = q + 1 + 1 + 1
theorem cntPair_le (m : MPair) : cntPair m ≤ 32 * (1 + wPair m) := by
  unfold cntPair wPair
  omega
theorem hdPair_end (m : MPair) (q q' : Int) (h : hdPair m q q') : q' = q + cntPair m := by
  obtain ⟨_, _, _, rfl⟩ := h
  unfold cntPair
  omega

set_option maxHeartbeats 1000000 in
theorem markPairS_row (g cap n : Nat) (l : List MPair) (cur : Array Value) (Fs : List (List Nat)) (q : Int) (w : World) (hx : l.length = n) (hq : 0 ≤ q) (hq2 : q + sumW cntPair l ≤ 70368744177664) (ho : OwnRow 3 45 oPair w g cap l cur Fs) :
    Calls Tryd.prog 10 #[.slice (some ⟨g, 0, none⟩) n cap, .int .i64 q] w fun e w' => e = .returned (.int .i64 (q + sumW cntPair l)) ∧ ∃ l' cur', OwnRow 3 45 oPair w' g cap l' cur' Fs ∧ l'.length = n ∧ hdS hdPair l' q (q + sumW cntPair l) ∧ Turn (g :: Fs.flatten) w w' := by
  have HX := Hid.mk hx
  clear hx
  have hcap : n ≤ 9223372036854775807 := by have h1 := ho.le; have h2 := ho.max; have h3 := HX.out; unfold maxLen at h2; omega
  have HO := Hid.mk ho
  clear ho
  go_enter Tryd.func10, Tryd.ntmps10
  go_wp2_with fail
  go_loopw [1, 5] (fun kv i wr => ∃ (k : Nat) (kk : Int) (l' : List MPair) (cur' : Array Value), k ≤ n ∧ i = .int .i64 k ∧ kv = .int .i64 kk ∧ kk = q + sumW cntPair (l.take k) ∧ l'.length = k ∧ OwnRow 3 45 oPair wr g cap (l' ++ l.drop k) cur' Fs ∧ hdS hdPair l' q kk ∧ Turn (g :: Fs.flatten) w wr) (fun _ i _ => n - (intOf i).toNat)
  case atStart => exact ⟨0, q, [], cur, Nat.zero_le _, rfl, rfl, by simp [sumW], rfl, by simpa using HO.out, rfl, Turn.refl _ _⟩
  case round =>
    obtain ⟨k, kk, l', cur', hk, rfl, rfl, hkk, hl', hok, hh, htk⟩ := hrel
    by_cases hlt : k < n
    · have hkl : k < l.length := by rw [HX.out]; exact hlt
      have hlen2 : k < (l' ++ l.drop k).length := by rw [List.length_append, hl', List.length_drop]; omega
      have hw1 := sumW_take_succ (f := cntPair) hkl
      have hw2 := sumW_take_le cntPair l (k + 1)
      have hel := hok.each k hlen2
      rw [get_mid hl' hkl hlen2] at hel
      obtain ⟨hgF, hFN⟩ := hok.part hlen2
      have hE0 := Edit.start hok k (Fs.getD k [])
      generalize hcs : seg 3 cur' k = cs at hel hE0
      clear hcs
      have HOE := Hid.mk (fun w' cs' m' he ho => OwnRow.edit (w' := w') (cs := cs') (m' := m') oPair_good hok hlen2 he ho)
      have HS := Hid.mk (fun m' => set_mid hl' hkl m')
      have HH := Hid.mk (fun x q2 hx => hdS_snoc (x := x) (q2 := q2) hh hx)
      have HL' := Hid.mk hl'
      have HT := Hid.mk htk
      generalize hm0 : l[k] = m at *
      generalize Fs.getD k [] = Fk at *
      have HKK := Hid.mk hkk
      have HW1 := Hid.mk hw1
      have hlo : 0 ≤ kk := by omega
      have hup : kk + cntPair m ≤ 70368744177664 := by omega
      have HUP : Hid (kk + (1 + 1 + 1 : Nat) ≤ 70368744177664) := hup
      have HU := HUP.out
      clear hm0 hok hh hl' htk hlen2 hkk hw1 hw2 hup
      obtain ⟨rfl, h0, h1, h2, hFk⟩ := hel
      have q0 := hE0.cellAt (i := 0) (by omega) rfl
      have r0 := hE0.free (k * 3 + 0)
      rw [Nat.add_zero] at q0 r0
      have q1 := hE0.cellAt (i := 1) (by omega) rfl
      have r1 := hE0.free (k * 3 + 1)
      have q2 := hE0.cellAt (i := 2) (by omega) rfl
      have r2 := hE0.free (k * 3 + 2)
      skip
      go_wp2_with fail
      refine (markText_any (kk) _ (by omega) (by omega)).mono ?_
      rintro e w1 ⟨rfl, hb1⟩
      have hE1 := hE0.keep (Turn.ofBelow hb1) hgF
      clear q0 r0
      clear q1 r1
      clear q2 r2
      have q0 := hE1.cellAt (i := 0) (by omega) rfl
      have r0 := hE1.free (k * 3 + 0)
      rw [Nat.add_zero] at q0 r0
      have q1 := hE1.cellAt (i := 1) (by omega) rfl
      have r1 := hE1.free (k * 3 + 1)
      have q2 := hE1.cellAt (i := 2) (by omega) rfl
      have r2 := hE1.free (k * 3 + 2)
      go_wp2_with fail
      refine (markText_any (kk + 1) _ (by omega) (by omega)).mono ?_
      rintro e w2 ⟨rfl, hb2⟩
      have hE2 := (hE1.set (i := 0) (by omega) (.string (mtext (kk)))).keep (Turn.ofBelow hb2) hgF
      clear q0 r0
      clear q1 r1
      clear q2 r2
      have q0 := hE2.cellAt (i := 0) (by omega) rfl
      have r0 := hE2.free (k * 3 + 0)
      rw [Nat.add_zero] at q0 r0
      have q1 := hE2.cellAt (i := 1) (by omega) rfl
      have r1 := hE2.free (k * 3 + 1)
      have q2 := hE2.cellAt (i := 2) (by omega) rfl
      have r2 := hE2.free (k * 3 + 2)
      go_wp2_with fail
      go_roundw
      case rel =>
        have hed := HOE.out _ _ (⟨(mtext (kk)), (mtext (kk + 1)), (((kk + 1 + 1) % 3 == 0))⟩) ((hE2.set (i := 1) (by omega) (.string (mtext (kk + 1)))).set (i := 2) (by omega) (.bool ((kk + 1 + 1) % 3 == 0))) ?own
        case own => exact ⟨rfl, (show (mtext (kk)).size ≤ 9223372036854775807 from Nat.le_trans (mtext_size _) (by omega)), (show (mtext (kk + 1)).size ≤ 9223372036854775807 from Nat.le_trans (mtext_size _) (by omega)), trivial, hFk⟩
        obtain ⟨⟨cur2, hrow2⟩, ht2⟩ := hed
        rw [HS.out] at hrow2
        refine ⟨k + 1, _, l' ++ [⟨(mtext (kk)), (mtext (kk + 1)), (((kk + 1 + 1) % 3 == 0))⟩], cur2, by omega, by go_num, by go_num, ?_, by simp [HL'.out], hrow2, HH.out _ _ ?_, HT.out.trans ht2⟩
        · rw [HW1.out]; have h1 := HKK.out; have h2 : cntPair m = 1 + 1 + 1 := rfl; omega
        · exact ⟨(by first | rfl | simp [marks_length]), (by first | rfl | simp [marks_length]), (by first | rfl | simp [marks_length]), (by first | rfl | simp [marks_length])⟩
      case measure => simp [intOf]; omega
    · have hkn : k = n := by omega
      have HT1 : Hid (l.take k = l) := List.take_of_length_le (by rw [HX.out]; omega)
      have HT2 : Hid (l.drop k = []) := List.drop_of_length_le (by rw [HX.out]; omega)
      rw [HT1.out] at hkk
      rw [HT2.out, List.append_nil] at hok
      have hk2 : 0 ≤ kk := by omega
      subst hkk
      go_wp2_with fail
      go_ret
      exact ⟨rfl, l', cur', hok, by rw [hl', hkn], hh, htk⟩

set_option maxHeartbeats 400000 in
theorem markPairS_nil (q : Int) (w : World) :
    Calls Tryd.prog 10 #[.slice none 0 0, .int .i64 q] w fun e w' => e = .returned (.int .i64 q) ∧ w' = w := by
  go_enter Tryd.func10, Tryd.ntmps10
  go_wp2
  refine wp_loop_rounds 1 ?_
  rw [rounds_succ]
  go_wp2
  go_ret
  exact ⟨rfl, rfl⟩

theorem markPairS_any (v : Value) (l : List MPair) (F : List Nat) (q : Int) (w : World) (hq : 0 ≤ q) (hq2 : q + sumW cntPair l ≤ 70368744177664) (ho : ownS 3 45 oPair w v l F) (hN : F.Nodup) :
    Calls Tryd.prog 10 #[v, .int .i64 q] w fun e w' => e = .returned (.int .i64 (q + sumW cntPair l)) ∧ ∃ l', ownS 3 45 oPair w' v l' F ∧ l'.length = l.length ∧ hdS hdPair l' q (q + sumW cntPair l) ∧ Turn F w w' := by
  rcases ho.open hN with ⟨rfl, rfl, rfl⟩ | ⟨g, cap, cur, Fs, rfl, hrow, rfl⟩
  · refine (markPairS_nil q w).mono ?_
    rintro e w' ⟨rfl, rfl⟩
    exact ⟨by simp [sumW], [], ho, rfl, by simp [hdS, sumW], Turn.refl _ _⟩
  · refine (markPairS_row g cap _ l cur Fs q w rfl hq hq2 hrow).mono ?_
    rintro e w' ⟨rfl, l', cur', hr', hl', hh, ht⟩
    refine ⟨rfl, l', ?_, hl', hh, ht⟩
    have := hr'.shut
    rw [hl'] at this
    exact this

set_option maxHeartbeats 1000000 in
theorem heldPairS_any (a : Option Addr) (n cap : Nat) (l : List MPair) (q q' : Int) (w : World) (hx : l.length = n) (hr : LeafL 3 rPair w.heap.size w a cap l) (hh : hdS hdPair l q q') (hq : 0 ≤ q) (hq' : q' ≤ 70368744177664) :
    Calls Tryd.prog 11 #[.slice a n cap, .int .i64 q] w fun e w' => e = .returned (.int .i64 q') ∧ Below w.heap.size w w' := by
  have HX := Hid.mk hx
  clear hx
  have hcap : n ≤ 9223372036854775807 := by have h1 := hr.1; have h2 := hr.2.1; have h3 := HX.out; omega
  replace hr := hr.2.2
  have HH := Hid.mk hh
  clear hh
  go_enter Tryd.func11, Tryd.ntmps11
  go_wp2_with fail
  go_loopw [1, 5] (fun kv i wr => ∃ (k : Nat) (kk : Int), k ≤ n ∧ i = .int .i64 k ∧ kv = .int .i64 kk ∧ 0 ≤ kk ∧ hdS hdPair (l.drop k) kk q' ∧ Below w.heap.size w wr) (fun _ i _ => n - (intOf i).toNat)
  case atStart => exact ⟨0, q, Nat.zero_le _, rfl, rfl, hq, by simpa using HH.out, Below.refl _ _⟩
  case round =>
    obtain ⟨k, kk, hk, rfl, rfl, hk0, hh, hbk⟩ := hrel
    by_cases hlt : k < n
    · have hkl : k < l.length := by rw [HX.out]; exact hlt
      rw [List.drop_eq_getElem_cons hkl] at hh
      obtain ⟨q1, hh1, hh2⟩ := hh
      have hqe := hdS_end hdPair_end hh2
      obtain ⟨b1, o1, rfl, hB, cs, hcl, hcell, hrT⟩ := (hr.below rPair_good hbk) k hkl
      have hrT := rPair_good.mono hrT hbk.size
      generalize l[k] = m at *
      obtain ⟨f0, f1, f2, hqf⟩ := hh1
      have hup : kk + 1 + 1 + 1 ≤ 70368744177664 := by omega
      have HR := Hid.mk hh2
      have HQ := Hid.mk hqf
      have hq10 : 0 ≤ q1 := by omega
      clear hh2 hqf hqe HH hr
      obtain ⟨rfl, h0, h1, h2, _⟩ := hrT
      have k0 := hcell 0 _ rfl
      rw [Nat.add_zero] at k0
      have k1 := hcell 1 _ rfl
      have k2 := hcell 2 _ rfl
      rw [f0] at k0
      rw [f1] at k1
      rw [f2] at k2
      clear hcell hcl
      have hy0 : b1 < wr.heap.size := Nat.lt_of_lt_of_le hB hbk.size
      go_wp2_with fail
      go_region_with (go_at_call 21; refine (markText_any (kk) _ (by omega) (by omega)).mono ?_; rintro e w1 ⟨rfl, hb1⟩; have x0 : w1.cell? ⟨b1, o1 + k * 3, none⟩ = _ := (hb1.cell (p := ⟨b1, o1 + k * 3, none⟩) (by first | exact hy0 | simpa using hy0)).trans k0)
      all_goals
        have hB1 : Below wr.heap.size wr w1 := Below.trans (by repeat (first | with_reducible exact Below.refl _ _ | with_reducible assumption | refine Below.drew ?_ | refine Below.alloc ?_ (by simp) _)) (hb1.mono (by first | (with_reducible assumption) | (first | exact hB1.size | exact hB2.size | exact hB3.size) | simp))
        have hy1 : b1 < w1.heap.size := Nat.lt_of_lt_of_le hy0 hB1.size
        replace k0 : w1.cell? ⟨b1, o1 + k * 3, none⟩ = _ := (hb1.cell (p := ⟨b1, o1 + k * 3, none⟩) (by first | exact hy0 | simpa using hy0)).trans k0
        replace k1 : w1.cell? ⟨b1, o1 + k * 3 + 1, none⟩ = _ := (hb1.cell (p := ⟨b1, o1 + k * 3 + 1, none⟩) (by first | exact hy0 | simpa using hy0)).trans k1
        replace k2 : w1.cell? ⟨b1, o1 + k * 3 + 2, none⟩ = _ := (hb1.cell (p := ⟨b1, o1 + k * 3 + 2, none⟩) (by first | exact hy0 | simpa using hy0)).trans k2
        go_wp2_with fail
        go_region_with (go_at_call 21; refine (markText_any (kk + 1) _ (by omega) (by omega)).mono ?_; rintro e w2 ⟨rfl, hb2⟩; have x1 : w2.cell? ⟨b1, o1 + k * 3 + 1, none⟩ = _ := (hb2.cell (p := ⟨b1, o1 + k * 3 + 1, none⟩) (by first | exact hy1 | simpa using hy1)).trans k1)
        all_goals
          have hB2 : Below wr.heap.size wr w2 := Below.trans (by repeat (first | with_reducible exact Below.refl _ _ | with_reducible assumption | refine Below.drew ?_ | refine Below.alloc ?_ (by simp) _)) (hb2.mono (by first | (with_reducible assumption) | (first | exact hB1.size | exact hB2.size | exact hB3.size) | simp))
          have hy2 : b1 < w2.heap.size := Nat.lt_of_lt_of_le hy0 hB2.size
          replace k1 : w2.cell? ⟨b1, o1 + k * 3 + 1, none⟩ = _ := (hb2.cell (p := ⟨b1, o1 + k * 3 + 1, none⟩) (by first | exact hy1 | simpa using hy1)).trans k1
          replace k2 : w2.cell? ⟨b1, o1 + k * 3 + 2, none⟩ = _ := (hb2.cell (p := ⟨b1, o1 + k * 3 + 2, none⟩) (by first | exact hy1 | simpa using hy1)).trans k2
          go_wp2_with fail
          go_roundw
          case rel => exact ⟨k + 1, q1, by omega, by go_num, by rw [HQ.out] <;> go_num, hq10, HR.out, (Below.trans hbk (Below.mono (show Below wr.heap.size wr _ from by repeat (first | with_reducible exact Below.refl _ _ | with_reducible assumption | refine Below.drew ?_ | refine Below.alloc ?_ (by simp) _)) hbk.size))⟩
          case measure => simp [intOf]; omega
    · have hkn : k = n := by omega
      have HT2 : Hid (l.drop k = []) := List.drop_of_length_le (by rw [HX.out]; omega)
      rw [HT2.out] at hh
      have hqk : q' = kk := hh
      subst hqk
      go_wp2_with fail
      go_ret
      exact ⟨rfl, hbk⟩

end Go.Proofs.YtocgbeoglgkibaaDoor

namespace Go.Proofs.YtocgbeoglgkibaaDoor
open Go.RowKit Go.Maps

theorem tcntPs_le (l : List MPair) : sumW cntPair l ≤ 32 * wPs l := sumW_cnt_le cntPair_le l

theorem eqPairS_yes_r (v1 v2 : Value) (l : List MPair) (w : World) (h1 : rdPs w.heap.size w v1 l) (h2 : rdPs w.heap.size w v2 l) (hsz : wPs l ≤ 1099511627776) :
    Calls Tryd.prog 7 #[v1, v2] w fun e w' => e = .returned (.bool true) ∧ Below w.heap.size w w' := by
  obtain ⟨a, c, rfl, ha⟩ := h1
  obtain ⟨b, d, rfl, hb⟩ := h2
  exact eqPairS_yes a b _ c d l w rfl ha hb hsz
theorem markPairS_r (v : Value) (l : List MPair) (F : List Nat) (q : Int) (w : World) (hq : 0 ≤ q) (hq2 : q + sumW cntPair l ≤ 70368744177664) (ho : ownS 3 45 oPair w v l F) (hN : F.Nodup) :
    Calls Tryd.prog 10 #[v, .int .i64 q] w fun e w' => ∃ (m' : List MPair) (q' : Int), e = .returned (.int .i64 q') ∧ q ≤ q' ∧ q' ≤ 70368744177664 ∧ ownS 3 45 oPair w' v m' F ∧ hdS hdPair m' q q' ∧ Turn F w w' := by
  refine (markPairS_any v l F q w hq hq2 ho hN).mono ?_
  rintro e w' ⟨rfl, l', h1, h2, h3, h4⟩
  exact ⟨l', _, rfl, by omega, hq2, h1, h3, h4⟩
theorem heldPairS_r (v : Value) (l : List MPair) (q q' : Int) (w : World) (hr : rdPs w.heap.size w v l) (hh : hdS hdPair l q q') (hq : 0 ≤ q) (hq' : q' ≤ 70368744177664) :
    Calls Tryd.prog 11 #[v, .int .i64 q] w fun e w' => e = .returned (.int .i64 q') ∧ Below w.heap.size w w' := by
  obtain ⟨a, c, rfl, h⟩ := hr
  exact heldPairS_any a _ c l q q' w rfl h hh hq hq'

end Go.Proofs.YtocgbeoglgkibaaDoor

namespace Go.Proofs.YtocgbeoglgkibaaDoor
open Go

section
variable {P : Program} {md : Region.Mode} {ops : Array Oper} {Q : Exit → Act → World → Prop} {S : World → Prop}
/-- An operation that is wanted comes first: it yields v. -/
theorem tk (i : Nat) (oi : Oper) (d : Option Tmp) {v : Value} {fuel : Nat} {listed : Array Bool} {a : Act} {w : World} (hi : ops[i]? = some oi) (hd : oi.dst = d)
    (hc : (Region.noSelect ops && (Region.free md ops listed i && (Region.ready md ops listed).contains i)) = true) (hS : S w) (hw : Region.wanted oi (yielded ops a.tmps) = true)
    (hQ : ∀ c a w, Q (.panic c) (a.put d v) w → Q (.panic c) a w) (hy : ∀ w, S w → (execOp a.eval oi).run P w = .ok (.value v) w)
    (h : wpAnyH P md ops Q S fuel (listed.setIfInBounds i true) (a.put d v) w) : wpAnyH P md ops Q S (fuel + 1) listed a w := by
  subst hd
  simp only [Bool.and_eq_true] at hc
  exact wpAnyH_take hi hc.1 hc.2.1 hc.2.2 hQ (.inl ⟨hw, hy⟩) hS h
/-- One that is not wanted comes first. -/
theorem tn (i : Nat) (oi : Oper) (d : Option Tmp) {fuel : Nat} {listed : Array Bool} {a : Act} {w : World} (hi : ops[i]? = some oi) (hd : oi.dst = d)
    (hc : (Region.noSelect ops && (Region.free md ops listed i && (Region.ready md ops listed).contains i)) = true) (hS : S w) (hw : Region.wanted oi (yielded ops a.tmps) = false)
    (hQ : ∀ c a w, Q (.panic c) (a.put d undef) w → Q (.panic c) a w)
    (h : wpAnyH P md ops Q S fuel (listed.setIfInBounds i true) (a.put d undef) w) : wpAnyH P md ops Q S (fuel + 1) listed a w := by
  subst hd
  simp only [Bool.and_eq_true] at hc
  exact wpAnyH_take hi hc.1 hc.2.1 hc.2.2 hQ (.inr ⟨hw, rfl⟩) hS h
end
theorem sa {α : Type} (l : List α) (i : Nat) (a : α) : l.toArray.setIfInBounds i a = (l.set i a).toArray := List.setIfInBounds_toArray ..
theorem s0 {α : Type} (a b : α) (l : List α) : (a :: l).set 0 b = b :: l := rfl
theorem s1 {α : Type} (a b : α) (l : List α) (i : Nat) : (a :: l).set (i + 1) b = a :: l.set i b := rfl

end Go.Proofs.YtocgbeoglgkibaaDoor

namespace Go.Proofs.YtocgbeoglgkibaaDoor
open Go.RowKit

theorem bytesWorld_below (w : World) (e : TypeId) (s : ByteArray) : Below w.heap.size w (Lib.bytesWorld w e s) := by
  refine ⟨?_, ?_, ?_, by rw [Lib.bytesWorld_size]; omega, fun k hk => Lib.bytesWorld_at_old w e s k hk⟩
  all_goals (unfold Lib.bytesWorld World.freeze; rfl)

theorem byteInts_at {s : ByteArray} {j : Nat} (h : j < (byteInts s).length) : ((s.data.toList.getD j 0).toNat : Int) = (byteInts s)[j] := by
  have hj : j < s.data.toList.length := by simpa [byteInts] using h
  rw [List.getD_eq_getElem?_getD, List.getElem?_eq_getElem hj]
  simp [byteInts]

theorem strBytes (s : ByteArray) (w : World) : ∃ (w1 : World) (cap : Nat), (convert 9 22 (.string s)).run Tryd.prog w = .ok (.slice (some ⟨w.heap.size, 0, none⟩) s.size cap) w1 ∧ Below w.heap.size w w1 ∧ w.heap.size < w1.heap.size ∧
    ∀ j, (h : j < (byteInts s).length) → w1.cell? ⟨w.heap.size, j, none⟩ = some (.int .u8 (byteInts s)[j]) := by
  refine ⟨_, _, Lib.run_convert_string_bytes w 9 22 5 s Tryd.underlying9 Tryd.underlying22 Tryd.underlying5, bytesWorld_below w _ s, by rw [Lib.bytesWorld_size]; omega, fun j h => ?_⟩
  rw [Lib.bytesWorld_cell w _ s j (by rw [← byteInts_length]; exact h), byteInts_at h]

theorem byteInts_ok (s : ByteArray) : BytesOk (byteInts s) := by
  intro z hz
  simp only [byteInts, List.mem_map] at hz
  obtain ⟨b, _, rfl⟩ := hz
  have := b.toNat_lt
  omega

/-- The conversion, as a reading. -/
theorem strRd (s : ByteArray) (w : World) : ∃ (w1 : World) (cap : Nat), (convert 9 22 (.string s)).run Tryd.prog w = .ok (.slice (some ⟨w.heap.size, 0, none⟩) s.size cap) w1 ∧ Below w.heap.size w w1 ∧ Rd .u8 w1.heap.size w1 (some ⟨w.heap.size, 0, none⟩) (byteInts s) := by
  obtain ⟨w1, cap, hcv, hb1, hz1, hcl⟩ := strBytes s w
  refine ⟨w1, cap, hcv, hb1, fun j hj => ⟨w.heap.size, 0, rfl, hz1, ?_⟩⟩
  rw [Nat.zero_add, hcl j hj, List.getD_eq_getElem?_getD, List.getElem?_eq_getElem hj]
  rfl

end Go.Proofs.YtocgbeoglgkibaaDoor

namespace Go.Proofs.YtocgbeoglgkibaaDoor

theorem BytesOk.getD {zs : List Int} (h : BytesOk zs) (j : Nat) : 0 ≤ zs.getD j 0 ∧ zs.getD j 0 ≤ 255 := by
  rw [List.getD_eq_getElem?_getD]
  by_cases hj : j < zs.length
  · rw [List.getElem?_eq_getElem hj]
    exact h _ (List.getElem_mem hj)
  · rw [List.getElem?_eq_none (by omega)]
    simp

def noNum : Int × Int × Bool := (0, 0, false)

/-- At most f groups more, n read so far, p the next place. -/
def gnS : Nat → List Int → Int → Int → Int × Int × Bool
  | 0, _, _, _ => noNum
  | _ + 1, [], _, _ => noNum
  | f + 1, c :: r, n, p => if c < 128 then (if 1000000000 < n * 128 + c % 128 then noNum else (n * 128 + c % 128, p + 1, true)) else gnS f r (n * 128 + c % 128) (p + 1)

/-- The same without a count of groups: too great a number ends it. -/
def gnI : List Int → Int → Int → Int × Int × Bool
  | [], _, _ => noNum
  | c :: r, n, p => if 1000000000 < n * 128 + c % 128 then noNum else if c < 128 then (n * 128 + c % 128, p + 1, true) else gnI r (n * 128 + c % 128) (p + 1)

theorem gnS_big (f : Nat) (l : List Int) (n p : Int) (h : 1000000000 < n) : gnS f l n p = noNum := by
  induction f generalizing l n p with
  | zero => rfl
  | succ f ih =>
    cases l with
    | nil => rfl
    | cons c r =>
      simp only [gnS]
      by_cases hc : c < 128
      · rw [if_pos hc, if_pos (by omega)]
      · rw [if_neg hc, ih _ _ _ (by omega)]

theorem gnI_eq (f : Nat) (l : List Int) (n p : Int) (h : 268435456 ≤ n * 128 ^ f) (h0 : 0 ≤ n) : gnI l n p = gnS f l n p := by
  induction f generalizing l n p with
  | zero =>
    cases l with
    | nil => rfl
    | cons c r =>
      simp only [gnI, gnS]
      rw [if_pos (by omega)]
  | succ f ih =>
    cases l with
    | nil => rfl
    | cons c r =>
      simp only [gnI, gnS]
      by_cases hc : c < 128
      · by_cases hn : 1000000000 < n * 128 + c % 128 <;> simp [hc, hn]
      · by_cases hn : 1000000000 < n * 128 + c % 128
        · rw [if_pos hn, if_neg hc, gnS_big _ _ _ _ hn]
        · rw [if_neg hn, if_neg hc, if_neg hc]
          refine ih _ _ _ ?_ (by omega)
          have h2 : n * 128 ^ (f + 1) = (n * 128) * 128 ^ f := by rw [Int.pow_succ, Int.mul_assoc, Int.mul_comm (128 ^ f) 128]
          have h3 : (n * 128) * 128 ^ f ≤ (n * 128 + c % 128) * 128 ^ f := Int.mul_le_mul_of_nonneg_right (by omega) (Int.pow_nonneg (by omega))
          omega

/-- What both programs answer. -/
def getNum (b : List Int) (p : Int) : Int × Int × Bool :=
  if p < 0 ∨ (b.length : Int) ≤ p then noNum else if b.getD p.toNat 0 = 128 then noNum else gnS 5 (b.drop p.toNat) 0 p

theorem getNum_out {b : List Int} {p : Int} (h : p < 0 ∨ (b.length : Int) ≤ p) : getNum b p = noNum := by simp only [getNum]; rw [if_pos h]

theorem drop_cons {b : List Int} {j : Nat} (h : j < b.length) : b.drop j = b.getD j 0 :: b.drop (j + 1) := by
  rw [List.drop_eq_getElem_cons h, List.getD_eq_getElem?_getD, List.getElem?_eq_getElem h]
  rfl

theorem getNum_128 {b : List Int} {p : Nat} (hp : p < b.length) (h : b.getD p 0 = 128) : getNum b p = noNum := by
  simp only [getNum]
  rw [if_neg (by omega), Int.toNat_natCast, if_pos h]

theorem getNum_S {b : List Int} {p : Nat} (hp : p < b.length) (h : b.getD p 0 ≠ 128) : getNum b p = gnS 5 (b.drop p) 0 p := by
  simp only [getNum]
  rw [if_neg (by omega), Int.toNat_natCast, if_neg h]

theorem getNum_I {b : List Int} {p : Nat} (hp : p < b.length) (h : b.getD p 0 ≠ 128) (hb : BytesOk b) : getNum b p = gnI (b.drop p) 0 p := by
  rw [getNum_S hp h, drop_cons hp]
  have hr := hb.getD p
  generalize b.getD p 0 = c at *
  simp only [gnS, gnI]
  by_cases hc : c < 128
  · rw [if_pos hc, if_neg (by omega), if_neg (by omega), if_pos hc]
  · rw [if_neg hc, if_neg (by omega), if_neg hc]
    exact (gnI_eq 4 _ _ _ (by omega) (by omega)).symm

theorem pow128_le {k : Nat} (h : k ≤ 5) : (128 : Int) ^ k ≤ 34359738368 := by
  rcases (show k = 0 ∨ k = 1 ∨ k = 2 ∨ k = 3 ∨ k = 4 ∨ k = 5 from by omega) with rfl | rfl | rfl | rfl | rfl | rfl <;> decide

theorem pow128_step {k : Nat} {M c : Int} (h : M < 128 ^ k) : M * 128 + c % 128 < 128 ^ (k + 1) := by
  have : (128 : Int) ^ (k + 1) = 128 ^ k * 128 := Int.pow_succ ..
  omega

theorem wraps_i64 (n : Int) (h₀ : 0 ≤ n) (h₁ : n < 2 ^ 63) : IntKind.i64.wrap n = n := by rw [IntKind.wrap_i64]; omega

theorem or_group {M c : Int} (h0 : 0 ≤ M) (h1 : M < 34359738368) : bits .or .i64 (M * 128) (c % 128) = M * 128 + c % 128 :=
  bits_join .i64 63 (by decide) wraps_i64 7 (M * 128) (c % 128) (by omega) (by omega) (by omega) (by omega) (by omega) (by omega)

/-- The steps of the reading, in the form in which the walks meet them. -/
theorem gnS_last {b : List Int} {j f : Nat} {M p c : Int} (hj : j < b.length) (hc : b.getD j 0 = c) (h : c < 128) (hn : ¬ 1000000000 < M * 128 + c % 128) : gnS (f + 1) (b.drop j) M p = (M * 128 + c % 128, p + 1, true) := by
  rw [drop_cons hj, hc]; simp only [gnS]; rw [if_pos h, if_neg hn]
theorem gnS_over {b : List Int} {j f : Nat} {M p c : Int} (hj : j < b.length) (hc : b.getD j 0 = c) (h : c < 128) (hn : 1000000000 < M * 128 + c % 128) : gnS (f + 1) (b.drop j) M p = noNum := by
  rw [drop_cons hj, hc]; simp only [gnS]; rw [if_pos h, if_pos hn]
theorem gnS_more {b : List Int} {j f : Nat} {M p c : Int} (hj : j < b.length) (hc : b.getD j 0 = c) (h : ¬ c < 128) : gnS (f + 1) (b.drop j) M p = gnS f (b.drop (j + 1)) (M * 128 + c % 128) (p + 1) := by
  rw [drop_cons hj, hc]; simp only [gnS]; rw [if_neg h]
theorem gnS_end {b : List Int} {j f : Nat} {M p : Int} (hj : b.length ≤ j) : gnS f (b.drop j) M p = noNum := by
  rw [List.drop_eq_nil_of_le hj]; cases f <;> rfl
theorem gnI_last {b : List Int} {j : Nat} {M p c : Int} (hj : j < b.length) (hc : b.getD j 0 = c) (h : c < 128) (hn : ¬ 1000000000 < M * 128 + c % 128) : gnI (b.drop j) M p = (M * 128 + c % 128, p + 1, true) := by
  rw [drop_cons hj, hc]; simp only [gnI]; rw [if_neg hn, if_pos h]
theorem gnI_over {b : List Int} {j : Nat} {M p c : Int} (hj : j < b.length) (hc : b.getD j 0 = c) (hn : 1000000000 < M * 128 + c % 128) : gnI (b.drop j) M p = noNum := by
  rw [drop_cons hj, hc]; simp only [gnI]; rw [if_pos hn]
theorem gnI_more {b : List Int} {j : Nat} {M p c : Int} (hj : j < b.length) (hc : b.getD j 0 = c) (h : ¬ c < 128) (hn : ¬ 1000000000 < M * 128 + c % 128) : gnI (b.drop j) M p = gnI (b.drop (j + 1)) (M * 128 + c % 128) (p + 1) := by
  rw [drop_cons hj, hc]; simp only [gnI]; rw [if_neg hn, if_neg h]
theorem gnI_end {b : List Int} {j : Nat} {M p : Int} (hj : b.length ≤ j) : gnI (b.drop j) M p = noNum := by
  rw [List.drop_eq_nil_of_le hj]; rfl


/-- 'xor' of two numbers that are not negative. -/
def xr (a b : Int) : Int := ((a.toNat ^^^ b.toNat : Nat) : Int)

theorem xr_lt {a b : Int} (ha : a < 4294967296) (hb : b < 4294967296) : 0 ≤ xr a b ∧ xr a b < 4294967296 := by
  have h := Nat.xor_lt_two_pow (x := a.toNat) (y := b.toNat) (n := 32) (by omega) (by omega)
  unfold xr
  omega

theorem xor_i64 (a b : Int) (h1 : 0 ≤ a) (h2 : a < 4294967296) (h3 : 0 ≤ b) (h4 : b < 4294967296) : bits .xor .i64 a b = xr a b := by
  obtain ⟨a, rfl⟩ := Int.eq_ofNat_of_zero_le h1
  obtain ⟨b, rfl⟩ := Int.eq_ofNat_of_zero_le h3
  have h := Nat.xor_lt_two_pow (x := a) (y := b) (n := 32) (by omega) (by omega)
  have ea : a % 2 ^ 64 = a := Nat.mod_eq_of_lt (by omega)
  have eb : b % 2 ^ 64 = b := Nat.mod_eq_of_lt (by omega)
  show IntKind.i64.wrap ((BitVec.ofInt 64 a ^^^ BitVec.ofInt 64 b).toNat : Nat) = _
  rw [BitVec.ofInt_natCast, BitVec.ofInt_natCast, BitVec.toNat_xor, BitVec.toNat_ofNat, BitVec.toNat_ofNat, ea, eb]
  rw [wraps_i64 _ (by omega) (by omega)]
  rfl

theorem xor_u32 (a b : Int) (h1 : 0 ≤ a) (h2 : a < 4294967296) (h3 : 0 ≤ b) (h4 : b < 4294967296) : bits .xor .u32 a b = xr a b := u32_xor a b h1 h2 h3 h4

theorem and1_i64 (n : Int) : bits .and .i64 n 1 = n % 2 := by
  have h1 : (BitVec.ofInt 64 1).toNat = 2 ^ 1 - 1 := by decide
  have key : (BitVec.ofInt 64 n &&& BitVec.ofInt 64 1).toNat = (n % ((2 ^ 64 : Nat) : Int)).toNat % 2 ^ 1 := by
    rw [BitVec.toNat_and, BitVec.toNat_ofInt, h1, Nat.and_two_pow_sub_one_eq_mod]
  show IntKind.i64.wrap ((BitVec.ofInt 64 n &&& BitVec.ofInt 64 1).toNat : Nat) = n % 2
  rw [key, IntKind.wrap_i64]
  omega

/-! ### In natural numbers -/
def stN (x : Nat) : Nat := x / 2 ^^^ (if x % 2 = 1 then 2197175160 else 0)
def tabN (r : Nat) : Nat := [0, 274646895, 549293790, 820201905, 1098587580, 1361435347, 1640403810, 1905808397, 2197175160, 2460548119, 2722870694, 2987750089, 3280807620, 3553878443, 3811616794, 4084100981].getD r 0

theorem stN_xor (a b : Nat) : stN (a ^^^ b) = stN a ^^^ stN b := by
  have h1 : (a ^^^ b) / 2 = a / 2 ^^^ b / 2 := Nat.xor_div_two
  have h2 : (a ^^^ b) % 2 = a % 2 ^^^ b % 2 := Nat.xor_mod_two_pow (n := 1)
  unfold stN
  rw [h1, h2]
  rcases Nat.mod_two_eq_zero_or_one a with ha | ha <;> rcases Nat.mod_two_eq_zero_or_one b with hb | hb <;> simp only [ha, hb] <;> simp
  · rw [Nat.xor_assoc]
  · rw [Nat.xor_assoc, Nat.xor_assoc, Nat.xor_comm (b / 2)]
  · rw [Nat.xor_assoc, Nat.xor_comm 2197175160, Nat.xor_assoc, Nat.xor_self, Nat.xor_zero]

theorem stN_even (a : Nat) : stN (2 * a) = a := by
  unfold stN
  rw [if_neg (by omega), Nat.xor_zero]
  omega

theorem split16 (x : Nat) : x = 16 * (x / 16) ^^^ x % 16 := by
  have h : x = 2 ^ 4 * (x / 2 ^ 4) ^^^ x % 2 ^ 4 := by
    apply Nat.eq_of_testBit_eq
    intro i
    rw [Nat.testBit_xor, Nat.testBit_two_pow_mul, Nat.testBit_mod_two_pow, Nat.testBit_div_two_pow]
    by_cases hi : 4 ≤ i
    · rw [show i - 4 + 4 = i from by omega]
      simp [hi, show ¬ i < 4 from by omega]
    · simp [hi, show i < 4 from by omega]
  exact h

theorem st4_small : ∀ r : Fin 16, stN (stN (stN (stN r.val))) = tabN r.val := by decide +kernel

theorem st4 (x : Nat) : stN (stN (stN (stN x))) = x / 16 ^^^ tabN (x % 16) := by
  have h := split16 x
  generalize x / 16 = q at h ⊢
  generalize hr : x % 16 = r at h ⊢
  have hs := st4_small ⟨r, by omega⟩
  simp only at hs
  rw [h, stN_xor, stN_xor, stN_xor, stN_xor, hs, show 16 * q = 2 * (2 * (2 * (2 * q))) from by omega, stN_even, stN_even, stN_even, stN_even]

/-! ### In integers, as the walks meet them -/
def stI (x : Int) : Int := if x % 2 = 1 then xr (x / 2) 2197175160 else x / 2
theorem stI_odd {x : Int} (h : x % 2 = 1) : stI x = xr (x / 2) 2197175160 := by unfold stI; rw [if_pos h]
theorem stI_even {x : Int} (h : ¬ x % 2 = 1) : stI x = x / 2 := by unfold stI; rw [if_neg h]

theorem stI_cast (x : Nat) : stI x = (stN x : Nat) := by
  unfold stN
  by_cases h : x % 2 = 1
  · rw [stI_odd (by omega), if_pos h]
    unfold xr
    rw [show ((x : Int) / 2).toNat = x / 2 from by omega]
    rfl
  · rw [stI_even (by omega), if_neg h, Nat.xor_zero]
    omega

theorem stI_bd {x : Int} (h0 : 0 ≤ x) (h1 : x < 4294967296) : 0 ≤ stI x ∧ stI x < 4294967296 := by
  by_cases h : x % 2 = 1
  · rw [stI_odd h]; exact xr_lt (by omega) (by omega)
  · rw [stI_even h]; omega

def itI : Nat → Int → Int
  | 0, y => y
  | k + 1, y => stI (itI k y)

theorem itI_bd (k : Nat) {y : Int} (h0 : 0 ≤ y) (h1 : y < 4294967296) : 0 ≤ itI k y ∧ itI k y < 4294967296 := by
  induction k with
  | zero => exact ⟨h0, h1⟩
  | succ k ih => exact stI_bd ih.1 ih.2

def tabI (r : Int) : Int := (tabN r.toNat : Nat)
theorem tabN_lt : ∀ r : Fin 16, tabN r.val < 4294967296 := by decide +kernel
theorem tabI_bd {r : Int} (h0 : 0 ≤ r) (h1 : r < 16) : 0 ≤ tabI r ∧ tabI r < 4294967296 := by
  have := tabN_lt ⟨r.toNat, by omega⟩
  simp only at this
  unfold tabI
  omega

/-- Half a byte at once. -/
def hfI (y : Int) : Int := xr (y / 16) (tabI (y % 16))
theorem hfI_bd {y : Int} (h1 : y < 4294967296) : 0 ≤ hfI y ∧ hfI y < 4294967296 :=
  xr_lt (by omega) (tabI_bd (by omega) (by omega)).2

theorem hfI_cast (y : Nat) : hfI y = (y / 16 ^^^ tabN (y % 16) : Nat) := by
  unfold hfI xr tabI
  rw [show ((y : Int) / 16).toNat = y / 16 from by omega, show ((y : Int) % 16).toNat = y % 16 from by omega, Int.toNat_natCast]

theorem it4 (y : Nat) : itI 4 y = hfI y := by
  simp only [itI]
  rw [stI_cast, stI_cast, stI_cast, stI_cast, st4, hfI_cast]

theorem it_add (j k : Nat) (y : Int) : itI (j + k) y = itI j (itI k y) := by
  induction j with
  | zero => rw [Nat.zero_add]; rfl
  | succ j ih => rw [Nat.succ_add]; simp only [itI]; rw [ih]

theorem it8 {y : Int} (h0 : 0 ≤ y) : itI 8 y = hfI (hfI y) := by
  obtain ⟨y, rfl⟩ := Int.eq_ofNat_of_zero_le h0
  rw [show 8 = 4 + 4 from rfl, it_add, it4, hfI_cast, it4]

def byI (x c : Int) : Int := itI 8 (xr x c)
def runI (zs : List Int) : Int := zs.foldl byI 4294967295
/-- What both programs answer of a sum. -/
def crc (zs : List Int) : Int := xr (runI zs) 4294967295

theorem runI_snoc (l : List Int) (c : Int) : runI (l ++ [c]) = byI (runI l) c := by simp [runI]

theorem foldl_bd (zs : List Int) (hb : BytesOk zs) (x : Int) (h0 : 0 ≤ x) (h1 : x < 4294967296) : 0 ≤ zs.foldl byI x ∧ zs.foldl byI x < 4294967296 := by
  induction zs generalizing x with
  | nil => exact ⟨h0, h1⟩
  | cons c r ih =>
    have hc := hb c (by simp)
    have hx := xr_lt (a := x) (b := c) h1 (by omega)
    have := itI_bd 8 hx.1 hx.2
    exact ih (fun z hz => hb z (by simp [hz])) _ this.1 this.2

theorem runI_bd {zs : List Int} (hb : BytesOk zs) : 0 ≤ runI zs ∧ runI zs < 4294967296 := foldl_bd zs hb _ (by omega) (by omega)

theorem crc_bd {zs : List Int} (hb : BytesOk zs) : 0 ≤ crc zs ∧ crc zs < 4294967296 := xr_lt (runI_bd hb).2 (by omega)

theorem BytesOk.take {zs : List Int} (h : BytesOk zs) (k : Nat) : BytesOk (zs.take k) := fun z hz => h z (List.mem_of_mem_take hz)

theorem runI_step {zs : List Int} {k n : Nat} {c : Int} (hx : zs.length = n) (hk : k < n) (hc : zs.getD k 0 = c) : runI (zs.take (k + 1)) = byI (runI (zs.take k)) c := by
  rw [← hc, ← runI_snoc]
  congr 1
  rw [List.take_succ_eq_append_getElem (by omega), List.getD_eq_getElem?_getD, List.getElem?_eq_getElem (by omega)]
  rfl

theorem not_u32 {X : Int} (h0 : 0 ≤ X) (h1 : X < 4294967296) : bits .xor .u32 IntKind.u32.max X = xr X 4294967295 := by
  rw [show IntKind.u32.max = 4294967295 from by decide, xor_u32 4294967295 X (by omega) (by omega) h0 h1]
  unfold xr
  rw [Nat.xor_comm]

open Go.RowKit

set_option maxHeartbeats 400000 in
theorem specSum_any (a : Option Addr) (n cap : Nat) (zs : List Int) (w : World) (B : Nat) (hx : zs.length = n) (hlen : n ≤ 140737488351232) (hb : BytesOk zs) (hra : Rd .u8 B w a zs) :
    Calls Tryd.prog 46 #[.slice a n cap] w fun e w' => e = .returned (.int .i64 (crc zs)) ∧ w' = w := by
  have HX : Hid (zs.length = n) := hx
  clear hx
  go_enter Tryd.func46, Tryd.ntmps46
  go_wp2
  go_loop [3, 4, 5, 6] (fun x i q l => ∃ k : Nat, k ≤ n ∧ i = .int .i64 k ∧ x = .int .i64 (runI (zs.take k))) (fun _ i _ _ => n - (intOf i).toNat)
  case atStart => exact ⟨0, Nat.zero_le _, rfl, rfl⟩
  case round =>
    obtain ⟨k, hk, rfl, rfl⟩ := hrel
    have hbd := runI_bd (hb.take k)
    by_cases hlt : k < n
    · obtain ⟨b1, o1, rfl, _, hc1⟩ := hra k (by rw [HX.out]; exact hlt)
      have hcr := hb.getD k
      generalize hC : zs.getD k 0 = c at hc1 hcr
      have HS := Hid.mk (runI_step HX.out hlt hC)
      clear hC hra hb
      generalize runI (zs.take k) = X at hbd HS
      have hx1 := xor_i64 X c hbd.1 hbd.2 hcr.1 (by omega)
      have hxb := xr_lt (a := X) (b := c) hbd.2 (by omega)
      have HB : Hid (byI X c = itI 8 (xr X c)) := rfl
      generalize xr X c = Y at hx1 hxb HB
      go_wp2
      go_loop [3, 5, 6] (fun x q l => ∃ j : Nat, j ≤ 8 ∧ q = .int .i64 j ∧ x = .int .i64 (itI j Y)) (fun _ q _ => 8 - (intOf q).toNat)
      case atStart => exact ⟨0, Nat.zero_le _, rfl, rfl⟩
      case round =>
        obtain ⟨j, hj, rfl, rfl⟩ := hrel
        have hib := itI_bd j hxb.1 hxb.2
        by_cases hj8 : j < 8
        · have HI : Hid (itI (j + 1) Y = stI (itI j Y)) := rfl
          generalize itI j Y = Z at hib HI
          have hand := and1_i64 Z
          by_cases ho : Z % 2 = 1
          · have hx2 := xor_i64 (Z / 2) 2197175160 (by omega) (by omega) (by omega) (by omega)
            have HO := Hid.mk ho
            have hob : (Z % 2 == 1) = true := by simp [ho]
            clear ho
            go_wp2
            go_round
            case rel => exact ⟨j + 1, by omega, by go_num, by rw [HI.out, stI_odd HO.out]⟩
            case measure => simp [intOf]; omega
          · have hob : (Z % 2 == 1) = false := by simp [ho]
            go_wp2
            go_round
            case rel => exact ⟨j + 1, by omega, by go_num, by rw [HI.out, stI_even ho]⟩
            case measure => simp [intOf]; omega
        · have hj' : j = 8 := by omega
          subst hj'
          have HI := HB.out
          generalize itI 8 Y = Z at HI
          have HI' := Hid.mk HI
          clear HI
          go_wp2
          go_round
          case rel => exact ⟨k + 1, by omega, by go_num, by rw [HS.out, HI'.out]⟩
          case measure => simp [intOf]; omega
    · have hkn : k = n := by omega
      have HT : Hid (crc zs = xr (runI (zs.take k)) 4294967295) := by unfold Hid crc; rw [List.take_of_length_le (by rw [HX.out]; omega)]
      generalize runI (zs.take k) = X at hbd HT
      have hx1 := xor_i64 X 4294967295 hbd.1 hbd.2 (by omega) (by omega)
      go_wp2
      go_ret
      exact ⟨by rw [HT.out]; rfl, rfl⟩

/-- What the table's variable holds. -/
def TabAt (w : World) : Prop := ∀ r : Nat, r < 16 → w.cell? ⟨1, r, none⟩ = some (.int .u32 (tabI r))

theorem TabAt.size {w : World} (h : TabAt w) : 0 < w.heap.size := Nat.lt_of_le_of_lt (Nat.zero_le _) (World.block_lt_of_cell? _ _ (h 0 (by decide)))
theorem TabAt.below {w w' : World} (h : TabAt w) (hb : Below w.heap.size w w') (_hB : 0 < w.heap.size) : TabAt w' := fun r hr => (hb.cell (p := ⟨1, r, none⟩) (World.block_lt_of_cell? _ _ (h r hr))).trans (h r hr)

set_option maxHeartbeats 400000 in
theorem implSum_any (a : Option Addr) (n cap : Nat) (zs : List Int) (w : World) (B : Nat) (hx : zs.length = n) (hlen : n ≤ 140737488351232) (hb : BytesOk zs) (hra : Rd .u8 B w a zs) (ht : TabAt w) :
    Calls Tryd.prog 59 #[.slice a n cap] w fun e w' => e = .returned (.int .i64 (crc zs)) ∧ w' = w := by
  have HX : Hid (zs.length = n) := hx
  clear hx
  go_enter Tryd.func59, Tryd.ntmps59
  go_wp2
  go_loop [3, 5, 8] (fun x q i => ∃ k : Nat, k ≤ n ∧ i = .int .i64 k ∧ x = .int .u32 (runI (zs.take k))) (fun _ _ i => n - (intOf i).toNat)
  case atStart => exact ⟨0, Nat.zero_le _, rfl, rfl⟩
  case round =>
    obtain ⟨k, hk, rfl, rfl⟩ := hrel
    have hbd := runI_bd (hb.take k)
    by_cases hlt : k < n
    · obtain ⟨b1, o1, rfl, _, hc1⟩ := hra k (by rw [HX.out]; exact hlt)
      have hcr := hb.getD k
      generalize hC : zs.getD k 0 = c at hc1 hcr
      have HS := Hid.mk (runI_step HX.out hlt hC)
      clear hC hra hb
      generalize runI (zs.take k) = X at hbd HS
      have hx1 := xor_u32 X c hbd.1 hbd.2 hcr.1 (by omega)
      have hxb := xr_lt (a := X) (b := c) hbd.2 (by omega)
      have HB : Hid (byI X c = hfI (hfI (xr X c))) := it8 hxb.1
      generalize xr X c = Y at hx1 hxb HB
      have ht1 := ht (Y % 16).toNat (by omega)
      rw [show (((Y % 16).toNat : Nat) : Int) = Y % 16 from by omega] at ht1
      have htb := tabI_bd (r := Y % 16) (by omega) (by omega)
      have hx2 := xor_u32 (Y / 16) (tabI (Y % 16)) (by omega) (by omega) htb.1 htb.2
      have hyb := hfI_bd hxb.2
      have e2 : xr (Y / 16) (tabI (Y % 16)) = hfI Y := rfl
      rw [e2] at hx2
      generalize hfI Y = Z at hx2 hyb HB
      generalize tabI (Y % 16) = t1 at ht1 htb hx2
      have ht2 := ht (Z % 16).toNat (by omega)
      rw [show (((Z % 16).toNat : Nat) : Int) = Z % 16 from by omega] at ht2
      have htb2 := tabI_bd (r := Z % 16) (by omega) (by omega)
      have hx3 := xor_u32 (Z / 16) (tabI (Z % 16)) (by omega) (by omega) htb2.1 htb2.2
      have e3 : xr (Z / 16) (tabI (Z % 16)) = hfI Z := rfl
      rw [e3] at hx3
      generalize hfI Z = V at hx3 HB
      generalize tabI (Z % 16) = t2 at ht2 htb2 hx3
      clear ht e2 e3
      go_wp2
      go_round
      case rel => exact ⟨k + 1, by omega, by go_num, by rw [HS.out, HB.out]⟩
      case measure => simp [intOf]; omega
    · have hkn : k = n := by omega
      have HT : Hid (crc zs = xr (runI (zs.take k)) 4294967295) := by unfold Hid crc; rw [List.take_of_length_le (by rw [HX.out]; omega)]
      generalize runI (zs.take k) = X at hbd HT
      have hx1 := not_u32 hbd.1 hbd.2
      have hxb := xr_lt (a := X) (b := 4294967295) hbd.2 (by omega)
      generalize xr X 4294967295 = V at hx1 hxb HT
      go_wp2
      go_ret
      refine ⟨?_, rfl⟩
      rw [HT.out]
      show Ending.returned (Value.int .i64 (wrap64 V)) = _
      rw [show wrap64 V = V from by unfold wrap64; omega]

end Go.Proofs.YtocgbeoglgkibaaDoor

namespace Go.Proofs.YtocgbeoglgkibaaDoor
open Go.RowKit

def mk1 (s : ByteArray) : Int := crc (byteInts s) % 64
def mk2 (s : ByteArray) : Int := crc (byteInts s) / 64 % 64
theorem mk1_bd (s : ByteArray) : 0 ≤ mk1 s ∧ mk1 s < 64 := by unfold mk1; omega
theorem mk2_bd (s : ByteArray) : 0 ≤ mk2 s ∧ mk2 s < 64 := by unfold mk2; omega

set_option maxHeartbeats 800000 in
theorem specMark_any (s : ByteArray) (w : World) (hs : s.size ≤ 140737488351232) :
    Calls Tryd.prog 49 #[.string s] w fun e w' => e = .returned (.tuple #[.int .i64 (mk1 s), .int .i64 (mk2 s)]) ∧ Below w.heap.size w w' := by
  obtain ⟨w1, cap, hcv, hb1, hr1⟩ := strRd s w
  have hR := crc_bd (byteInts_ok s)
  go_enter Tryd.func49, Tryd.ntmps49
  go_wp2_with fail
  refine (specSum_any _ s.size cap (byteInts s) w1 w1.heap.size (byteInts_length s) hs (byteInts_ok s) hr1).mono ?_
  rintro e w2 ⟨rfl, rfl⟩
  obtain ⟨R, hRR⟩ : ∃ R, R = crc (byteInts s) := ⟨_, rfl⟩
  have HM : Hid (mk1 s = R % 64 ∧ mk2 s = R / 64 % 64) := ⟨by rw [hRR]; rfl, by rw [hRR]; rfl⟩
  rw [← hRR] at hR ⊢
  clear hRR
  have e1 : R.tmod 64 = R % 64 := Int.tmod_eq_emod_of_nonneg hR.1
  have e2 : R.tdiv 64 = R / 64 := Int.tdiv_eq_ediv_of_nonneg hR.1
  have e3 : (R / 64).tmod 64 = R / 64 % 64 := Int.tmod_eq_emod_of_nonneg (by omega)
  go_wp2_with fail
  go_ret2
  exact ⟨by rw [HM.out.1, HM.out.2]; rfl, hb1⟩

set_option maxHeartbeats 800000 in
theorem implMark_any (s : ByteArray) (w : World) (hs : s.size ≤ 140737488351232) (ht : TabAt w) :
    Calls Tryd.prog 63 #[.string s] w fun e w' => e = .returned (.tuple #[.int .i64 (mk1 s), .int .i64 (mk2 s)]) ∧ Below w.heap.size w w' := by
  obtain ⟨w1, cap, hcv, hb1, hr1⟩ := strRd s w
  have hR := crc_bd (byteInts_ok s)
  have hsz : 0 < w.heap.size := ht.size
  go_enter Tryd.func63, Tryd.ntmps63
  go_wp2_with fail
  refine (implSum_any _ s.size cap (byteInts s) w1 w1.heap.size (byteInts_length s) hs (byteInts_ok s) hr1 (ht.below hb1 hsz)).mono ?_
  rintro e w2 ⟨rfl, rfl⟩
  obtain ⟨R, hRR⟩ : ∃ R, R = crc (byteInts s) := ⟨_, rfl⟩
  have HM : Hid (mk1 s = R % 64 ∧ mk2 s = R / 64 % 64) := ⟨by rw [hRR]; rfl, by rw [hRR]; rfl⟩
  rw [← hRR] at hR ⊢
  clear hRR
  have e1 : R.tmod 64 = R % 64 := Int.tmod_eq_emod_of_nonneg hR.1
  have e2 : R.tdiv 64 = R / 64 := Int.tdiv_eq_ediv_of_nonneg hR.1
  have e3 : (R / 64).tmod 64 = R / 64 % 64 := Int.tmod_eq_emod_of_nonneg (by omega)
  go_wp2_with fail
  go_ret2
  exact ⟨by rw [HM.out.1, HM.out.2]; rfl, hb1⟩


def orB (a b : Int) : Int := ((a.toNat ||| b.toNat : Nat) : Int)
def bitOn (f : List Int) (n : Int) : List Int := f.set (n / 8).toNat (orB (f.getD (n / 8).toNat 0) (2 ^ (n % 8).toNat))
def fltAdd (f : List Int) (s : ByteArray) : List Int := bitOn (bitOn f (mk1 s)) (mk2 s)
/-- The eight bytes of the keys' bits. -/
def flt (ks : List ByteArray) : List Int := ks.foldl fltAdd (List.replicate 8 0)
theorem orB_byte {a b : Int} (ha : 0 ≤ a ∧ a ≤ 255) (hb : 0 ≤ b ∧ b ≤ 255) : 0 ≤ orB a b ∧ orB a b ≤ 255 := by
  have h := Nat.or_lt_two_pow (x := a.toNat) (y := b.toNat) (n := 8) (by omega) (by omega)
  unfold orB
  omega
theorem pow8 {k : Nat} (h : k < 8) : (0 : Int) ≤ 2 ^ k ∧ (2 : Int) ^ k ≤ 128 := by
  match k, h with
  | 0, _ => decide
  | 1, _ => decide
  | 2, _ => decide
  | 3, _ => decide
  | 4, _ => decide
  | 5, _ => decide
  | 6, _ => decide
  | 7, _ => decide
theorem getD_byte {f : List Int} (h : BytesOk f) (i : Nat) : 0 ≤ f.getD i 0 ∧ f.getD i 0 ≤ 255 := by
  rw [List.getD_eq_getElem?_getD]
  by_cases hi : i < f.length
  · rw [List.getElem?_eq_getElem hi]
    exact h _ (List.getElem_mem hi)
  · rw [List.getElem?_eq_none (by omega)]
    simp
theorem bitOn_length (f : List Int) (n : Int) : (bitOn f n).length = f.length := by simp [bitOn]
theorem bitOn_ok {f : List Int} {n : Int} (h : BytesOk f) : BytesOk (bitOn f n) := by
  intro z hz
  unfold bitOn at hz
  rcases List.mem_or_eq_of_mem_set hz with h1 | rfl
  · exact h z h1
  · have hp := pow8 (k := (n % 8).toNat) (by omega)
    exact orB_byte (getD_byte h _) ⟨hp.1, by omega⟩
theorem fltAdd_length (f : List Int) (s : ByteArray) : (fltAdd f s).length = f.length := by simp [fltAdd, bitOn_length]
theorem fltAdd_ok {f : List Int} {s : ByteArray} (h : BytesOk f) : BytesOk (fltAdd f s) := bitOn_ok (bitOn_ok h)
theorem fold_length (ks : List ByteArray) (f : List Int) : (ks.foldl fltAdd f).length = f.length := by
  induction ks generalizing f with
  | nil => rfl
  | cons k ks ih => rw [List.foldl_cons, ih, fltAdd_length]
theorem fold_ok (ks : List ByteArray) {f : List Int} (h : BytesOk f) : BytesOk (ks.foldl fltAdd f) := by
  induction ks generalizing f with
  | nil => exact h
  | cons k ks ih => exact ih (fltAdd_ok h)
theorem flt_length (ks : List ByteArray) : (flt ks).length = 8 := by unfold flt; rw [fold_length]; rfl
theorem flt_ok (ks : List ByteArray) : BytesOk (flt ks) := fold_ok ks (by intro z hz; rw [List.eq_of_mem_replicate hz]; omega)
theorem flt_step {l : List ByteArray} {k : Nat} (h : k < l.length) : flt (l.take (k + 1)) = fltAdd (flt (l.take k)) l[k] := by
  unfold flt
  rw [List.take_succ_eq_append_getElem h, List.foldl_append]
  rfl

end Go.Proofs.YtocgbeoglgkibaaDoor

namespace Go.Proofs.YtocgbeoglgkibaaDoor

/-- The nearest number that is kept. -/
def clampN (n : Int) : Int := if 1000000000 < n then 1000000000 else if n < 0 then 0 else n

theorem clampN_lo {n : Int} (h : n < 0) : clampN n = 0 := by unfold clampN; rw [if_neg (by omega), if_pos h]
theorem clampN_hi {n : Int} (h : 1000000000 < n) : clampN n = 1000000000 := by unfold clampN; rw [if_pos h]
theorem clampN_in {n : Int} (h : 0 ≤ n) (h' : n ≤ 1000000000) : clampN n = n := by unfold clampN; rw [if_neg (by omega), if_neg (by omega)]
theorem clampN_bd (n : Int) : 0 ≤ clampN n ∧ clampN n ≤ 1000000000 := by unfold clampN; split <;> (try split) <;> omega

def capHi (n : Int) : Int := if 1000000000 < n then 1000000000 else n
theorem capHi_hi {n : Int} (h : 1000000000 < n) : capHi n = 1000000000 := by unfold capHi; rw [if_pos h]
theorem capHi_in {n : Int} (h : n ≤ 1000000000) : capHi n = n := by unfold capHi; rw [if_neg (by omega)]
theorem clampN_of_capHi (n : Int) : clampN n = if capHi n < 0 then 0 else capHi n := by
  unfold clampN capHi
  by_cases h : 1000000000 < n
  · simp [h]
  · simp [h]

/-- The group at d (a power of 128), if it or a higher one is there. -/
def hiG (n d : Int) : List Int := if 0 < n / d then [n / d % 128 + 128] else []

theorem hiG_yes {n d : Int} (h : 0 < n / d) : hiG n d = [n / d % 128 + 128] := by unfold hiG; rw [if_pos h]
theorem hiG_no {n d : Int} (h : ¬ 0 < n / d) : hiG n d = [] := by unfold hiG; rw [if_neg h]

/-- The groups that the first j rounds lay. -/
def hiTo (n : Int) : Nat → List Int
  | 0 => []
  | 1 => hiG n 268435456
  | 2 => hiG n 268435456 ++ hiG n 2097152
  | 3 => hiG n 268435456 ++ hiG n 2097152 ++ hiG n 16384
  | _ => hiG n 268435456 ++ hiG n 2097152 ++ hiG n 16384 ++ hiG n 128

/-- The bytes of a number from 0 to MaxNum. -/
def putNum (n : Int) : List Int := hiTo n 4 ++ [n % 128]

theorem hiG_ok (n d : Int) : BytesOk (hiG n d) := by
  intro z hz
  unfold hiG at hz
  split at hz
  · simp at hz; omega
  · simp at hz

theorem hiG_length (n d : Int) : (hiG n d).length ≤ 1 := by unfold hiG; split <;> simp

theorem BytesOk.append {a b : List Int} (ha : BytesOk a) (hb : BytesOk b) : BytesOk (a ++ b) := by
  intro z hz
  rcases List.mem_append.1 hz with h | h
  · exact ha z h
  · exact hb z h

theorem putNum_ok (n : Int) : BytesOk (putNum n) := by
  refine BytesOk.append (BytesOk.append (BytesOk.append (BytesOk.append (hiG_ok _ _) (hiG_ok _ _)) (hiG_ok _ _)) (hiG_ok _ _)) ?_
  intro z hz
  simp at hz
  omega

theorem hiTo_length (n : Int) (j : Nat) : (hiTo n j).length ≤ 4 := by
  have h1 := hiG_length n 268435456
  have h2 := hiG_length n 2097152
  have h3 := hiG_length n 16384
  have h4 := hiG_length n 128
  unfold hiTo
  split <;> simp <;> omega

theorem putNum_length (n : Int) : 1 ≤ (putNum n).length ∧ (putNum n).length ≤ 5 := by
  have := hiTo_length n 4
  simp [putNum]
  omega

theorem or128_i64 (y : Int) : bits .or .i64 (y % 128) 128 = y % 128 + 128 := by
  have hc : bits .or .i64 (y % 128) 128 = bits .or .i64 128 (y % 128) := by simp only [bits, BitVec.or_comm]
  rw [hc, bits_join .i64 63 (by decide) wraps_i64 7 128 (y % 128) (by decide) (by decide) (by decide) (by omega) (by omega) (by omega)]
  omega

theorem or128_nat : ∀ z : Fin 256, (z.val ||| 128) = z.val % 128 + 128 := by decide +kernel

theorem or128_u8 (y : Int) : bits .or .u8 (y % 256) 128 = y % 128 + 128 := by
  rw [u8_or (y % 256) 128 (by omega) (by omega) (by omega) (by omega)]
  have h := or128_nat ⟨(y % 256).toNat, by omega⟩
  simp only at h
  have e : (128 : Int).toNat = 128 := rfl
  rw [e, h]
  omega

/-- The bytes of several numbers, one behind the other. -/
def putNums (l : List Int) : List Int := (l.map (fun n => putNum (clampN n))).flatten

theorem putNums_snoc (l : List Int) (n : Int) : putNums (l ++ [n]) = putNums l ++ putNum (clampN n) := by simp [putNums]

theorem putNums_length (l : List Int) : (putNums l).length ≤ 5 * l.length := by
  induction l with
  | nil => simp [putNums]
  | cons a r ih =>
    have := putNum_length (clampN a)
    simp only [putNums, List.map_cons, List.flatten_cons, List.length_append, List.length_cons] at ih ⊢
    omega

end Go.Proofs.YtocgbeoglgkibaaDoor
