/-
  Marks left in a row of replicas without lists, and found again.
-/
import Derived.Test.YtiefmjjhedmkpaaCluN
namespace Go.Proofs.Ytiefmjjhedmkpaa
open Go.RowKit Go.Maps
set_option linter.unusedVariables false
set_option linter.unusedSimpArgs false
set_option maxRecDepth 10000

def cntRn (m : MRn) : Nat := 1 + 1 + 1
def hdRn (m : MRn) (q q' : Int) : Prop := m.fA = q ∧ m.fB = q + 1 ∧ m.fC = q + 1 + 1 ∧ q' = q + 1 + 1 + 1
theorem hdRn_end (m : MRn) (q q' : Int) (h : hdRn m q q') : q' = q + cntRn m := by
  obtain ⟨_, _, _, rfl⟩ := h
  unfold cntRn
  omega

set_option maxHeartbeats 4000000 in
theorem markReplicaS_row (g cap n : Nat) (l : List MRn) (cur : Array Value) (Fs : List (List Nat)) (q : Int) (w : World) (hx : l.length = n) (hq : 0 ≤ q) (hq2 : q + sumW cntRn l ≤ 70368744177664) (ho : OwnRow 8 37 oRn w g cap l cur Fs) :
    Calls Try.prog 19 #[.slice (some ⟨g, 0, none⟩) n cap, .int .i64 q] w fun e w' => e = .returned (.int .i64 (q + sumW cntRn l)) ∧ ∃ l' cur', OwnRow 8 37 oRn w' g cap l' cur' Fs ∧ l'.length = n ∧ hdS hdRn l' q (q + sumW cntRn l) ∧ Turn (g :: Fs.flatten) w w' := by
  have HX := Hid.mk hx
  clear hx
  have hcap : n ≤ 9223372036854775807 := by have h1 := ho.le; have h2 := ho.max; have h3 := HX.out; unfold maxLen at h2; omega
  have HO := Hid.mk ho
  clear ho
  go_enter Try.func19, Try.ntmps19
  go_wp2_with fail
  go_loopw [1, 5] (fun kv i wr => ∃ (k : Nat) (kk : Int) (l' : List MRn) (cur' : Array Value), k ≤ n ∧ i = .int .i64 k ∧ kv = .int .i64 kk ∧ kk = q + sumW cntRn (l.take k) ∧ l'.length = k ∧ OwnRow 8 37 oRn wr g cap (l' ++ l.drop k) cur' Fs ∧ hdS hdRn l' q kk ∧ Turn (g :: Fs.flatten) w wr) (fun _ i _ => n - (intOf i).toNat)
  case atStart => exact ⟨0, q, [], cur, Nat.zero_le _, rfl, rfl, by simp [sumW], rfl, by simpa using HO.out, rfl, Turn.refl _ _⟩
  case round =>
    obtain ⟨k, kk, l', cur', hk, rfl, rfl, hkk, hl', hok, hh, htk⟩ := hrel
    by_cases hlt : k < n
    · have hkl : k < l.length := by rw [HX.out]; exact hlt
      have hlen2 : k < (l' ++ l.drop k).length := by rw [List.length_append, hl', List.length_drop]; omega
      have hw1 := sumW_take_succ (f := cntRn) hkl
      have hw2 := sumW_take_le cntRn l (k + 1)
      have hel := hok.each k hlen2
      rw [get_mid hl' hkl hlen2] at hel
      have hE0 := Edit.start hok k (Fs.getD k [])
      generalize hcs : seg 8 cur' k = cs at hel hE0
      clear hcs
      have HOE := Hid.mk (fun w' cs' m' he ho => OwnRow.edit (w' := w') (cs := cs') (m' := m') oRn_good hok hlen2 he ho)
      have HS := Hid.mk (fun m' => set_mid hl' hkl m')
      have HH := Hid.mk (fun x q2 hx => hdS_snoc (x := x) (q2 := q2) hh hx)
      have HL' := Hid.mk hl'
      have HT := Hid.mk htk
      generalize hm0 : l[k] = m at *
      generalize Fs.getD k [] = Fk at *
      have HKK := Hid.mk hkk
      have HW1 := Hid.mk hw1
      have hlo : 0 ≤ kk := by omega
      have hup : kk + cntRn m ≤ 70368744177664 := by omega
      have HUP : Hid (kk + (1 + 1 + 1 : Nat) ≤ 70368744177664) := hup
      have HU := HUP.out
      clear hm0 hok hh hl' htk hlen2 hkk hw1 hw2 hup
      obtain ⟨rfl, h0, h1, h2, hFk⟩ := hel
      have q0 := hE0.cellAt (i := 0) (by omega) rfl
      have r0 := hE0.free (k * 8 + 0)
      have q1 := hE0.cellAt (i := 1) (by omega) rfl
      have r1 := hE0.free (k * 8 + 1)
      have q2 := hE0.cellAt (i := 2) (by omega) rfl
      have r2 := hE0.free (k * 8 + 2)
      have q3 := hE0.cellAt (i := 3) (by omega) rfl
      have r3 := hE0.free (k * 8 + 3)
      have q4 := hE0.cellAt (i := 4) (by omega) rfl
      have r4 := hE0.free (k * 8 + 4)
      have q5 := hE0.cellAt (i := 5) (by omega) rfl
      have r5 := hE0.free (k * 8 + 5)
      have q6 := hE0.cellAt (i := 6) (by omega) rfl
      have r6 := hE0.free (k * 8 + 6)
      have q7 := hE0.cellAt (i := 7) (by omega) rfl
      have r7 := hE0.free (k * 8 + 7)
      rw [Nat.add_zero] at q0 r0
      go_wp2_with fail
      refine (markRecS_nil _ _).mono ?_
      rintro e w1 ⟨rfl, hw1⟩
      replace hw1 := hw1.symm
      subst hw1
      go_wp2_with fail
      refine (markAckS_nil _ _).mono ?_
      rintro e w1 ⟨rfl, hw1⟩
      replace hw1 := hw1.symm
      subst hw1
      go_wp2_with fail
      refine (markDotS_nil _ _).mono ?_
      rintro e w1 ⟨rfl, hw1⟩
      replace hw1 := hw1.symm
      subst hw1
      go_wp2_with fail
      refine (markPairS_nil _ _).mono ?_
      rintro e w1 ⟨rfl, hw1⟩
      replace hw1 := hw1.symm
      subst hw1
      go_wp2_with fail
      refine (markAnswerS_nil _ _).mono ?_
      rintro e w1 ⟨rfl, hw1⟩
      replace hw1 := hw1.symm
      subst hw1
      go_wp2_with fail
      go_roundw
      case rel =>
        have hed := HOE.out _ _ (⟨kk, kk + 1, kk + 1 + 1⟩) (((hE0.set (i := 0) (by omega) (.int .i64 (kk))).set (i := 1) (by omega) (.int .i64 (kk + 1))).set (i := 2) (by omega) (.int .i64 (kk + 1 + 1))) ?own
        case own => exact ⟨rfl, (show (Lit.int .i64 (kk)).wf = true from WalkArith.wf_i64 (by omega)), (show (Lit.int .i64 (kk + 1)).wf = true from WalkArith.wf_i64 (by omega)), (show (Lit.int .i64 (kk + 1 + 1)).wf = true from WalkArith.wf_i64 (by omega)), hFk⟩
        obtain ⟨⟨cur2, hrow2⟩, ht2⟩ := hed
        rw [HS.out] at hrow2
        refine ⟨k + 1, _, l' ++ [⟨kk, kk + 1, kk + 1 + 1⟩], cur2, by omega, by go_num, by go_num, ?_, by simp [HL'.out], hrow2, HH.out _ _ ?_, HT.out.trans ht2⟩
        · rw [HW1.out]; have h1 := HKK.out; have h2 : cntRn m = 1 + 1 + 1 := rfl; omega
        · exact ⟨rfl, rfl, rfl, rfl⟩
      case measure => simp [intOf]; omega
    · have hkn : k = n := by omega
      have HT1 : Hid (l.take k = l) := List.take_of_length_le (by rw [HX.out]; omega)
      have HT2 : Hid (l.drop k = []) := List.drop_of_length_le (by rw [HX.out]; omega)
      rw [HT1.out] at hkk
      rw [HT2.out, List.append_nil] at hok
      have hk2 : 0 ≤ kk := by omega
      subst hkk
      go_wp2_with fail
      go_ret
      exact ⟨rfl, l', cur', hok, by rw [hl', hkn], hh, htk⟩

theorem markReplicaS_any (v : Value) (l : List MRn) (F : List Nat) (q : Int) (w : World) (hq : 0 ≤ q) (hq2 : q + sumW cntRn l ≤ 70368744177664) (ho : ownS 8 37 oRn w v l F) (hN : F.Nodup) :
    Calls Try.prog 19 #[v, .int .i64 q] w fun e w' => e = .returned (.int .i64 (q + sumW cntRn l)) ∧ ∃ l', ownS 8 37 oRn w' v l' F ∧ l'.length = l.length ∧ hdS hdRn l' q (q + sumW cntRn l) ∧ Turn F w w' := by
  rcases ho.open hN with ⟨rfl, rfl, rfl⟩ | ⟨g, cap, cur, Fs, rfl, hrow, rfl⟩
  · refine (markReplicaS_nil q w).mono ?_
    rintro e w' ⟨rfl, rfl⟩
    exact ⟨by simp [sumW], [], ho, rfl, by simp [hdS, sumW], Turn.refl _ _⟩
  · refine (markReplicaS_row g cap _ l cur Fs q w rfl hq hq2 hrow).mono ?_
    rintro e w' ⟨rfl, l', cur', hr', hl', hh, ht⟩
    refine ⟨rfl, l', ?_, hl', hh, ht⟩
    have := hr'.shut
    rw [hl'] at this
    exact this

set_option maxHeartbeats 4000000 in
theorem heldReplicaS_any (a : Option Addr) (n cap : Nat) (l : List MRn) (q q' : Int) (w : World) (hx : l.length = n) (hr : LeafL 8 rRn w.heap.size w a cap l) (hh : hdS hdRn l q q') (hq : 0 ≤ q) (hq' : q' ≤ 70368744177664) :
    Calls Try.prog 22 #[.slice a n cap, .int .i64 q] w fun e w' => e = .returned (.int .i64 q') ∧ Below w.heap.size w w' := by
  have HX := Hid.mk hx
  clear hx
  have hcap : n ≤ 9223372036854775807 := by have h1 := hr.1; have h2 := hr.2.1; have h3 := HX.out; omega
  replace hr := hr.2.2
  have HH := Hid.mk hh
  clear hh
  go_enter Try.func22, Try.ntmps22
  go_wp2_with fail
  go_loopw [1, 5] (fun kv i wr => ∃ (k : Nat) (kk : Int), k ≤ n ∧ i = .int .i64 k ∧ kv = .int .i64 kk ∧ 0 ≤ kk ∧ hdS hdRn (l.drop k) kk q' ∧ Below w.heap.size w wr) (fun _ i _ => n - (intOf i).toNat)
  case atStart => exact ⟨0, q, Nat.zero_le _, rfl, rfl, hq, by simpa using HH.out, Below.refl _ _⟩
  case round =>
    obtain ⟨k, kk, hk, rfl, rfl, hk0, hh, hbk⟩ := hrel
    by_cases hlt : k < n
    · have hkl : k < l.length := by rw [HX.out]; exact hlt
      rw [List.drop_eq_getElem_cons hkl] at hh
      obtain ⟨q1, hh1, hh2⟩ := hh
      have hqe := hdS_end hdRn_end hh2
      obtain ⟨b1, o1, rfl, hB, cs, hcl, hcell, hrT⟩ := (hr.below rRn_good hbk) k hkl
      generalize l[k] = m at *
      obtain ⟨f0, f1, f2, hqf⟩ := hh1
      have hup : kk + 1 + 1 + 1 ≤ 70368744177664 := by omega
      have HR := Hid.mk hh2
      have HQ := Hid.mk hqf
      have hq10 : 0 ≤ q1 := by omega
      clear hh2 hqf hqe HH hr
      obtain ⟨rfl, h0, h1, h2, _⟩ := hrT
      have k0 := hcell 0 _ rfl
      have k1 := hcell 1 _ rfl
      have k2 := hcell 2 _ rfl
      have k3 := hcell 3 _ rfl
      have k4 := hcell 4 _ rfl
      have k5 := hcell 5 _ rfl
      have k6 := hcell 6 _ rfl
      have k7 := hcell 7 _ rfl
      rw [Nat.add_zero] at k0
      rw [f0] at k0
      rw [f1] at k1
      rw [f2] at k2
      clear hcell hcl h0 h1 h2
      clear f0 f1 f2
      have hy0 : b1 < wr.heap.size := Nat.lt_of_lt_of_le hB hbk.size
      go_wp2_with fail
      refine (heldRecS_nil _ _).mono ?_
      rintro e w1 ⟨rfl, hw1⟩
      replace hw1 := hw1.symm
      subst hw1
      go_wp2_with fail
      refine (heldAckS_nil _ _).mono ?_
      rintro e w1 ⟨rfl, hw1⟩
      replace hw1 := hw1.symm
      subst hw1
      go_wp2_with fail
      refine (heldDotS_nil _ _).mono ?_
      rintro e w1 ⟨rfl, hw1⟩
      replace hw1 := hw1.symm
      subst hw1
      go_wp2_with fail
      refine (heldPairS_nil _ _).mono ?_
      rintro e w1 ⟨rfl, hw1⟩
      replace hw1 := hw1.symm
      subst hw1
      go_wp2_with fail
      refine (heldAnswerS_nil _ _).mono ?_
      rintro e w1 ⟨rfl, hw1⟩
      replace hw1 := hw1.symm
      subst hw1
      go_wp2_with fail
      go_roundw
      case rel => exact ⟨k + 1, q1, by omega, by go_num, by rw [HQ.out] <;> go_num, hq10, HR.out, (Below.trans hbk (Below.mono (show Below wr.heap.size wr _ from by repeat (first | with_reducible exact Below.refl _ _ | with_reducible assumption | refine Below.drew ?_ | refine Below.alloc ?_ (by simp) _)) hbk.size))⟩
      case measure => simp [intOf]; omega
    · have hkn : k = n := by omega
      have HT2 : Hid (l.drop k = []) := List.drop_of_length_le (by rw [HX.out]; omega)
      rw [HT2.out] at hh
      have hqk : q' = kk := hh
      subst hqk
      go_wp2_with fail
      go_ret
      exact ⟨rfl, hbk⟩

end Go.Proofs.Ytiefmjjhedmkpaa
