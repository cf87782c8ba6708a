/-
  Marks left in what was handed out, and found again.
-/
import Derived.Test.YtnohnkcijomdjaaGreatDoorMarkT
import Derived.Test.YtnohnkcijomdjaaGreatDoorBytE
import Derived.Test.YtnohnkcijomdjaaGreatDoorQDat
import Derived.Deep.RegionWith
namespace Go.Proofs.YtnohnkcijomdjaaGreatDoor
open Go.RowKit
set_option linter.unusedVariables false
set_option maxRecDepth 10000

def cntMeta (m : MMeta) : Nat := 1 + 1 + 1 + 1
def hdMeta (m : MMeta) (q q' : Int) : Prop := m.fNo = q ∧ m.fLevel = q + 1 ∧ m.fLo = mtext (q + 1 + 1) ∧ m.fHi = mtext (q + 1 + 1 + 1) ∧ q' = q + 1 + 1 + 1 + 1
theorem cntMeta_le (m : MMeta) : cntMeta m ≤ 32 * (1 + wMeta m) := by
  unfold cntMeta wMeta
  omega
theorem hdMeta_end (m : MMeta) (q q' : Int) (h : hdMeta m q q') : q' = q + cntMeta m := by
  obtain ⟨_, _, _, _, rfl⟩ := h
  unfold cntMeta
  omega

set_option maxHeartbeats 1000000 in
theorem markMetaS_row (g cap n : Nat) (l : List MMeta) (cur : Array Value) (Fs : List (List Nat)) (q : Int) (w : World) (hx : l.length = n) (hq : 0 ≤ q) (hq2 : q + sumW cntMeta l ≤ 70368744177664) (ho : OwnRow 4 49 oMeta w g cap l cur Fs) :
    Calls Tryz.prog 25 #[.slice (some ⟨g, 0, none⟩) n cap, .int .i64 q] w fun e w' => e = .returned (.int .i64 (q + sumW cntMeta l)) ∧ ∃ l' cur', OwnRow 4 49 oMeta w' g cap l' cur' Fs ∧ l'.length = n ∧ hdS hdMeta l' q (q + sumW cntMeta l) ∧ Turn (g :: Fs.flatten) w w' := by
  have HX := Hid.mk hx
  clear hx
  have hcap : n ≤ 9223372036854775807 := by have h1 := ho.le; have h2 := ho.max; have h3 := HX.out; unfold maxLen at h2; omega
  have HO := Hid.mk ho
  clear ho
  go_enter Tryz.func25, Tryz.ntmps25
  go_wp2_with fail
  go_loopw [1, 5] (fun kv i wr => ∃ (k : Nat) (kk : Int) (l' : List MMeta) (cur' : Array Value), k ≤ n ∧ i = .int .i64 k ∧ kv = .int .i64 kk ∧ kk = q + sumW cntMeta (l.take k) ∧ l'.length = k ∧ OwnRow 4 49 oMeta wr g cap (l' ++ l.drop k) cur' Fs ∧ hdS hdMeta l' q kk ∧ Turn (g :: Fs.flatten) w wr) (fun _ i _ => n - (intOf i).toNat)
  case atStart => exact ⟨0, q, [], cur, Nat.zero_le _, rfl, rfl, by simp [sumW], rfl, by simpa using HO.out, rfl, Turn.refl _ _⟩
  case round =>
    obtain ⟨k, kk, l', cur', hk, rfl, rfl, hkk, hl', hok, hh, htk⟩ := hrel
    by_cases hlt : k < n
    · have hkl : k < l.length := by rw [HX.out]; exact hlt
      have hlen2 : k < (l' ++ l.drop k).length := by rw [List.length_append, hl', List.length_drop]; omega
      have hw1 := sumW_take_succ (f := cntMeta) hkl
      have hw2 := sumW_take_le cntMeta l (k + 1)
      have hel := hok.each k hlen2
      rw [get_mid hl' hkl hlen2] at hel
      obtain ⟨hgF, hFN⟩ := hok.part hlen2
      have hE0 := Edit.start hok k (Fs.getD k [])
      generalize hcs : seg 4 cur' k = cs at hel hE0
      clear hcs
      have HOE := Hid.mk (fun w' cs' m' he ho => OwnRow.edit (w' := w') (cs := cs') (m' := m') oMeta_good hok hlen2 he ho)
      have HS := Hid.mk (fun m' => set_mid hl' hkl m')
      have HH := Hid.mk (fun x q2 hx => hdS_snoc (x := x) (q2 := q2) hh hx)
      have HL' := Hid.mk hl'
      have HT := Hid.mk htk
      generalize hm0 : l[k] = m at *
      generalize Fs.getD k [] = Fk at *
      have HKK := Hid.mk hkk
      have HW1 := Hid.mk hw1
      have hlo : 0 ≤ kk := by omega
      have hup : kk + cntMeta m ≤ 70368744177664 := by omega
      have HUP : Hid (kk + (1 + 1 + 1 + 1 : Nat) ≤ 70368744177664) := hup
      have HU := HUP.out
      clear hm0 hok hh hl' htk hlen2 hkk hw1 hw2 hup
      obtain ⟨rfl, h0, h1, h2, h3, hFk⟩ := hel
      have q0 := hE0.cellAt (i := 0) (by omega) rfl
      have r0 := hE0.free (k * 4 + 0)
      rw [Nat.add_zero] at q0 r0
      have q1 := hE0.cellAt (i := 1) (by omega) rfl
      have r1 := hE0.free (k * 4 + 1)
      have q2 := hE0.cellAt (i := 2) (by omega) rfl
      have r2 := hE0.free (k * 4 + 2)
      have q3 := hE0.cellAt (i := 3) (by omega) rfl
      have r3 := hE0.free (k * 4 + 3)
      skip
      go_wp2_with fail
      refine (markText_any (kk + 1 + 1) _ (by omega) (by omega)).mono ?_
      rintro e w1 ⟨rfl, hb1⟩
      have hE1 := ((hE0.set (i := 0) (by omega) (.int .i64 (kk))).set (i := 1) (by omega) (.int .i64 (kk + 1))).keep (Turn.ofBelow hb1) hgF
      clear q0 r0
      clear q1 r1
      clear q2 r2
      clear q3 r3
      have q0 := hE1.cellAt (i := 0) (by omega) rfl
      have r0 := hE1.free (k * 4 + 0)
      rw [Nat.add_zero] at q0 r0
      have q1 := hE1.cellAt (i := 1) (by omega) rfl
      have r1 := hE1.free (k * 4 + 1)
      have q2 := hE1.cellAt (i := 2) (by omega) rfl
      have r2 := hE1.free (k * 4 + 2)
      have q3 := hE1.cellAt (i := 3) (by omega) rfl
      have r3 := hE1.free (k * 4 + 3)
      go_wp2_with fail
      refine (markText_any (kk + 1 + 1 + 1) _ (by omega) (by omega)).mono ?_
      rintro e w2 ⟨rfl, hb2⟩
      have hE2 := (hE1.set (i := 2) (by omega) (.string (mtext (kk + 1 + 1)))).keep (Turn.ofBelow hb2) hgF
      clear q0 r0
      clear q1 r1
      clear q2 r2
      clear q3 r3
      have q0 := hE2.cellAt (i := 0) (by omega) rfl
      have r0 := hE2.free (k * 4 + 0)
      rw [Nat.add_zero] at q0 r0
      have q1 := hE2.cellAt (i := 1) (by omega) rfl
      have r1 := hE2.free (k * 4 + 1)
      have q2 := hE2.cellAt (i := 2) (by omega) rfl
      have r2 := hE2.free (k * 4 + 2)
      have q3 := hE2.cellAt (i := 3) (by omega) rfl
      have r3 := hE2.free (k * 4 + 3)
      go_wp2_with fail
      go_roundw
      case rel =>
        have hed := HOE.out _ _ (⟨(kk), (kk + 1), (mtext (kk + 1 + 1)), (mtext (kk + 1 + 1 + 1))⟩) (hE2.set (i := 3) (by omega) (.string (mtext (kk + 1 + 1 + 1)))) ?own
        case own => exact ⟨rfl, (show (Lit.int .i64 (kk)).wf = true from WalkArith.wf_i64 (by omega)), (show (Lit.int .i64 (kk + 1)).wf = true from WalkArith.wf_i64 (by omega)), (show (mtext (kk + 1 + 1)).size ≤ 9223372036854775807 from Nat.le_trans (mtext_size _) (by omega)), (show (mtext (kk + 1 + 1 + 1)).size ≤ 9223372036854775807 from Nat.le_trans (mtext_size _) (by omega)), hFk⟩
        obtain ⟨⟨cur2, hrow2⟩, ht2⟩ := hed
        rw [HS.out] at hrow2
        refine ⟨k + 1, _, l' ++ [⟨(kk), (kk + 1), (mtext (kk + 1 + 1)), (mtext (kk + 1 + 1 + 1))⟩], cur2, by omega, by go_num, by go_num, ?_, by simp [HL'.out], hrow2, HH.out _ _ ?_, HT.out.trans ht2⟩
        · rw [HW1.out]; have h1 := HKK.out; have h2 : cntMeta m = 1 + 1 + 1 + 1 := rfl; omega
        · exact ⟨(by first | rfl | simp [marks_length]), (by first | rfl | simp [marks_length]), (by first | rfl | simp [marks_length]), (by first | rfl | simp [marks_length]), (by first | rfl | simp [marks_length])⟩
      case measure => simp [intOf]; omega
    · have hkn : k = n := by omega
      have HT1 : Hid (l.take k = l) := List.take_of_length_le (by rw [HX.out]; omega)
      have HT2 : Hid (l.drop k = []) := List.drop_of_length_le (by rw [HX.out]; omega)
      rw [HT1.out] at hkk
      rw [HT2.out, List.append_nil] at hok
      have hk2 : 0 ≤ kk := by omega
      subst hkk
      go_wp2_with fail
      go_ret
      exact ⟨rfl, l', cur', hok, by rw [hl', hkn], hh, htk⟩

set_option maxHeartbeats 400000 in
theorem markMetaS_nil (q : Int) (w : World) :
    Calls Tryz.prog 25 #[.slice none 0 0, .int .i64 q] w fun e w' => e = .returned (.int .i64 q) ∧ w' = w := by
  go_enter Tryz.func25, Tryz.ntmps25
  go_wp2
  refine wp_loop_rounds 1 ?_
  rw [rounds_succ]
  go_wp2
  go_ret
  exact ⟨rfl, rfl⟩

theorem markMetaS_any (v : Value) (l : List MMeta) (F : List Nat) (q : Int) (w : World) (hq : 0 ≤ q) (hq2 : q + sumW cntMeta l ≤ 70368744177664) (ho : ownS 4 49 oMeta w v l F) (hN : F.Nodup) :
    Calls Tryz.prog 25 #[v, .int .i64 q] w fun e w' => e = .returned (.int .i64 (q + sumW cntMeta l)) ∧ ∃ l', ownS 4 49 oMeta w' v l' F ∧ l'.length = l.length ∧ hdS hdMeta l' q (q + sumW cntMeta l) ∧ Turn F w w' := by
  rcases ho.open hN with ⟨rfl, rfl, rfl⟩ | ⟨g, cap, cur, Fs, rfl, hrow, rfl⟩
  · refine (markMetaS_nil q w).mono ?_
    rintro e w' ⟨rfl, rfl⟩
    exact ⟨by simp [sumW], [], ho, rfl, by simp [hdS, sumW], Turn.refl _ _⟩
  · refine (markMetaS_row g cap _ l cur Fs q w rfl hq hq2 hrow).mono ?_
    rintro e w' ⟨rfl, l', cur', hr', hl', hh, ht⟩
    refine ⟨rfl, l', ?_, hl', hh, ht⟩
    have := hr'.shut
    rw [hl'] at this
    exact this

set_option maxHeartbeats 1000000 in
theorem heldMetaS_any (a : Option Addr) (n cap : Nat) (l : List MMeta) (q q' : Int) (w : World) (hx : l.length = n) (hr : LeafL 4 rMeta w.heap.size w a cap l) (hh : hdS hdMeta l q q') (hq : 0 ≤ q) (hq' : q' ≤ 70368744177664) :
    Calls Tryz.prog 26 #[.slice a n cap, .int .i64 q] w fun e w' => e = .returned (.int .i64 q') ∧ Below w.heap.size w w' := by
  have HX := Hid.mk hx
  clear hx
  have hcap : n ≤ 9223372036854775807 := by have h1 := hr.1; have h2 := hr.2.1; have h3 := HX.out; omega
  replace hr := hr.2.2
  have HH := Hid.mk hh
  clear hh
  go_enter Tryz.func26, Tryz.ntmps26
  go_wp2_with fail
  go_loopw [1, 5] (fun kv i wr => ∃ (k : Nat) (kk : Int), k ≤ n ∧ i = .int .i64 k ∧ kv = .int .i64 kk ∧ 0 ≤ kk ∧ hdS hdMeta (l.drop k) kk q' ∧ Below w.heap.size w wr) (fun _ i _ => n - (intOf i).toNat)
  case atStart => exact ⟨0, q, Nat.zero_le _, rfl, rfl, hq, by simpa using HH.out, Below.refl _ _⟩
  case round =>
    obtain ⟨k, kk, hk, rfl, rfl, hk0, hh, hbk⟩ := hrel
    by_cases hlt : k < n
    · have hkl : k < l.length := by rw [HX.out]; exact hlt
      rw [List.drop_eq_getElem_cons hkl] at hh
      obtain ⟨q1, hh1, hh2⟩ := hh
      have hqe := hdS_end hdMeta_end hh2
      obtain ⟨b1, o1, rfl, hB, cs, hcl, hcell, hrT⟩ := (hr.below rMeta_good hbk) k hkl
      have hrT := rMeta_good.mono hrT hbk.size
      generalize l[k] = m at *
      obtain ⟨f0, f1, f2, f3, hqf⟩ := hh1
      have hup : kk + 1 + 1 + 1 + 1 ≤ 70368744177664 := by omega
      have HR := Hid.mk hh2
      have HQ := Hid.mk hqf
      have hq10 : 0 ≤ q1 := by omega
      clear hh2 hqf hqe HH hr
      obtain ⟨rfl, h0, h1, h2, h3, _⟩ := hrT
      have k0 := hcell 0 _ rfl
      rw [Nat.add_zero] at k0
      have k1 := hcell 1 _ rfl
      have k2 := hcell 2 _ rfl
      have k3 := hcell 3 _ rfl
      rw [f0] at k0
      rw [f1] at k1
      rw [f2] at k2
      rw [f3] at k3
      clear hcell hcl
      have hy0 : b1 < wr.heap.size := Nat.lt_of_lt_of_le hB hbk.size
      go_wp2_with fail
      go_region_with (go_at_call 53; refine (markText_any (kk + 1 + 1) _ (by omega) (by omega)).mono ?_; rintro e w1 ⟨rfl, hb1⟩; have x2 : w1.cell? ⟨b1, o1 + k * 4 + 2, none⟩ = _ := (hb1.cell (p := ⟨b1, o1 + k * 4 + 2, none⟩) (by first | exact hy0 | simpa using hy0)).trans k2)
      all_goals
        have hB1 : Below wr.heap.size wr w1 := Below.trans (by repeat (first | with_reducible exact Below.refl _ _ | with_reducible assumption | refine Below.drew ?_ | refine Below.alloc ?_ (by simp) _)) (hb1.mono (by first | (with_reducible assumption) | (first | exact hB1.size | exact hB2.size | exact hB3.size) | simp))
        have hy1 : b1 < w1.heap.size := Nat.lt_of_lt_of_le hy0 hB1.size
        replace k2 : w1.cell? ⟨b1, o1 + k * 4 + 2, none⟩ = _ := (hb1.cell (p := ⟨b1, o1 + k * 4 + 2, none⟩) (by first | exact hy0 | simpa using hy0)).trans k2
        replace k3 : w1.cell? ⟨b1, o1 + k * 4 + 3, none⟩ = _ := (hb1.cell (p := ⟨b1, o1 + k * 4 + 3, none⟩) (by first | exact hy0 | simpa using hy0)).trans k3
        go_wp2_with fail
        go_region_with (go_at_call 53; refine (markText_any (kk + 1 + 1 + 1) _ (by omega) (by omega)).mono ?_; rintro e w2 ⟨rfl, hb2⟩; have x3 : w2.cell? ⟨b1, o1 + k * 4 + 3, none⟩ = _ := (hb2.cell (p := ⟨b1, o1 + k * 4 + 3, none⟩) (by first | exact hy1 | simpa using hy1)).trans k3)
        all_goals
          have hB2 : Below wr.heap.size wr w2 := Below.trans (by repeat (first | with_reducible exact Below.refl _ _ | with_reducible assumption | refine Below.drew ?_ | refine Below.alloc ?_ (by simp) _)) (hb2.mono (by first | (with_reducible assumption) | (first | exact hB1.size | exact hB2.size | exact hB3.size) | simp))
          have hy2 : b1 < w2.heap.size := Nat.lt_of_lt_of_le hy0 hB2.size
          replace k3 : w2.cell? ⟨b1, o1 + k * 4 + 3, none⟩ = _ := (hb2.cell (p := ⟨b1, o1 + k * 4 + 3, none⟩) (by first | exact hy1 | simpa using hy1)).trans k3
          go_wp2_with fail
          go_roundw
          case rel => exact ⟨k + 1, q1, by omega, by go_num, by rw [HQ.out] <;> go_num, hq10, HR.out, (Below.trans hbk (Below.mono (show Below wr.heap.size wr _ from by repeat (first | with_reducible exact Below.refl _ _ | with_reducible assumption | refine Below.drew ?_ | refine Below.alloc ?_ (by simp) _)) hbk.size))⟩
          case measure => simp [intOf]; omega
    · have hkn : k = n := by omega
      have HT2 : Hid (l.drop k = []) := List.drop_of_length_le (by rw [HX.out]; omega)
      rw [HT2.out] at hh
      have hqk : q' = kk := hh
      subst hqk
      go_wp2_with fail
      go_ret
      exact ⟨rfl, hbk⟩

def tcntManifest (m : MManifest) : Nat := sumW cntMeta m.fTables
def htManifest (m : MManifest) (q q' : Int) : Prop := hdS hdMeta m.fTables q q'

theorem tcntManifest_le (m : MManifest) : tcntManifest m ≤ 32 * wManifest m := by
  unfold tcntManifest wManifest
  have e2 := sumW_cnt_le cntMeta_le m.fTables
  omega

set_option maxHeartbeats 1000000 in
theorem markManifest_b (cs : List Value) (m : MManifest) (F : List Nat) (q : Int) (w : World) (hq : 0 ≤ q) (hq2 : q + tcntManifest m ≤ 70368744177664) (ho : oManifest w cs m F) (hN : F.Nodup) :
    Calls Tryz.prog 8 #[.agg cs.toArray, .int .i64 q] w fun e w' => ∃ (m' : MManifest) (q' : Int), e = .returned (.int .i64 q') ∧ q ≤ q' ∧ q' ≤ q + tcntManifest m ∧ oManifest w' cs m' F ∧ htManifest m' q q' ∧ Turn F w w' := by
  have HLT : Hid (∀ b, b ∈ F → b < w.heap.size) := oManifest_good.lt ho
  obtain ⟨v2, F2, rfl, h0, h1, h2, hFF⟩ := ho
  have HU : Hid (q + ((sumW cntMeta m.fTables : Nat) : Int) ≤ 70368744177664) := hq2
  have hu := HU.out
  clear hq2
  obtain ⟨a2, c2, rfl, _⟩ := ownS.read oMeta_good h2
  have hN0 := hN
  rw [hFF, List.append_nil] at hN0
  have hM2 : ∀ b, b ∈ F2 → b ∈ F := fun b hb => by rw [hFF]; simp [hb]
  have hNd2 := hN0
  clear hN0
  go_enter Tryz.func8, Tryz.ntmps8
  have hC := fun (W : World) (ht : Turn ([]) w W) => markMetaS_any _ m.fTables F2 (q) W (by omega) (by omega) (ownS.frame oMeta_good h2 (fun b hb => ht.block b (ownS.lt oMeta_good h2 b hb) (by simp))) hNd2
  go_wp2_with fail
  refine Calls.mono (hC _ ?_) ?_
  · exact Turn.ofBelow ((Below.refl _ _).alloc (Nat.le_refl _) _)
  clear hC
  rintro e w1 ⟨rfl, l2, o2, ll2, hh2, t1⟩
  have hT1 : Turn (F2 ++ []) w w1 := Turn.trans (Turn.ofBelow ((Below.refl _ _).alloc (Nat.le_refl _) _)) (t1.mono (fun b hb => by simp [hb]))
  have e2 : w1.cell? ⟨w.heap.size, 2, none⟩ = some (.slice a2 m.fTables.length c2) := (t1.cell (p := ⟨w.heap.size, 2, none⟩) (by simp) (fun hb => by have := HLT.out _ (hM2 _ hb); simp at this)).trans (by simp)
  have hs1 : w.heap.size < w1.heap.size := by have h := t1.size; simp at h; omega
  have z2 := o2
  clear t1
  go_wp2_with fail
  go_ret
  exact ⟨⟨(m.fNext), (m.fLog), (l2)⟩, _, rfl, by omega, by unfold tcntManifest; omega, ⟨_, F2, rfl, h0, h1, z2, hFF⟩, hh2, hT1.mono (fun b hb => by rw [hFF]; simpa using hb)⟩

theorem markManifest_any (cs : List Value) (m : MManifest) (F : List Nat) (q : Int) (w : World) (hq : 0 ≤ q) (hq2 : q + tcntManifest m ≤ 70368744177664) (ho : oManifest w cs m F) (hN : F.Nodup) :
    Calls Tryz.prog 8 #[.agg cs.toArray, .int .i64 q] w fun e w' => ∃ (m' : MManifest) (q' : Int), e = .returned (.int .i64 q') ∧ q ≤ q' ∧ q' ≤ 70368744177664 ∧ oManifest w' cs m' F ∧ htManifest m' q q' ∧ Turn F w w' :=
  (markManifest_b cs m F q w hq hq2 ho hN).mono fun e w' ⟨m', q', h1, h2, h3, h4⟩ => ⟨m', q', h1, h2, by omega, h4⟩

set_option maxHeartbeats 1000000 in
theorem heldManifest_any (cs : List Value) (m : MManifest) (q q' : Int) (w : World) (hr : rManifest w.heap.size w cs m) (hh : htManifest m q q') (hq : 0 ≤ q) (hq' : q' ≤ 70368744177664) :
    Calls Tryz.prog 9 #[.agg cs.toArray, .int .i64 q] w fun e w' => e = .returned (.int .i64 q') ∧ Below w.heap.size w w' := by
  obtain ⟨a2, c2, rfl, h0, h1, h2, _⟩ := hr
  have f2 := hh
  have hz2 := hdS_end hdMeta_end f2
  have HF2 := Hid.mk f2
  clear f2
  have hbe : 0 ≤ q' := by omega
  clear hz2
  go_enter Tryz.func9, Tryz.ntmps9
  have hC := fun (W : World) (hb : Below w.heap.size w W) => (heldMetaS_any a2 _ c2 m.fTables q q' W rfl (LeafL.mono rMeta_good (h2.below rMeta_good hb) hb.size) HF2.out (by omega) (by omega))
  go_wp2_with fail
  refine Calls.mono (hC _ ?_) ?_
  · exact (Below.refl _ _).alloc (Nat.le_refl _) _
  clear hC
  rintro e w1 ⟨rfl, hx1⟩
  have hB1 : Below w.heap.size w w1 := Below.trans ((Below.refl _ _).alloc (Nat.le_refl _) _) (hx1.mono (by simp))
  have hs1 : w.heap.size < w1.heap.size := by have h := hx1.size; simp at h; omega
  have e2 : w1.cell? ⟨w.heap.size, 2, none⟩ = some (.slice a2 m.fTables.length c2) := (hx1.cell (p := ⟨w.heap.size, 2, none⟩) (by simp)).trans (by simp)
  go_wp2_with fail
  go_ret
  exact ⟨rfl, hB1⟩

end Go.Proofs.YtnohnkcijomdjaaGreatDoor
