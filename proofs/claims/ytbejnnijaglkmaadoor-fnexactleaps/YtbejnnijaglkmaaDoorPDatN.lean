/-
  Marks left in what was handed out, and found again.
-/
import Derived.Test.YtbejnnijaglkmaaDoorPDatM
import Derived.Deep.RegionWith
namespace Go.Proofs.YtbejnnijaglkmaaDoor
open Go.RowKit
set_option linter.unusedVariables false
set_option maxRecDepth 10000

def cntNode (m : MNode) : Nat := 1 + 1 + 1 + 1
def hdNode (m : MNode) (q q' : Int) : Prop := m.fP.fKey = mtext (q) ∧ m.fP.fVal = mtext (q + 1) ∧ m.fP.fGone = ((q + 1 + 1) % 3 == 0) ∧ m.fTower = q + 1 + 1 + 1 ∧ q' = q + 1 + 1 + 1 + 1
theorem cntNode_le (m : MNode) : cntNode m ≤ 32 * (1 + wNode m) := by
  unfold cntNode wNode
  omega
theorem hdNode_end (m : MNode) (q q' : Int) (h : hdNode m q q') : q' = q + cntNode m := by
  obtain ⟨_, _, _, _, rfl⟩ := h
  unfold cntNode
  omega

set_option maxHeartbeats 1000000 in
theorem markNodeS_row (g cap n : Nat) (l : List MNode) (cur : Array Value) (Fs : List (List Nat)) (q : Int) (w : World) (hx : l.length = n) (hq : 0 ≤ q) (hq2 : q + sumW cntNode l ≤ 70368744177664) (ho : OwnRow 4 78 oNode w g cap l cur Fs) :
    Calls Tryd.prog 50 #[.slice (some ⟨g, 0, none⟩) n cap, .int .i64 q] w fun e w' => e = .returned (.int .i64 (q + sumW cntNode l)) ∧ ∃ l' cur', OwnRow 4 78 oNode w' g cap l' cur' Fs ∧ l'.length = n ∧ hdS hdNode l' q (q + sumW cntNode l) ∧ Turn (g :: Fs.flatten) w w' := by
  have HX := Hid.mk hx
  clear hx
  have hcap : n ≤ 9223372036854775807 := by have h1 := ho.le; have h2 := ho.max; have h3 := HX.out; unfold maxLen at h2; omega
  have HO := Hid.mk ho
  clear ho
  go_enter Tryd.func50, Tryd.ntmps50
  go_wp2_with fail
  go_loopw [1, 5] (fun kv i wr => ∃ (k : Nat) (kk : Int) (l' : List MNode) (cur' : Array Value), k ≤ n ∧ i = .int .i64 k ∧ kv = .int .i64 kk ∧ kk = q + sumW cntNode (l.take k) ∧ l'.length = k ∧ OwnRow 4 78 oNode wr g cap (l' ++ l.drop k) cur' Fs ∧ hdS hdNode l' q kk ∧ Turn (g :: Fs.flatten) w wr) (fun _ i _ => n - (intOf i).toNat)
  case atStart => exact ⟨0, q, [], cur, Nat.zero_le _, rfl, rfl, by simp [sumW], rfl, by simpa using HO.out, rfl, Turn.refl _ _⟩
  case round =>
    obtain ⟨k, kk, l', cur', hk, rfl, rfl, hkk, hl', hok, hh, htk⟩ := hrel
    by_cases hlt : k < n
    · have hkl : k < l.length := by rw [HX.out]; exact hlt
      have hlen2 : k < (l' ++ l.drop k).length := by rw [List.length_append, hl', List.length_drop]; omega
      have hw1 := sumW_take_succ (f := cntNode) hkl
      have hw2 := sumW_take_le cntNode l (k + 1)
      have hel := hok.each k hlen2
      rw [get_mid hl' hkl hlen2] at hel
      obtain ⟨hgF, hFN⟩ := hok.part hlen2
      have hE0 := Edit.start hok k (Fs.getD k [])
      generalize hcs : seg 4 cur' k = cs at hel hE0
      clear hcs
      have HOE := Hid.mk (fun w' cs' m' he ho => OwnRow.edit (w' := w') (cs := cs') (m' := m') oNode_good hok hlen2 he ho)
      have HS := Hid.mk (fun m' => set_mid hl' hkl m')
      have HH := Hid.mk (fun x q2 hx => hdS_snoc (x := x) (q2 := q2) hh hx)
      have HL' := Hid.mk hl'
      have HT := Hid.mk htk
      generalize hm0 : l[k] = m at *
      generalize Fs.getD k [] = Fk at *
      have HKK := Hid.mk hkk
      have HW1 := Hid.mk hw1
      have hlo : 0 ≤ kk := by omega
      have hup : kk + cntNode m ≤ 70368744177664 := by omega
      have HUP : Hid (kk + (1 + 1 + 1 + 1 : Nat) ≤ 70368744177664) := hup
      have HU := HUP.out
      clear hm0 hok hh hl' htk hlen2 hkk hw1 hw2 hup
      obtain ⟨rfl, h0, h1, h2, h3, hFk⟩ := hel
      have q0 := hE0.cellAt (i := 0) (by omega) rfl
      have r0 := hE0.free (k * 4 + 0)
      rw [Nat.add_zero] at q0 r0
      have q1 := hE0.cellAt (i := 1) (by omega) rfl
      have r1 := hE0.free (k * 4 + 1)
      have q2 := hE0.cellAt (i := 2) (by omega) rfl
      have r2 := hE0.free (k * 4 + 2)
      have q3 := hE0.cellAt (i := 3) (by omega) rfl
      have r3 := hE0.free (k * 4 + 3)
      skip
      go_wp2_with fail
      refine (markText_any (kk) _ (by omega) (by omega)).mono ?_
      rintro e w1 ⟨rfl, hb1⟩
      have hE1 := hE0.keep (Turn.ofBelow hb1) hgF
      clear q0 r0
      clear q1 r1
      clear q2 r2
      clear q3 r3
      have q0 := hE1.cellAt (i := 0) (by omega) rfl
      have r0 := hE1.free (k * 4 + 0)
      rw [Nat.add_zero] at q0 r0
      have q1 := hE1.cellAt (i := 1) (by omega) rfl
      have r1 := hE1.free (k * 4 + 1)
      have q2 := hE1.cellAt (i := 2) (by omega) rfl
      have r2 := hE1.free (k * 4 + 2)
      have q3 := hE1.cellAt (i := 3) (by omega) rfl
      have r3 := hE1.free (k * 4 + 3)
      go_wp2_with fail
      refine (markText_any (kk + 1) _ (by omega) (by omega)).mono ?_
      rintro e w2 ⟨rfl, hb2⟩
      have hE2 := (hE1.set (i := 0) (by omega) (.string (mtext (kk)))).keep (Turn.ofBelow hb2) hgF
      clear q0 r0
      clear q1 r1
      clear q2 r2
      clear q3 r3
      have q0 := hE2.cellAt (i := 0) (by omega) rfl
      have r0 := hE2.free (k * 4 + 0)
      rw [Nat.add_zero] at q0 r0
      have q1 := hE2.cellAt (i := 1) (by omega) rfl
      have r1 := hE2.free (k * 4 + 1)
      have q2 := hE2.cellAt (i := 2) (by omega) rfl
      have r2 := hE2.free (k * 4 + 2)
      have q3 := hE2.cellAt (i := 3) (by omega) rfl
      have r3 := hE2.free (k * 4 + 3)
      go_wp2_with fail
      go_roundw
      case rel =>
        have hed := HOE.out _ _ (⟨⟨(mtext (kk)), (mtext (kk + 1)), (((kk + 1 + 1) % 3 == 0))⟩, (kk + 1 + 1 + 1)⟩) (((hE2.set (i := 1) (by omega) (.string (mtext (kk + 1)))).set (i := 2) (by omega) (.bool ((kk + 1 + 1) % 3 == 0))).set (i := 3) (by omega) (.int .i64 (kk + 1 + 1 + 1))) ?own
        case own => exact ⟨rfl, (show (mtext (kk)).size ≤ 9223372036854775807 from Nat.le_trans (mtext_size _) (by omega)), (show (mtext (kk + 1)).size ≤ 9223372036854775807 from Nat.le_trans (mtext_size _) (by omega)), trivial, (show (Lit.int .i64 (kk + 1 + 1 + 1)).wf = true from WalkArith.wf_i64 (by omega)), hFk⟩
        obtain ⟨⟨cur2, hrow2⟩, ht2⟩ := hed
        rw [HS.out] at hrow2
        refine ⟨k + 1, _, l' ++ [⟨⟨(mtext (kk)), (mtext (kk + 1)), (((kk + 1 + 1) % 3 == 0))⟩, (kk + 1 + 1 + 1)⟩], cur2, by omega, by go_num, by go_num, ?_, by simp [HL'.out], hrow2, HH.out _ _ ?_, HT.out.trans ht2⟩
        · rw [HW1.out]; have h1 := HKK.out; have h2 : cntNode m = 1 + 1 + 1 + 1 := rfl; omega
        · exact ⟨(by first | rfl | simp [marks_length]), (by first | rfl | simp [marks_length]), (by first | rfl | simp [marks_length]), (by first | rfl | simp [marks_length]), (by first | rfl | simp [marks_length])⟩
      case measure => simp [intOf]; omega
    · have hkn : k = n := by omega
      have HT1 : Hid (l.take k = l) := List.take_of_length_le (by rw [HX.out]; omega)
      have HT2 : Hid (l.drop k = []) := List.drop_of_length_le (by rw [HX.out]; omega)
      rw [HT1.out] at hkk
      rw [HT2.out, List.append_nil] at hok
      have hk2 : 0 ≤ kk := by omega
      subst hkk
      go_wp2_with fail
      go_ret
      exact ⟨rfl, l', cur', hok, by rw [hl', hkn], hh, htk⟩

set_option maxHeartbeats 400000 in
theorem markNodeS_nil (q : Int) (w : World) :
    Calls Tryd.prog 50 #[.slice none 0 0, .int .i64 q] w fun e w' => e = .returned (.int .i64 q) ∧ w' = w := by
  go_enter Tryd.func50, Tryd.ntmps50
  go_wp2
  refine wp_loop_rounds 1 ?_
  rw [rounds_succ]
  go_wp2
  go_ret
  exact ⟨rfl, rfl⟩

theorem markNodeS_any (v : Value) (l : List MNode) (F : List Nat) (q : Int) (w : World) (hq : 0 ≤ q) (hq2 : q + sumW cntNode l ≤ 70368744177664) (ho : ownS 4 78 oNode w v l F) (hN : F.Nodup) :
    Calls Tryd.prog 50 #[v, .int .i64 q] w fun e w' => e = .returned (.int .i64 (q + sumW cntNode l)) ∧ ∃ l', ownS 4 78 oNode w' v l' F ∧ l'.length = l.length ∧ hdS hdNode l' q (q + sumW cntNode l) ∧ Turn F w w' := by
  rcases ho.open hN with ⟨rfl, rfl, rfl⟩ | ⟨g, cap, cur, Fs, rfl, hrow, rfl⟩
  · refine (markNodeS_nil q w).mono ?_
    rintro e w' ⟨rfl, rfl⟩
    exact ⟨by simp [sumW], [], ho, rfl, by simp [hdS, sumW], Turn.refl _ _⟩
  · refine (markNodeS_row g cap _ l cur Fs q w rfl hq hq2 hrow).mono ?_
    rintro e w' ⟨rfl, l', cur', hr', hl', hh, ht⟩
    refine ⟨rfl, l', ?_, hl', hh, ht⟩
    have := hr'.shut
    rw [hl'] at this
    exact this

def tcntMem (m : MMem) : Nat := sumW cntNode m.fNodes
def htMem (m : MMem) (q q' : Int) : Prop := hdS hdNode m.fNodes q q'

theorem tcntMem_le (m : MMem) : tcntMem m ≤ 32 * wMem m := by
  unfold tcntMem wMem
  have e0 := sumW_cnt_le cntNode_le m.fNodes
  omega

set_option maxHeartbeats 1000000 in
theorem markMem_b (cs : List Value) (m : MMem) (F : List Nat) (q : Int) (w : World) (hq : 0 ≤ q) (hq2 : q + tcntMem m ≤ 70368744177664) (ho : oMem w cs m F) (hN : F.Nodup) :
    Calls Tryd.prog 18 #[.agg cs.toArray, .int .i64 q] w fun e w' => ∃ (m' : MMem) (q' : Int), e = .returned (.int .i64 q') ∧ q ≤ q' ∧ q' ≤ q + tcntMem m ∧ oMem w' cs m' F ∧ htMem m' q q' ∧ Turn F w w' := by
  have HLT : Hid (∀ b, b ∈ F → b < w.heap.size) := oMem_good.lt ho
  obtain ⟨v0, F0, rfl, h0, hFF⟩ := ho
  have HU : Hid (q + ((sumW cntNode m.fNodes : Nat) : Int) ≤ 70368744177664) := hq2
  have hu := HU.out
  clear hq2
  obtain ⟨a0, c0, rfl, _⟩ := ownS.read oNode_good h0
  have hN0 := hN
  rw [hFF, List.append_nil] at hN0
  have hM0 : ∀ b, b ∈ F0 → b ∈ F := fun b hb => by rw [hFF]; simp [hb]
  have hNd0 := hN0
  clear hN0
  go_enter Tryd.func18, Tryd.ntmps18
  have hC := fun (W : World) (ht : Turn ([]) w W) => markNodeS_any _ m.fNodes F0 (q) W (by omega) (by omega) (ownS.frame oNode_good h0 (fun b hb => ht.block b (ownS.lt oNode_good h0 b hb) (by simp))) hNd0
  go_wp2_with fail
  refine Calls.mono (hC _ ?_) ?_
  · exact Turn.ofBelow ((Below.refl _ _).alloc (Nat.le_refl _) _)
  clear hC
  rintro e w1 ⟨rfl, l0, o0, ll0, hh0, t1⟩
  have hT1 : Turn (F0 ++ []) w w1 := Turn.trans (Turn.ofBelow ((Below.refl _ _).alloc (Nat.le_refl _) _)) (t1.mono (fun b hb => by simp [hb]))
  have e0 : w1.cell? ⟨w.heap.size, 0, none⟩ = some (.slice a0 m.fNodes.length c0) := (t1.cell (p := ⟨w.heap.size, 0, none⟩) (by simp) (fun hb => by have := HLT.out _ (hM0 _ hb); simp at this)).trans (by simp)
  have hs1 : w.heap.size < w1.heap.size := by have h := t1.size; simp at h; omega
  have z0 := o0
  clear t1
  go_wp2_with fail
  go_ret
  exact ⟨⟨(l0)⟩, _, rfl, by omega, by unfold tcntMem; omega, ⟨_, F0, rfl, z0, hFF⟩, hh0, hT1.mono (fun b hb => by rw [hFF]; simpa using hb)⟩

theorem markMem_any (cs : List Value) (m : MMem) (F : List Nat) (q : Int) (w : World) (hq : 0 ≤ q) (hq2 : q + tcntMem m ≤ 70368744177664) (ho : oMem w cs m F) (hN : F.Nodup) :
    Calls Tryd.prog 18 #[.agg cs.toArray, .int .i64 q] w fun e w' => ∃ (m' : MMem) (q' : Int), e = .returned (.int .i64 q') ∧ q ≤ q' ∧ q' ≤ 70368744177664 ∧ oMem w' cs m' F ∧ htMem m' q q' ∧ Turn F w w' :=
  (markMem_b cs m F q w hq hq2 ho hN).mono fun e w' ⟨m', q', h1, h2, h3, h4⟩ => ⟨m', q', h1, h2, by omega, h4⟩

end Go.Proofs.YtbejnnijaglkmaaDoor
