/-
  Whether a table in memory is right: the program's and the specification's answer.
-/
import Derived.Test.YtadadkookbkkoaaDoorPairsOk
namespace Go.Proofs.YtadadkookbkkoaaDoor
open Go.RowKit Go.Maps
set_option linter.unusedVariables false
set_option linter.unusedSimpArgs false
set_option maxRecDepth 10000

set_option maxHeartbeats 2000000 in
theorem pairsOf_any (cs : List Value) (m : MMem) (w : World) (hr : rMem w.heap.size w cs m) (hw : wMem m ≤ 1048576) :
    Calls Tryd.prog 38 #[.agg cs.toArray] w fun e w' => ∃ v, e = .returned v ∧ RowR 3 28 rPair w.heap.size w' w.heap.size v (m.fNodes.map MNode.fP) ∧ Below w.heap.size w w' := by
  obtain ⟨iP, hiP, hzP0, hzP1, hzP2⟩ := info_parts Tryd.infoPair
  obtain ⟨a0, c0, rfl, hL, _⟩ := hr
  have HL := Hid.mk hL
  obtain ⟨l, hl⟩ : ∃ l, l = m.fNodes := ⟨_, rfl⟩
  have hw2 : m.fNodes.length + sumW wNode m.fNodes ≤ 1048576 := hw
  rw [← hl] at HL hw2 ⊢
  clear hL hw hl
  obtain ⟨n, hx⟩ : ∃ n, n = l.length := ⟨_, rfl⟩
  rw [← hx] at hw2 ⊢
  have HX := Hid.mk hx.symm
  have hn : n ≤ 1048576 := by omega
  clear hx hw2
  go_enter Tryd.func38, Tryd.ntmps38
  go_wp2_with fail
  go_loopw [3, 9] (fun v i wr => ∃ k : Nat, k ≤ n ∧ i = .int .i64 k ∧ RowR 3 28 rPair w.heap.size wr w.heap.size v ((l.take k).map MNode.fP) ∧ Below w.heap.size w wr) (fun _ i _ => n - (intOf i).toNat)
  case atStart => exact ⟨0, Nat.zero_le _, rfl, by simpa using RowR.start, (Below.refl _ _).alloc (Nat.le_refl _) _⟩
  case round =>
    obtain ⟨k, hk, rfl, hrow, hbk⟩ := hrel
    have hbz := hbk.size
    by_cases hlt : k < n
    · have hkl : k < l.length := by rw [HX.out]; exact hlt
      obtain ⟨b1, o1, rfl, hB, cs, hcl, hcell, rfl, g0, g1, _, g3, _⟩ := (HL.out.2.2.below rNode_good hbk) k hkl
      have hB' : b1 < wr.heap.size := by omega
      have k0 := hcell 0 _ rfl
      have k1 := hcell 1 _ rfl
      have k2 := hcell 2 _ rfl
      have k3 := hcell 3 _ rfl
      rw [Nat.add_zero] at k0
      have HTK : Hid ((l.take (k + 1)).map MNode.fP = (l.take k).map MNode.fP ++ [l[k].fP]) := by show _ = _; rw [List.take_succ_eq_append_getElem hkl, List.map_append]; rfl
      have hfl : ((l.take k).map MNode.fP).length ≤ 1048576 := by simp; omega
      obtain ⟨x, hxk⟩ : ∃ x, l[k] = x := ⟨_, rfl⟩
      rw [hxk] at HTK k0 k1 k2 k3 g0 g1
      have HRP : Hid (∀ W : World, rPair w.heap.size W [.string x.fP.fKey, .string x.fP.fVal, .bool x.fP.fGone] x.fP) := fun W => ⟨rfl, g0, g1, trivial, trivial⟩
      clear hcell hcl hxk
      obtain ⟨fl, hfq⟩ : ∃ fl, fl = (l.take k).map MNode.fP := ⟨_, rfl⟩
      rw [← hfq] at hrow hfl HTK
      clear hfq
      obtain ⟨css, r1, r2, r3, r4⟩ := hrow
      obtain ⟨Wx, hWx⟩ : ∃ Wx, Wx = (wr.alloc (.cells #[.string x.fP.fKey, .string x.fP.fVal, .bool x.fP.fGone, .int .i64 x.fTower] 36)).alloc (.cells #[.string x.fP.fKey, .string x.fP.fVal, .bool x.fP.fGone] 28) := ⟨_, rfl⟩
      have hbx0 : Below wr.heap.size wr Wx := by rw [hWx]; exact ((Below.refl _ _).alloc (Nat.le_refl _) _).alloc (by simp) _
      have hbx : Bx Wx (wr.heap.size + 1) [.string x.fP.fKey, .string x.fP.fVal, .bool x.fP.fGone] := by rw [hWx]; have := Bx.new (wr.alloc (.cells #[.string x.fP.fKey, .string x.fP.fVal, .bool x.fP.fGone, .int .i64 x.fTower] 36)) [.string x.fP.fKey, .string x.fP.fVal, .bool x.fP.fGone] 28; simpa using this
      have r4x := own_below r4 hbx0
      have hzx := hbx0.size
      go_wp2_with (at_builtin; rw [← hWx]; refine wpList_append_own_at _ rfl _ _ 67 rfl w.heap.size 28 iP (.agg #[.string ⟨#[]⟩, .string ⟨#[]⟩, .bool false]) 3 40 Tryd.underlying67 hiP hzP0 hzP1 hzP2 rfl (by decide) _ _ _ rfl r4x ⟨wr.heap.size + 1, 0, none⟩ 1 1 [.string x.fP.fKey, .string x.fP.fVal, .bool x.fP.fGone] rfl rfl (bx_news hbx) (by intro u hu; simp at hu; rcases hu with rfl | rfl | rfl <;> rfl) (by unfold maxLen; omega) (by omega) (by omega) ?_; intro v' w3 hown3 hgrow3 hnil hloc)
      have hT := Turn.after hbx0 (turnOwn hgrow3)
      have hge : ∀ k, k ∈ (Value.ownBlock _).toList → w.heap.size ≤ k := fun k hk => (r4.lt k (by simpa using hk)).1
      have hBl : Below w.heap.size wr w3 := Turn.below hT (fun k hk => hge k hk) hbz
      go_roundw
      case rel => exact ⟨k + 1, by omega, by go_num, by rw [HTK.out]; exact RowR.push rPair_good r1 r2 r3 hBl rfl (HRP.out w3) hown3, hbk.trans hBl⟩
      case measure => simp [intOf]; omega
    · have hkn : k = n := by omega
      have HTA : Hid (l.take k = l) := by show _ = _; rw [hkn, ← HX.out]; exact List.take_length
      rw [HTA.out] at hrow
      have HRW := Hid.mk hrow
      clear hrow
      go_wp2_with fail
      go_ret
      exact ⟨_, rfl, HRW.out, hbk⟩

set_option maxHeartbeats 400000 in
theorem towerOk_any (x : Int) (w : World) :
    Calls Tryd.prog 32 #[.int .i64 x] w fun e w' => e = .returned (.bool (inR x 1 4)) ∧ w' = w := by
  by_cases h1 : 1 ≤ x
  · by_cases h2 : x ≤ 4
    · have HV : Hid (inR x 1 4 = true) := decide_eq_true ⟨h1, h2⟩
      go_enter Tryd.func32, Tryd.ntmps32
      go_wp2
      go_ret
      exact ⟨by rw [HV.out]; rfl, rfl⟩
    · have HV : Hid (inR x 1 4 = false) := decide_eq_false (fun h => h2 h.2)
      go_enter Tryd.func32, Tryd.ntmps32
      go_wp2
      go_ret
      exact ⟨by rw [HV.out]; rfl, rfl⟩
  · have HV : Hid (inR x 1 4 = false) := decide_eq_false (fun h => h1 h.1)
    go_enter Tryd.func32, Tryd.ntmps32
    go_wp2
    go_ret
    exact ⟨by rw [HV.out]; rfl, rfl⟩

theorem towers_take {l : List MNode} {k : Nat} (h : k < l.length) : towersP (l.take (k + 1)) = (towersP (l.take k) && inR l[k].fTower 1 4) := by
  unfold towersP
  rw [List.take_succ_eq_append_getElem h, List.all_append]
  simp
theorem towers_bad {l : List MNode} {k : Nat} (h : k < l.length) (hb : inR l[k].fTower 1 4 = false) : towersP l = false := by
  unfold towersP
  rw [List.all_eq_false]
  exact ⟨l[k], List.getElem_mem h, by rw [hb]; decide⟩
theorem sumW_map {l : List MNode} : sumW wPair (l.map MNode.fP) = sumW wNode l := by
  induction l with
  | nil => rfl
  | cons x r ih => simp only [List.map_cons, sumW, ih]; rfl

set_option maxHeartbeats 4000000 in
theorem implMemOk_c (cs : List Value) (m : MMem) (w : World) (hr : rMem w.heap.size w cs m) (hw : wMem m ≤ 1048576) (hT : Tabs w) :
    Calls Tryd.prog 12 #[.agg cs.toArray] w fun e w' => e = .returned (.bool (memOkP m)) ∧ Below w.heap.size w w' := by
  have HR := Hid.mk hr
  have HT := Hid.mk hT
  have HW := Hid.mk hw
  obtain ⟨a0, c0, rfl, hL, _⟩ := hr
  have HL := Hid.mk hL
  have hw2 : m.fNodes.length + sumW wNode m.fNodes ≤ 1048576 := hw
  obtain ⟨n, hx⟩ : ∃ n, n = m.fNodes.length := ⟨_, rfl⟩
  rw [← hx] at hw2
  have HX := Hid.mk hx
  have hn : n ≤ 1048576 := by omega
  have HV : Hid (memOkP m = (decide (n ≤ 60) && pairsOkP (m.fNodes.map MNode.fP) && towersP m.fNodes)) := by show _ = _; rw [hx]; rfl
  have hSW : sumW wPair (m.fNodes.map MNode.fP) ≤ 1048576 := by rw [sumW_map]; omega
  have hPL : (m.fNodes.map MNode.fP).length ≤ 1048576 := by rw [List.length_map]; omega
  obtain ⟨ps, hps⟩ : ∃ ps, ps = m.fNodes.map MNode.fP := ⟨_, rfl⟩
  rw [← hps] at hSW hPL HV
  have HPS := Hid.mk hps
  rw [← hx]
  clear hL hw hx hT hw2 hps
  go_enter Tryd.func12, Tryd.ntmps12
  by_cases h60 : n ≤ 60
  rotate_left
  · have HV2 : Hid (memOkP m = false) := by show _ = _; rw [HV.out, decide_eq_false h60, Bool.false_and, Bool.false_and]
    have hgt : (60 : Int) < (n : Int) := by omega
    go_wp2_with fail
    go_ret
    exact ⟨by rw [HV2.out]; rfl, (Below.refl _ _).alloc (Nat.le_refl _) _⟩
  have hle : ¬ (60 : Int) < (n : Int) := by omega
  go_wp2_with fail
  obtain ⟨wq, hwq⟩ : ∃ wq, wq = w.alloc (.cells #[.slice a0 n c0] 26) := ⟨_, rfl⟩
  have hbW : Below w.heap.size w wq := by rw [hwq]; exact (Below.refl _ _).alloc (Nat.le_refl _) _
  have hbx : Bx wq w.heap.size [.slice a0 n c0] := by rw [hwq]; exact Bx.new _ _ _
  rw [← hwq]
  clear hwq
  have hcall := pairsOf_any _ m wq (rMem_good.mono (rMem_good.below HR.out hbW) hbW.size) HW.out
  rw [← HX.out, ← HPS.out] at hcall
  refine hcall.mono ?_
  clear hcall
  rintro e w1 ⟨v1, rfl, hrow, hx1⟩
  have hb1 := bthen hbW hx1
  have hbx1 := hbx.under hx1
  obtain ⟨a1, c1, rfl, hl1⟩ := hrow.leaf rPair_good hx1.size
  clear hbx hrow
  go_wp2_with fail
  refine (pairsOk_any a1 ps.length c1 ps w1 rfl hPL hl1 (HT.out.below hb1) hSW).mono ?_
  rintro e w2 ⟨rfl, hx2⟩
  have hb2 := bthen hb1 hx2
  have hbx2 := hbx1.under hx2
  clear hbx1 hl1
  by_cases hP : pairsOkP ps = true
  rotate_left
  · have hP2 : pairsOkP ps = false := Bool.eq_false_iff.2 hP
    have HV2 : Hid (memOkP m = false) := by show _ = _; rw [HV.out, hP2, Bool.and_false, Bool.false_and]
    rw [hP2]
    go_wp2_with fail
    go_ret
    exact ⟨by rw [HV2.out]; rfl, hb2⟩
  have HV2 : Hid (memOkP m = towersP m.fNodes) := by show _ = _; rw [HV.out, hP, decide_eq_true h60]; rfl
  rw [hP]
  clear hP HV
  have y0 := hbx2.2 0 _ rfl
  have hl2 := hbx2.1
  obtain ⟨l, hl⟩ : ∃ l, l = m.fNodes := ⟨_, rfl⟩
  rw [← hl] at HL HV2 HX
  clear hl
  go_wp2_with fail
  go_loopw [18] (fun i wr => ∃ k : Nat, k ≤ n ∧ i = .int .i64 k ∧ Hid (towersP (l.take k) = true) ∧ Below w.heap.size w wr) (fun i _ => n - (intOf i).toNat)
  case atStart => exact ⟨0, Nat.zero_le _, rfl, rfl, hb2⟩
  case round =>
    obtain ⟨k, hk, rfl, HI, hbk⟩ := hrel
    have hbz := hbk.size
    by_cases hlt : k < n
    · have hkl : k < l.length := by rw [← HX.out]; exact hlt
      obtain ⟨b1, o1, rfl, hB, cs, hcl, hcell, rfl, g0, g1, _, g3, _⟩ := (HL.out.2.2.below rNode_good hbk) k hkl
      have hB' : b1 < wr.heap.size := by omega
      have k0 := hcell 0 _ rfl
      have k1 := hcell 1 _ rfl
      have k2 := hcell 2 _ rfl
      have k3 := hcell 3 _ rfl
      rw [Nat.add_zero] at k0
      have HS := Hid.mk (towers_take hkl)
      have HBad := Hid.mk (fun h => towers_bad hkl h)
      clear hcell hcl
      generalize l[k] = x at *
      go_wp2_with fail
      refine (towerOk_any _ _).mono ?_
      rintro e w3 ⟨rfl, hw3⟩
      have hw4 := hw3.symm
      clear hw3
      subst hw4
      have hbk2 := hbk.alloc (by omega) (.cells #[.string x.fP.fKey, .string x.fP.fVal, .bool x.fP.fGone, .int .i64 x.fTower] 36)
      by_cases hI : inR x.fTower 1 4 = true
      · have HD : Hid (towersP (l.take (k + 1)) = true) := by show _ = _; rw [HS.out, HI.out, hI]; rfl
        rw [hI]
        go_wp2_with fail
        go_roundw
        case rel => exact ⟨k + 1, by omega, by go_num, HD, hbk2⟩
        case measure => simp [intOf]; omega
      · have hI2 : inR x.fTower 1 4 = false := Bool.eq_false_iff.2 hI
        have HD : Hid (memOkP m = false) := by show _ = _; rw [HV2.out]; exact HBad.out hI2
        rw [hI2]
        go_wp2_with fail
        go_ret
        exact ⟨by rw [HD.out]; rfl, hbk2⟩
    · have HD : Hid (memOkP m = true) := by show _ = _; rw [HV2.out]; have h := HI.out; rw [show k = l.length by rw [← HX.out]; omega, List.take_length] at h; exact h
      go_wp2_with fail
      go_ret
      exact ⟨by rw [HD.out]; rfl, hbk⟩

end Go.Proofs.YtadadkookbkkoaaDoor
