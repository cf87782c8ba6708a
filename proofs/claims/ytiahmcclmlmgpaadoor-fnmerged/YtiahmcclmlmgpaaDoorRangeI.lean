/-
  The pairs of a list from one key on, and ahead of another: what both sides answer.
-/
import Derived.Test.YtiahmcclmlmgpaaDoorPairK
import Derived.Test.YtiahmcclmlmgpaaDoorPairsOk
namespace Go.Proofs.YtiahmcclmlmgpaaDoor
open Go.RowKit Go.Maps
set_option linter.unusedVariables false
set_option linter.unusedSimpArgs false
set_option maxRecDepth 10000

def inside (f t : ByteArray) (p : MPair) : Bool := !kLt p.fKey f && (decide (t.size = 0) || kLt p.fKey t)
def rangeP (l : List MPair) (f t : ByteArray) : List MPair := l.filter (inside f t)
theorem range_yes {l : List MPair} {f t : ByteArray} {k : Nat} (h : k < l.length) (hi : inside f t l[k] = true) : rangeP (l.take (k + 1)) f t = rangeP (l.take k) f t ++ [l[k]] := by
  unfold rangeP
  rw [List.take_succ_eq_append_getElem h, List.filter_append]
  simp [hi]
theorem range_no {l : List MPair} {f t : ByteArray} {k : Nat} (h : k < l.length) (hi : inside f t l[k] = false) : rangeP (l.take (k + 1)) f t = rangeP (l.take k) f t := by
  unfold rangeP
  rw [List.take_succ_eq_append_getElem h, List.filter_append]
  simp [hi]
theorem range_le {l : List MPair} {f t : ByteArray} {k : Nat} : (rangeP (l.take k) f t).length ≤ k := by
  unfold rangeP
  exact Nat.le_trans (List.length_filter_le _ _) (by simp; omega)
theorem boundRange_0 (l : List MPair) (f t : ByteArray) (hw : wPs l ≤ 1048576) (hf : f.size ≤ 1048576) (ht : t.size ≤ 1048576) : wPs (rangeP l f t) ≤ 1099511627776 := by
  have h1 := sumW_sublist' (f := wPair) (List.filter_sublist (p := inside f t) (l := l))
  have h2 := (List.filter_sublist (p := inside f t) (l := l)).length_le
  unfold wPs at *
  unfold rangeP
  omega
theorem ordK_ge {a b : ByteArray} (h : kLt a b = false) : 0 ≤ ordK a b := by unfold ordK; rw [h]; simp; split <;> omega

set_option maxHeartbeats 4000000 in
theorem implRange_c (vl : Value) (l : List MPair) (f t : ByteArray) (w : World) (hr : rdPs w.heap.size w vl l) (hf : f.size ≤ 9223372036854775807) (ht : t.size ≤ 9223372036854775807) (hw : wPs l ≤ 1048576) (hw1 : f.size ≤ 1048576) (hw2 : t.size ≤ 1048576) (hT : Tabs w) :
    Calls Tryd.prog 12 #[vl, .string f, .string t] w fun e w' => ∃ (v : Value) (F : List Nat), e = .returned v ∧ ownS 3 31 oPair w' v (rangeP l f t) F ∧ F.Nodup ∧ (∀ b, b ∈ F → w.heap.size ≤ b) ∧ Below w.heap.size w w' := by
  obtain ⟨iP, hiP, hzP0, hzP1, hzP2⟩ := info_parts Tryd.infoPair
  obtain ⟨a, c, rfl, hL⟩ := hr
  have HL := Hid.mk hL
  obtain ⟨n, hx⟩ : ∃ n, n = l.length := ⟨_, rfl⟩
  have HX := Hid.mk hx.symm
  have hn : n ≤ 1048576 := by unfold wPs at hw; omega
  rw [← hx]
  have HT := Hid.mk hT
  clear hT
  clear hL hw hx
  go_enter Tryd.func12, Tryd.ntmps12
  go_wp2_with fail
  go_loopw [7, 12] (fun v i wr => ∃ k : Nat, k ≤ n ∧ i = .int .i64 k ∧ RowR 3 31 rPair w.heap.size wr w.heap.size v (rangeP (l.take k) f t) ∧ Below w.heap.size w wr) (fun _ i _ => n - (intOf i).toNat)
  case atStart => exact ⟨0, Nat.zero_le _, rfl, by simpa [rangeP] using RowR.start, Below.refl _ _⟩
  case round =>
    obtain ⟨k, hk, rfl, hrow, hbk⟩ := hrel
    have hbz := hbk.size
    by_cases hlt : k < n
    · have hkl : k < l.length := by rw [HX.out]; exact hlt
      obtain ⟨b1, o1, rfl, hB, cs, hcl, hcell, rfl, g0, g1, _, _⟩ := (HL.out.2.2.below rPair_good hbk) k hkl
      have hB' : b1 < wr.heap.size := by omega
      have k0 := hcell 0 _ rfl
      have k1 := hcell 1 _ rfl
      have k2 := hcell 2 _ rfl
      rw [Nat.add_zero] at k0
      have HY := Hid.mk (fun h => range_yes (f := f) (t := t) hkl h)
      have HN := Hid.mk (fun h => range_no (f := f) (t := t) hkl h)
      have hfl := range_le (l := l) (f := f) (t := t) (k := k)
      obtain ⟨x, hxk⟩ : ∃ x, l[k] = x := ⟨_, rfl⟩
      rw [hxk] at HY HN k0 k1 k2 g0 g1
      have HRP : Hid (∀ W : World, rPair w.heap.size W [.string x.fKey, .string x.fVal, .bool x.fGone] x) := fun W => ⟨rfl, g0, g1, trivial, trivial⟩
      have HG0 := Hid.mk g0
      clear hcell hcl hxk g1 g0
      obtain ⟨fl, hfq⟩ : ∃ fl, fl = rangeP (l.take k) f t := ⟨_, rfl⟩
      rw [← hfq] at hrow hfl
      have HFQ := Hid.mk hfq
      clear hfq
      obtain ⟨wp, hwp⟩ : ∃ wp, wp = wr.alloc (.cells #[.string x.fKey, .string x.fVal, .bool x.fGone] 31) := ⟨_, rfl⟩
      have hbp : Below wr.heap.size wr wp := by rw [hwp]; exact (Below.refl _ _).alloc (Nat.le_refl _) _
      have hbv : Bx wp wr.heap.size [.string x.fKey, .string x.fVal, .bool x.fGone] := by rw [hwp]; exact Bx.new _ _ _
      have hbwp := bthen hbk hbp
      go_wp2_with fail
      rw [← hwp]
      clear hwp
      refine (keyOrder_any x.fKey f wp (HT.out.below hbwp) HG0.out hf).mono ?_
      rintro e w1 ⟨rfl, hx1⟩
      have hb1 := bthen hbp hx1
      have hbw1 := bthen hbk hb1
      have hbv1 := hbv.under hx1
      have y0 := hbv1.2 0 _ rfl
      have y1 := hbv1.2 1 _ rfl
      have y2 := hbv1.2 2 _ rfl
      have hlv := hbv1.1
      have hl1 := hb1.size
      clear hbv
      by_cases hA : kLt x.fKey f = true
      · have hi : inside f t x = false := by unfold inside; rw [hA]; rfl
        rw [ordK_lt hA]
        have HF : Hid (rangeP (l.take (k + 1)) f t = fl) := by show _ = _; rw [HFQ.out]; exact HN.out hi
        have HRW := Hid.mk hrow
        clear HY HN hrow
        go_wp2_with fail
        go_roundw
        case rel => exact ⟨k + 1, by omega, by go_num, by rw [HF.out]; exact RowR.keep rPair_good HRW.out hb1 hbz, hbw1⟩
        case measure => simp [intOf]; omega
      · have hA2 : kLt x.fKey f = false := Bool.eq_false_iff.2 hA
        have hge0 := ordK_ge hA2
        by_cases h0 : t.size = 0
        · have he := k_emp h0
          have hi : inside f t x = true := by unfold inside; rw [hA2, decide_eq_true h0]; rfl
          generalize ordK x.fKey f = od at *
          have HF : Hid (rangeP (l.take (k + 1)) f t = fl ++ [x]) := by show _ = _; rw [HFQ.out]; exact HY.out hi
          obtain ⟨css, r1, r2, r3, r4⟩ := hrow
          obtain ⟨Wx, hWx⟩ : ∃ Wx, Wx = w1.alloc (.cells #[.string x.fKey, .string x.fVal, .bool x.fGone] 31) := ⟨_, rfl⟩
          have hbx0 : Below wr.heap.size wr Wx := by rw [hWx]; exact hb1.alloc (by have := hb1.size; omega) _
          have hbx : Bx Wx w1.heap.size [.string x.fKey, .string x.fVal, .bool x.fGone] := by rw [hWx]; exact Bx.new _ _ _
          have r4x := own_below r4 hbx0
          have hzx := hbx0.size
          clear HY HN
          go_wp2_with (at_builtin; rw [← hWx]; refine wpList_append_own_at _ rfl _ _ 27 rfl w.heap.size 31 iP (.agg #[.string ⟨#[]⟩, .string ⟨#[]⟩, .bool false]) 3 40 Tryd.underlying27 hiP hzP0 hzP1 hzP2 rfl (by decide) _ _ _ rfl r4x ⟨w1.heap.size, 0, none⟩ 1 1 [.string x.fKey, .string x.fVal, .bool x.fGone] rfl rfl (bx_news hbx) (by intro u hu; simp at hu; rcases hu with rfl | rfl | rfl <;> rfl) (by unfold maxLen; omega) (by omega) (by omega) ?_; intro v' w3 hown3 hgrow3 hnil hloc)
          have hT := Turn.after hbx0 (turnOwn hgrow3)
          have hge : ∀ k, k ∈ (Value.ownBlock _).toList → w.heap.size ≤ k := fun k hk => (r4.lt k (by simpa using hk)).1
          have hBl : Below w.heap.size wr w3 := Turn.below hT (fun k hk => hge k hk) hbz
          go_roundw
          case rel => exact ⟨k + 1, by omega, by go_num, by rw [HF.out]; exact RowR.push rPair_good r1 r2 r3 hBl rfl (HRP.out w3) hown3, hbk.trans hBl⟩
          case measure => simp [intOf]; omega
        · have he := k_nemp h0
          have HI : Hid (inside f t x = kLt x.fKey t) := by show _ = _; unfold inside; rw [hA2, decide_eq_false h0]; rfl
          generalize ordK x.fKey f = od at *
          go_wp2_with fail
          refine (keyOrder_any x.fKey t w1 (HT.out.below hbw1) HG0.out ht).mono ?_
          rintro e w2 ⟨rfl, hx2⟩
          have hb2 := bthen hb1 hx2
          have hbw2 := bthen hbk hb2
          have hbv2 := hbv1.under hx2
          clear y0 y1 y2
          have y0 := hbv2.2 0 _ rfl
          have y1 := hbv2.2 1 _ rfl
          have y2 := hbv2.2 2 _ rfl
          have hlv2 := hbv2.1
          have hl2 := hb2.size
          by_cases hK : kLt x.fKey t = true
          · have hi : inside f t x = true := HI.out.trans hK
            rw [ordK_lt hK]
            have HF : Hid (rangeP (l.take (k + 1)) f t = fl ++ [x]) := by show _ = _; rw [HFQ.out]; exact HY.out hi
            obtain ⟨css, r1, r2, r3, r4⟩ := hrow
            obtain ⟨Wx, hWx⟩ : ∃ Wx, Wx = w2.alloc (.cells #[.string x.fKey, .string x.fVal, .bool x.fGone] 31) := ⟨_, rfl⟩
            have hbx0 : Below wr.heap.size wr Wx := by rw [hWx]; exact hb2.alloc (by have := hb2.size; omega) _
            have hbx : Bx Wx w2.heap.size [.string x.fKey, .string x.fVal, .bool x.fGone] := by rw [hWx]; exact Bx.new _ _ _
            have r4x := own_below r4 hbx0
            have hzx := hbx0.size
            clear HY HN
            go_wp2_with (at_builtin; rw [← hWx]; refine wpList_append_own_at _ rfl _ _ 27 rfl w.heap.size 31 iP (.agg #[.string ⟨#[]⟩, .string ⟨#[]⟩, .bool false]) 3 40 Tryd.underlying27 hiP hzP0 hzP1 hzP2 rfl (by decide) _ _ _ rfl r4x ⟨w2.heap.size, 0, none⟩ 1 1 [.string x.fKey, .string x.fVal, .bool x.fGone] rfl rfl (bx_news hbx) (by intro u hu; simp at hu; rcases hu with rfl | rfl | rfl <;> rfl) (by unfold maxLen; omega) (by omega) (by omega) ?_; intro v' w3 hown3 hgrow3 hnil hloc)
            have hT := Turn.after hbx0 (turnOwn hgrow3)
            have hge : ∀ k, k ∈ (Value.ownBlock _).toList → w.heap.size ≤ k := fun k hk => (r4.lt k (by simpa using hk)).1
            have hBl : Below w.heap.size wr w3 := Turn.below hT (fun k hk => hge k hk) hbz
            go_roundw
            case rel => exact ⟨k + 1, by omega, by go_num, by rw [HF.out]; exact RowR.push rPair_good r1 r2 r3 hBl rfl (HRP.out w3) hown3, hbk.trans hBl⟩
            case measure => simp [intOf]; omega
          · have hK2 : kLt x.fKey t = false := Bool.eq_false_iff.2 hK
            have hi : inside f t x = false := HI.out.trans hK2
            have hge1 := ordK_ge hK2
            have hng : ¬ ordK x.fKey t < 0 := by omega
            generalize ordK x.fKey t = od2 at *
            have HF : Hid (rangeP (l.take (k + 1)) f t = fl) := by show _ = _; rw [HFQ.out]; exact HN.out hi
            have HRW := Hid.mk hrow
            clear HY HN hrow
            go_wp2_with fail
            go_roundw
            case rel => exact ⟨k + 1, by omega, by go_num, by rw [HF.out]; exact RowR.keep rPair_good HRW.out hb2 hbz, hbw2⟩
            case measure => simp [intOf]; omega
    · have hkn : k = n := by omega
      have HTA : Hid (l.take k = l) := by show _ = _; rw [hkn, ← HX.out]; exact List.take_length
      rw [HTA.out] at hrow
      have HO := Hid.mk (pairs_own hrow)
      clear hrow
      go_wp2_with fail
      go_ret
      exact ⟨_, _, rfl, HO.out.1, HO.out.2.1, HO.out.2.2, hbk⟩

end Go.Proofs.YtiahmcclmlmgpaaDoor
