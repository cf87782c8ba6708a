/-
  Part 9 of the texts that the proof leans on.
-/
import Derived.Test.YtocgbeoglgkibaaDoorTbp5
import Derived.Test.YtocgbeoglgkibaaDoorTbp3
import Derived.Test.YtocgbeoglgkibaaDoorTbp6
import Derived.Test.YtocgbeoglgkibaaDoorTbp7
import Derived.Test.YtocgbeoglgkibaaDoorTbp2
import Derived.Test.YtocgbeoglgkibaaDoorRows
import Derived.Test.YtocgbeoglgkibaaDoorTbp0
import Derived.Laws.Bits128
set_option linter.unusedVariables false
set_option linter.unusedSimpArgs false
set_option maxRecDepth 10000

namespace Go.Proofs.YtocgbeoglgkibaaDoor
open Go.RowKit Go.Maps

theorem keys_stepS {l : List MPair} {k : Nat} (h : k < l.length) : (keysP (l.take (k + 1))).map Value.string = (keysP (l.take k)).map Value.string ++ [.string l[k].fKey] := by
  unfold keysP
  rw [List.take_succ_eq_append_getElem h, List.map_append, List.map_append]
  rfl
theorem idxB_len {l : List MPair} (hw : sumW wPair l ≤ 1048576) (i : Nat) : (idxB l i).length ≤ 1048586 * i := by
  induction i with
  | zero => simp [idxB]
  | succ i ih =>
    have h1 := putText_len [] (lastK ByteArray.empty (blk l i))
    have h2 := (putNum_length (clampN ((outB l i).length : Int))).2
    have h3 := lastK_wt (blk l i)
    have h4 := blk_weight l i
    simp only [idxB, idx1, List.length_append, List.length_nil] at *
    omega
theorem idxB_ok (l : List MPair) (i : Nat) : BytesOk (idxB l i) := by
  induction i with
  | zero => intro z hz; cases hz
  | succ i ih => exact ih.append ((putText_ok (by intro z hz; cases hz) _).append (putNum_ok _))

set_option maxHeartbeats 8000000 in
theorem specPutTable_any (a : Option Addr) (n c : Nat) (l : List MPair) (w : World) (hx : l.length = n) (hn : n ≤ 1048576) (hL : LeafL 3 rPair w.heap.size w a c l) (hw : sumW wPair l ≤ 1048576) (ht : TabAt w) :
    Calls Tryd.prog 15 #[.slice a n c] w fun e w' => ∃ v, e = .returned v ∧
      w'.ownsRow w.heap.size 5 1 v (tabP l).length ((tabP l).map (Value.int .u8)) ∧ Below w.heap.size w w' := by
  obtain ⟨i0, hi, hz0, hz1, hz2⟩ := info_parts Tryd.info5
  obtain ⟨iT, hiT, hzT0, hzT1, hzT2⟩ := info_parts Tryd.infoOfStr
  have HL := Hid.mk hL
  have HTT := Hid.mk ht
  have HX := Hid.mk hx
  obtain ⟨wa, hwa⟩ : ∃ x, x = w.alloc (.cells #[] 5) := ⟨_, rfl⟩
  have hba : Below w.heap.size w wa := by rw [hwa]; exact (Below.refl _ _).alloc (Nat.le_refl _) _
  have howa : wa.ownsRow w.heap.size 5 1 (.slice (some ⟨w.heap.size, 0, none⟩) 0 0) 0 [] := by rw [hwa]; exact own_lit1 w _ _ 1 (Nat.le_refl _)
  have HP := Hid.mk (l4Rising_any a n c l wa hx hn (LeafL.mono rPair_good (LeafL.below rPair_good hL hba) hba.size) hw)
  have HWA := Hid.mk hwa
  clear hx hL ht hwa
  cases hok : pairsOkP l with
  | false =>
    rw [hok] at HP
    have HV : Hid (tabP l = []) := tabP_bad hok
    go_enter Tryd.func15, Tryd.ntmps15
    go_wp2_with fail
    rw [← HWA.out]
    refine Calls.mono HP.out ?_
    rintro e w0 ⟨rfl, hb0⟩
    have hB0 := hba.trans (hb0.mono hba.size)
    have how0 := own_below howa hb0
    go_wp2_with fail
    go_ret
    exact ⟨_, rfl, by rw [HV.out]; exact how0, hB0⟩
  | true =>
    rw [hok] at HP
    by_cases hr : 1 ≤ n ∧ n ≤ 200
    rotate_left
    · have HV : Hid (tabP l = []) := tabP_out (by rw [HX.out]; exact hr)
      have hin : inRange n 1 200 = false := inRange_no (by omega)
      go_enter Tryd.func15, Tryd.ntmps15
      go_wp2_with fail
      rw [← HWA.out]
      refine Calls.mono HP.out ?_
      rintro e w0 ⟨rfl, hb0⟩
      have hB0 := hba.trans (hb0.mono hba.size)
      have how0 := own_below howa hb0
      go_wp2_with fail
      refine (l1In_any _ _ _ _).mono ?_
      rintro e w0' ⟨rfl, rfl⟩
      rw [hin]
      go_wp2_with fail
      go_ret
      exact ⟨_, rfl, by rw [HV.out]; exact how0, hB0⟩
    obtain ⟨hr1, hr2⟩ := hr
    have HV : Hid (tabP l = tabB l) := tabP_yes hok (by rw [HX.out]; omega) (by rw [HX.out]; omega)
    have hin : inRange n 1 200 = true := inRange_yes (by omega) (by omega)
    clear hok
    go_enter Tryd.func15, Tryd.ntmps15
    go_wp2_with fail
    rw [← HWA.out]
    refine Calls.mono HP.out ?_
    rintro e w0 ⟨rfl, hb0⟩
    have hB0 := hba.trans (hb0.mono hba.size)
    have how0 := own_below howa hb0
    go_wp2_with fail
    refine (l1In_any _ _ _ _).mono ?_
    rintro e w0' ⟨rfl, rfl⟩
    rw [hin]
    clear hin HP howa hb0 hba
    go_wp2_with fail
    obtain ⟨wk, hwk⟩ : ∃ x, x = w0'.alloc (.cells #[] 9) := ⟨_, rfl⟩
    have hbk0 : Below w0'.heap.size w0' wk := by rw [hwk]; exact (Below.refl _ _).alloc (Nat.le_refl _) _
    have hokk : wk.ownsRow w.heap.size 9 1 (.slice (some ⟨w0'.heap.size, 0, none⟩) 0 0) 0 [] := by rw [hwk]; exact own_lit1 w0' _ _ 1 hB0.size
    obtain ⟨wi, hwi⟩ : ∃ x, x = wk.alloc (.cells #[] 5) := ⟨_, rfl⟩
    have hbi0 : Below wk.heap.size wk wi := by rw [hwi]; exact (Below.refl _ _).alloc (Nat.le_refl _) _
    have hBk := hB0.trans (hbk0.mono hB0.size)
    have hBi := hBk.trans (hbi0.mono hBk.size)
    have hoki : wi.ownsRow w.heap.size 5 1 (.slice (some ⟨w0'.heap.size + 1, 0, none⟩) 0 0) 0 [] := by
      rw [show w0'.heap.size + 1 = wk.heap.size from by rw [hwk]; simp, hwi]; exact own_lit1 wk _ _ 1 hBk.size
    have hoi := own_below (own_below how0 hbk0) hbi0
    have hki := own_below hokk hbi0
    have hz0w := hB0.size
    have hlw : w.heap.size < w0'.heap.size := (how0.lt w.heap.size rfl).2
    rw [← hwk, ← hwi]
    clear how0 hokk hwk hwi hbk0 hbi0
    obtain ⟨K, hK⟩ : ∃ K : Value, K = .slice (some ⟨w0'.heap.size, 0, none⟩) 0 0 := ⟨_, rfl⟩
    have hd1 : Dis (.slice (some ⟨w.heap.size, 0, none⟩) 0 0) (.slice (some ⟨w0'.heap.size + 1, 0, none⟩) 0 0) := fun k h1 h2 => by simp [Value.ownBlock] at h1 h2; omega
    have hd2 : Dis (.slice (some ⟨w.heap.size, 0, none⟩) 0 0) K := fun k h1 h2 => by rw [hK] at h2; simp [Value.ownBlock] at h1 h2; omega
    have hd3 : Dis K (.slice (some ⟨w0'.heap.size + 1, 0, none⟩) 0 0) := fun k h1 h2 => by rw [hK] at h1; simp [Value.ownBlock] at h1 h2; omega
    rw [← hK] at hki ⊢
    clear hK
    go_loopw [3, 5, 6, 7] (fun o ix bl f wr => ∃ i : Nat, 4 * i ≤ n + 3 ∧ f = .int .i64 (4 * i : Nat) ∧ bl = .int .i64 i ∧ wr.ownsRow w.heap.size 5 1 o (outB l i).length ((outB l i).map (Value.int .u8)) ∧ wr.ownsRow w.heap.size 5 1 ix (idxB l i).length ((idxB l i).map (Value.int .u8)) ∧ wr.ownsRow w.heap.size 9 1 K 0 [] ∧ Dis o ix ∧ Dis o K ∧ Dis K ix ∧ Below w.heap.size w wr) (fun _ _ _ f _ => n + 4 - (intOf f).toNat)
    case atStart => exact ⟨0, by omega, rfl, rfl, hoi, hoki, hki, hd1, hd2, hd3, hBi⟩
    case round =>
      obtain ⟨i, hin, rfl, rfl, hown, hidx, hkey, hdi, hdk, hdki, hbk⟩ := hrel
      clear hoi hoki hki hd1 hd2 hd3 hBi
      by_cases hlt : 4 * i < n
      · have hi50 : i ≤ 50 := by omega
        have hol := outB_len hw i
        have hil := idxB_len hw i
        have HZN : Hid (outB l (i + 1) = outB l i ++ frame (blockB ByteArray.empty (blk l i))) := rfl
        have HIN : Hid (idxB l (i + 1) = idxB l i ++ idx1 l i) := rfl
        have HI1 : Hid (idx1 l i = putText [] (lastK ByteArray.empty (blk l i)) ++ putNum (clampN (outB l i).length)) := rfl
        generalize outB l i = zs at *
        generalize idxB l i = zi at *
        have hoz : zs.length ≤ 52432450 := Nat.le_trans hol (by omega)
        have hiz : zi.length ≤ 52432450 := Nat.le_trans hil (by omega)
        have hnc : n ≤ c := by have h := HL.out.1; rw [HX.out] at h; exact h
        obtain ⟨ro, qo, rfl, _, _⟩ := own_rd rfl hown
        obtain ⟨ri, qi, rfl, _, hri⟩ := own_rd rfl hidx
        clear hidx hol hil
        obtain ⟨s, hs⟩ : ∃ s, s + 1 = min (4 * i + 4) n := ⟨min (4 * i + 4) n - 1, by omega⟩
        have hs1 : s + 1 ≤ n := by omega
        have hs2 : 4 * i ≤ s := by omega
        have hs3 : s ≤ 4 * i + 3 := by omega
        have hsl : s < l.length := by rw [HX.out]; omega
        have HLK := Hid.mk (blk_last (l := l) (i := i) (t := s + 1) (by rw [HX.out]; exact hlt) (by rw [HX.out]; exact hs) hsl)
        obtain ⟨b1, o1, rfl, hbB, cs, hcl, hcell, hrT⟩ := (HL.out.2.2.below rPair_good hbk) s hsl
        obtain ⟨key, hkk⟩ : ∃ k, k = l[s].fKey := ⟨_, rfl⟩
        have HKK := Hid.mk hkk
        obtain ⟨rfl, g0, g1, g2, _⟩ := hrT
        have hks : key.size ≤ 1048576 := by
          have h1 := sumW_le (f := wPair) hsl
          have h2 : wPair l[s] = l[s].fKey.size + l[s].fVal.size := rfl
          rw [hkk]; omega
        have k0 := hcell 0 _ rfl
        rw [Nat.add_zero, ← hkk] at k0
        have HSS := Hid.mk hs
        clear hcell hcl g0 g1 g2 hkk
        obtain ⟨z1, HZ1⟩ : ∃ z, Hid (z = putText zi key) := ⟨_, rfl⟩
        have hl1 : z1.length ≤ 53500000 := by rw [HZ1.out]; have := putText_len zi key; omega
        have hks' : key.size ≤ 35184372088832 := by omega
        rcases Nat.lt_or_ge n (4 * i + 4) with h4 | h4
        · have he : (n : Int) = (s : Int) + 1 := by omega
          clear hs
          go_wp2_with fail
          refine (specPutText_R ri _ qi zi key wr rfl (by omega) hri hks' ).mono ?_
          rintro e w1 ⟨v1, rfl, ho1, hx1⟩
          rw [← HZ1.out] at ho1
          have hB1 := hbk.trans (hx1.mono hbk.size)
          obtain ⟨r1, q1, rfl, _, hr1'⟩ := own_rd rfl ho1
          have hownA := own_below hown hx1
          have hkeyA := own_below hkey hx1
          clear ho1 hri
          go_wp2_with fail
          refine (specPutNum_R r1 _ q1 z1 zs.length w1 rfl (by omega) hr1').mono ?_
          rintro e w2 ⟨v2, rfl, ho2, hx2⟩
          have hB2 := hB1.trans (hx2.mono hB1.size)
          have hdv : Dis (.slice ro zs.length qo) v2 := (dis_new ho2 (Nat.le_refl _) hownA).symm
          have hdkv : Dis K v2 := (dis_new ho2 (Nat.le_refl _) hkeyA).symm
          have HO2 : Hid (w2.ownsRow w.heap.size 5 1 v2 (idxB l (i + 1)).length ((idxB l (i + 1)).map (Value.int .u8))) := by
            have h := own_base ho2 hB1.size
            have e : z1 ++ putNum (clampN zs.length) = idxB l (i + 1) := by rw [HZ1.out, HIN.out, HI1.out, HLK.out, HKK.out]; simp [putText]
            rw [e] at h
            exact h
          have hownB := own_below hownA hx2
          have hkeyB := own_below hkeyA hx2
          clear ho2 hownA hkeyA hr1'
          have HBK : Hid ((l.drop (4 * i)).take (s + 1 - 4 * i) = blk l i) := by
            have h1 := HSS.out
            have h2 := HX.out
            show _ = (l.drop (4 * i)).take 4
            by_cases h4 : s + 1 = 4 * i + 4
            · rw [show s + 1 - 4 * i = 4 from by omega]
            · rw [List.take_of_length_le (by simp; omega), List.take_of_length_le (by simp; omega)]
          have hcb : c ≤ 9223372036854775807 := HL.out.2.1
          have hLb := LeafL.sub HL.out (f := 4 * i) (m := s + 1 - 4 * i) (c' := c - 4 * i) (by rw [HX.out]; omega) (by omega) (by omega)
          rw [HBK.out] at hLb
          have hlb : (blk l i).length = s + 1 - 4 * i := by have h1 := blk_length (l := l) (i := i); have h2 := HX.out; have h3 := HSS.out; omega
          have HLB := Hid.mk (LeafL.mono rPair_good (LeafL.below rPair_good hLb hB2) hB2.size)
          have hwb : sumW wPair (blk l i) ≤ 1048576 := Nat.le_trans (blk_weight l i) hw
          have hbl := blk_bd hw i
          clear hLb k0
          go_wp2_with fail
          refine (l5Block_any _ _ _ (blk l i) w2 hlb (by omega) HLB.out hwb (HTT.out.below hB2 HTT.out.size)).mono ?_
          rintro e w3 ⟨v3, rfl, ho3, hx3⟩
          have hB3 := hB2.trans (hx3.mono hB2.size)
          obtain ⟨z3, HZ3⟩ : ∃ z, Hid (z = frame (blockB ByteArray.empty (blk l i))) := ⟨_, rfl⟩
          have hl3 : z3.length ≤ 1048649 := by rw [HZ3.out]; have := frame_len (blockB ByteArray.empty (blk l i)); omega
          rw [← HZ3.out] at ho3
          obtain ⟨r3, q3, rfl, _, hr3⟩ := own_rd rfl ho3
          have hownC := own_below hownB hx3
          have hkeyC := own_below hkeyB hx3
          have HO3 := Hid.mk (own_below HO2.out hx3)
          clear ho3 hownB hkeyB
          go_wp2_with (at_builtin; refine wpList_append_src_at rfl _ _ 22 22 rfl w.heap.size 5 i0 (.int .u8 0) 1 1 Tryd.underlying22 hi hz0 hz1 hz2 rfl _ _ _ rfl hownC _ rfl z3.length (z3.map (Value.int .u8)) (Src.rd Tryd.underlying22 rfl hr3) (by unfold maxLen; omega) (by omega) hB3.size ?_; intro v4 w4 ho4 hgr4 hat4)
          have hB4 := hB3.grown hgr4 hB3.size (fun k h => (hownC.lt k h).1)
          have HO4 : Hid (w4.ownsRow w.heap.size 5 1 v4 (outB l (i + 1)).length ((outB l (i + 1)).map (Value.int .u8))) := by
            show w4.ownsRow _ _ _ _ _ _
            rw [HZN.out, ← HZ3.out]
            exact own_congr ho4 (by simp) (by simp)
          have HX4 := Hid.mk (own_other HO3.out hgr4 hdv)
          have HK4 := Hid.mk (own_other hkeyC hgr4 hdk)
          have hda := dis_app hat4 HO3.out hdv
          have hdb := dis_app hat4 hkeyC hdk
          clear hownC hkeyC ho4 hgr4 hat4 hr3
          go_wp2_with fail
          rw [← he]
          go_roundw
          case rel => exact ⟨i + 1, by omega, by first | go_num | (congr 1; omega), by go_num, HO4.out, HX4.out, HK4.out, hda, hdb, hdkv, hB4⟩
          case measure => simp [intOf]; omega
        · have he : 4 * (i : Int) + 4 = (s : Int) + 1 := by omega
          clear hs
          go_wp2_with fail
          refine (specPutText_R ri _ qi zi key wr rfl (by omega) hri hks' ).mono ?_
          rintro e w1 ⟨v1, rfl, ho1, hx1⟩
          rw [← HZ1.out] at ho1
          have hB1 := hbk.trans (hx1.mono hbk.size)
          obtain ⟨r1, q1, rfl, _, hr1'⟩ := own_rd rfl ho1
          have hownA := own_below hown hx1
          have hkeyA := own_below hkey hx1
          clear ho1 hri
          go_wp2_with fail
          refine (specPutNum_R r1 _ q1 z1 zs.length w1 rfl (by omega) hr1').mono ?_
          rintro e w2 ⟨v2, rfl, ho2, hx2⟩
          have hB2 := hB1.trans (hx2.mono hB1.size)
          have hdv : Dis (.slice ro zs.length qo) v2 := (dis_new ho2 (Nat.le_refl _) hownA).symm
          have hdkv : Dis K v2 := (dis_new ho2 (Nat.le_refl _) hkeyA).symm
          have HO2 : Hid (w2.ownsRow w.heap.size 5 1 v2 (idxB l (i + 1)).length ((idxB l (i + 1)).map (Value.int .u8))) := by
            have h := own_base ho2 hB1.size
            have e : z1 ++ putNum (clampN zs.length) = idxB l (i + 1) := by rw [HZ1.out, HIN.out, HI1.out, HLK.out, HKK.out]; simp [putText]
            rw [e] at h
            exact h
          have hownB := own_below hownA hx2
          have hkeyB := own_below hkeyA hx2
          clear ho2 hownA hkeyA hr1'
          have HBK : Hid ((l.drop (4 * i)).take (s + 1 - 4 * i) = blk l i) := by
            have h1 := HSS.out
            have h2 := HX.out
            show _ = (l.drop (4 * i)).take 4
            by_cases h4 : s + 1 = 4 * i + 4
            · rw [show s + 1 - 4 * i = 4 from by omega]
            · rw [List.take_of_length_le (by simp; omega), List.take_of_length_le (by simp; omega)]
          have hcb : c ≤ 9223372036854775807 := HL.out.2.1
          have hLb := LeafL.sub HL.out (f := 4 * i) (m := s + 1 - 4 * i) (c' := c - 4 * i) (by rw [HX.out]; omega) (by omega) (by omega)
          rw [HBK.out] at hLb
          have hlb : (blk l i).length = s + 1 - 4 * i := by have h1 := blk_length (l := l) (i := i); have h2 := HX.out; have h3 := HSS.out; omega
          have HLB := Hid.mk (LeafL.mono rPair_good (LeafL.below rPair_good hLb hB2) hB2.size)
          have hwb : sumW wPair (blk l i) ≤ 1048576 := Nat.le_trans (blk_weight l i) hw
          have hbl := blk_bd hw i
          clear hLb k0
          go_wp2_with fail
          refine (l5Block_any _ _ _ (blk l i) w2 hlb (by omega) HLB.out hwb (HTT.out.below hB2 HTT.out.size)).mono ?_
          rintro e w3 ⟨v3, rfl, ho3, hx3⟩
          have hB3 := hB2.trans (hx3.mono hB2.size)
          obtain ⟨z3, HZ3⟩ : ∃ z, Hid (z = frame (blockB ByteArray.empty (blk l i))) := ⟨_, rfl⟩
          have hl3 : z3.length ≤ 1048649 := by rw [HZ3.out]; have := frame_len (blockB ByteArray.empty (blk l i)); omega
          rw [← HZ3.out] at ho3
          obtain ⟨r3, q3, rfl, _, hr3⟩ := own_rd rfl ho3
          have hownC := own_below hownB hx3
          have hkeyC := own_below hkeyB hx3
          have HO3 := Hid.mk (own_below HO2.out hx3)
          clear ho3 hownB hkeyB
          go_wp2_with (at_builtin; refine wpList_append_src_at rfl _ _ 22 22 rfl w.heap.size 5 i0 (.int .u8 0) 1 1 Tryd.underlying22 hi hz0 hz1 hz2 rfl _ _ _ rfl hownC _ rfl z3.length (z3.map (Value.int .u8)) (Src.rd Tryd.underlying22 rfl hr3) (by unfold maxLen; omega) (by omega) hB3.size ?_; intro v4 w4 ho4 hgr4 hat4)
          have hB4 := hB3.grown hgr4 hB3.size (fun k h => (hownC.lt k h).1)
          have HO4 : Hid (w4.ownsRow w.heap.size 5 1 v4 (outB l (i + 1)).length ((outB l (i + 1)).map (Value.int .u8))) := by
            show w4.ownsRow _ _ _ _ _ _
            rw [HZN.out, ← HZ3.out]
            exact own_congr ho4 (by simp) (by simp)
          have HX4 := Hid.mk (own_other HO3.out hgr4 hdv)
          have HK4 := Hid.mk (own_other hkeyC hgr4 hdk)
          have hda := dis_app hat4 HO3.out hdv
          have hdb := dis_app hat4 hkeyC hdk
          clear hownC hkeyC ho4 hgr4 hat4 hr3
          go_wp2_with fail
          go_roundw
          case rel => exact ⟨i + 1, by omega, by first | go_num | (congr 1; omega), by go_num, HO4.out, HX4.out, HK4.out, hda, hdb, hdkv, hB4⟩
          case measure => simp [intOf]; omega
      · have HN : Hid (i = nBlk l) := by show i = _; unfold nBlk; rw [HX.out]; omega
        have hi51 : i ≤ 50 := by omega
        obtain ⟨F4, hF4⟩ : ∃ F : Int, F = ((4 * i : Nat) : Int) := ⟨_, rfl⟩
        rw [← hF4]
        have hF5 : (n : Int) ≤ F4 := by omega
        clear hF4
        have hol := outB_len hw i
        have hil := idxB_len hw i
        have hio := idxB_ok l i
        have HTB : Hid (tabB l = outB l i ++ frame (putNum (clampN i) ++ idxB l i ++ flt (keysP l)) ++ four (outB l i).length) := by show tabB l = _; unfold tabB; rw [HN.out]
        generalize outB l i = zs at *
        generalize idxB l i = zi at *
        have hoz : zs.length ≤ 52432450 := Nat.le_trans hol (by omega)
        have hiz : zi.length ≤ 52432450 := Nat.le_trans hil (by omega)
        obtain ⟨ro, qo, rfl, _, _⟩ := own_rd rfl hown
        obtain ⟨ri, qi, rfl, _, _⟩ := own_rd rfl hidx
        clear hol hil hdi
        go_wp2_with fail
        go_loopw [4, 9] (fun kv iv wt => ∃ k : Nat, k ≤ n ∧ iv = .int .i64 k ∧ wt.ownsRow w.heap.size 9 1 kv k ((keysP (l.take k)).map Value.string) ∧ wt.ownsRow w.heap.size 5 1 (.slice ro zs.length qo) zs.length (zs.map (Value.int .u8)) ∧ wt.ownsRow w.heap.size 5 1 (.slice ri zi.length qi) zi.length (zi.map (Value.int .u8)) ∧ Dis kv (.slice ro zs.length qo) ∧ Dis kv (.slice ri zi.length qi) ∧ Below w.heap.size w wt) (fun _ iv _ => n - (intOf iv).toNat)
        case atStart => exact ⟨0, Nat.zero_le _, rfl, hkey, hown, hidx, hdk.symm, hdki, hbk⟩
        case round =>
          obtain ⟨k, hk, rfl, hok, hoo, hoi, hd1, hd2, hbt⟩ := hrel
          clear hkey hown hidx hdk hdki hbk
          by_cases hlt2 : k < n
          · have hkl : k < l.length := by rw [HX.out]; exact hlt2
            have HST := Hid.mk (keys_stepS hkl)
            obtain ⟨b1, o1, rfl, hbB, cs, hcl, hcell, hrT⟩ := (HL.out.2.2.below rPair_good hbt) k hkl
            generalize l[k] = p at *
            obtain ⟨rfl, h0, h1, h2, _⟩ := hrT
            have k0 := hcell 0 _ rfl
            rw [Nat.add_zero] at k0
            clear hcell hcl
            obtain ⟨xs, HXS⟩ : ∃ xs, Hid (xs = (keysP (l.take k)).map Value.string) := ⟨_, rfl⟩
            rw [← HXS.out] at hok
            obtain ⟨ws, hws⟩ : ∃ ws, ws = wr.alloc (.cells #[.string p.fKey] 9) := ⟨_, rfl⟩
            have hbs : Below wr.heap.size wr ws := by rw [hws]; exact (Below.refl _ _).alloc (Nat.le_refl _) _
            have hbx : Bx ws wr.heap.size [.string p.fKey] := by rw [hws]; exact Bx.new _ _ _
            have hok1 := own_below hok hbs
            have hoo1 := own_below hoo hbs
            have hoi1 := own_below hoi hbs
            have hBs := hbt.trans (hbs.mono hbt.size)
            go_wp2_with (at_builtin; rw [← hws]; refine wpList_append_own_at _ rfl _ _ 32 rfl w.heap.size 9 iT (.string ByteArray.empty) 1 16 Tryd.underlying32 hiT hzT0 hzT1 hzT2 rfl (by decide) _ _ _ rfl hok1 ⟨wr.heap.size, 0, none⟩ 1 1 [.string p.fKey] rfl rfl (bx_news hbx) (by intro u hu; simp at hu; subst hu; rfl) (by unfold maxLen; omega) (by omega) hBs.size ?_; intro v3 w3 hown3 hgrow3 hnil3 hloc3)
            have hB3 := hBs.grown hgrow3 hBs.size (fun k h => (hok1.lt k h).1)
            have HOO := Hid.mk (own_other hoo1 hgrow3 hd1)
            have HOI := Hid.mk (own_other hoi1 hgrow3 hd2)
            have e1 := dis_app hloc3 hoo1 hd1
            have e2 := dis_app hloc3 hoi1 hd2
            have HOK : Hid (w3.ownsRow w.heap.size 9 1 v3 (k + 1) ((keysP (l.take (k + 1))).map Value.string)) := own_congr hown3 rfl (by rw [HST.out, HXS.out])
            clear hok hok1 hoo hoo1 hoi hoi1 hown3 hgrow3 hnil3 hloc3 hbx hws hd1 hd2 k0
            go_roundw
            case rel => exact ⟨k + 1, by omega, by go_num, HOK.out, HOO.out, HOI.out, e1, e2, hB3⟩
            case measure => simp [intOf]; omega
          · have hkn : k = n := by omega
            subst hkn
            have HT1 : Hid (l.take k = l) := List.take_of_length_le (by rw [HX.out]; exact Nat.le_refl _)
            rw [HT1.out] at hok
            have hkl : (keysP l).length = k := by unfold keysP; rw [List.length_map]; exact HX.out
            have hsk : ∀ s, s ∈ keysP l → s.size ≤ 140737488351232 := fun s hs => by
              unfold keysP at hs
              obtain ⟨p, hp, rfl⟩ := List.mem_map.1 hs
              obtain ⟨j, hj, rfl⟩ := List.getElem_of_mem hp
              have h1 := sumW_le (f := wPair) hj
              have h2 : wPair l[j] = l[j].fKey.size + l[j].fVal.size := rfl
              omega
            have HKL := Hid.mk hkl
            clear hkl
            obtain ⟨wl, hwl⟩ : ∃ x, x = wr.alloc (.cells #[] 5) := ⟨_, rfl⟩
            have hbl : Below wr.heap.size wr wl := by rw [hwl]; exact (Below.refl _ _).alloc (Nat.le_refl _) _
            have hBl := hbt.trans (hbl.mono hbt.size)
            go_wp2_with fail
            rw [← hwl]
            clear hwl
            refine (specPutNum_R (some ⟨wr.heap.size, 0, none⟩) 0 0 [] i wl rfl (by omega) (fun j hj => by simp at hj)).mono ?_
            rintro e w1 ⟨v1, rfl, ho1, hx1⟩
            have hB1 := hBl.trans (hx1.mono hBl.size)
            have hb1 := hbl.trans (hx1.mono hbl.size)
            obtain ⟨z1, HZ1⟩ : ∃ z, Hid (z = putNum (clampN (i : Int))) := ⟨_, rfl⟩
            have hl1 : z1.length ≤ 5 := by rw [HZ1.out]; exact (putNum_length _).2
            have ho1' : w1.ownsRow wl.heap.size 5 1 v1 z1.length (z1.map (Value.int .u8)) := own_congr ho1 (by rw [HZ1.out]; simp) (by rw [HZ1.out]; simp)
            have hoA := own_below hoo hb1
            have hiA := own_below hoi hb1
            have hkA := own_below hok hb1
            have d1 := dis_new ho1' (Nat.le_refl _) (own_below hoo hbl)
            have d2 := dis_new ho1' (Nat.le_refl _) (own_below hok hbl)
            have ho1b := own_base ho1' hBl.size
            obtain ⟨r1, q1, rfl, _, _⟩ := own_rd rfl ho1b
            obtain ⟨ri', qi', hri', _, hrd⟩ := own_rd rfl hiA
            simp only [Value.slice.injEq, true_and] at hri'
            obtain ⟨rfl, rfl⟩ := hri'
            clear ho1 ho1' hoo hoi hok hiA hd1 hd2
            go_wp2_with (at_builtin; refine wpList_append_src_at rfl _ _ 22 22 rfl w.heap.size 5 i0 (.int .u8 0) 1 1 Tryd.underlying22 hi hz0 hz1 hz2 rfl _ _ _ rfl ho1b _ rfl zi.length (zi.map (Value.int .u8)) (Src.rd Tryd.underlying22 rfl hrd) (by unfold maxLen; omega) (by omega) hB1.size ?_; intro v2 w2 ho2 hgr2 hat2)
            have hB2 := hB1.grown hgr2 hB1.size (fun k h => (ho1b.lt k h).1)
            obtain ⟨z2, HZ2⟩ : ∃ z, Hid (z = z1 ++ zi) := ⟨_, rfl⟩
            have hl2 : z2.length ≤ 52432455 := by rw [HZ2.out, List.length_append]; omega
            have ho2' : w2.ownsRow w.heap.size 5 1 v2 z2.length (z2.map (Value.int .u8)) := own_congr ho2 (by rw [HZ2.out]; simp) (by rw [HZ2.out]; simp)
            have hoB := own_other hoA hgr2 d1
            have hkB := own_other hkA hgr2 d2
            have d3 := dis_app hat2 hoA d1
            obtain ⟨ak, ck, rfl, _, _, hrk⟩ := rdT_own (F := _) (l := keysP l) ⟨own_base (own_congr hkB HKL.out.symm rfl) (Nat.zero_le _), rfl⟩
            rw [HKL.out]
            obtain ⟨r2, q2, rfl, _, _⟩ := own_rd rfl ho2'
            clear ho2 hgr2 hat2 hkA hkB hoA ho1b hrd d1 d2
            refine (specFilter_any ak k ck (keysP l) w2 HKL.out (by omega) hsk hrk).mono ?_
            rintro e w3 ⟨v3, rfl, ho3, hx3⟩
            have hB3 := hB2.trans (hx3.mono hB2.size)
            have hfl := flt_length (keysP l)
            have hfo := flt_ok (keysP l)
            obtain ⟨fs, HFS⟩ : ∃ f, Hid (f = flt (keysP l)) := ⟨_, rfl⟩
            rw [← HFS.out] at ho3 hfl hfo
            have HFL := Hid.mk hfl
            obtain ⟨r3, q3, rfl, _, hr3⟩ := own_rd hfl ho3
            have hoC := own_below hoB hx3
            have hzC := own_below ho2' hx3
            clear ho3 hoB ho2' hrk hfl
            go_wp2_with (at_builtin; refine wpList_append_src_at rfl _ _ 22 22 rfl w.heap.size 5 i0 (.int .u8 0) 1 1 Tryd.underlying22 hi hz0 hz1 hz2 rfl _ _ _ rfl hzC _ rfl 8 (fs.map (Value.int .u8)) (Src.rd Tryd.underlying22 HFL.out hr3) (by unfold maxLen; omega) (by omega) hB3.size ?_; intro v4 w4 ho4 hgr4 hat4)
            have hB4 := hB3.grown hgr4 hB3.size (fun k h => (hzC.lt k h).1)
            obtain ⟨z4, HZ4⟩ : ∃ z, Hid (z = z2 ++ fs) := ⟨_, rfl⟩
            have hl4 : z4.length ≤ 52432463 := by rw [HZ4.out, List.length_append, HFL.out]; omega
            have ho4' : w4.ownsRow w.heap.size 5 1 v4 z4.length (z4.map (Value.int .u8)) := own_congr ho4 (by rw [HZ4.out, List.length_append, HFL.out]) (by rw [HZ4.out]; simp)
            have hb4 : BytesOk z4 := by rw [HZ4.out, HZ2.out, HZ1.out]; exact ((putNum_ok _).append hio).append hfo
            have hoD := own_other hoC hgr4 d3
            obtain ⟨r4, q4, rfl, _, hr4⟩ := own_rd rfl ho4'
            clear ho4 hgr4 hat4 hoC hzC hr3 ho4'
            go_wp2_with fail
            refine (specFrame_R r4 _ q4 z4 w4 rfl (by omega) hr4 hb4 (HTT.out.below hB4 HTT.out.size)).mono ?_
            rintro e w5 ⟨v5, rfl, ho5, hx5⟩
            have hB5 := hB4.trans (hx5.mono hB4.size)
            obtain ⟨z5, HZ5⟩ : ∃ z, Hid (z = frame z4) := ⟨_, rfl⟩
            have hl5 : z5.length ≤ 52432472 := by rw [HZ5.out]; have := frame_len z4; omega
            rw [← HZ5.out] at ho5
            obtain ⟨r5, q5, rfl, _, hr5⟩ := own_rd rfl ho5
            have hoE := own_below hoD hx5
            clear ho5 hoD hr4
            go_wp2_with (at_builtin; refine wpList_append_src_at rfl _ _ 22 22 rfl w.heap.size 5 i0 (.int .u8 0) 1 1 Tryd.underlying22 hi hz0 hz1 hz2 rfl _ _ _ rfl hoE _ rfl z5.length (z5.map (Value.int .u8)) (Src.rd Tryd.underlying22 rfl hr5) (by unfold maxLen; omega) (by omega) hB5.size ?_; intro v6 w6 ho6 hgr6 hat6)
            have hB6 := hB5.grown hgr6 hB5.size (fun k h => (hoE.lt k h).1)
            obtain ⟨z6, HZ6⟩ : ∃ z, Hid (z = zs ++ z5) := ⟨_, rfl⟩
            have hl6 : z6.length ≤ 110000000 := by rw [HZ6.out, List.length_append]; omega
            have ho6' : w6.ownsRow w.heap.size 5 1 v6 z6.length (z6.map (Value.int .u8)) := own_congr ho6 (by rw [HZ6.out]; simp) (by rw [HZ6.out]; simp)
            obtain ⟨r6, q6, rfl, _, _⟩ := own_rd rfl ho6'
            clear ho6 hgr6 hat6 hoE hr5
            refine (specFour_any zs.length w6 (by omega) (by omega)).mono ?_
            rintro e w7 ⟨rfl, ho7, hx7⟩
            have hB7 := hB6.trans (hx7.mono hB6.size)
            have hoF := own_below ho6' hx7
            have hr7 := Rd.own rfl ho7
            clear ho6' ho7
            go_wp2_with (at_builtin; refine wpList_append_src_at rfl _ _ 22 22 rfl w.heap.size 5 i0 (.int .u8 0) 1 1 Tryd.underlying22 hi hz0 hz1 hz2 rfl _ _ _ rfl hoF _ rfl 4 ((four zs.length).map (Value.int .u8)) (Src.rd Tryd.underlying22 rfl hr7) (by unfold maxLen; omega) (by omega) hB7.size ?_; intro v8 w8 ho8 hgr8 hat8)
            have hB8 := hB7.grown hgr8 hB7.size (fun k h => (hoF.lt k h).1)
            have HO8 : Hid (w8.ownsRow w.heap.size 5 1 v8 (tabP l).length ((tabP l).map (Value.int .u8))) := by
              show w8.ownsRow _ _ _ _ _ _
              rw [HV.out, HTB.out, ← HFS.out, ← HZ1.out, ← HZ2.out, ← HZ4.out, ← HZ5.out, ← HZ6.out]
              exact own_congr ho8 (by simp [four_length]) (by simp)
            clear ho8 hgr8 hat8 hoF
            go_wp2_with fail
            go_ret
            exact ⟨v8, rfl, HO8.out, hB8⟩

end Go.Proofs.YtocgbeoglgkibaaDoor

namespace Go.Proofs.YtocgbeoglgkibaaDoor

theorem gnS_bounds (f : Nat) (l : List Int) (n p : Int) (h0 : 0 ≤ n) (h : (gnS f l n p).2.2 = true) :
    0 ≤ (gnS f l n p).1 ∧ (gnS f l n p).1 ≤ 1000000000 ∧ p < (gnS f l n p).2.1 ∧ (gnS f l n p).2.1 ≤ p + l.length := by
  induction f generalizing l n p with
  | zero => simp [gnS, noNum] at h
  | succ f ih =>
    cases l with
    | nil => simp [gnS, noNum] at h
    | cons c r =>
      simp only [gnS] at h ⊢
      by_cases hc : c < 128
      · rw [if_pos hc] at h ⊢
        by_cases hn : 1000000000 < n * 128 + c % 128
        · rw [if_pos hn] at h; simp [noNum] at h
        · rw [if_neg hn]; simp only [List.length_cons]; omega
      · rw [if_neg hc] at h ⊢
        have := ih r (n * 128 + c % 128) (p + 1) (by omega) h
        simp only [List.length_cons]; omega

/-- A number that is read lies within the bytes. -/
theorem getNum_bounds {b : List Int} {p : Int} (h : (getNum b p).2.2 = true) :
    0 ≤ (getNum b p).1 ∧ (getNum b p).1 ≤ 1000000000 ∧ 0 < (getNum b p).2.1 ∧ (getNum b p).2.1 ≤ b.length := by
  simp only [getNum] at h ⊢
  by_cases h1 : p < 0 ∨ (b.length : Int) ≤ p
  · rw [if_pos h1] at h; simp [noNum] at h
  · rw [if_neg h1] at h ⊢
    by_cases h2 : b.getD p.toNat 0 = 128
    · rw [if_pos h2] at h; simp [noNum] at h
    · rw [if_neg h2] at h ⊢
      have := gnS_bounds 5 _ 0 p (by omega) h
      simp only [List.length_drop] at this
      omega

/-- What both programs answer of a text: its bytes, the place behind it, whether it is there. -/
def getText (b : List Int) (p : Int) : List Int × Int × Bool :=
  if (getNum b p).2.2 = true ∧ (getNum b p).1 ≤ b.length - (getNum b p).2.1 then ((b.drop (getNum b p).2.1.toNat).take (getNum b p).1.toNat, (getNum b p).2.1 + (getNum b p).1, true) else ([], 0, false)

theorem getText_yes {b : List Int} {p : Int} {m f : Nat} (h : getNum b p = ((m : Int), (f : Int), true)) (hm : f + m ≤ b.length) : getText b p = ((b.drop f).take m, ((f + m : Nat) : Int), true) := by
  simp only [getText, h]
  rw [if_pos ⟨trivial, by omega⟩]
  simp

theorem getText_no {b : List Int} {p : Int} (h : (getNum b p).2.2 = false ∨ (b.length : Int) - (getNum b p).2.1 < (getNum b p).1) : getText b p = ([], 0, false) := by
  simp only [getText]
  rw [if_neg]
  rintro ⟨h1, h2⟩
  rcases h with h | h
  · rw [h1] at h; cases h
  · omega

/-- The three ways of a text. -/
theorem text_cases (b : List Int) (p : Int) :
    (∃ r0 r1, getNum b p = (r0, r1, false) ∧ getText b p = ([], 0, false)) ∨
    (∃ m f : Nat, getNum b p = ((m : Int), (f : Int), true) ∧ f ≤ b.length ∧ m ≤ 1000000000 ∧ b.length < f + m ∧ getText b p = ([], 0, false)) ∨
    (∃ m f : Nat, getNum b p = ((m : Int), (f : Int), true) ∧ 0 < f ∧ m ≤ 1000000000 ∧ f + m ≤ b.length ∧ getText b p = ((b.drop f).take m, ((f + m : Nat) : Int), true)) := by
  have hbd := @getNum_bounds b p
  have hno := @getText_no b p
  have hyes := fun m f => @getText_yes b p m f
  generalize getNum b p = R at hbd hno hyes ⊢
  obtain ⟨r0, r1, r2⟩ := R
  cases r2 with
  | false => exact Or.inl ⟨r0, r1, rfl, hno (Or.inl rfl)⟩
  | true =>
    have h := hbd rfl
    simp only at h hno
    obtain ⟨m, rfl⟩ := Int.eq_ofNat_of_zero_le h.1
    obtain ⟨f, rfl⟩ := Int.eq_ofNat_of_zero_le (show 0 ≤ r1 by omega)
    by_cases hm : f + m ≤ b.length
    · exact Or.inr (Or.inr ⟨m, f, rfl, by omega, by omega, hm, hyes m f rfl hm⟩)
    · exact Or.inr (Or.inl ⟨m, f, rfl, by omega, by omega, by omega, hno (Or.inr (by omega))⟩)

theorem take_drop_getD {b : List Int} {f m i : Nat} (h : i < m) : ((b.drop f).take m).getD i 0 = b.getD (f + i) 0 := by
  simp only [List.getD_eq_getElem?_getD, List.getElem?_take, List.getElem?_drop, h, if_true]

theorem take_drop_length {b : List Int} {f m : Nat} (hf : f + m ≤ b.length) : ((b.drop f).take m).length = m := by simp; omega


theorem gnS_lo (f : Nat) (c : Int) (r : List Int) (n p : Int) (h : c < 128) (hn : ¬ 1000000000 < n * 128 + c % 128) : gnS (f + 1) (c :: r) n p = (n * 128 + c % 128, p + 1, true) := by
  simp only [gnS]; rw [if_pos h, if_neg hn]
theorem gnS_hi (f : Nat) (c : Int) (r : List Int) (n p : Int) (h : ¬ c < 128) : gnS (f + 1) (c :: r) n p = gnS f r (n * 128 + c % 128) (p + 1) := by
  simp only [gnS]; rw [if_neg h]

/-- The five shapes of a number's bytes. -/
theorem putNum_cases {N : Int} (h0 : 0 ≤ N) (h1 : N ≤ 1000000000) :
    (N < 128 ∧ putNum N = [N % 128]) ∨
    (128 ≤ N ∧ N < 16384 ∧ putNum N = [N / 128 % 128 + 128, N % 128]) ∨
    (16384 ≤ N ∧ N < 2097152 ∧ putNum N = [N / 16384 % 128 + 128, N / 128 % 128 + 128, N % 128]) ∨
    (2097152 ≤ N ∧ N < 268435456 ∧ putNum N = [N / 2097152 % 128 + 128, N / 16384 % 128 + 128, N / 128 % 128 + 128, N % 128]) ∨
    (268435456 ≤ N ∧ putNum N = [N / 268435456 % 128 + 128, N / 2097152 % 128 + 128, N / 16384 % 128 + 128, N / 128 % 128 + 128, N % 128]) := by
  by_cases a : N < 128
  · left
    refine ⟨a, ?_⟩
    simp only [putNum, hiTo]
    rw [hiG_no (by omega), hiG_no (by omega), hiG_no (by omega), hiG_no (by omega)]
    rfl
  · right
    by_cases b : N < 16384
    · left
      refine ⟨by omega, b, ?_⟩
      simp only [putNum, hiTo]
      rw [hiG_no (by omega), hiG_no (by omega), hiG_no (by omega), hiG_yes (by omega)]
      rfl
    · right
      by_cases c : N < 2097152
      · left
        refine ⟨by omega, c, ?_⟩
        simp only [putNum, hiTo]
        rw [hiG_no (by omega), hiG_no (by omega), hiG_yes (by omega), hiG_yes (by omega)]
        rfl
      · right
        by_cases d : N < 268435456
        · left
          refine ⟨by omega, d, ?_⟩
          simp only [putNum, hiTo]
          rw [hiG_no (by omega), hiG_yes (by omega), hiG_yes (by omega), hiG_yes (by omega)]
          rfl
        · right
          refine ⟨by omega, ?_⟩
          simp only [putNum, hiTo]
          rw [hiG_yes (by omega), hiG_yes (by omega), hiG_yes (by omega), hiG_yes (by omega)]
          rfl

theorem num_eq {a b : Int × Int × Bool} (h1 : a.1 = b.1) (h2 : a.2.1 = b.2.1) (h3 : a.2.2 = b.2.2) : a = b := by
  obtain ⟨a1, a2, a3⟩ := a
  obtain ⟨b1, b2, b3⟩ := b
  simp only at h1 h2 h3
  subst h1 h2 h3
  rfl

theorem gnS_put {N : Int} (h0 : 0 ≤ N) (h1 : N ≤ 1000000000) (r : List Int) (p : Int) : gnS 5 (putNum N ++ r) 0 p = (N, p + (putNum N).length, true) := by
  rcases putNum_cases h0 h1 with ⟨a, e⟩ | ⟨a, b, e⟩ | ⟨a, b, e⟩ | ⟨a, b, e⟩ | ⟨a, e⟩
  all_goals rw [e]; simp only [List.cons_append, List.nil_append, List.length_cons, List.length_nil]
  · rw [gnS_lo _ _ _ _ _ (by omega) (by omega)]
    refine num_eq ?_ ?_ rfl <;> simp only <;> omega
  · rw [gnS_hi _ _ _ _ _ (by omega), gnS_lo _ _ _ _ _ (by omega) (by omega)]
    refine num_eq ?_ ?_ rfl <;> simp only <;> omega
  · rw [gnS_hi _ _ _ _ _ (by omega), gnS_hi _ _ _ _ _ (by omega), gnS_lo _ _ _ _ _ (by omega) (by omega)]
    refine num_eq ?_ ?_ rfl <;> simp only <;> omega
  · rw [gnS_hi _ _ _ _ _ (by omega), gnS_hi _ _ _ _ _ (by omega), gnS_hi _ _ _ _ _ (by omega), gnS_lo _ _ _ _ _ (by omega) (by omega)]
    refine num_eq ?_ ?_ rfl <;> simp only <;> omega
  · rw [gnS_hi _ _ _ _ _ (by omega), gnS_hi _ _ _ _ _ (by omega), gnS_hi _ _ _ _ _ (by omega), gnS_hi _ _ _ _ _ (by omega), gnS_lo _ _ _ _ _ (by omega) (by omega)]
    refine num_eq ?_ ?_ rfl <;> simp only <;> omega

theorem put_head {N : Int} (h0 : 0 ≤ N) (h1 : N ≤ 1000000000) : (putNum N).getD 0 0 ≠ 128 := by
  rcases putNum_cases h0 h1 with ⟨a, e⟩ | ⟨a, b, e⟩ | ⟨a, b, e⟩ | ⟨a, b, e⟩ | ⟨a, e⟩
  all_goals rw [e]; simp only [List.getD_cons_zero]; omega

theorem getD_append_at (zs l : List Int) : (zs ++ l).getD zs.length 0 = l.getD 0 0 := by
  rw [List.getD_eq_getElem?_getD, List.getD_eq_getElem?_getD, List.getElem?_append_right (Nat.le_refl _), Nat.sub_self]

/-- A number that was put comes back. -/
theorem getNum_put {N : Int} (h0 : 0 ≤ N) (h1 : N ≤ 1000000000) (zs r : List Int) : getNum (zs ++ putNum N ++ r) zs.length = (N, ((zs ++ putNum N).length : Int), true) := by
  have hl := putNum_length N
  rw [List.append_assoc]
  have hd : (zs ++ (putNum N ++ r)).getD zs.length 0 = (putNum N).getD 0 0 := by
    rw [getD_append_at]
    cases hp : putNum N with
    | nil => rw [hp] at hl; simp at hl
    | cons a b => rfl
  rw [getNum_S (by simp; omega) (by rw [hd]; exact put_head h0 h1), List.drop_left, gnS_put h0 h1]
  refine num_eq rfl ?_ rfl
  simp

end Go.Proofs.YtocgbeoglgkibaaDoor

namespace Go.Proofs.YtocgbeoglgkibaaDoor
open Go.RowKit

def numVal (r : Int × Int × Bool) : Value := .tuple #[.int .i64 r.1, .int .i64 r.2.1, .bool r.2.2]

set_option maxHeartbeats 400000 in
theorem specGetNum_any (a : Option Addr) (n cap : Nat) (zs : List Int) (p : Int) (w : World) (B : Nat) (hx : zs.length = n) (hlen : n ≤ 140737488351232) (hb : BytesOk zs) (hra : Rd .u8 B w a zs) :
    Calls Tryd.prog 24 #[.slice a n cap, .int .i64 p] w fun e w' => e = .returned (numVal (getNum zs p)) ∧ w' = w := by
  have HX : Hid (zs.length = n) := hx
  clear hx
  by_cases h0 : 0 ≤ p
  · obtain ⟨p, rfl⟩ := Int.eq_ofNat_of_zero_le h0
    by_cases h1 : p < n
    · go_enter Tryd.func24, Tryd.ntmps24
      go_wp2
      go_loop [7, 8] (fun N i => ∃ (k : Nat) (M : Int), k ≤ 5 ∧ i = .int .i64 k ∧ N = .int .i64 M ∧ 0 ≤ M ∧ M < 128 ^ k ∧ (0 < k → getNum zs p = gnS (5 - k) (zs.drop (p + k)) M (p + k : Nat))) (fun _ i => 5 - (intOf i).toNat)
      case atStart => exact ⟨0, 0, by omega, rfl, rfl, by omega, by omega, fun h => by omega⟩
      case round =>
        obtain ⟨k, M, hk, rfl, rfl, hM0, hM1, hD⟩ := hrel
        have HD : Hid (0 < k → getNum zs p = gnS (5 - k) (zs.drop (p + k)) M (p + k : Nat)) := hD
        clear hD
        have hM2 : M < 34359738368 := by have := pow128_le hk; omega
        by_cases hk5 : k < 5
        · by_cases hpk : p + k < n
          · obtain ⟨b1, o1, rfl, _, hc1⟩ := hra (p + k) (by rw [HX.out]; exact hpk)
            have hcr := hb.getD (p + k)
            generalize hC : zs.getD (p + k) 0 = c at hc1 hcr
            have HC : Hid (zs.getD (p + k) 0 = c) := hC
            obtain ⟨hc0, hc255⟩ := hcr
            clear hC hra hb
            have hand := i64_and127 c
            have hor := or_group (c := c) hM0 hM2
            by_cases hk0 : k = 0 ∧ c = 128
            · have hkb : ((k : Int) == 0) = true := by simp; exact hk0.1
              have hcb : (c == 128) = true := by simp; exact hk0.2
              have hv : Hid (getNum zs p = noNum) := getNum_128 (by rw [HX.out]; exact h1) (by have := HC.out; rw [hk0.1, hk0.2] at this; exact this)
              clear hand hor hk0
              go_wp2
              go_ret3
              exact ⟨by rw [hv.out]; rfl, rfl⟩
            · have hv : getNum zs p = gnS (5 - k) (zs.drop (p + k)) M (p + k : Nat) := by
                by_cases hkz : k = 0
                · subst hkz
                  have hM : M = 0 := by simp at hM1; omega
                  subst hM
                  exact getNum_S (by rw [HX.out]; exact h1) (fun h => hk0 ⟨rfl, by rw [← HC.out]; exact h⟩)
                · exact HD.out (by omega)
              have HV : Hid (getNum zs p = gnS (5 - k) (zs.drop (p + k)) M (p + k : Nat)) := hv
              have hj : p + k < zs.length := by rw [HX.out]; exact hpk
              obtain ⟨f, hf⟩ : ∃ f, 5 - k = f + 1 := ⟨4 - k, by omega⟩
              have HF : Hid (5 - k = f + 1) := hf
              clear hv hf HD
              have hguard : ((k : Int) == 0) = false ∨ (c == 128) = false := by
                by_cases hkz : k = 0
                · right; simp; intro h; exact hk0 ⟨hkz, h⟩
                · left; simp; omega
              by_cases h7 : c < 128
              · by_cases hN : 1000000000 < M * 128 + c % 128
                · have hv : Hid (getNum zs p = noNum) := by unfold Hid; rw [HV.out, HF.out]; exact gnS_over hj HC.out h7 hN
                  rcases hguard with hg | hg
                  all_goals
                    go_wp2
                    all_goals
                      go_ret3
                      exact ⟨by rw [hv.out]; rfl, rfl⟩
                · have hv : Hid (getNum zs p = (M * 128 + c % 128, ((p + k : Nat) : Int) + 1, true)) := by unfold Hid; rw [HV.out, HF.out]; exact gnS_last hj HC.out h7 hN
                  rcases hguard with hg | hg
                  all_goals
                    go_wp2
                    all_goals
                      go_ret3
                      exact ⟨by rw [hv.out]; simp [numVal] <;> omega, rfl⟩
              · have hv : Hid (getNum zs p = gnS f (zs.drop (p + k + 1)) (M * 128 + c % 128) (((p + k : Nat) : Int) + 1)) := by unfold Hid; rw [HV.out, HF.out]; exact gnS_more hj HC.out h7
                rcases hguard with hg | hg
                all_goals
                  go_wp2
                  all_goals
                    go_round
                    case rel =>
                      refine ⟨k + 1, M * 128 + c % 128, by omega, by go_num, rfl, by omega, pow128_step hM1, fun _ => ?_⟩
                      rw [hv.out, show 5 - (k + 1) = f from by have := HF.out; omega]
                      rfl
                    case measure => simp [intOf]; omega
          · have hv : Hid (getNum zs p = noNum) := by
              unfold Hid
              rw [HD.out (by omega)]
              exact gnS_end (by rw [HX.out]; omega)
            go_wp2
            all_goals
              go_ret3
              exact ⟨by rw [hv.out]; rfl, rfl⟩
        · have hk55 : k = 5 := by omega
          have hv : Hid (getNum zs p = noNum) := by
            unfold Hid
            rw [HD.out (by omega)]
            subst hk55
            rfl
          go_wp2
          all_goals
            go_ret3
            exact ⟨by rw [hv.out]; rfl, rfl⟩
    · have hv : Hid (getNum zs p = noNum) := getNum_out (by right; rw [HX.out]; omega)
      go_enter Tryd.func24, Tryd.ntmps24
      go_wp2
      refine wp_loop_rounds 1 ?_
      rw [rounds_succ]
      go_wp2
      all_goals
        go_ret3
        exact ⟨by rw [hv.out]; rfl, rfl⟩
  · have hv : Hid (getNum zs p = noNum) := getNum_out (by left; omega)
    go_enter Tryd.func24, Tryd.ntmps24
    go_wp2
    refine wp_loop_rounds 1 ?_
    rw [rounds_succ]
    go_wp2
    all_goals
      go_ret3
      exact ⟨by rw [hv.out]; rfl, rfl⟩

set_option maxHeartbeats 400000 in
theorem implGetNum_any (a : Option Addr) (n cap : Nat) (zs : List Int) (p : Int) (w : World) (B : Nat) (hx : zs.length = n) (hlen : n ≤ 140737488351232) (hb : BytesOk zs) (hra : Rd .u8 B w a zs) :
    Calls Tryd.prog 64 #[.slice a n cap, .int .i64 p] w fun e w' => e = .returned (numVal (getNum zs p)) ∧ w' = w := by
  have HX : Hid (zs.length = n) := hx
  clear hx
  by_cases h0 : 0 ≤ p
  · obtain ⟨p, rfl⟩ := Int.eq_ofNat_of_zero_le h0
    by_cases h1 : p < n
    · obtain ⟨b1, o1, rfl, _, hc1⟩ := hra p (by rw [HX.out]; exact h1)
      by_cases h128 : zs.getD p 0 = 128
      · have hv : Hid (getNum zs p = noNum) := getNum_128 (by rw [HX.out]; exact h1) h128
        rw [h128] at hc1
        clear h128 hra
        go_enter Tryd.func64, Tryd.ntmps64
        go_wp2
        go_ret3
        exact ⟨by rw [hv.out]; rfl, rfl⟩
      · have hv : Hid (getNum zs p = gnI (zs.drop p) 0 p) := getNum_I (by rw [HX.out]; exact h1) h128 hb
        have hne : (zs.getD p 0 == 128) = false := by simp; simpa using h128
        generalize zs.getD p 0 = c0 at hc1 hne
        clear h128
        go_enter Tryd.func64, Tryd.ntmps64
        go_wp2
        go_loop [7, 8] (fun N i => ∃ (k : Nat) (M : Int), k ≤ n ∧ i = .int .i64 k ∧ N = .int .i64 M ∧ 0 ≤ M ∧ M ≤ 1000000000 ∧ getNum zs p = gnI (zs.drop k) M k) (fun _ i => n - (intOf i).toNat)
        case atStart => exact ⟨p, 0, by omega, rfl, rfl, by omega, by omega, hv.out⟩
        case round =>
          obtain ⟨k, M, hk, rfl, rfl, hM0, hM1, hD⟩ := hrel
          have HD : Hid (getNum zs p = gnI (zs.drop k) M k) := hD
          clear hD hv hc1 hne
          by_cases hlt : k < n
          · obtain ⟨b1, o1, he, _, hc1⟩ := hra k (by rw [HX.out]; exact hlt)
            simp only [Option.some.injEq, Addr.mk.injEq, and_true] at he
            obtain ⟨rfl, rfl⟩ := he
            have hcr := hb.getD k
            generalize hC : zs.getD k 0 = c at hc1 hcr
            have HC : Hid (zs.getD k 0 = c) := hC
            obtain ⟨hc0, hc255⟩ := hcr
            have hj : k < zs.length := by rw [HX.out]; exact hlt
            clear hC hra hb
            by_cases hN : 1000000000 < M * 128 + c % 128
            · have hv : Hid (getNum zs p = noNum) := by unfold Hid; rw [HD.out]; exact gnI_over hj HC.out hN
              go_wp2
              all_goals
                go_ret3
                exact ⟨by rw [hv.out]; rfl, rfl⟩
            · by_cases h7 : c < 128
              · have hv : Hid (getNum zs p = (M * 128 + c % 128, (k : Int) + 1, true)) := by unfold Hid; rw [HD.out]; exact gnI_last hj HC.out h7 hN
                go_wp2
                all_goals
                  go_ret3
                  exact ⟨by rw [hv.out]; rfl, rfl⟩
              · have hv : Hid (getNum zs p = gnI (zs.drop (k + 1)) (M * 128 + c % 128) ((k : Int) + 1)) := by unfold Hid; rw [HD.out]; exact gnI_more hj HC.out h7 hN
                go_wp2
                all_goals
                  go_round
                  case rel => exact ⟨k + 1, M * 128 + c % 128, by omega, by go_num, rfl, by omega, by omega, by rw [hv.out]; rfl⟩
                  case measure => simp [intOf]; omega
          · have hv : Hid (getNum zs p = noNum) := by
              unfold Hid
              rw [HD.out]
              exact gnI_end (by rw [HX.out]; omega)
            go_wp2
            all_goals
              go_ret3
              exact ⟨by rw [hv.out]; rfl, rfl⟩
    · have hv : Hid (getNum zs p = noNum) := getNum_out (by right; rw [HX.out]; omega)
      go_enter Tryd.func64, Tryd.ntmps64
      go_wp2
      all_goals
        go_ret3
        exact ⟨by rw [hv.out]; rfl, rfl⟩
  · have hv : Hid (getNum zs p = noNum) := getNum_out (by left; omega)
    go_enter Tryd.func64, Tryd.ntmps64
    go_wp2
    all_goals
      go_ret3
      exact ⟨by rw [hv.out]; rfl, rfl⟩


/-- Four bytes as a number. -/
def rd4 (zs : List Int) (p : Nat) : Int := zs.getD p 0 * 16777216 + zs.getD (p + 1) 0 * 65536 + zs.getD (p + 2) 0 * 256 + zs.getD (p + 3) 0

theorem rd4_bd {zs : List Int} (hb : BytesOk zs) (p : Nat) : 0 ≤ rd4 zs p ∧ rd4 zs p < 4294967296 := by
  have h0 := hb.getD p
  have h1 := hb.getD (p + 1)
  have h2 := hb.getD (p + 2)
  have h3 := hb.getD (p + 3)
  unfold rd4
  omega

/-- What both programs answer of a frame. -/
def unframe (zs : List Int) (p : Int) : List Int × Int × Bool :=
  if p < 0 ∨ (zs.length : Int) - 4 < p then ([], p, false)
  else if (getText zs (p + 4)).2.2 = true ∧ crc (getText zs (p + 4)).1 = rd4 zs p.toNat then ((getText zs (p + 4)).1, (getText zs (p + 4)).2.1, true) else ([], p, false)

theorem unframe_out {zs : List Int} {p : Int} (h : p < 0 ∨ (zs.length : Int) - 4 < p) : unframe zs p = ([], p, false) := by unfold unframe; rw [if_pos h]
theorem unframe_no {zs : List Int} {p : Nat} (h : p + 4 ≤ zs.length) (ht : getText zs ((p : Int) + 4) = ([], 0, false)) : unframe zs p = ([], (p : Int), false) := by
  unfold unframe; rw [if_neg (by omega), ht, if_neg (by simp)]
theorem unframe_sum {zs : List Int} {p : Nat} {b : List Int} {q : Int} (h : p + 4 ≤ zs.length) (ht : getText zs ((p : Int) + 4) = (b, q, true)) (hc : ¬ crc b = rd4 zs p) : unframe zs p = ([], (p : Int), false) := by
  unfold unframe; rw [if_neg (by omega), ht, if_neg (by simp [hc])]
theorem unframe_yes {zs : List Int} {p : Nat} {b : List Int} {q : Int} (h : p + 4 ≤ zs.length) (ht : getText zs ((p : Int) + 4) = (b, q, true)) (hc : crc b = rd4 zs p) : unframe zs p = (b, q, true) := by
  unfold unframe; rw [if_neg (by omega), ht, if_pos (by simp [hc])]

theorem or24 {a b : Int} (h0 : 0 ≤ a) (h1 : a ≤ 255) (h2 : 0 ≤ b) (h3 : b ≤ 255) : bits .or .i64 (a * 16777216) (b * 65536) = a * 16777216 + b * 65536 :=
  bits_join .i64 63 (by decide) wraps_i64 24 _ _ (by omega) (by omega) (by omega) (by omega) (by omega) (by omega)
theorem or16 {x c : Int} (h0 : 0 ≤ x) (h1 : x < 4294967296) (hm : x % 65536 = 0) (h2 : 0 ≤ c) (h3 : c ≤ 255) : bits .or .i64 x (c * 256) = x + c * 256 :=
  bits_join .i64 63 (by decide) wraps_i64 16 _ _ (by omega) (by omega) (by omega) (by omega) (by omega) (by omega)
theorem or8 {x c : Int} (h0 : 0 ≤ x) (h1 : x < 4294967296) (hm : x % 256 = 0) (h2 : 0 ≤ c) (h3 : c ≤ 255) : bits .or .i64 x c = x + c :=
  bits_join .i64 63 (by decide) wraps_i64 8 _ _ (by omega) (by omega) (by omega) (by omega) (by omega) (by omega)

theorem Rd.sub {k : IntKind} {B : Nat} {w : World} {b o f m : Nat} {zs : List Int} (h : Rd k B w (some ⟨b, o, none⟩) zs) (hf : f + m ≤ zs.length) : Rd k B w (some ⟨b, o + f, none⟩) ((zs.drop f).take m) := by
  intro j hj
  rw [take_drop_length hf] at hj
  obtain ⟨b', o', e, hB, hc⟩ := h (f + j) (by omega)
  simp only [Option.some.injEq, Addr.mk.injEq, and_true] at e
  obtain ⟨rfl, rfl⟩ := e
  exact ⟨b, o + f, rfl, hB, by rw [take_drop_getD hj, Nat.add_assoc]; exact hc⟩

theorem Rd.nil {k : IntKind} {B : Nat} {w : World} {a : Option Addr} : Rd k B w a [] := fun j hj => by simp at hj

set_option maxHeartbeats 400000 in
theorem fourAt_no (a : Option Addr) (n cap : Nat) (p : Int) (w : World) (h : p < 0 ∨ (n : Int) - 4 < p) (hlen : n ≤ 140737488351232) :
    Calls Tryd.prog 22 #[.slice a n cap, .int .i64 p] w fun e w' => e = .returned (.tuple #[.int .i64 0, .bool false]) ∧ w' = w := by
  by_cases h0 : p < 0
  · clear h
    go_enter Tryd.func22, Tryd.ntmps22
    go_wp2
    go_ret2
    exact ⟨rfl, rfl⟩
  · have h1 : (n : Int) - 4 < p := by omega
    clear h
    go_enter Tryd.func22, Tryd.ntmps22
    go_wp2
    go_ret2
    exact ⟨rfl, rfl⟩

set_option maxHeartbeats 400000 in
theorem fourAt_yes (a : Option Addr) (n cap p : Nat) (zs : List Int) (w : World) (B : Nat) (hx : zs.length = n) (h : p + 4 ≤ n) (hlen : n ≤ 140737488351232) (hb : BytesOk zs) (hr : Rd .u8 B w a zs) :
    Calls Tryd.prog 22 #[.slice a n cap, .int .i64 p] w fun e w' => e = .returned (.tuple #[.int .i64 (rd4 zs p), .bool true]) ∧ ∃ d, w' = w.drewN d := by
  have HX : Hid (zs.length = n) := hx
  clear hx
  obtain ⟨b1, o1, rfl, _, hc0⟩ := hr p (by rw [HX.out]; omega)
  have hcell : ∀ j, j < n → w.cell? ⟨b1, o1 + j, none⟩ = some (.int .u8 (zs.getD j 0)) := fun j hj => by
    obtain ⟨b', o', e, _, hc⟩ := hr j (by rw [HX.out]; omega)
    simp only [Option.some.injEq, Addr.mk.injEq, and_true] at e
    obtain ⟨rfl, rfl⟩ := e
    exact hc
  have hc1 := hcell (p + 1) (by omega)
  have hc2 := hcell (p + 2) (by omega)
  have hc3 := hcell (p + 3) (by omega)
  have g0 := hb.getD p
  have g1 := hb.getD (p + 1)
  have g2 := hb.getD (p + 2)
  have g3 := hb.getD (p + 3)
  have HR : Hid (rd4 zs p = zs.getD p 0 * 16777216 + zs.getD (p + 1) 0 * 65536 + zs.getD (p + 2) 0 * 256 + zs.getD (p + 3) 0) := rfl
  generalize zs.getD p 0 = c0 at hc0 g0 HR
  generalize zs.getD (p + 1) 0 = c1 at hc1 g1 HR
  generalize zs.getD (p + 2) 0 = c2 at hc2 g2 HR
  generalize zs.getD (p + 3) 0 = c3 at hc3 g3 HR
  have r1 := or24 g0.1 g0.2 g1.1 g1.2
  have r2 := or16 (x := c0 * 16777216 + c1 * 65536) (c := c2) (by omega) (by omega) (by omega) g2.1 g2.2
  have r3 := or8 (x := c0 * 16777216 + c1 * 65536 + c2 * 256) (c := c3) (by omega) (by omega) (by omega) g3.1 g3.2
  clear hcell hr hb
  go_enter Tryd.func22, Tryd.ntmps22
  go_wp2
  go_quiet (fail)
  go_wp2
  go_ret2
  exact ⟨by rw [HR.out]; rfl, _, rfl⟩

/-- Bytes as a number, the first the highest. -/
def rdN (zs : List Int) : Int := zs.foldl (fun n c => n * 256 + c) 0

theorem rdN_snoc (l : List Int) (c : Int) : rdN (l ++ [c]) = rdN l * 256 + c := by simp [rdN]

theorem rdN_bd {zs : List Int} (hb : BytesOk zs) (k : Nat) (hk : k ≤ 4) : 0 ≤ rdN (zs.take k) ∧ rdN (zs.take k) < 4294967296 ∧ (k < 4 → rdN (zs.take k) < 16777216) := by
  have step : ∀ j, 0 ≤ rdN (zs.take j) → (rdN (zs.take (j + 1)) = rdN (zs.take j) ∨ ∃ c, 0 ≤ c ∧ c ≤ 255 ∧ rdN (zs.take (j + 1)) = rdN (zs.take j) * 256 + c) := by
    intro j _
    by_cases hj : j < zs.length
    · right
      refine ⟨zs.getD j 0, (hb.getD j).1, (hb.getD j).2, ?_⟩
      rw [← rdN_snoc]
      congr 1
      rw [List.take_succ_eq_append_getElem hj, List.getD_eq_getElem?_getD, List.getElem?_eq_getElem hj]
      rfl
    · left
      rw [List.take_of_length_le (by omega), List.take_of_length_le (by omega)]
  have e0 : rdN (zs.take 0) = 0 := by simp [rdN]
  have s0 := step 0 (by omega)
  have b1 : 0 ≤ rdN (zs.take 1) ∧ rdN (zs.take 1) < 256 := by rcases s0 with h | ⟨c, h1, h2, h⟩ <;> rw [e0] at h <;> simp only [Nat.zero_add] at h <;> omega
  have s1 := step 1 b1.1
  have b2 : 0 ≤ rdN (zs.take 2) ∧ rdN (zs.take 2) < 65536 := by rcases s1 with h | ⟨c, h1, h2, h⟩ <;> simp only [Nat.reduceAdd] at h <;> omega
  have s2 := step 2 b2.1
  have b3 : 0 ≤ rdN (zs.take 3) ∧ rdN (zs.take 3) < 16777216 := by rcases s2 with h | ⟨c, h1, h2, h⟩ <;> simp only [Nat.reduceAdd] at h <;> omega
  have s3 := step 3 b3.1
  have b4 : 0 ≤ rdN (zs.take 4) ∧ rdN (zs.take 4) < 4294967296 := by rcases s3 with h | ⟨c, h1, h2, h⟩ <;> simp only [Nat.reduceAdd] at h <;> omega
  rcases (show k = 0 ∨ k = 1 ∨ k = 2 ∨ k = 3 ∨ k = 4 from by omega) with rfl | rfl | rfl | rfl | rfl
  · rw [e0]; omega
  · omega
  · omega
  · omega
  · omega

theorem rdN_four {zs : List Int} {p : Nat} (h : p + 4 ≤ zs.length) : rdN ((zs.drop p).take 4) = rd4 zs p := by
  have e : (zs.drop p).take 4 = [zs.getD p 0, zs.getD (p + 1) 0, zs.getD (p + 2) 0, zs.getD (p + 3) 0] := by
    apply List.ext_getElem?
    intro j
    rw [List.getElem?_take, List.getElem?_drop]
    rcases (show j = 0 ∨ j = 1 ∨ j = 2 ∨ j = 3 ∨ 4 ≤ j from by omega) with rfl | rfl | rfl | rfl | hj
    all_goals first | (rw [if_neg (by omega), List.getElem?_eq_none (by simpa using hj)]) | (rw [if_pos (by omega), List.getElem?_eq_getElem (by omega)]; simp [List.getElem?_eq_getElem (show p < zs.length from by omega), List.getElem?_eq_getElem (show p + 1 < zs.length from by omega), List.getElem?_eq_getElem (show p + 2 < zs.length from by omega), List.getElem?_eq_getElem (show p + 3 < zs.length from by omega)])
  rw [e]
  simp only [rdN, List.foldl_cons, List.foldl_nil, rd4]
  omega

set_option maxHeartbeats 400000 in
theorem readFour_any (a : Option Addr) (cap : Nat) (zs : List Int) (w : World) (B : Nat) (hx : zs.length = 4) (hb : BytesOk zs) (hr : Rd .u8 B w a zs) :
    Calls Tryd.prog 50 #[.slice a 4 cap] w fun e w' => e = .returned (.int .i64 (rdN zs)) ∧ w' = w := by
  have HX : Hid (zs.length = 4) := hx
  clear hx
  go_enter Tryd.func50, Tryd.ntmps50
  go_wp2
  go_loop [3, 5, 8] (fun x c i => ∃ k : Nat, k ≤ 4 ∧ i = .int .i64 k ∧ x = .int .i64 (rdN (zs.take k))) (fun _ _ i => 4 - (intOf i).toNat)
  case atStart => exact ⟨0, Nat.zero_le _, rfl, rfl⟩
  case round =>
    obtain ⟨k, hk, rfl, rfl⟩ := hrel
    have hbd := rdN_bd hb k hk
    by_cases hlt : k < 4
    · obtain ⟨b1, o1, rfl, _, hc1⟩ := hr k (by rw [HX.out]; exact hlt)
      have hcr := hb.getD k
      have HS : Hid (rdN (zs.take (k + 1)) = rdN (zs.take k) * 256 + zs.getD k 0) := by
        unfold Hid
        rw [← rdN_snoc]
        congr 1
        rw [List.take_succ_eq_append_getElem (by rw [HX.out]; exact hlt), List.getD_eq_getElem?_getD, List.getElem?_eq_getElem (by rw [HX.out]; exact hlt)]
        rfl
      have hbl := hbd.2.2 hlt
      obtain ⟨hb0, _, _⟩ := hbd
      generalize zs.getD k 0 = c at hc1 hcr HS
      generalize rdN (zs.take k) = X at hbl hb0 HS
      clear hr hb
      go_wp2
      go_round
      case rel => exact ⟨k + 1, by omega, by go_num, by rw [HS.out]⟩
      case measure => simp [intOf]; omega
    · have hk4 : k = 4 := by omega
      have HT : Hid (rdN zs = rdN (zs.take k)) := by unfold Hid; rw [List.take_of_length_le (by rw [HX.out]; omega)]
      generalize rdN (zs.take k) = X at HT
      go_wp2
      go_ret
      exact ⟨by rw [HT.out]; rfl, rfl⟩

end Go.Proofs.YtocgbeoglgkibaaDoor
