/-
  The program's table of pairs.
-/
import Derived.Test.YtjaaaopbidmknaaDoorTabK
import Derived.Test.YtjaaaopbidmknaaDoorIdxB
import Derived.Test.YtjaaaopbidmknaaDoorKeys
import Derived.Test.YtjaaaopbidmknaaDoorFilt
namespace Go.Proofs.YtjaaaopbidmknaaDoor
open Go.RowKit Go.Maps
set_option linter.unusedVariables false
set_option linter.unusedSimpArgs false
set_option maxRecDepth 10000

theorem Tryd.infoMark : (Tryd.prog.info? 97).map (fun i => (i.zero, i.size, i.bytes)) = some (some (.agg #[.string ⟨#[]⟩, .int .i64 0]), 2, 24) := by kernel_rfl

theorem idxB_marks (l : List MPair) (i : Nat) : idxB l i = idxM (marksB l i) := by
  induction i with
  | zero => rfl
  | succ i ih => rw [idxB, marksB, idxM_snoc, ih]; rfl

set_option maxHeartbeats 4000000 in
theorem implPutTable_any (a : Option Addr) (n c : Nat) (l : List MPair) (w : World) (hx : l.length = n) (hn : n ≤ 1048576) (hL : LeafL 3 rPair w.heap.size w a c l) (hw : sumW wPair l ≤ 1048576) (hT : Tabs w) (ht : TabAt w) :
    Calls Tryd.prog 31 #[.slice a n c] w fun e w' => ∃ v, e = .returned v ∧
      w'.ownsRow w.heap.size 5 1 v (tabP l).length ((tabP l).map (Value.int .u8)) ∧ Below w.heap.size w w' := by
  obtain ⟨i0, hi, hz0, hz1, hz2⟩ := info_parts Tryd.info5
  obtain ⟨iM, hiM, hzM0, hzM1, hzM2⟩ := info_parts Tryd.infoMark
  by_cases hr : 1 ≤ n ∧ n ≤ 200
  rotate_left
  · have HV : Hid (tabP l = []) := tabP_out (by rw [hx]; exact hr)
    clear hx hL
    by_cases h0 : n = 0
    · subst h0
      go_enter Tryd.func31, Tryd.ntmps31
      go_wp2_with fail
      go_ret
      exact ⟨_, rfl, by rw [HV.out]; exact own_nil w _ _ 1 (Nat.le_refl _), Below.refl _ _⟩
    · have h1 : 200 < n := by omega
      have h2 : ((n : Int) == 0) = false := beq_eq_false_iff_ne.2 (by omega)
      go_enter Tryd.func31, Tryd.ntmps31
      go_wp2_with fail
      go_ret
      exact ⟨_, rfl, by rw [HV.out]; exact own_nil w _ _ 1 (Nat.le_refl _), Below.refl _ _⟩
  obtain ⟨hr1, hr2⟩ := hr
  have h2 : ((n : Int) == 0) = false := beq_eq_false_iff_ne.2 (by omega)
  have h3 : ¬ 200 < (n : Int) := by omega
  have HL := Hid.mk hL
  have HTT := Hid.mk ht
  have HX := Hid.mk hx
  have HP := Hid.mk (pairsOk_any a n c l w hx hn hL hT hw)
  cases hok : pairsOkP l with
  | false =>
    rw [hok] at HP
    have HV : Hid (tabP l = []) := tabP_bad hok
    clear hx hL hT ht
    go_enter Tryd.func31, Tryd.ntmps31
    go_wp2_with fail
    refine Calls.mono HP.out ?_
    rintro e w0 ⟨rfl, hb0⟩
    go_wp2_with fail
    go_ret
    exact ⟨_, rfl, by rw [HV.out]; exact own_nil w0 _ _ 1 hb0.size, hb0⟩
  | true =>
    rw [hok] at HP
    have HV : Hid (tabP l = tabB l) := tabP_yes hok (by omega) (by omega)
    clear hx hL hT ht
    go_enter Tryd.func31, Tryd.ntmps31
    go_wp2_with fail
    refine Calls.mono HP.out ?_
    rintro e w0 ⟨rfl, hb0⟩
    clear h2 h3
    go_wp2_with fail
    go_loopw [3, 4, 5] (fun o mk f wr => ∃ i : Nat, 4 * i ≤ n + 3 ∧ f = .int .i64 (4 * i : Nat) ∧ wr.ownsRow w.heap.size 5 1 o (outB l i).length ((outB l i).map (Value.int .u8)) ∧ RowR 2 97 rMark w.heap.size wr w.heap.size mk (marksB l i) ∧ Dis mk o ∧ Below w.heap.size w wr) (fun _ _ f _ => n + 4 - (intOf f).toNat)
    case atStart => exact ⟨0, by omega, rfl, own_nil w0 _ _ 1 hb0.size, RowR.start, dis_nil _, hb0⟩
    case round =>
      obtain ⟨i, hin, rfl, hown, hrow, hdis, hbk⟩ := hrel
      by_cases hlt : 4 * i < n
      · obtain ⟨s, hs⟩ : ∃ s, s + 1 = min (4 * i + 4) n := ⟨min (4 * i + 4) n - 1, by omega⟩
        have hmin : min (4 * (i : Int) + 4) (n : Int) = (s : Int) + 1 := by omega
        have hs1 : s + 1 ≤ n := by omega
        have hs2 : 4 * i ≤ s := by omega
        have hs3 : s ≤ 4 * i + 3 := by omega
        have hsl : s < l.length := by rw [HX.out]; omega
        have HLK := Hid.mk (blk_last (l := l) (i := i) (t := s + 1) (by rw [HX.out]; exact hlt) (by rw [HX.out]; exact hs) hsl)
        obtain ⟨b1, o1, rfl, hbB, cs, hcl, hcell, hrT⟩ := (HL.out.2.2.below rPair_good hbk) s hsl
        obtain ⟨key, hkk⟩ : ∃ k, k = l[s].fKey := ⟨_, rfl⟩
        have HKK := Hid.mk hkk
        obtain ⟨rfl, g0, g1, g2, _⟩ := hrT
        have k0 := hcell 0 _ rfl
        rw [Nat.add_zero, ← hkk] at k0
        have HSS := Hid.mk hs
        clear hcell hcl g0 g1 g2 hkk hs
        have hnc : n ≤ c := by have h := HL.out.1; rw [HX.out] at h; exact h
        have hol := outB_len hw i
        have hoo := outB_ok l i
        have hml := marksB_length l i
        have HZN : Hid (outB l (i + 1) = outB l i ++ frame (blockB ByteArray.empty (blk l i))) := rfl
        have HMN : Hid (marksB l (i + 1) = marksB l i ++ [(lastK ByteArray.empty (blk l i), ((outB l i).length : Int))]) := rfl
        generalize outB l i = zs at *
        generalize marksB l i = ms at *
        obtain ⟨ro, qo, rfl, _, _⟩ := own_rd rfl hown
        obtain ⟨css, r1, r2, r3, r4⟩ := hrow
        obtain ⟨wm, hwm⟩ : ∃ x, x = wr.alloc (.cells #[.string key, .int .i64 zs.length] 97) := ⟨_, rfl⟩
        have hbm : Below wr.heap.size wr wm := by rw [hwm]; exact (Below.refl _ _).alloc (Nat.le_refl _) _
        have hbx : Bx wm wr.heap.size [.string key, .int .i64 zs.length] := by rw [hwm]; exact Bx.new _ _ _
        have r4x := own_below r4 hbm
        have hownx := own_below hown hbm
        have hzm := hbm.size
        have hzk := hbk.size
        rw [hml] at r4 r4x
        go_wp2_with (at_builtin; rw [← hwm]; refine wpList_append_own_at _ rfl _ _ 95 rfl w.heap.size 97 iM (.agg #[.string ⟨#[]⟩, .int .i64 0]) 2 24 Tryd.underlying95 hiM hzM0 hzM1 hzM2 rfl (by decide) _ _ _ rfl r4x ⟨wr.heap.size, 0, none⟩ 1 1 [.string key, .int .i64 zs.length] rfl rfl (bx_news hbx) (by intro u hu; simp at hu; rcases hu with rfl | rfl <;> rfl) (by unfold maxLen; omega) (by omega) (by omega) ?_; intro v1 w1 hown1 hgrow1 hnil1 hloc1)
        have hBm := hbk.trans (hbm.mono hbk.size)
        have hB1 := hBm.grown hgrow1 hBm.size (fun k h => (r4x.lt k h).1)
        have hbw1 : Below w.heap.size wr w1 := (hbm.mono hbk.size).grown hgrow1 hBm.size (fun k h => (r4x.lt k h).1)
        have hownA := own_other hownx hgrow1 hdis
        have hdis1 := dis_app hloc1 hownx hdis
        have hrow1 : RowR 2 97 rMark w.heap.size w1 w.heap.size v1 (ms ++ [(key, (zs.length : Int))]) := RowR.push rMark_good r1 r2 r3 hbw1 rfl rfl (own_congr hown1 (by rw [hml]) rfl)
        have HBK : Hid ((l.drop (4 * i)).take (s + 1 - 4 * i) = blk l i) := by
          have h1 := HSS.out
          have h2 := HX.out
          show _ = (l.drop (4 * i)).take 4
          by_cases h4 : s + 1 = 4 * i + 4
          · rw [show s + 1 - 4 * i = 4 from by omega]
          · rw [List.take_of_length_le (by simp; omega), List.take_of_length_le (by simp; omega)]
        have hLb := LeafL.sub HL.out (f := 4 * i) (m := s + 1 - 4 * i) (c' := s + 1 - 4 * i) (by rw [HX.out]; omega) (Nat.le_refl _) (by omega)
        rw [HBK.out] at hLb
        have hlb : (blk l i).length = s + 1 - 4 * i := by have h1 := blk_length (l := l) (i := i); have h2 := HX.out; have h3 := HSS.out; omega
        have HLB := Hid.mk (LeafL.mono rPair_good (LeafL.below rPair_good hLb hB1) hB1.size)
        have hwb : sumW wPair (blk l i) ≤ 1048576 := Nat.le_trans (blk_weight l i) hw
        have hbl := blk_bd hw i
        have hbo := blockB_ok ByteArray.empty (blk l i)
        clear hown hownx r1 r2 r3 r4 r4x hgrow1 hnil1 hloc1 hown1 hbx hbm hwm hdis hBm hbw1 hLb k0
        refine (blockBody_any _ _ _ (blk l i) w1 hlb (by omega) HLB.out hwb).mono ?_
        rintro e w2 ⟨v2, rfl, ho2, hx2⟩
        have hB2 := hB1.trans (hx2.mono hB1.size)
        obtain ⟨z2, HZ2⟩ : ∃ z, Hid (z = blockB ByteArray.empty (blk l i)) := ⟨_, rfl⟩
        rw [← HZ2.out] at ho2 hbl hbo
        obtain ⟨r2, q2, rfl, _, hr2⟩ := own_rd rfl ho2
        clear ho2
        have hownB := own_below hownA hx2
        have hrow2 := RowR.keep rMark_good hrow1 hx2 hB1.size
        clear hownA hrow1
        go_wp2_with fail
        refine (implFrame_R r2 _ q2 z2 w2 rfl (by omega) hr2 hbo (HTT.out.below hB2 HTT.out.size)).mono ?_
        rintro e w3 ⟨v3, rfl, ho3, hx3⟩
        have hB3 := hB2.trans (hx3.mono hB2.size)
        obtain ⟨z3, HZ3⟩ : ∃ z, Hid (z = frame z2) := ⟨_, rfl⟩
        have hl3 : z3.length ≤ 1048649 := by rw [HZ3.out]; have := frame_len z2; omega
        rw [← HZ3.out] at ho3
        obtain ⟨r3, q3, rfl, _, hr3⟩ := own_rd rfl ho3
        clear ho3
        have hownC := own_below hownB hx3
        have hrow3 := RowR.keep rMark_good hrow2 hx3 hB2.size
        clear hownB hrow2
        have hi50 : i ≤ 50 := by omega
        have hoz : zs.length ≤ 52432450 := Nat.le_trans hol (by omega)
        go_wp2_with (at_builtin; refine wpList_append_src_at rfl _ _ 27 27 rfl w.heap.size 5 i0 (.int .u8 0) 1 1 Tryd.underlying27 hi hz0 hz1 hz2 rfl _ _ _ rfl hownC _ rfl z3.length (z3.map (Value.int .u8)) (Src.rd Tryd.underlying27 rfl hr3) (by unfold maxLen; omega) (by omega) hB3.size ?_; intro v4 w4 ho4 hgr4 hat4)
        have hB4 := hB3.grown hgr4 hB3.size (fun k h => (hownC.lt k h).1)
        obtain ⟨css3, y1, y2, y3, y4⟩ := hrow3
        have hdis4 := (dis_app hat4 y4 hdis1.symm).symm
        have hrow4 : RowR 2 97 rMark w.heap.size w4 w.heap.size v1 (ms ++ [(key, (zs.length : Int))]) := ⟨css3, y1, y2, y3, own_other y4 hgr4 hdis1.symm⟩
        have HO4 : Hid (w4.ownsRow w.heap.size 5 1 v4 (outB l (i + 1)).length ((outB l (i + 1)).map (Value.int .u8))) := by
          show w4.ownsRow _ _ _ _ _ _
          rw [HZN.out, ← HZ2.out, ← HZ3.out]
          exact own_congr ho4 (by simp) (by simp)
        have HR4 : Hid (RowR 2 97 rMark w.heap.size w4 w.heap.size v1 (marksB l (i + 1))) := by
          show RowR _ _ _ _ _ _ _ _
          rw [HMN.out, HLK.out]
          have h := hrow4
          rw [HKK.out] at h
          exact h
        clear hownC y1 y2 y3 y4 hrow4 ho4 hgr4 hat4 hr3 hr2
        go_roundw
        case rel => exact ⟨i + 1, by omega, by first | go_num | (congr 1; omega), HO4.out, HR4.out, hdis4, hB4⟩
        case measure => simp [intOf]; omega
      · have HN : Hid (i = nBlk l) := by show i = _; unfold nBlk; rw [HX.out]; omega
        have hi51 : i ≤ 50 := by omega
        have hol := outB_len hw i
        have hoo := outB_ok l i
        have hml := marksB_length l i
        have hms := marksB_small hw i
        have HTB : Hid (tabB l = outB l i ++ frame (putNum (clampN i) ++ idxB l i ++ flt (keysP l)) ++ four (outB l i).length) := by show tabB l = _; unfold tabB; rw [HN.out]
        have HIM := Hid.mk (idxB_marks l i)
        generalize outB l i = zs at *
        generalize marksB l i = ms at *
        have hoz : zs.length ≤ 52432450 := Nat.le_trans hol (by omega)
        obtain ⟨ro, qo, rfl, _, _⟩ := own_rd rfl hown
        obtain ⟨am, cm, rfl, hLM⟩ := RowR.leaf rMark_good hrow hbk.size
        rw [hml]
        have HML := Hid.mk hml
        clear hml
        have HLM := Hid.mk hLM
        clear hLM hrow hdis
        have HLk := Hid.mk (LeafL.mono rPair_good (LeafL.below rPair_good HL.out hbk) hbk.size)
        go_wp2_with fail
        refine (keysOf_any a n c l wr HX.out hn HLk.out).mono ?_
        rintro e w1 ⟨v1, rfl, ho1, hx1⟩
        have hB1 := hbk.trans (hx1.mono hbk.size)
        have hkl : (keysP l).length = n := by unfold keysP; rw [List.length_map]; exact HX.out
        obtain ⟨ak, ck, rfl, _, _, hrk⟩ := rdT_own (F := _) (l := keysP l) ⟨own_base (own_congr ho1 hkl.symm rfl) (Nat.zero_le _), rfl⟩
        have hsk : ∀ s, s ∈ keysP l → s.size ≤ 140737488351232 := fun s hs => by
          unfold keysP at hs
          obtain ⟨p, hp, rfl⟩ := List.mem_map.1 hs
          obtain ⟨k, hk, rfl⟩ := List.getElem_of_mem hp
          have h1 := sumW_le (f := wPair) hk
          have h2 : wPair l[k] = l[k].fKey.size + l[k].fVal.size := rfl
          omega
        have hownA := own_below hown hx1
        clear ho1 hown
        rw [hkl]
        go_wp2_with fail
        refine (implFilter_any ak n ck (keysP l) w1 hkl (by omega) hsk hrk (HTT.out.below hB1 HTT.out.size)).mono ?_
        rintro e w2 ⟨v2, rfl, ho2, hx2⟩
        have hB2 := hB1.trans (hx2.mono hB1.size)
        have hfl := flt_length (keysP l)
        have hfo := flt_ok (keysP l)
        obtain ⟨fs, HFS⟩ : ∃ f, Hid (f = flt (keysP l)) := ⟨_, rfl⟩
        rw [← HFS.out] at ho2 hfl hfo
        obtain ⟨r2, q2, rfl, _, hr2⟩ := own_rd hfl ho2
        have hownB := own_below hownA hx2
        clear ho2 hownA hrk
        have hLM2 : LeafL 2 rMark w2.heap.size w2 am cm ms := LeafL.mono rMark_good (LeafL.below rMark_good (LeafL.mono rMark_good (LeafL.below rMark_good HLM.out hx1) hx1.size) hx2) hx2.size
        go_wp2_with fail
        refine (indexBody_any am r2 i cm 8 q2 ms fs w2 HML.out (by omega) hLM2 hms hfl (by omega) hr2).mono ?_
        rintro e w3 ⟨v3, rfl, ho3, hx3⟩
        have hB3 := hB2.trans (hx3.mono hB2.size)
        obtain ⟨z3, HZ3⟩ : ∃ z, Hid (z = putNum (clampN i) ++ idxM ms ++ fs) := ⟨_, rfl⟩
        have hl3 : z3.length ≤ 53000000 := by
          rw [HZ3.out]
          have h1 := putNum_length (clampN i)
          have h2 := idxM_len ms hms
          have h3 : 1048586 * ms.length ≤ 1048586 * 50 := Nat.mul_le_mul_left _ (by rw [HML.out]; omega)
          simp only [List.length_append, hfl]
          omega
        have ho3k : BytesOk z3 := by rw [HZ3.out]; exact ((putNum_ok _).append (idxM_ok ms)).append hfo
        rw [← HZ3.out] at ho3
        obtain ⟨r3, q3, rfl, _, hr3⟩ := own_rd rfl ho3
        have hownC := own_below hownB hx3
        clear ho3 hownB hr2 hLM2
        go_wp2_with fail
        refine (implFrame_R r3 _ q3 z3 w3 rfl (by omega) hr3 ho3k (HTT.out.below hB3 HTT.out.size)).mono ?_
        rintro e w4 ⟨v4, rfl, ho4, hx4⟩
        have hB4 := hB3.trans (hx4.mono hB3.size)
        obtain ⟨z4, HZ4⟩ : ∃ z, Hid (z = frame z3) := ⟨_, rfl⟩
        have hl4 : z4.length ≤ 53000009 := by rw [HZ4.out]; have := frame_len z3; omega
        rw [← HZ4.out] at ho4
        obtain ⟨r4, q4, rfl, _, hr4⟩ := own_rd rfl ho4
        have hownD := own_below hownC hx4
        clear ho4 hownC hr3
        go_wp2_with (at_builtin; refine wpList_append_src_at rfl _ _ 27 27 rfl w.heap.size 5 i0 (.int .u8 0) 1 1 Tryd.underlying27 hi hz0 hz1 hz2 rfl _ _ _ rfl hownD _ rfl z4.length (z4.map (Value.int .u8)) (Src.rd Tryd.underlying27 rfl hr4) (by unfold maxLen; omega) (by omega) hB4.size ?_; intro v5 w5 ho5 hgr5 hat5)
        have hB5 := hB4.grown hgr5 hB4.size (fun k h => (hownD.lt k h).1)
        obtain ⟨z5, HZ5⟩ : ∃ z, Hid (z = zs ++ z4) := ⟨_, rfl⟩
        have hl5 : z5.length ≤ 110000000 := by rw [HZ5.out, List.length_append]; omega
        have ho5' : w5.ownsRow w.heap.size 5 1 v5 z5.length (z5.map (Value.int .u8)) := own_congr ho5 (by rw [HZ5.out]; simp) (by rw [HZ5.out]; simp)
        obtain ⟨r5, q5, rfl, _, _⟩ := own_rd rfl ho5'
        clear ho5 hgr5 hat5 hownD hr4
        refine (implFour_any zs.length w5 (by omega) (by omega)).mono ?_
        rintro e w6 ⟨rfl, ho6, hx6⟩
        have hB6 := hB5.trans (hx6.mono hB5.size)
        have hownE := own_below ho5' hx6
        have hr6 := Rd.own rfl ho6
        clear ho5' ho6
        go_wp2_with (at_builtin; refine wpList_append_src_at rfl _ _ 27 27 rfl w.heap.size 5 i0 (.int .u8 0) 1 1 Tryd.underlying27 hi hz0 hz1 hz2 rfl _ _ _ rfl hownE _ rfl 4 ((four zs.length).map (Value.int .u8)) (Src.rd Tryd.underlying27 rfl hr6) (by unfold maxLen; omega) (by omega) hB6.size ?_; intro v7 w7 ho7 hgr7 hat7)
        have hB7 := hB6.grown hgr7 hB6.size (fun k h => (hownE.lt k h).1)
        have HO7 : Hid (w7.ownsRow w.heap.size 5 1 v7 (tabP l).length ((tabP l).map (Value.int .u8))) := by
          show w7.ownsRow _ _ _ _ _ _
          rw [HV.out, HTB.out, HIM.out, ← HFS.out, ← HZ3.out, ← HZ4.out, ← HZ5.out]
          exact own_congr ho7 (by simp [four_length]) (by simp)
        clear ho7 hgr7 hat7 hownE
        go_wp2_with fail
        go_ret
        exact ⟨v7, rfl, HO7.out, hB7⟩

end Go.Proofs.YtjaaaopbidmknaaDoor
