/-
  Unframe of the program, whole.
-/
import Derived.Test.YtiahmcclmlmgpaaDoorUnfS
namespace Go.Proofs.YtiahmcclmlmgpaaDoor
open Go.RowKit
set_option maxRecDepth 10000

set_option maxHeartbeats 800000 in
theorem implUnframe_any (a : Option Addr) (n cap : Nat) (zs : List Int) (p : Int) (w : World) (hx : zs.length = n) (hlen : n ≤ 35184372088832) (hcap : n ≤ cap) (hb : BytesOk zs) (hr : Rd .u8 w.heap.size w a zs) (ht : TabAt w) :
    Calls Tryd.prog 15 #[.slice a n cap, .int .i64 p] w (UnfPost w (unframe zs p)) := by
  obtain ⟨i0, hi, hz0, hz1, hz2⟩ := info_parts Tryd.info5
  have HX : Hid (zs.length = n) := hx
  clear hx
  have hsz : 0 < w.heap.size := ht.size
  by_cases hout : p < 0 ∨ (n : Int) - 4 < p
  · have HV : Hid (unframe zs p = ([], p, false)) := unframe_out (by rw [HX.out]; exact hout)
    by_cases h0 : p < 0
    · clear hout
      go_enter Tryd.func15, Tryd.ntmps15
      go_wp2
      go_ret3
      rw [HV.out]
      exact unf_nil (Below.refl _ _)
    · have h1 : (n : Int) - 4 < p := by omega
      clear hout
      go_enter Tryd.func15, Tryd.ntmps15
      go_wp2
      go_ret3
      rw [HV.out]
      exact unf_nil (Below.refl _ _)
  · obtain ⟨p, rfl⟩ := Int.eq_ofNat_of_zero_le (show 0 ≤ p by omega)
    have hp : p + 4 ≤ n := by omega
    clear hout
    have hN := implGetNum_any a n cap zs ((p : Int) + 4) w w.heap.size HX.out (by omega) hb hr
    go_enter Tryd.func15, Tryd.ntmps15
    go_wp2_with fail
    refine hN.mono ?_
    rintro e w1 ⟨rfl, rfl⟩
    clear hN
    rcases text_cases zs ((p : Int) + 4) with ⟨r0, r1, hR, hv⟩ | ⟨m, f, hR, hf, hm, hout, hv⟩ | ⟨m, f, hR, hf, hm, hin, hv⟩
    · have HV := Hid.mk (unframe_no (by rw [HX.out]; exact hp) hv)
      rw [hR]
      unfold numVal
      clear hR hv
      go_wp2
      go_ret3
      rw [HV.out]
      exact unf_nil (Below.refl _ _)
    · have HV := Hid.mk (unframe_no (by rw [HX.out]; exact hp) hv)
      rw [hR]
      unfold numVal
      clear hR hv
      rw [HX.out] at hf hout
      go_wp2
      go_ret3
      rw [HV.out]
      exact unf_nil (Below.refl _ _)
    · have HYes := fun h => Hid.mk (unframe_yes (by rw [HX.out]; exact hp) hv h)
      have HNo := fun h => Hid.mk (unframe_sum (by rw [HX.out]; exact hp) hv h)
      rw [hR]
      unfold numVal
      clear hR hv
      have hbody := getText_ok hb f m
      have hbl : ((zs.drop f).take m).length = m := take_drop_length hin
      obtain ⟨b1, o1, rfl, _, _⟩ := hr 0 (by omega)
      have hsub : Rd .u8 w1.heap.size w1 (some ⟨b1, o1 + f, none⟩) ((zs.drop f).take (n - f)) := hr.sub (by have := HX.out; omega)
      have hfour : Rd .u8 w1.heap.size w1 (some ⟨b1, o1 + p, none⟩) ((zs.drop p).take 4) := hr.sub (by rw [HX.out]; exact hp)
      have h4l : ((zs.drop p).take 4).length = 4 := take_drop_length (by rw [HX.out]; exact hp)
      have h4b := getText_ok hb p 4
      have HR4 := Hid.mk (rdN_four (zs := zs) (p := p) (by rw [HX.out]; exact hp))
      have hsubl : ((zs.drop f).take (n - f)).length = n - f := take_drop_length (by have := HX.out; omega)
      have HBody : Hid (((zs.drop f).take (n - f)).take m = (zs.drop f).take m) := by
        unfold Hid
        rw [List.take_take, Nat.min_eq_left (by have := HX.out; omega)]
      generalize (zs.drop f).take (n - f) = src at hsub hsubl HBody
      generalize (zs.drop f).take m = body at hbody hbl HYes HNo HBody
      generalize (zs.drop p).take 4 = fr at hfour h4l h4b HR4
      rw [HX.out] at hin
      have hcapf : f < cap ∨ (cap = f ∧ m = 0 ∧ n = f) := by omega
      have HBL := Hid.mk hbl
      have HSL := Hid.mk hsubl
      have H4L := Hid.mk h4l
      clear hbl hsubl h4l
      rcases hcapf with hcf | ⟨hc1, hc2, hc3⟩
      · have hcf' : ¬ cap = f := by omega
        go_wp2_with (at_make; refine wpList_make_full _ rfl _ _ 22 rfl w1.heap.size 5 i0 (.int .u8 0) 1 Tryd.underlying22 hi hz0 hz1 .i64 .i64 _ _ m rfl rfl rfl rfl (by rw [hz2]; omega) (by unfold maxLen; omega) (Nat.le_refl _) ?_)
        intro w2 hown2 hgr2
        have hB2 : Below w1.heap.size w1 w2 := (Below.refl _ _).grown hgr2 (Nat.le_refl _) (fun k h => by cases h)
        clear hgr2
        go_wp2_with (refine wpList_copy_le rfl _ _ 22 22 rfl 5 i0 Tryd.underlying22 hi hz1 w1.heap.size w1.heap.size m m (n - f) (cap - f) (some ⟨b1, o1 + f, none⟩) rfl rfl _ hown2 .u8 src w1.heap.size HSL.out (by omega) (hsub.below hB2) ?_)
        intro w3 hown3 hgr3
        have hB3 : Below w1.heap.size w1 w3 := hB2.grown hgr3 hB2.size (fun k h => by simp at h; omega)
        rw [← List.map_take, HBody.out] at hown3
        clear hgr3 hown2 hB2
        have hq3 := Rd.own HBL.out hown3
        have ht3 := ht.below hB3 hsz
        have hf3 := hfour.below hB3
        by_cases hc : crc body = rd4 zs p
        · have HV := HYes hc
          have hcb : (crc body != rdN fr) = false := by rw [HR4.out]; simp [hc]
          clear HYes HNo hc
          go_wp2_with fail
          go_quiet (first | (go_at_call 48; exact Calls.quiet_of_same (implSum_any _ m m body _ _ HBL.out (by omega) hbody (by exact hq3) (by exact ht3))) | (go_at_call 50; exact Calls.quiet_of_same (readFour_any _ _ fr _ _ H4L.out h4b (by exact hf3))))
          go_wp2
          go_ret3
          rw [HV.out]
          exact ⟨_, rfl, own_drewN (own_congr hown3 HBL.out.symm rfl), below_drewN hB3 _⟩
        · have HV := HNo hc
          have hcb : (crc body != rdN fr) = true := by rw [HR4.out]; simp [hc]
          clear HYes HNo hc
          go_wp2_with fail
          go_quiet (first | (go_at_call 48; exact Calls.quiet_of_same (implSum_any _ m m body _ _ HBL.out (by omega) hbody (by exact hq3) (by exact ht3))) | (go_at_call 50; exact Calls.quiet_of_same (readFour_any _ _ fr _ _ H4L.out h4b (by exact hf3))))
          go_wp2
          go_ret3
          rw [HV.out]
          exact unf_nil (below_drewN hB3 _)
      · subst hc1
        subst hc2
        subst hc3
        have hsrc : src = [] := List.eq_nil_of_length_eq_zero (by rw [HSL.out]; omega)
        subst hsrc
        go_wp2_with (at_make; refine wpList_make_full _ rfl _ _ 22 rfl w1.heap.size 5 i0 (.int .u8 0) 1 Tryd.underlying22 hi hz0 hz1 .i64 .i64 _ _ 0 rfl rfl rfl rfl (by rw [hz2]; omega) (by unfold maxLen; omega) (Nat.le_refl _) ?_)
        intro w2 hown2 hgr2
        have hB2 : Below w1.heap.size w1 w2 := (Below.refl _ _).grown hgr2 (Nat.le_refl _) (fun k h => by cases h)
        clear hgr2
        go_wp2_with (refine wpList_copy_le rfl _ _ 22 22 rfl 5 i0 Tryd.underlying22 hi hz1 w1.heap.size w1.heap.size 0 0 0 0 (some ⟨b1, o1, none⟩) rfl rfl _ hown2 .u8 [] 0 rfl (by omega) Rd.nil ?_)
        intro w3 hown3 hgr3
        have hB3 : Below w1.heap.size w1 w3 := hB2.grown hgr3 hB2.size (fun k h => by simp at h; omega)
        have hbn : body = [] := List.eq_nil_of_length_eq_zero HBL.out
        clear hgr3 hown2 hB2
        have hq3 : Rd .u8 w3.heap.size w3 (some ⟨w1.heap.size, 0, none⟩) body := by rw [hbn]; exact Rd.nil
        have hown3' : w3.ownsRow w1.heap.size 5 1 (.slice (some ⟨w1.heap.size, 0, none⟩) 0 0) body.length (body.map (Value.int .u8)) := by rw [hbn]; exact hown3
        clear hbn
        have ht3 := ht.below hB3 hsz
        have hf3 := hfour.below hB3
        by_cases hc : crc body = rd4 zs p
        · have HV := HYes hc
          have hcb : (crc body != rdN fr) = false := by rw [HR4.out]; simp [hc]
          clear HYes HNo hc
          go_wp2_with fail
          go_quiet (first | (go_at_call 48; exact Calls.quiet_of_same (implSum_any _ 0 0 body _ _ HBL.out (by omega) hbody (by exact hq3) (by exact ht3))) | (go_at_call 50; exact Calls.quiet_of_same (readFour_any _ _ fr _ _ H4L.out h4b (by exact hf3))))
          go_wp2
          go_ret3
          rw [HV.out]
          exact ⟨_, rfl, own_drewN hown3', below_drewN hB3 _⟩
        · have HV := HNo hc
          have hcb : (crc body != rdN fr) = true := by rw [HR4.out]; simp [hc]
          clear HYes HNo hc
          go_wp2_with fail
          go_quiet (first | (go_at_call 48; exact Calls.quiet_of_same (implSum_any _ 0 0 body _ _ HBL.out (by omega) hbody (by exact hq3) (by exact ht3))) | (go_at_call 50; exact Calls.quiet_of_same (readFour_any _ _ fr _ _ H4L.out h4b (by exact hf3))))
          go_wp2
          go_ret3
          rw [HV.out]
          exact unf_nil (below_drewN hB3 _)

theorem unframe_len (zs : List Int) (p : Int) : (unframe zs p).1.length ≤ zs.length := by
  unfold unframe getText
  split
  · simp
  · split
    · split
      · simp; omega
      · simp
    · simp

end Go.Proofs.YtiahmcclmlmgpaaDoor
