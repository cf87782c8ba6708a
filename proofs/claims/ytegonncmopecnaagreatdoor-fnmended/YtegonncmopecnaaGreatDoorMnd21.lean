/-
  Part 22 of the texts that the proof leans on.
-/
import Derived.Test.YtegonncmopecnaaGreatDoorMnd0
import Derived.Test.YtegonncmopecnaaGreatDoorMnd17
import Derived.Test.YtegonncmopecnaaGreatDoorMnd20
import Derived.Test.YtegonncmopecnaaGreatDoorMnd18
import Derived.Deep.DeepCutAuto
import Derived.Test.YtegonncmopecnaaGreatDoorMnd4
import Derived.Test.YtegonncmopecnaaGreatDoorRows
import Derived.Test.YtegonncmopecnaaGreatDoorMnd19
import Derived.Test.YtegonncmopecnaaGreatDoorMnd19p
import Derived.Laws.Bits128
set_option linter.unusedVariables false
set_option linter.unusedSimpArgs false
set_option maxRecDepth 10000

namespace Go.Proofs.YtegonncmopecnaaGreatDoor
open Go.RowKit
abbrev q7fa_14_7_1 : Oper := ⟨some 25, .move (.tmp 5), 9, "l03_log.go:67", #[], none⟩
abbrev q7fa_14_7_2 : Oper := ⟨some 26, .move (.tmp 0), 41, "l03_log.go:67", #[], none⟩
abbrev q7fa_14_7_3 : Oper := ⟨some 27, .call { callee := .value (.func 37), args := #[.tmp 26], argTypes := #[41] }, 22, "l03_log.go:67", #[⟨2, .data⟩], none⟩
abbrev q7fa_14_7_0 : Oper := ⟨some 24, .load 27 (.tmp 4), 27, "l03_log.go:67", #[], none⟩
abbrev q7fa_14_7_4 : Oper := ⟨some 28, .call { callee := .value (.func 36), args := #[.tmp 24, .tmp 25, .tmp 27], argTypes := #[27, 9, 22] }, 39, "l03_log.go:67", #[⟨0, .data⟩, ⟨1, .data⟩, ⟨3, .data⟩, ⟨3, .chain⟩], none⟩
abbrev q7fa_14_7_5 : Oper := ⟨some 23, .move (.tmp 28), 39, "l03_log.go:67", #[⟨4, .data⟩], none⟩
abbrev q7fa_14_7_6 : Oper := ⟨some 29, .extract (.tmp 23) 0, 27, "l03_log.go:67", #[⟨5, .data⟩], none⟩
abbrev q7fa_14_7_7 : Oper := ⟨some 30, .extract (.tmp 23) 1, 3, "l03_log.go:67", #[⟨5, .data⟩, { on := 8, ground := Ground.gcOnly Departure.lateStores }], none⟩
abbrev q7fa_14_7_8 : Oper := ⟨none, .store 27 (.tmp 4) (.tmp 29), 0, "l03_log.go:67", #[⟨6, .data⟩, ⟨4, .chain⟩, ⟨0, .phase⟩, ⟨1, .phase⟩, ⟨2, .phase⟩, ⟨3, .phase⟩, ⟨4, .phase⟩, ⟨5, .phase⟩, ⟨6, .phase⟩, { on := 7, ground := Ground.textOnly Departure.lateStores }], none⟩
abbrev q7fa_14_12_1 : Oper := ⟨some 47, .move (.tmp 0), 41, "l03_log.go:74", #[], none⟩
abbrev q7fa_14_12_2 : Oper := ⟨some 48, .call { callee := .value (.func 35), args := #[.tmp 47, .const (.int .i64 12)], argTypes := #[41, 3] }, 3, "l03_log.go:74", #[⟨1, .data⟩], none⟩
abbrev q7fa_14_12_0 : Oper := ⟨some 46, .load 27 (.tmp 4), 27, "l03_log.go:74", #[], none⟩
abbrev q7fa_14_12_3 : Oper := ⟨some 49, .call { callee := .value (.func 40), args := #[.tmp 46, .tmp 48], argTypes := #[27, 3] }, 27, "l03_log.go:74", #[⟨0, .data⟩, ⟨2, .data⟩, ⟨2, .chain⟩], none⟩
abbrev q7fa_14_12_4 : Oper := ⟨none, .store 27 (.tmp 4) (.tmp 49), 0, "l03_log.go:74", #[⟨3, .data⟩, ⟨3, .chain⟩, ⟨0, .phase⟩, ⟨1, .phase⟩, ⟨2, .phase⟩, ⟨3, .phase⟩], none⟩
abbrev q7fa_14_14_1 : Oper := ⟨some 54, .move (.tmp 5), 9, "l03_log.go:77", #[], none⟩
abbrev q7fa_14_14_2 : Oper := ⟨some 55, .move (.tmp 0), 41, "l03_log.go:77", #[], none⟩
abbrev q7fa_14_14_3 : Oper := ⟨some 56, .call { callee := .value (.func 37), args := #[.tmp 55], argTypes := #[41] }, 22, "l03_log.go:77", #[⟨2, .data⟩], none⟩
abbrev q7fa_14_14_0 : Oper := ⟨some 53, .load 27 (.tmp 4), 27, "l03_log.go:77", #[], none⟩
abbrev q7fa_14_14_4 : Oper := ⟨some 57, .call { callee := .value (.func 41), args := #[.tmp 53, .tmp 54, .tmp 56], argTypes := #[27, 9, 22] }, 39, "l03_log.go:77", #[⟨0, .data⟩, ⟨1, .data⟩, ⟨3, .data⟩, ⟨3, .chain⟩], none⟩
abbrev q7fa_14_14_5 : Oper := ⟨some 52, .move (.tmp 57), 39, "l03_log.go:77", #[⟨4, .data⟩], none⟩
abbrev q7fa_14_14_6 : Oper := ⟨some 58, .extract (.tmp 52) 0, 27, "l03_log.go:77", #[⟨5, .data⟩], none⟩
abbrev q7fa_14_14_7 : Oper := ⟨some 59, .extract (.tmp 52) 1, 3, "l03_log.go:77", #[⟨5, .data⟩, { on := 8, ground := Ground.gcOnly Departure.lateStores }], none⟩
abbrev q7fa_14_14_8 : Oper := ⟨none, .store 27 (.tmp 4) (.tmp 58), 0, "l03_log.go:77", #[⟨6, .data⟩, ⟨4, .chain⟩, ⟨0, .phase⟩, ⟨1, .phase⟩, ⟨2, .phase⟩, ⟨3, .phase⟩, ⟨4, .phase⟩, ⟨5, .phase⟩, ⟨6, .phase⟩, { on := 7, ground := Ground.textOnly Departure.lateStores }], none⟩
set_option maxHeartbeats 8000000 in
theorem l3Draw_ok {g : Nat} {w : World} (hc : CurOk w g) :
  Calls Tryz.prog 14 #[.pointer (some ⟨g, 0, none⟩)] w fun e w' => ∃ (cs : List Value) (m : MDisk) (s : ByteArray), e = .returned (.tuple #[.agg cs.toArray, .string s]) /\ s.size <= 20 /\ (∃ F, oDisk w' cs m F /\ ∀ b, b ∈ F -> w.heap.size <= b) /\ Fit m /\ CurOk w' g /\ Turn [g] w w' := by
 have hgl := hc.lt
 have HC := Hm hc
 clear hc
 go_enter Tryz.func14, Tryz.ntmps14
 go_wp2_with fail
 obtain ⟨wq, hwq⟩ : ∃ wq, wq = w.alloc (.cells #[.slice none 0 0, .slice none 0 0, .slice none 0 0, .int .i64 0] 27) := ⟨_, rfl⟩
 have hbq : Below w.heap.size w wq := by rw [hwq]; exact rB.alloc rN _
 have hbr : Bw wq w.heap.size 27 dZ := by rw [hwq]; exact Bw.new _ _ _
 rw [<- hwq]
 clear hwq
 have hrl := hbr.lt
 refine (l2Draw_ok 8 (HC.out.below hbq) (by omega)).mono ?_
 rintro e w1 ⟨cs1, m1, rfl, ho1, hf1, hc1, ht1⟩
 obtain ⟨a0, n0, c0, a1, n1, c1, a2, n2, c2, z, hcs1⟩ := odisk_four ho1
 subst hcs1
 replace hbr := hbr.turn ht1 (by simp; omega)
 have hrl1 := hbr.lt
 have HO1 := Hm ho1
 have HC1 := Hm hc1
 have HT1 := Hm ht1
 clear ho1 hc1 ht1
 go_wp2_with fail
 obtain ⟨w2, hw2⟩ : ∃ x, x = w1.alloc (.cells #[.slice a0 n0 c0, .slice a1 n1 c1, .slice a2 n2 c2, .int .i64 z] 27) := ⟨_, rfl⟩
 have hx2 : Below w1.heap.size w1 w2 := by rw [hw2]; exact rB.alloc rN _
 have hbd : Bw w2 w1.heap.size 27 [.slice a0 n0 c0, .slice a1 n1 c1, .slice a2 n2 c2, .int .i64 z] := by rw [hw2]; exact Bw.new _ _ _
 rw [<- hw2]
 obtain ⟨bd, hbdq⟩ : ∃ z, z = w1.heap.size := ⟨_, rfl⟩
 rw [<- hbdq] at hbd ⊢
 obtain ⟨br, hbrq⟩ : ∃ z, z = w.heap.size := ⟨_, rfl⟩
 have HST : Hid (DSt w g br bd w2 [.slice a0 n0 c0, .slice a1 n1 c1, .slice a2 n2 c2, .int .i64 z] m1) := by
  rw [hbrq]
  obtain ⟨F, ho, hF⟩ := HO1.out
  refine ⟨hbd, hbr.under hx2, ⟨F, oDisk_good.frame ho (fun b hb => hx2.block b (oDisk_good.lt ho b hb)), fun b hb => ?_⟩, hf1, HC1.out.below hx2, ((Turn.ofBelow hbq).trans HT1.out).trans (Turn.ofBelow hx2)⟩
  have := hF b hb
  have := oDisk_good.lt ho b hb
  exact ⟨by omega, by omega, by omega⟩
 have HPL : Hid (DPl w g br bd) := ⟨hgl, by omega, by have := HT1.out.size; omega, by omega⟩
 rw [<- hbrq]
 clear hw2 hx2 hbd hbdq hbrq hbr hbq hrl hrl1 hgl HC HO1 HC1 HT1 hf1
 generalize m1 = m at *
 refine (l2DrawName_ok HST.out.c).mono ?_
 rintro e w3 ⟨s, ⟨rfl, hs⟩, hc3, hg3⟩
 have hs20 := namesL_short s hs
 have hs1 : s.size <= 1048576 := by omega
 have hs2 : s.size <= 9223372036854775807 := by omega
 replace HST := Hm (HST.out.cur HPL.out hg3 hc3)
 clear hs hc3 hg3
 have hbd := HST.out.d
 obtain ⟨p0, p1, p2, p3⟩ := hbd.c4
 clear hbd
 go_wp2_with fail
 refine (specCreate_o _ m s w3 HST.out.read hs2 HST.out.f.small hs1).mono ?_
 rintro e w6 ⟨cs6, rfl, ho6, hx6⟩
 obtain ⟨d0, k0, e0, d1, k1, e1, d2, k2, e2, z2, hc6⟩ := odisk_four ho6
 subst hc6
 have HN := Hm (HST.out.put HPL.out rfl hx6 ho6 (fit_create HST.out.f))
 have hbd := HST.out.d.under hx6
 clear p0 p1 p2 p3 ho6 hx6 HST
 obtain ⟨p0, p1, p2, p3⟩ := hbd.c4
 obtain ⟨f0, f1, f2, f3⟩ := hbd.f4
 have l0 := hbd.lt
 clear hbd
 go_wp2_with fail
 clear p0 p1 p2 p3 f0 f1 f2 f3 l0
 generalize hW4 : ((((w6.setCell ⟨bd, 0, none⟩ (.slice d0 k0 e0)).setCell ⟨bd, 1, none⟩ (.slice d1 k1 e1)).setCell ⟨bd, 2, none⟩ (.slice d2 k2 e2)).setCell ⟨bd, 3, none⟩ (.int .i64 z2)) = w4 at HN ⊢
 clear hW4
 refine (l1Below_ok 5 HN.out.c).mono ?_
 rintro e w5 ⟨x, rfl, hx, hc5, hg5⟩
 have hx0 : 0 <= x := hx.1
 have hx5 : x <= 5 := by have := hx.2.2.1 (by omega); omega
 replace HN := Hm (HN.out.cur HPL.out hg5 hc5)
 clear hx hc5 hg5
 go_wp2_with fail
 go_loopw [6] (fun i wr => ∃ (a0 a1 a2 : Option Addr) (n0 c0 n1 c1 n2 c2 : Nat) (z : Int) (m : MDisk) (x : Int), i = .int .i64 x /\ 0 <= x /\ x <= 5 /\ Hid (DSt w g br bd wr [.slice a0 n0 c0, .slice a1 n1 c1, .slice a2 n2 c2, .int .i64 z] m)) (fun i _ => (intOf i).toNat)
 case atStart => exact ⟨d0, d1, d2, k0, e0, k1, e1, k2, e2, z2, _, x, rfl, hx0, hx5, HN⟩
 case round =>
  clear HN hx0 hx5
  generalize m = mo at *
  obtain ⟨a0, a1, a2, n0, c0, n1, c1, n2, c2, z, m, x, rfl, hx0, hx5, HST⟩ := hrel
  have HSM := Hm HST.out.f.small
  have HFT := Hm HST.out.f
  by_cases hlt : 0 < x
  ·go_wp2_with fail
   go_cut [4] (fun v wc => v = .pointer (some ⟨bd, 0, none⟩) /\ ∃ (a0 a1 a2 : Option Addr) (n0 c0 n1 c1 n2 c2 : Nat) (z : Int) (m : MDisk), Hid (DSt w g br bd wc [.slice a0 n0 c0, .slice a1 n1 c1, .slice a2 n2 c2, .int .i64 z] m))
   case first =>
    refine wp_region_held_drew (S := fun W => True) (by kernel_rfl) (trivial) (fun hZ => ?_)
    obtain ⟨wS, hwS⟩ : ∃ wS, wS = wr.drew := ⟨_, rfl⟩
    have HDS : Hid (DSt w g br bd wS [.slice a0 n0 c0, .slice a1 n1 c1, .slice a2 n2 c2, .int .i64 z] m) := by unfold Hid; rw [hwS]; exact HST.out.drew
    rw [<- hwS]
    clear hwS HST
    refine uq 1 q7fa_14_7_1 25 hZ ?_
    refine uq 2 q7fa_14_7_2 26 hZ ?_
    refine arR [0, 3] ?_
    refine (AllReadyH.cons (o := q7fa_14_7_0) rfl (fun K hK => ?_) (AllReadyH.cons (o := q7fa_14_7_3) rfl (fun K hK => ?_) AllReadyH.nil))
    ·go_simp
     have hD : DSt w g br bd wS [.slice a0 n0 c0, .slice a1 n1 c1, .slice a2 n2 c2, .int .i64 z] m := by first | exact HD3.out | exact HDS.out
     obtain ⟨p0, p1, p2, p3⟩ := hD.d.c4
     go_simp
     obtain ⟨wE0, hqL⟩ : ∃ x, x = wS := ⟨_, rfl⟩
     have HD0 : Hid (DSt w g br bd wE0 [.slice a0 n0 c0, .slice a1 n1 c1, .slice a2 n2 c2, .int .i64 z] m) := by unfold Hid; rw [hqL]; exact hD
     have hop0 : True := trivial
     (try rw [<- hqL] at HOB)
     rw [<- hqL]
     clear hqL p0 p1 p2 p3 hD
     refine hK.out _ _ (trivial) (fun hZ => ?_)
     clear hK K
     try simp only[Act.put,sa,s0,s1]
     refine ar1 3 q7fa_14_7_3 fun K hK => ?_
     ·go_simp
      have hD : DSt w g br bd wE0 [.slice a0 n0 c0, .slice a1 n1 c1, .slice a2 n2 c2, .int .i64 z] m := by first | exact HD0.out | exact HDS.out
      refine (l1Some_ok hD.c).mono ?_
      rintro e wE3 ⟨vb, rfl, bs, hb9, hbok, hob, hcx, hgx⟩
      obtain ⟨ab, cb, rfl⟩ := own_slice hob
      have HOB := Hm hob
      clear hob
      have HD3 : Hid (DSt w g br bd wE3 [.slice a0 n0 c0, .slice a1 n1 c1, .slice a2 n2 c2, .int .i64 z] m) := hD.cur HPL.out hgx hcx
      clear hD hgx hcx
      go_wp2_with fail
      refine hK.out _ _ (trivial) (fun hZ => ?_)
      clear hK K
      try simp only[Act.put,sa,s0,s1]
      refine ar1 4 q7fa_14_7_4 fun K hK => ?_
      ·go_simp
       have HST : Hid (DSt w g br bd wE3 [.slice a0 n0 c0, .slice a1 n1 c1, .slice a2 n2 c2, .int .i64 z] m) := by first | exact HD3 | exact HD0
       refine (specLog_o _ m s _ bs wE3 HST.out.read hs2 (ownB.read (e := 5) (F := _) ⟨own_base HOB.out (Nat.zero_le _), hbok, rfl⟩) HSM.out hs1 (by omega)).mono ?_
       rintro e wE4 ⟨cs6, rfl, ho6, hx6⟩
       obtain ⟨d0, k0, e0, d1, k1, e1, d2, k2, e2, z2, hc6⟩ := odisk_four ho6
       subst hc6
       have HN := Hm (HST.out.put HPL.out rfl hx6 ho6 (fit_append HFT.out))
       have HB6 := Hm (HST.out.d.under hx6)
       clear ho6 hx6
       go_wp2_with fail
       refine hK.out _ _ (trivial) (fun hZ => ?_)
       clear hK K
       try simp only[Act.put,sa,s0,s1]
       refine uq 5 q7fa_14_7_5 23 hZ ?_
       refine uq 6 q7fa_14_7_6 29 hZ ?_
       refine uq 7 q7fa_14_7_7 30 hZ ?_
       refine ar1 8 q7fa_14_7_8 fun K hK => ?_
       ·skip
        have hbd := HB6.out
        obtain ⟨p0, p1, p2, p3⟩ := hbd.c4
        obtain ⟨f0, f1, f2, f3⟩ := hbd.f4
        have l0 := hbd.lt
        clear hbd
        go_simp
        refine hK.out _ _ (trivial) (fun hZ => ?_)
        clear hK K
        try simp only[Act.put,sa,s0,s1]
        refine wpAnyH_done (by kernel_rfl) ?_ _
        clear p0 p1 p2 p3 f0 f1 f2 f3 l0
        go_wp2_with fail
        go_meet
        case rel => exact ⟨rfl, d0, d1, d2, k0, e0, k1, e1, k2, e2, z2, _, HN⟩
    ·go_simp
     have hD : DSt w g br bd wS [.slice a0 n0 c0, .slice a1 n1 c1, .slice a2 n2 c2, .int .i64 z] m := by first | exact HD0.out | exact HDS.out
     refine (l1Some_ok hD.c).mono ?_
     rintro e wE3 ⟨vb, rfl, bs, hb9, hbok, hob, hcx, hgx⟩
     obtain ⟨ab, cb, rfl⟩ := own_slice hob
     have HOB := Hm hob
     clear hob
     have HD3 : Hid (DSt w g br bd wE3 [.slice a0 n0 c0, .slice a1 n1 c1, .slice a2 n2 c2, .int .i64 z] m) := hD.cur HPL.out hgx hcx
     clear hD hgx hcx
     go_wp2_with fail
     refine hK.out _ _ (trivial) (fun hZ => ?_)
     clear hK K
     try simp only[Act.put,sa,s0,s1]
     refine ar1 0 q7fa_14_7_0 fun K hK => ?_
     ·go_simp
      have hD : DSt w g br bd wE3 [.slice a0 n0 c0, .slice a1 n1 c1, .slice a2 n2 c2, .int .i64 z] m := by first | exact HD3.out | exact HDS.out
      obtain ⟨p0, p1, p2, p3⟩ := hD.d.c4
      go_simp
      obtain ⟨wE0, hqL⟩ : ∃ x, x = wE3 := ⟨_, rfl⟩
      have HD0 : Hid (DSt w g br bd wE0 [.slice a0 n0 c0, .slice a1 n1 c1, .slice a2 n2 c2, .int .i64 z] m) := by unfold Hid; rw [hqL]; exact hD
      have hop0 : True := trivial
      (try rw [<- hqL] at HOB)
      rw [<- hqL]
      clear hqL p0 p1 p2 p3 hD
      refine hK.out _ _ (trivial) (fun hZ => ?_)
      clear hK K
      try simp only[Act.put,sa,s0,s1]
      refine ar1 4 q7fa_14_7_4 fun K hK => ?_
      ·go_simp
       have HST : Hid (DSt w g br bd wE0 [.slice a0 n0 c0, .slice a1 n1 c1, .slice a2 n2 c2, .int .i64 z] m) := by first | exact HD3 | exact HD0
       refine (specLog_o _ m s _ bs wE0 HST.out.read hs2 (ownB.read (e := 5) (F := _) ⟨own_base HOB.out (Nat.zero_le _), hbok, rfl⟩) HSM.out hs1 (by omega)).mono ?_
       rintro e wE4 ⟨cs6, rfl, ho6, hx6⟩
       obtain ⟨d0, k0, e0, d1, k1, e1, d2, k2, e2, z2, hc6⟩ := odisk_four ho6
       subst hc6
       have HN := Hm (HST.out.put HPL.out rfl hx6 ho6 (fit_append HFT.out))
       have HB6 := Hm (HST.out.d.under hx6)
       clear ho6 hx6
       go_wp2_with fail
       refine hK.out _ _ (trivial) (fun hZ => ?_)
       clear hK K
       try simp only[Act.put,sa,s0,s1]
       refine uq 5 q7fa_14_7_5 23 hZ ?_
       refine uq 6 q7fa_14_7_6 29 hZ ?_
       refine uq 7 q7fa_14_7_7 30 hZ ?_
       refine ar1 8 q7fa_14_7_8 fun K hK => ?_
       ·skip
        have hbd := HB6.out
        obtain ⟨p0, p1, p2, p3⟩ := hbd.c4
        obtain ⟨f0, f1, f2, f3⟩ := hbd.f4
        have l0 := hbd.lt
        clear hbd
        go_simp
        refine hK.out _ _ (trivial) (fun hZ => ?_)
        clear hK K
        try simp only[Act.put,sa,s0,s1]
        refine wpAnyH_done (by kernel_rfl) ?_ _
        clear p0 p1 p2 p3 f0 f1 f2 f3 l0
        go_wp2_with fail
        go_meet
        case rel => exact ⟨rfl, d0, d1, d2, k0, e0, k1, e1, k2, e2, z2, _, HN⟩
   case rest =>
    clear HST HSM HFT
    obtain ⟨rfl, a0, a1, a2, n0, c0, n1, c1, n2, c2, z, m, HST⟩ := hcut
    generalize wc = wv at *
    go_wp2_with fail
    refine (l1Once_ok 3 HST.out.c).mono ?_
    rintro e wo ⟨bo, rfl, hco, hgo⟩
    replace HST := Hm (HST.out.cur HPL.out hgo hco)
    clear hco hgo
    cases bo with
    | false =>
     go_wp2_with fail
     go_roundw
     case rel => exact ⟨a0, a1, a2, n0, c0, n1, c1, n2, c2, z, m, x - 1, rfl, by omega, by omega, HST⟩
     case measure => simp [intOf]; omega
    | true =>
     have hbd := HST.out.d
     obtain ⟨p0, p1, p2, p3⟩ := hbd.c4
     clear hbd
     go_wp2_with fail
     refine (specSync_o _ m s wo HST.out.read hs2 HST.out.f.small hs1).mono ?_
     rintro e w6 ⟨cs6, rfl, ho6, hx6⟩
     obtain ⟨d0, k0, e0, d1, k1, e1, d2, k2, e2, z2, hc6⟩ := odisk_four ho6
     subst hc6
     have HN := Hm (HST.out.put HPL.out rfl hx6 ho6 (fit_sync HST.out.f))
     have hbd := HST.out.d.under hx6
     clear p0 p1 p2 p3 ho6 hx6 HST
     obtain ⟨p0, p1, p2, p3⟩ := hbd.c4
     obtain ⟨f0, f1, f2, f3⟩ := hbd.f4
     have l0 := hbd.lt
     clear hbd
     go_wp2_with fail
     go_roundw
     case rel => exact ⟨d0, d1, d2, k0, e0, k1, e1, k2, e2, z2, _, x - 1, rfl, by omega, by omega, HN⟩
     case measure => simp [intOf]; omega
  ·go_wp2_with fail
   refine (l1Once_ok 2 HST.out.c).mono ?_
   rintro e wo ⟨bo, rfl, hco, hgo⟩
   replace HST := Hm (HST.out.cur HPL.out hgo hco)
   clear hco hgo hx0 hx5 hlt
   go_upto_if 40 with fail
   go_cut [4] (fun v wc => v = .pointer (some ⟨bd, 0, none⟩) /\ ∃ (a0 a1 a2 : Option Addr) (n0 c0 n1 c1 n2 c2 : Nat) (z : Int) (m : MDisk), Hid (DSt w g br bd wc [.slice a0 n0 c0, .slice a1 n1 c1, .slice a2 n2 c2, .int .i64 z] m))
   case first =>
    cases bo with
    | false =>
     go_wp2_with fail
     go_meet
     case rel => exact ⟨rfl, a0, a1, a2, n0, c0, n1, c1, n2, c2, z, m, HST⟩
    | true =>
     have hbd := HST.out.d
     obtain ⟨p0, p1, p2, p3⟩ := hbd.c4
     clear hbd
     go_wp2_with fail
     refine (specSyncDir_o _ m wo HST.out.read HST.out.f.small).mono ?_
     rintro e w6 ⟨cs6, rfl, ho6, hx6⟩
     obtain ⟨d0, k0, e0, d1, k1, e1, d2, k2, e2, z2, hc6⟩ := odisk_four ho6
     subst hc6
     have HN := Hm (HST.out.put HPL.out rfl hx6 ho6 (fit_syncDir HST.out.f))
     have hbd := HST.out.d.under hx6
     clear p0 p1 p2 p3 ho6 hx6 HST HSM HFT
     obtain ⟨p0, p1, p2, p3⟩ := hbd.c4
     obtain ⟨f0, f1, f2, f3⟩ := hbd.f4
     have l0 := hbd.lt
     clear hbd
     go_wp2_with fail
     clear p0 p1 p2 p3 f0 f1 f2 f3 l0
     generalize hW4 : ((((w6.setCell ⟨bd, 0, none⟩ (.slice d0 k0 e0)).setCell ⟨bd, 1, none⟩ (.slice d1 k1 e1)).setCell ⟨bd, 2, none⟩ (.slice d2 k2 e2)).setCell ⟨bd, 3, none⟩ (.int .i64 z2)) = wv at HN ⊢
     clear hW4
     generalize hmm : syncDirP m = m2 at HN
     clear hmm
     generalize m = mo at *
     generalize m2 = m at *
     generalize d0 = a0 at *
     generalize d1 = a1 at *
     generalize d2 = a2 at *
     generalize k0 = n0 at *
     generalize k1 = n1 at *
     generalize k2 = n2 at *
     generalize e0 = c0 at *
     generalize e1 = c1 at *
     generalize e2 = c2 at *
     generalize z2 = z at *
     have HST := HN
     have HSM := Hm HST.out.f.small
     have HFT := Hm HST.out.f
     clear HN
     refine wp_region_held_drew (S := fun W => True) (by kernel_rfl) (trivial) (fun hZ => ?_)
     obtain ⟨wS, hwS⟩ : ∃ wS, wS = wv.drew := ⟨_, rfl⟩
     have HDS : Hid (DSt w g br bd wS [.slice a0 n0 c0, .slice a1 n1 c1, .slice a2 n2 c2, .int .i64 z] m) := by unfold Hid; rw [hwS]; exact HST.out.drew
     rw [<- hwS]
     clear hwS HST
     refine uq 1 q7fa_14_12_1 47 hZ ?_
     refine arR [0, 2] ?_
     refine (AllReadyH.cons (o := q7fa_14_12_0) rfl (fun K hK => ?_) (AllReadyH.cons (o := q7fa_14_12_2) rfl (fun K hK => ?_) AllReadyH.nil))
     ·go_simp
      have hD : DSt w g br bd wS [.slice a0 n0 c0, .slice a1 n1 c1, .slice a2 n2 c2, .int .i64 z] m := by first | exact HD2.out | exact HDS.out
      obtain ⟨p0, p1, p2, p3⟩ := hD.d.c4
      go_simp
      obtain ⟨wE0, hqL⟩ : ∃ x, x = wS := ⟨_, rfl⟩
      have HD0 : Hid (DSt w g br bd wE0 [.slice a0 n0 c0, .slice a1 n1 c1, .slice a2 n2 c2, .int .i64 z] m) := by unfold Hid; rw [hqL]; exact hD
      have hop0 : True := trivial
      (try rw [<- hqL] at HOB)
      rw [<- hqL]
      clear hqL p0 p1 p2 p3 hD
      refine hK.out _ _ (trivial) (fun hZ => ?_)
      clear hK K
      try simp only[Act.put,sa,s0,s1]
      refine ar1 2 q7fa_14_12_2 fun K hK => ?_
      ·go_simp
       have hD : DSt w g br bd wE0 [.slice a0 n0 c0, .slice a1 n1 c1, .slice a2 n2 c2, .int .i64 z] m := by first | exact HD0.out | exact HDS.out
       refine (l1Below_ok 12 hD.c).mono ?_
       rintro e wE2 ⟨kf, rfl, hkf, hcx, hgx⟩
       have hkf4 : 0 <= kf /\ kf < 16777216 := ⟨hkf.1, hkf.2.1⟩
       clear hkf
       have HD2 : Hid (DSt w g br bd wE2 [.slice a0 n0 c0, .slice a1 n1 c1, .slice a2 n2 c2, .int .i64 z] m) := hD.cur HPL.out hgx hcx
       clear hD hgx hcx
       go_wp2_with fail
       refine hK.out _ _ (trivial) (fun hZ => ?_)
       clear hK K
       try simp only[Act.put,sa,s0,s1]
       refine ar1 3 q7fa_14_12_3 fun K hK => ?_
       ·go_simp
        have HST : Hid (DSt w g br bd wE2 [.slice a0 n0 c0, .slice a1 n1 c1, .slice a2 n2 c2, .int .i64 z] m) := by first | exact HD2 | exact HD0
        refine (specFall_o _ m kf wE2 HST.out.read (WalkArith.wf_i64 (by omega)) HSM.out).mono ?_
        rintro e wE3 ⟨cs6, rfl, ho6, hx6⟩
        obtain ⟨d0, k0, e0, d1, k1, e1, d2, k2, e2, z2, hc6⟩ := odisk_four ho6
        subst hc6
        have HN := Hm (HST.out.put HPL.out rfl hx6 ho6 (fit_fall HFT.out))
        have HB6 := Hm (HST.out.d.under hx6)
        clear ho6 hx6
        go_wp2_with fail
        refine hK.out _ _ (trivial) (fun hZ => ?_)
        clear hK K
        try simp only[Act.put,sa,s0,s1]
        refine ar1 4 q7fa_14_12_4 fun K hK => ?_
        ·skip
         have hbd := HB6.out
         obtain ⟨p0, p1, p2, p3⟩ := hbd.c4
         obtain ⟨f0, f1, f2, f3⟩ := hbd.f4
         have l0 := hbd.lt
         clear hbd
         go_simp
         refine hK.out _ _ (trivial) (fun hZ => ?_)
         clear hK K
         try simp only[Act.put,sa,s0,s1]
         refine wpAnyH_done (by kernel_rfl) ?_ _
         clear p0 p1 p2 p3 f0 f1 f2 f3 l0
         go_wp2_with fail
         go_meet
         case rel => exact ⟨rfl, d0, d1, d2, k0, e0, k1, e1, k2, e2, z2, _, HN⟩
     ·go_simp
      have hD : DSt w g br bd wS [.slice a0 n0 c0, .slice a1 n1 c1, .slice a2 n2 c2, .int .i64 z] m := by first | exact HD0.out | exact HDS.out
      refine (l1Below_ok 12 hD.c).mono ?_
      rintro e wE2 ⟨kf, rfl, hkf, hcx, hgx⟩
      have hkf4 : 0 <= kf /\ kf < 16777216 := ⟨hkf.1, hkf.2.1⟩
      clear hkf
      have HD2 : Hid (DSt w g br bd wE2 [.slice a0 n0 c0, .slice a1 n1 c1, .slice a2 n2 c2, .int .i64 z] m) := hD.cur HPL.out hgx hcx
      clear hD hgx hcx
      go_wp2_with fail
      refine hK.out _ _ (trivial) (fun hZ => ?_)
      clear hK K
      try simp only[Act.put,sa,s0,s1]
      refine ar1 0 q7fa_14_12_0 fun K hK => ?_
      ·go_simp
       have hD : DSt w g br bd wE2 [.slice a0 n0 c0, .slice a1 n1 c1, .slice a2 n2 c2, .int .i64 z] m := by first | exact HD2.out | exact HDS.out
       obtain ⟨p0, p1, p2, p3⟩ := hD.d.c4
       go_simp
       obtain ⟨wE0, hqL⟩ : ∃ x, x = wE2 := ⟨_, rfl⟩
       have HD0 : Hid (DSt w g br bd wE0 [.slice a0 n0 c0, .slice a1 n1 c1, .slice a2 n2 c2, .int .i64 z] m) := by unfold Hid; rw [hqL]; exact hD
       have hop0 : True := trivial
       (try rw [<- hqL] at HOB)
       rw [<- hqL]
       clear hqL p0 p1 p2 p3 hD
       refine hK.out _ _ (trivial) (fun hZ => ?_)
       clear hK K
       try simp only[Act.put,sa,s0,s1]
       refine ar1 3 q7fa_14_12_3 fun K hK => ?_
       ·go_simp
        have HST : Hid (DSt w g br bd wE0 [.slice a0 n0 c0, .slice a1 n1 c1, .slice a2 n2 c2, .int .i64 z] m) := by first | exact HD2 | exact HD0
        refine (specFall_o _ m kf wE0 HST.out.read (WalkArith.wf_i64 (by omega)) HSM.out).mono ?_
        rintro e wE3 ⟨cs6, rfl, ho6, hx6⟩
        obtain ⟨d0, k0, e0, d1, k1, e1, d2, k2, e2, z2, hc6⟩ := odisk_four ho6
        subst hc6
        have HN := Hm (HST.out.put HPL.out rfl hx6 ho6 (fit_fall HFT.out))
        have HB6 := Hm (HST.out.d.under hx6)
        clear ho6 hx6
        go_wp2_with fail
        refine hK.out _ _ (trivial) (fun hZ => ?_)
        clear hK K
        try simp only[Act.put,sa,s0,s1]
        refine ar1 4 q7fa_14_12_4 fun K hK => ?_
        ·skip
         have hbd := HB6.out
         obtain ⟨p0, p1, p2, p3⟩ := hbd.c4
         obtain ⟨f0, f1, f2, f3⟩ := hbd.f4
         have l0 := hbd.lt
         clear hbd
         go_simp
         refine hK.out _ _ (trivial) (fun hZ => ?_)
         clear hK K
         try simp only[Act.put,sa,s0,s1]
         refine wpAnyH_done (by kernel_rfl) ?_ _
         clear p0 p1 p2 p3 f0 f1 f2 f3 l0
         go_wp2_with fail
         go_meet
         case rel => exact ⟨rfl, d0, d1, d2, k0, e0, k1, e1, k2, e2, z2, _, HN⟩
   case rest =>
    clear HST HSM HFT
    obtain ⟨rfl, a0, a1, a2, n0, c0, n1, c1, n2, c2, z, m, HST⟩ := hcut
    generalize wc = wv at *
    have HSM := Hm HST.out.f.small
    have HFT := Hm HST.out.f
    go_wp2_with fail
    refine (l1Once_ok 4 HST.out.c).mono ?_
    rintro e wo2 ⟨bo2, rfl, hco, hgo⟩
    replace HST := Hm (HST.out.cur HPL.out hgo hco)
    clear hco hgo
    go_upto_if 51 with fail
    go_cut [4] (fun v wc => v = .pointer (some ⟨bd, 0, none⟩) /\ ∃ (a0 a1 a2 : Option Addr) (n0 c0 n1 c1 n2 c2 : Nat) (z : Int) (m : MDisk), Hid (DSt w g br bd wc [.slice a0 n0 c0, .slice a1 n1 c1, .slice a2 n2 c2, .int .i64 z] m))
    case first =>
     cases bo2 with
     | false =>
      go_wp2_with fail
      go_meet
      case rel => exact ⟨rfl, a0, a1, a2, n0, c0, n1, c1, n2, c2, z, m, HST⟩
     | true =>
      go_wp2_with fail
      refine wp_region_held_drew (S := fun W => True) (by kernel_rfl) (trivial) (fun hZ => ?_)
      obtain ⟨wS, hwS⟩ : ∃ wS, wS = wo2.drew := ⟨_, rfl⟩
      have HDS : Hid (DSt w g br bd wS [.slice a0 n0 c0, .slice a1 n1 c1, .slice a2 n2 c2, .int .i64 z] m) := by unfold Hid; rw [hwS]; exact HST.out.drew
      rw [<- hwS]
      clear hwS HST
      refine uq 1 q7fa_14_14_1 54 hZ ?_
      refine uq 2 q7fa_14_14_2 55 hZ ?_
      refine arR [0, 3] ?_
      refine (AllReadyH.cons (o := q7fa_14_14_0) rfl (fun K hK => ?_) (AllReadyH.cons (o := q7fa_14_14_3) rfl (fun K hK => ?_) AllReadyH.nil))
      ·go_simp
       have hD : DSt w g br bd wS [.slice a0 n0 c0, .slice a1 n1 c1, .slice a2 n2 c2, .int .i64 z] m := by first | exact HD3.out | exact HDS.out
       obtain ⟨p0, p1, p2, p3⟩ := hD.d.c4
       go_simp
       obtain ⟨wE0, hqL⟩ : ∃ x, x = wS := ⟨_, rfl⟩
       have HD0 : Hid (DSt w g br bd wE0 [.slice a0 n0 c0, .slice a1 n1 c1, .slice a2 n2 c2, .int .i64 z] m) := by unfold Hid; rw [hqL]; exact hD
       have hop0 : True := trivial
       (try rw [<- hqL] at HOB)
       rw [<- hqL]
       clear hqL p0 p1 p2 p3 hD
       refine hK.out _ _ (trivial) (fun hZ => ?_)
       clear hK K
       try simp only[Act.put,sa,s0,s1]
       refine ar1 3 q7fa_14_14_3 fun K hK => ?_
       ·go_simp
        have hD : DSt w g br bd wE0 [.slice a0 n0 c0, .slice a1 n1 c1, .slice a2 n2 c2, .int .i64 z] m := by first | exact HD0.out | exact HDS.out
        refine (l1Some_ok hD.c).mono ?_
        rintro e wE3 ⟨vb, rfl, bs, hb9, hbok, hob, hcx, hgx⟩
        obtain ⟨ab, cb, rfl⟩ := own_slice hob
        have HOB := Hm hob
        clear hob
        have HD3 : Hid (DSt w g br bd wE3 [.slice a0 n0 c0, .slice a1 n1 c1, .slice a2 n2 c2, .int .i64 z] m) := hD.cur HPL.out hgx hcx
        clear hD hgx hcx
        go_wp2_with fail
        refine hK.out _ _ (trivial) (fun hZ => ?_)
        clear hK K
        try simp only[Act.put,sa,s0,s1]
        refine ar1 4 q7fa_14_14_4 fun K hK => ?_
        ·go_simp
         have HST : Hid (DSt w g br bd wE3 [.slice a0 n0 c0, .slice a1 n1 c1, .slice a2 n2 c2, .int .i64 z] m) := by first | exact HD3 | exact HD0
         refine (specAppend_o _ m s _ bs wE3 HST.out.read hs2 (ownB.read (e := 5) (F := _) ⟨own_base HOB.out (Nat.zero_le _), hbok, rfl⟩) HSM.out hs1 (by omega)).mono ?_
         rintro e wE4 ⟨cs6, F6, rfl, ho6, hg6, hx6⟩
         replace ho6 : ∃ F, oDisk wE4 cs6 _ F /\ ∀ b, b ∈ F -> wE3.heap.size <= b := ⟨F6, ho6, hg6⟩
         obtain ⟨d0, k0, e0, d1, k1, e1, d2, k2, e2, z2, hc6⟩ := odisk_four ho6
         subst hc6
         have HN := Hm (HST.out.put HPL.out rfl hx6 ho6 (fit_append HFT.out))
         have HB6 := Hm (HST.out.d.under hx6)
         clear ho6 hx6
         go_wp2_with fail
         refine hK.out _ _ (trivial) (fun hZ => ?_)
         clear hK K
         try simp only[Act.put,sa,s0,s1]
         refine uq 5 q7fa_14_14_5 52 hZ ?_
         refine uq 6 q7fa_14_14_6 58 hZ ?_
         refine uq 7 q7fa_14_14_7 59 hZ ?_
         refine ar1 8 q7fa_14_14_8 fun K hK => ?_
         ·skip
          have hbd := HB6.out
          obtain ⟨p0, p1, p2, p3⟩ := hbd.c4
          obtain ⟨f0, f1, f2, f3⟩ := hbd.f4
          have l0 := hbd.lt
          clear hbd
          go_simp
          refine hK.out _ _ (trivial) (fun hZ => ?_)
          clear hK K
          try simp only[Act.put,sa,s0,s1]
          refine wpAnyH_done (by kernel_rfl) ?_ _
          clear p0 p1 p2 p3 f0 f1 f2 f3 l0
          go_wp2_with fail
          go_meet
          case rel => exact ⟨rfl, d0, d1, d2, k0, e0, k1, e1, k2, e2, z2, _, HN⟩
      ·go_simp
       have hD : DSt w g br bd wS [.slice a0 n0 c0, .slice a1 n1 c1, .slice a2 n2 c2, .int .i64 z] m := by first | exact HD0.out | exact HDS.out
       refine (l1Some_ok hD.c).mono ?_
       rintro e wE3 ⟨vb, rfl, bs, hb9, hbok, hob, hcx, hgx⟩
       obtain ⟨ab, cb, rfl⟩ := own_slice hob
       have HOB := Hm hob
       clear hob
       have HD3 : Hid (DSt w g br bd wE3 [.slice a0 n0 c0, .slice a1 n1 c1, .slice a2 n2 c2, .int .i64 z] m) := hD.cur HPL.out hgx hcx
       clear hD hgx hcx
       go_wp2_with fail
       refine hK.out _ _ (trivial) (fun hZ => ?_)
       clear hK K
       try simp only[Act.put,sa,s0,s1]
       refine ar1 0 q7fa_14_14_0 fun K hK => ?_
       ·go_simp
        have hD : DSt w g br bd wE3 [.slice a0 n0 c0, .slice a1 n1 c1, .slice a2 n2 c2, .int .i64 z] m := by first | exact HD3.out | exact HDS.out
        obtain ⟨p0, p1, p2, p3⟩ := hD.d.c4
        go_simp
        obtain ⟨wE0, hqL⟩ : ∃ x, x = wE3 := ⟨_, rfl⟩
        have HD0 : Hid (DSt w g br bd wE0 [.slice a0 n0 c0, .slice a1 n1 c1, .slice a2 n2 c2, .int .i64 z] m) := by unfold Hid; rw [hqL]; exact hD
        have hop0 : True := trivial
        (try rw [<- hqL] at HOB)
        rw [<- hqL]
        clear hqL p0 p1 p2 p3 hD
        refine hK.out _ _ (trivial) (fun hZ => ?_)
        clear hK K
        try simp only[Act.put,sa,s0,s1]
        refine ar1 4 q7fa_14_14_4 fun K hK => ?_
        ·go_simp
         have HST : Hid (DSt w g br bd wE0 [.slice a0 n0 c0, .slice a1 n1 c1, .slice a2 n2 c2, .int .i64 z] m) := by first | exact HD3 | exact HD0
         refine (specAppend_o _ m s _ bs wE0 HST.out.read hs2 (ownB.read (e := 5) (F := _) ⟨own_base HOB.out (Nat.zero_le _), hbok, rfl⟩) HSM.out hs1 (by omega)).mono ?_
         rintro e wE4 ⟨cs6, F6, rfl, ho6, hg6, hx6⟩
         replace ho6 : ∃ F, oDisk wE4 cs6 _ F /\ ∀ b, b ∈ F -> wE0.heap.size <= b := ⟨F6, ho6, hg6⟩
         obtain ⟨d0, k0, e0, d1, k1, e1, d2, k2, e2, z2, hc6⟩ := odisk_four ho6
         subst hc6
         have HN := Hm (HST.out.put HPL.out rfl hx6 ho6 (fit_append HFT.out))
         have HB6 := Hm (HST.out.d.under hx6)
         clear ho6 hx6
         go_wp2_with fail
         refine hK.out _ _ (trivial) (fun hZ => ?_)
         clear hK K
         try simp only[Act.put,sa,s0,s1]
         refine uq 5 q7fa_14_14_5 52 hZ ?_
         refine uq 6 q7fa_14_14_6 58 hZ ?_
         refine uq 7 q7fa_14_14_7 59 hZ ?_
         refine ar1 8 q7fa_14_14_8 fun K hK => ?_
         ·skip
          have hbd := HB6.out
          obtain ⟨p0, p1, p2, p3⟩ := hbd.c4
          obtain ⟨f0, f1, f2, f3⟩ := hbd.f4
          have l0 := hbd.lt
          clear hbd
          go_simp
          refine hK.out _ _ (trivial) (fun hZ => ?_)
          clear hK K
          try simp only[Act.put,sa,s0,s1]
          refine wpAnyH_done (by kernel_rfl) ?_ _
          clear p0 p1 p2 p3 f0 f1 f2 f3 l0
          go_wp2_with fail
          go_meet
          case rel => exact ⟨rfl, d0, d1, d2, k0, e0, k1, e1, k2, e2, z2, _, HN⟩
    case rest =>
     clear HST HSM HFT
     obtain ⟨rfl, a0, a1, a2, n0, c0, n1, c1, n2, c2, z, m, HST⟩ := hcut
     generalize wc = wr at *
     have hbd := HST.out.d
     have hbr := HST.out.r
     obtain ⟨p0, p1, p2, p3⟩ := hbd.c4
     obtain ⟨q0, q1, q2, q3⟩ := hbr.c4
     obtain ⟨e0, e1, e2, e3⟩ := hbr.f4
     have l0 := hbr.lt
     have HP := Hm (fun W (hT : Turn [br] wr W) => (show (∃ F, oDisk W [.slice a0 n0 c0, .slice a1 n1 c1, .slice a2 n2 c2, .int .i64 z] m F /\ ∀ b, b ∈ F -> w.heap.size <= b) /\ Fit m /\ CurOk W g /\ Turn [g] w W from HST.out.leave HPL.out hT))
     clear hbd hbr HST
     go_wp2_with fail
     refine bodyPost_ret (v := .tuple #[.agg #[.slice a0 n0 c0, .slice a1 n1 c1, .slice a2 n2 c2, .int .i64 z], .string s]) (by simp [results, Tryz.results14, go_sem, *]) rfl ⟨[.slice a0 n0 c0, .slice a1 n1 c1, .slice a2 n2 c2, .int .i64 z], m, s, rfl, hs20, HP.out _ ?_⟩
     exact turn4 _ _ _ _ _ _
structure MSD (w : World) (g br bd : Nat) (W : World) (cs : List Value) (m : MDisk) : Prop where
 d : Bw W bd 27 cs
 r : Bw W br 27 dZ
 k : rDisk W.heap.size W cs m
 s : wDisk m <= 1048576
 c : CurOk W g
 b : Below w.heap.size w W
section
variable {w : World} {g br bd : Nat} {W W' : World} {cs : List Value} {m : MDisk}
theorem MSD.cur (hg : w.heap.size <= g) (hr : br < g) (hd : g < bd) (h : MSD w g br bd W cs m) (hgr : W.grownBy W' (some g)) (hc : CurOk W' g) : MSD w g br bd W' cs m := by
 have ht : Turn [g] W W' := Turn.ofGrown hgr (fun k hk => by simp at hk; simp [hk])
 exact ⟨h.d.turn ht (by simp; omega), h.r.turn ht (by simp; omega), rDisk_good.mono (rDisk_cur h.c ht h.k) ht.size, h.s, hc, h.b.trans (ht.below (fun k hk => by simp at hk; omega) h.b.size)⟩
end
set_option maxHeartbeats 4000000 in
theorem drawMend_ok (a : Option Addr) (n cap : Nat) (zs : List Int) (w : World) (hx : zs.length = n) (hn : n <= 1048576) (hr : Rd .u8 w.heap.size w a zs) :
  Calls Tryz.prog 5 #[.slice a n cap] w fun e w' => DiskTwo w e w' := by
 have HX := Hm hx
 have HR := Hm hr
 clear hx hr
 go_enter Tryz.func5, Tryz.ntmps5
 go_wp2_with fail
 obtain ⟨wq, hwq⟩ : ∃ wq, wq = w.alloc (.cells #[.slice none 0 0, .slice none 0 0, .slice none 0 0, .int .i64 0] 27) := ⟨_, rfl⟩
 have hbq : Below w.heap.size w wq := by rw [hwq]; exact rB.alloc rN _
 have hbr : Bw wq w.heap.size 27 dZ := by rw [hwq]; exact Bw.new _ _ _
 rw [<- hwq]
 clear hwq
 have hrl := hbr.lt
 refine (l1New_any a n cap zs wq HX.out (by omega) ((HR.out.below hbq).mono hbq.size)).mono ?_
 rintro e w1 ⟨rfl, hc1, hx1⟩
 obtain ⟨g, hg⟩ : ∃ x, x = wq.heap.size := ⟨_, rfl⟩
 obtain ⟨br, hbrq⟩ : ∃ x, x = w.heap.size := ⟨_, rfl⟩
 have hrg : br < g := by omega
 have hwg : w.heap.size <= g := by omega
 have hwb : w.heap.size <= br := by omega
 replace hbr := hbr.under hx1
 have hB1 := bthen hbq hx1
 rw [<- hg] at hc1 ⊢
 rw [<- hbrq] at hbr ⊢
 clear hg hbrq hrl hx1 hbq HX HR
 go_wp2_with fail
 refine (l3Draw_ok hc1).mono ?_
 rintro e w2 ⟨cs2, m, s, rfl, hs20, ⟨F2, ho2, hF2⟩, hf2, hc2, ht2⟩
 have hgl := hc1.lt
 have hk2 := oDisk_good.read ho2
 obtain ⟨a0, n0, c0, a1, n1, c1, a2, n2, c2, z, hcs⟩ := rdisk_four hk2
 subst hcs
 have hbr2 := hbr.turn ht2 (by simp; omega)
 have hB2 : Below w.heap.size w w2 := hB1.trans (ht2.below (fun k hk => by simp at hk; omega) hB1.size)
 have HK2 := Hm hk2
 have hz2 := ht2.size
 have HC2 := Hm hc2
 clear hk2 ht2 hbr hB1 hc1 ho2 hF2 hc2
 go_wp2_with fail
 obtain ⟨w4, hw4⟩ : ∃ x, x = w2.alloc (.cells #[.slice a0 n0 c0, .slice a1 n1 c1, .slice a2 n2 c2, .int .i64 z] 27) := ⟨_, rfl⟩
 have hx4 : Below w2.heap.size w2 w4 := by rw [hw4]; exact rB.alloc rN _
 have hbd : Bw w4 w2.heap.size 27 [.slice a0 n0 c0, .slice a1 n1 c1, .slice a2 n2 c2, .int .i64 z] := by rw [hw4]; exact Bw.new _ _ _
 rw [<- hw4]
 obtain ⟨bd, hbdq⟩ : ∃ x, x = w2.heap.size := ⟨_, rfl⟩
 have hgbd : g < bd := by have := HC2.out.lt; omega
 rw [<- hbdq] at hbd ⊢
 have HS : Hid (MSD w g br bd w4 [.slice a0 n0 c0, .slice a1 n1 c1, .slice a2 n2 c2, .int .i64 z] m) := ⟨hbd, hbr2.under hx4, rDisk_good.mono (rDisk_good.below HK2.out hx4) hx4.size, hf2.small, HC2.out.below hx4, bthen hB2 hx4⟩
 clear hw4 hx4 hbd hbdq hbr2 hB2 HC2 HK2 hz2 hgl hf2
 refine (l1Once_ok 8 HS.out.c).mono ?_
 rintro e w5 ⟨bo, rfl, hc5, hg5⟩
 replace HS := Hm (HS.out.cur hwg hrg hgbd hg5 hc5)
 clear hc5 hg5
 go_upto_if 15 with fail
 go_cut [5] (fun v wc => v = .pointer (some ⟨bd, 0, none⟩) /\ ∃ (a0 a1 a2 : Option Addr) (n0 c0 n1 c1 n2 c2 : Nat) (z : Int) (m : MDisk), Hid (MSD w g br bd wc [.slice a0 n0 c0, .slice a1 n1 c1, .slice a2 n2 c2, .int .i64 z] m))
 case first =>
  cases bo with
  | false =>
   go_wp2_with fail
   go_meet
   case rel => exact ⟨rfl, a0, a1, a2, n0, c0, n1, c1, n2, c2, z, m, HS⟩
  | true =>
   go_wp2_with fail
   refine (l2DrawAny_ok 10 HS.out.c (by omega)).mono ?_
   rintro e w6 ⟨cs6, m6, rfl, hk6, hs6, hc6, ht6⟩
   obtain ⟨d0, k0, e0, d1, k1, e1, d2, k2, e2, z2, hcs6⟩ := rdisk_four hk6
   subst hcs6
   have hbd := HS.out.d.turn ht6 (by simp; omega)
   have hbr := HS.out.r.turn ht6 (by simp; omega)
   have hT := turn4 w6 bd (.slice d0 k0 e0) (.slice d1 k1 e1) (.slice d2 k2 e2) (.int .i64 z2)
   have hzz : ((((w6.setCell ⟨bd, 0, none⟩ (.slice d0 k0 e0)).setCell ⟨bd, 1, none⟩ (.slice d1 k1 e1)).setCell ⟨bd, 2, none⟩ (.slice d2 k2 e2)).setCell ⟨bd, 3, none⟩ (.int .i64 z2)).heap.size = w6.heap.size := by simp
   have hK0 : rDisk w6.heap.size w6 [.slice a0 n0 c0, .slice a1 n1 c1, .slice a2 n2 c2, .int .i64 z] m := rDisk_good.mono (rDisk_cur HS.out.c ht6 HS.out.k) ht6.size
   have HN : Hid (MSD w g br bd ((((w6.setCell ⟨bd, 0, none⟩ (.slice d0 k0 e0)).setCell ⟨bd, 1, none⟩ (.slice d1 k1 e1)).setCell ⟨bd, 2, none⟩ (.slice d2 k2 e2)).setCell ⟨bd, 3, none⟩ (.int .i64 z2)) [.slice d0 k0 e0, .slice d1 k1 e1, .slice d2 k2 e2, .int .i64 z2] m6) := by
    have h1 := HS.out.b.size
    have hB6 : Below w.heap.size w w6 := HS.out.b.trans (ht6.below (fun k hk => by simp at hk; omega) h1)
    refine ⟨hbd.put4 rfl _ _ _ _, hbr.turn hT (by simp; omega), ?_, hs6, hc6.turn hT hgbd, hB6.trans (hT.below (fun k hk => by simp at hk; omega) hB6.size)⟩
    rw [hzz]
    exact rDisk_turn (Bw.dbox hbd hK0) hT hk6
   obtain ⟨p0, p1, p2, p3⟩ := hbd.c4
   obtain ⟨f0, f1, f2, f3⟩ := hbd.f4
   have l0 := hbd.lt
   clear hbd hbr hT hK0 hzz hk6 hs6 hc6 ht6 HS
   go_wp2_with fail
   go_meet
   case rel => exact ⟨rfl, d0, d1, d2, k0, e0, k1, e1, k2, e2, z2, m6, HN⟩
 case rest =>
  clear HS
  obtain ⟨rfl, a0, a1, a2, n0, c0, n1, c1, n2, c2, z, m, HS⟩ := hcut
  generalize wc = wr at *
  have hbd := HS.out.d
  have hbr := HS.out.r
  obtain ⟨p0, p1, p2, p3⟩ := hbd.c4
  obtain ⟨q0, q1, q2, q3⟩ := hbr.c4
  obtain ⟨e0, e1, e2, e3⟩ := hbr.f4
  have l0 := hbr.lt
  have HP : Hid (∀ W : World, Turn [br] wr W -> W.heap.size = wr.heap.size -> rDisk W.heap.size W [.slice a0 n0 c0, .slice a1 n1 c1, .slice a2 n2 c2, .int .i64 z] m /\ wDisk m <= 1048576 /\ s.size <= 20 /\ Below w.heap.size w W) := fun W hT hz => by
   refine ⟨?_, HS.out.s, hs20, HS.out.b.trans (hT.below (fun k hk => by simp at hk; omega) HS.out.b.size)⟩
   rw [hz]
   exact rDisk_turn (Bw.dzero HS.out.r) hT HS.out.k
  clear hbd hbr HS
  go_wp2_with fail
  refine bodyPost_ret (v := .tuple #[.agg #[.slice a0 n0 c0, .slice a1 n1 c1, .slice a2 n2 c2, .int .i64 z], .string s]) (by simp [results, Tryz.results5, go_sem, *]) rfl (show DiskTwo w _ _ from ⟨[.slice a0 n0 c0, .slice a1 n1 c1, .slice a2 n2 c2, .int .i64 z], m, s, rfl, HP.out _ (turn4 _ _ _ _ _ _) (by simp)⟩)
end Go.Proofs.YtegonncmopecnaaGreatDoor

namespace Go.Proofs.YtegonncmopecnaaGreatDoor
open Go.RowKit
def rBy : Rep (List Int) := fun B w cs zs => ∃ a c, cs = [.slice a zs.length c] /\ LeafB B w a c zs
theorem rBy_good : rBy.Good := ⟨fun ⟨a, c, e, h⟩ hb => ⟨a, c, e, h.below hb⟩, fun ⟨a, c, e, h⟩ hB => ⟨a, c, e, LeafB.mono h hB⟩⟩
def oBy : ORep (List Int) := fun w cs zs F => ∃ v, cs = [v] /\ ownB 5 w v zs F
theorem oBy_good : oBy.Good rBy 1 := by
 refine ⟨?_, ?_, ?_, ?_⟩
 ·rintro w w' cs m F ⟨v, rfl, h⟩ hb
  exact ⟨v, rfl, h.frame hb⟩
 ·rintro w cs m F ⟨v, rfl, h⟩ k hk
  exact h.lt k hk
 ·rintro w cs m F ⟨v, rfl, h⟩
  obtain ⟨a, c, rfl, hl⟩ := h.read
  exact ⟨a, c, rfl, hl⟩
 ·rintro w cs m F ⟨v, rfl, h⟩
  rfl
def rdBs (B : Nat) (w : World) (v : Value) (l : List (List Int)) : Prop := ∃ a c, v = .slice a l.length c /\ LeafL 1 rBy B w a c l
theorem rdBs.below {B : Nat} {w w' : World} {v : Value} {l : List (List Int)} (h : rdBs B w v l) (hb : Below B w w') : rdBs B w' v l := by
 obtain ⟨a, c, e, h1⟩ := h
 exact ⟨a, c, e, h1.below rBy_good hb⟩
theorem rdBs.mono {B B' : Nat} {w : World} {v : Value} {l : List (List Int)} (h : rdBs B w v l) (hB : B <= B') : rdBs B' w v l := by
 obtain ⟨a, c, e, h1⟩ := h
 exact ⟨a, c, e, LeafL.mono rBy_good h1 hB⟩
theorem rdBs_own {e : TypeId} {w : World} {v : Value} {l : List (List Int)} {F : List Nat} (h : ownS 1 e oBy w v l F) : rdBs w.heap.size w v l := ownS.read oBy_good h
def wBs (l : List (List Int)) : Nat := l.length + sumW List.length l
theorem wBs_mem {l : List (List Int)} {k : Nat} (h : k < l.length) : l[k].length <= wBs l := by
 have h1 := sumW_le (f := List.length) h
 unfold wBs
 omega
def numVal (r : Int × Int × Bool) : Value := .tuple #[.int .i64 r.1, .int .i64 r.2.1, .bool r.2.2]
set_option maxHeartbeats 400000 in
theorem specGetNum_any (a : Option Addr) (n cap : Nat) (zs : List Int) (p : Int) (w : World) (B : Nat) (hx : zs.length = n) (hlen : n <= 140737488351232) (hb : BytesOk zs) (hra : Rd .u8 B w a zs) :
  Calls Tryz.prog 86 #[.slice a n cap, .int .i64 p] w fun e w' => e = .returned (numVal (getNum zs p)) /\ w' = w := by
 have HX : Hid (zs.length = n) := hx
 clear hx
 by_cases h0 : 0 <= p
 ·obtain ⟨p, rfl⟩ := Int.eq_ofNat_of_zero_le h0
  by_cases h1 : p < n
  ·go_enter Tryz.func86, Tryz.ntmps86
   go_wp2
   go_loop [7, 8] (fun N i => ∃ (k : Nat) (M : Int), k <= 5 /\ i = .int .i64 k /\ N = .int .i64 M /\ 0 <= M /\ M < 128 ^ k /\ (0 < k -> getNum zs p = gnS (5 - k) (zs.drop (p + k)) M (p + k : Nat))) (fun _ i => 5 - (intOf i).toNat)
   case atStart => exact ⟨0, 0, by omega, rfl, rfl, by omega, by omega, fun h => by omega⟩
   case round =>
    obtain ⟨k, M, hk, rfl, rfl, hM0, hM1, hD⟩ := hrel
    have HD : Hid (0 < k -> getNum zs p = gnS (5 - k) (zs.drop (p + k)) M (p + k : Nat)) := hD
    clear hD
    have hM2 : M < 34359738368 := by have := pow128_le hk; omega
    by_cases hk5 : k < 5
    ·by_cases hpk : p + k < n
     ·obtain ⟨b1, o1, rfl, _, hc1⟩ := hra (p + k) (by rw [HX.out]; exact hpk)
      have hcr := hb.getD (p + k)
      generalize hC : zs.getD (p + k) 0 = c at hc1 hcr
      have HC : Hid (zs.getD (p + k) 0 = c) := hC
      obtain ⟨hc0, hc255⟩ := hcr
      clear hC hra hb
      have hand := i64_and127 c
      have hor := or_group (c := c) hM0 hM2
      by_cases hk0 : k = 0 /\ c = 128
      ·have hkb : ((k : Int) == 0) = true := by simp; exact hk0.1
       have hcb : (c == 128) = true := by simp; exact hk0.2
       have hv : Hid (getNum zs p = noNum) := getNum_128 (by rw [HX.out]; exact h1) (by have := HC.out; rw [hk0.1, hk0.2] at this; exact this)
       clear hand hor hk0
       go_wp2
       go_ret3
       exact ⟨by rw [hv.out]; rfl, rfl⟩
      ·have hv : getNum zs p = gnS (5 - k) (zs.drop (p + k)) M (p + k : Nat) := by
        by_cases hkz : k = 0
        ·subst hkz
         have hM : M = 0 := by simp at hM1; omega
         subst hM
         exact getNum_S (by rw [HX.out]; exact h1) (fun h => hk0 ⟨rfl, by rw [<- HC.out]; exact h⟩)
        ·exact HD.out (by omega)
       have HV : Hid (getNum zs p = gnS (5 - k) (zs.drop (p + k)) M (p + k : Nat)) := hv
       have hj : p + k < zs.length := by rw [HX.out]; exact hpk
       obtain ⟨f, hf⟩ : ∃ f, 5 - k = f + 1 := ⟨4 - k, by omega⟩
       have HF : Hid (5 - k = f + 1) := hf
       clear hv hf HD
       have hguard : ((k : Int) == 0) = false ∨ (c == 128) = false := by
        by_cases hkz : k = 0
        ·right; simp; intro h; exact hk0 ⟨hkz, h⟩
        ·left; simp; omega
       by_cases h7 : c < 128
       ·by_cases hN : 1000000000 < M * 128 + c % 128
        ·have hv : Hid (getNum zs p = noNum) := by unfold Hid; rw [HV.out, HF.out]; exact gnS_over hj HC.out h7 hN
         rcases hguard with hg | hg
         all_goals
          go_wp2
          all_goals
           go_ret3
           exact ⟨by rw [hv.out]; rfl, rfl⟩
        ·have hv : Hid (getNum zs p = (M * 128 + c % 128, ((p + k : Nat) : Int) + 1, true)) := by unfold Hid; rw [HV.out, HF.out]; exact gnS_last hj HC.out h7 hN
         rcases hguard with hg | hg
         all_goals
          go_wp2
          all_goals
           go_ret3
           exact ⟨by rw [hv.out]; simp [numVal] <;> omega, rfl⟩
       ·have hv : Hid (getNum zs p = gnS f (zs.drop (p + k + 1)) (M * 128 + c % 128) (((p + k : Nat) : Int) + 1)) := by unfold Hid; rw [HV.out, HF.out]; exact gnS_more hj HC.out h7
        rcases hguard with hg | hg
        all_goals
         go_wp2
         all_goals
          go_round
          case rel =>
           refine ⟨k + 1, M * 128 + c % 128, by omega, by go_num, rfl, by omega, pow128_step hM1, fun _ => ?_⟩
           rw [hv.out, show 5 - (k + 1) = f from by have := HF.out; omega]
           rfl
          case measure => simp [intOf]; omega
     ·have hv : Hid (getNum zs p = noNum) := by
       unfold Hid
       rw [HD.out (by omega)]
       exact gnS_end (by rw [HX.out]; omega)
      go_wp2
      all_goals
       go_ret3
       exact ⟨by rw [hv.out]; rfl, rfl⟩
    ·have hk55 : k = 5 := by omega
     have hv : Hid (getNum zs p = noNum) := by
      unfold Hid
      rw [HD.out (by omega)]
      subst hk55
      rfl
     go_wp2
     all_goals
      go_ret3
      exact ⟨by rw [hv.out]; rfl, rfl⟩
  ·have hv : Hid (getNum zs p = noNum) := getNum_out (by right; rw [HX.out]; omega)
   go_enter Tryz.func86, Tryz.ntmps86
   go_wp2
   refine wp_loop_rounds 1 ?_
   rw [rounds_succ]
   go_wp2
   all_goals
    go_ret3
    exact ⟨by rw [hv.out]; rfl, rfl⟩
 ·have hv : Hid (getNum zs p = noNum) := getNum_out (by left; omega)
  go_enter Tryz.func86, Tryz.ntmps86
  go_wp2
  refine wp_loop_rounds 1 ?_
  rw [rounds_succ]
  go_wp2
  all_goals
   go_ret3
   exact ⟨by rw [hv.out]; rfl, rfl⟩
set_option maxHeartbeats 400000 in
theorem implGetNum_any (a : Option Addr) (n cap : Nat) (zs : List Int) (p : Int) (w : World) (B : Nat) (hx : zs.length = n) (hlen : n <= 140737488351232) (hb : BytesOk zs) (hra : Rd .u8 B w a zs) :
  Calls Tryz.prog 89 #[.slice a n cap, .int .i64 p] w fun e w' => e = .returned (numVal (getNum zs p)) /\ w' = w := by
 have HX : Hid (zs.length = n) := hx
 clear hx
 by_cases h0 : 0 <= p
 ·obtain ⟨p, rfl⟩ := Int.eq_ofNat_of_zero_le h0
  by_cases h1 : p < n
  ·obtain ⟨b1, o1, rfl, _, hc1⟩ := hra p (by rw [HX.out]; exact h1)
   by_cases h128 : zs.getD p 0 = 128
   ·have hv : Hid (getNum zs p = noNum) := getNum_128 (by rw [HX.out]; exact h1) h128
    rw [h128] at hc1
    clear h128 hra
    go_enter Tryz.func89, Tryz.ntmps89
    go_wp2
    go_ret3
    exact ⟨by rw [hv.out]; rfl, rfl⟩
   ·have hv : Hid (getNum zs p = gnI (zs.drop p) 0 p) := getNum_I (by rw [HX.out]; exact h1) h128 hb
    have hne : (zs.getD p 0 == 128) = false := by simp; simpa using h128
    generalize zs.getD p 0 = c0 at hc1 hne
    clear h128
    go_enter Tryz.func89, Tryz.ntmps89
    go_wp2
    go_loop [7, 8] (fun N i => ∃ (k : Nat) (M : Int), k <= n /\ i = .int .i64 k /\ N = .int .i64 M /\ 0 <= M /\ M <= 1000000000 /\ getNum zs p = gnI (zs.drop k) M k) (fun _ i => n - (intOf i).toNat)
    case atStart => exact ⟨p, 0, by omega, rfl, rfl, by omega, by omega, hv.out⟩
    case round =>
     obtain ⟨k, M, hk, rfl, rfl, hM0, hM1, hD⟩ := hrel
     have HD : Hid (getNum zs p = gnI (zs.drop k) M k) := hD
     clear hD hv hc1 hne
     by_cases hlt : k < n
     ·obtain ⟨b1, o1, he, _, hc1⟩ := hra k (by rw [HX.out]; exact hlt)
      simp only [Option.some.injEq, Addr.mk.injEq, and_true] at he
      obtain ⟨rfl, rfl⟩ := he
      have hcr := hb.getD k
      generalize hC : zs.getD k 0 = c at hc1 hcr
      have HC : Hid (zs.getD k 0 = c) := hC
      obtain ⟨hc0, hc255⟩ := hcr
      have hj : k < zs.length := by rw [HX.out]; exact hlt
      clear hC hra hb
      by_cases hN : 1000000000 < M * 128 + c % 128
      ·have hv : Hid (getNum zs p = noNum) := by unfold Hid; rw [HD.out]; exact gnI_over hj HC.out hN
       go_wp2
       all_goals
        go_ret3
        exact ⟨by rw [hv.out]; rfl, rfl⟩
      ·by_cases h7 : c < 128
       ·have hv : Hid (getNum zs p = (M * 128 + c % 128, (k : Int) + 1, true)) := by unfold Hid; rw [HD.out]; exact gnI_last hj HC.out h7 hN
        go_wp2
        all_goals
         go_ret3
         exact ⟨by rw [hv.out]; rfl, rfl⟩
       ·have hv : Hid (getNum zs p = gnI (zs.drop (k + 1)) (M * 128 + c % 128) ((k : Int) + 1)) := by unfold Hid; rw [HD.out]; exact gnI_more hj HC.out h7 hN
        go_wp2
        all_goals
         go_round
         case rel => exact ⟨k + 1, M * 128 + c % 128, by omega, by go_num, rfl, by omega, by omega, by rw [hv.out]; rfl⟩
         case measure => simp [intOf]; omega
     ·have hv : Hid (getNum zs p = noNum) := by
       unfold Hid
       rw [HD.out]
       exact gnI_end (by rw [HX.out]; omega)
      go_wp2
      all_goals
       go_ret3
       exact ⟨by rw [hv.out]; rfl, rfl⟩
  ·have hv : Hid (getNum zs p = noNum) := getNum_out (by right; rw [HX.out]; omega)
   go_enter Tryz.func89, Tryz.ntmps89
   go_wp2
   all_goals
    go_ret3
    exact ⟨by rw [hv.out]; rfl, rfl⟩
 ·have hv : Hid (getNum zs p = noNum) := getNum_out (by left; omega)
  go_enter Tryz.func89, Tryz.ntmps89
  go_wp2
  all_goals
   go_ret3
   exact ⟨by rw [hv.out]; rfl, rfl⟩
end Go.Proofs.YtegonncmopecnaaGreatDoor

namespace Go.Proofs.YtegonncmopecnaaGreatDoor
theorem gnS_bounds (f : Nat) (l : List Int) (n p : Int) (h0 : 0 <= n) (h : (gnS f l n p).2.2 = true) :
  0 <= (gnS f l n p).1 /\ (gnS f l n p).1 <= 1000000000 /\ p < (gnS f l n p).2.1 /\ (gnS f l n p).2.1 <= p + l.length := by
 induction f generalizing l n p with
 | zero => simp [gnS, noNum] at h
 | succ f ih =>
  cases l with
  | nil => simp [gnS, noNum] at h
  | cons c r =>
   simp only [gnS] at h ⊢
   by_cases hc : c < 128
   ·rw [if_pos hc] at h ⊢
    by_cases hn : 1000000000 < n * 128 + c % 128
    ·rw [if_pos hn] at h; simp [noNum] at h
    ·rw [if_neg hn]; simp only [List.length_cons]; omega
   ·rw [if_neg hc] at h ⊢
    have := ih r (n * 128 + c % 128) (p + 1) (by omega) h
    simp only [List.length_cons]; omega
theorem getNum_bounds {b : List Int} {p : Int} (h : (getNum b p).2.2 = true) :
  0 <= (getNum b p).1 /\ (getNum b p).1 <= 1000000000 /\ 0 < (getNum b p).2.1 /\ (getNum b p).2.1 <= b.length := by
 simp only [getNum] at h ⊢
 by_cases h1 : p < 0 ∨ (b.length : Int) <= p
 ·rw [if_pos h1] at h; simp [noNum] at h
 ·rw [if_neg h1] at h ⊢
  by_cases h2 : b.getD p.toNat 0 = 128
  ·rw [if_pos h2] at h; simp [noNum] at h
  ·rw [if_neg h2] at h ⊢
   have := gnS_bounds 5 _ 0 p (by omega) h
   simp only [List.length_drop] at this
   omega
def getText (b : List Int) (p : Int) : List Int × Int × Bool :=
 if (getNum b p).2.2 = true /\ (getNum b p).1 <= b.length - (getNum b p).2.1 then ((b.drop (getNum b p).2.1.toNat).take (getNum b p).1.toNat, (getNum b p).2.1 + (getNum b p).1, true) else ([], 0, false)
theorem getText_yes {b : List Int} {p : Int} {m f : Nat} (h : getNum b p = ((m : Int), (f : Int), true)) (hm : f + m <= b.length) : getText b p = ((b.drop f).take m, ((f + m : Nat) : Int), true) := by
 simp only [getText, h]
 rw [if_pos ⟨trivial, by omega⟩]
 simp
theorem getText_no {b : List Int} {p : Int} (h : (getNum b p).2.2 = false ∨ (b.length : Int) - (getNum b p).2.1 < (getNum b p).1) : getText b p = ([], 0, false) := by
 simp only [getText]
 rw [if_neg]
 rintro ⟨h1, h2⟩
 rcases h with h | h
 ·rw [h1] at h; cases h
 ·omega
theorem text_cases (b : List Int) (p : Int) :
  (∃ r0 r1, getNum b p = (r0, r1, false) /\ getText b p = ([], 0, false)) ∨
  (∃ m f : Nat, getNum b p = ((m : Int), (f : Int), true) /\ f <= b.length /\ m <= 1000000000 /\ b.length < f + m /\ getText b p = ([], 0, false)) ∨
  (∃ m f : Nat, getNum b p = ((m : Int), (f : Int), true) /\ 0 < f /\ m <= 1000000000 /\ f + m <= b.length /\ getText b p = ((b.drop f).take m, ((f + m : Nat) : Int), true)) := by
 have hbd := @getNum_bounds b p
 have hno := @getText_no b p
 have hyes := fun m f => @getText_yes b p m f
 generalize getNum b p = R at hbd hno hyes ⊢
 obtain ⟨r0, r1, r2⟩ := R
 cases r2 with
 | false => exact Or.inl ⟨r0, r1, rfl, hno (Or.inl rfl)⟩
 | true =>
  have h := hbd rfl
  simp only at h hno
  obtain ⟨m, rfl⟩ := Int.eq_ofNat_of_zero_le h.1
  obtain ⟨f, rfl⟩ := Int.eq_ofNat_of_zero_le (show 0 <= r1 by omega)
  by_cases hm : f + m <= b.length
  ·exact Or.inr (Or.inr ⟨m, f, rfl, by omega, by omega, hm, hyes m f rfl hm⟩)
  ·exact Or.inr (Or.inl ⟨m, f, rfl, by omega, by omega, by omega, hno (Or.inr (by omega))⟩)
theorem take_drop_getD {b : List Int} {f m i : Nat} (h : i < m) : ((b.drop f).take m).getD i 0 = b.getD (f + i) 0 := by
 simp only [List.getD_eq_getElem?_getD, List.getElem?_take, List.getElem?_drop, h, if_true]
theorem take_drop_length {b : List Int} {f m : Nat} (hf : f + m <= b.length) : ((b.drop f).take m).length = m := by simp; omega
end Go.Proofs.YtegonncmopecnaaGreatDoor
