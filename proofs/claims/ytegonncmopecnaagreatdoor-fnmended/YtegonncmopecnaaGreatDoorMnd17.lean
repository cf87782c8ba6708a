/-
  Part 18 of the texts that the proof leans on.
-/
import Derived.Test.YtegonncmopecnaaGreatDoorMnd0
import Derived.Test.YtegonncmopecnaaGreatDoorMnd3
import Derived.Test.YtegonncmopecnaaGreatDoorMnd13
import Derived.Test.YtegonncmopecnaaGreatDoorMnd14
import Derived.Test.YtegonncmopecnaaGreatDoorMnd15
import Derived.Test.YtegonncmopecnaaGreatDoorMnd16
set_option linter.unusedVariables false
set_option linter.unusedSimpArgs false
set_option maxRecDepth 10000

namespace Go.Proofs.YtegonncmopecnaaGreatDoor
open Go.RowKit
abbrev q993_32_14_1 : Oper := ⟨some 39, .move (.tmp 7), 9, "l02_files.go:263", #[], none⟩
abbrev q993_32_14_2 : Oper := ⟨some 40, .move (.tmp 0), 41, "l02_files.go:263", #[], none⟩
abbrev q993_32_14_3 : Oper := ⟨some 41, .call { callee := .value (.func 37), args := #[.tmp 40], argTypes := #[41] }, 22, "l02_files.go:263", #[⟨2, .data⟩], none⟩
abbrev q993_32_14_0 : Oper := ⟨some 38, .load 27 (.tmp 5), 27, "l02_files.go:263", #[], none⟩
abbrev q993_32_14_4 : Oper := ⟨some 42, .call { callee := .value (.func 41), args := #[.tmp 38, .tmp 39, .tmp 41], argTypes := #[27, 9, 22] }, 39, "l02_files.go:263", #[⟨0, .data⟩, ⟨1, .data⟩, ⟨3, .data⟩, ⟨3, .chain⟩], none⟩
abbrev q993_32_14_5 : Oper := ⟨some 37, .move (.tmp 42), 39, "l02_files.go:263", #[⟨4, .data⟩], none⟩
abbrev q993_32_14_6 : Oper := ⟨some 43, .extract (.tmp 37) 0, 27, "l02_files.go:263", #[⟨5, .data⟩], none⟩
abbrev q993_32_14_7 : Oper := ⟨some 44, .extract (.tmp 37) 1, 3, "l02_files.go:263", #[⟨5, .data⟩, { on := 8, ground := Ground.gcOnly Departure.lateStores }], none⟩
abbrev q993_32_14_8 : Oper := ⟨none, .store 27 (.tmp 5) (.tmp 43), 0, "l02_files.go:263", #[⟨6, .data⟩, ⟨4, .chain⟩, ⟨0, .phase⟩, ⟨1, .phase⟩, ⟨2, .phase⟩, ⟨3, .phase⟩, ⟨4, .phase⟩, ⟨5, .phase⟩, ⟨6, .phase⟩, { on := 7, ground := Ground.textOnly Departure.lateStores }], none⟩
abbrev q993_32_20_1 : Oper := ⟨some 64, .move (.tmp 7), 9, "l02_files.go:269", #[], none⟩
abbrev q993_32_20_2 : Oper := ⟨some 65, .move (.tmp 0), 41, "l02_files.go:269", #[], none⟩
abbrev q993_32_20_3 : Oper := ⟨some 66, .call { callee := .value (.func 33), args := #[.tmp 65], argTypes := #[41] }, 9, "l02_files.go:269", #[⟨2, .data⟩], none⟩
abbrev q993_32_20_0 : Oper := ⟨some 63, .load 27 (.tmp 5), 27, "l02_files.go:269", #[], none⟩
abbrev q993_32_20_4 : Oper := ⟨some 67, .call { callee := .value (.func 62), args := #[.tmp 63, .tmp 64, .tmp 66], argTypes := #[27, 9, 9] }, 39, "l02_files.go:269", #[⟨0, .data⟩, ⟨1, .data⟩, ⟨3, .data⟩, ⟨3, .chain⟩], none⟩
abbrev q993_32_20_5 : Oper := ⟨some 62, .move (.tmp 67), 39, "l02_files.go:269", #[⟨4, .data⟩], none⟩
abbrev q993_32_20_6 : Oper := ⟨some 68, .extract (.tmp 62) 0, 27, "l02_files.go:269", #[⟨5, .data⟩], none⟩
abbrev q993_32_20_7 : Oper := ⟨some 69, .extract (.tmp 62) 1, 3, "l02_files.go:269", #[⟨5, .data⟩, { on := 8, ground := Ground.gcOnly Departure.lateStores }], none⟩
abbrev q993_32_20_8 : Oper := ⟨none, .store 27 (.tmp 5) (.tmp 68), 0, "l02_files.go:269", #[⟨6, .data⟩, ⟨4, .chain⟩, ⟨0, .phase⟩, ⟨1, .phase⟩, ⟨2, .phase⟩, ⟨3, .phase⟩, ⟨4, .phase⟩, ⟨5, .phase⟩, ⟨6, .phase⟩, { on := 7, ground := Ground.textOnly Departure.lateStores }], none⟩
abbrev q993_32_7_1 : Oper := ⟨some 21, .move (.tmp 0), 41, "l02_files.go:273", #[], none⟩
abbrev q993_32_7_2 : Oper := ⟨some 22, .call { callee := .value (.func 35), args := #[.tmp 21, .const (.int .i64 4)], argTypes := #[41, 3] }, 3, "l02_files.go:273", #[⟨1, .data⟩], none⟩
abbrev q993_32_7_0 : Oper := ⟨some 20, .load 27 (.tmp 5), 27, "l02_files.go:273", #[], none⟩
abbrev q993_32_7_3 : Oper := ⟨some 23, .call { callee := .value (.func 40), args := #[.tmp 20, .tmp 22], argTypes := #[27, 3] }, 27, "l02_files.go:273", #[⟨0, .data⟩, ⟨2, .data⟩, ⟨2, .chain⟩], none⟩
abbrev q993_32_7_4 : Oper := ⟨none, .store 27 (.tmp 5) (.tmp 23), 0, "l02_files.go:273", #[⟨3, .data⟩, ⟨3, .chain⟩, ⟨0, .phase⟩, ⟨1, .phase⟩, ⟨2, .phase⟩, ⟨3, .phase⟩], none⟩
set_option maxHeartbeats 400000 in
theorem specDiskNew_o (w : World) :
  Calls Tryz.prog 70 #[] w fun e w' => e = .returned (.agg #[.slice none 0 0, .slice none 0 0, .slice none 0 0, .int .i64 1]) /\ Below w.heap.size w w' := by
 go_enter Tryz.func70, Tryz.ntmps70
 go_wp2
 refine bodyPost_ret (v := .agg #[.slice none 0 0, .slice none 0 0, .slice none 0 0, .int .i64 1]) (by simp [results, Tryz.results70, go_sem, *]) rfl ⟨rfl, ?_⟩
 repeat (first | with_reducible exact rB | refine Below.setCell ?_ (by simp) _ | refine Below.alloc ?_ (by first | exact rN | (simp; omega)) _)
theorem own_new (w : World) : oDisk w [.slice none 0 0, .slice none 0 0, .slice none 0 0, .int .i64 1] ⟨[], [], [], 1⟩ [] :=
 ⟨_, [], _, [], _, [], rfl, .inl ⟨rfl, rfl, rfl⟩, .inl ⟨rfl, rfl, rfl⟩, .inl ⟨rfl, rfl, rfl⟩, rfl, rfl⟩
theorem odisk_four {W' : World} {cs : List Value} {m : MDisk} {B : Nat} (h : ∃ F, oDisk W' cs m F /\ ∀ b, b ∈ F -> B <= b) : ∃ a0 n0 c0 a1 n1 c1 a2 n2 c2 z, cs = [.slice a0 n0 c0, .slice a1 n1 c1, .slice a2 n2 c2, .int .i64 z] := by
 obtain ⟨F, ho, _⟩ := h
 obtain ⟨a0, c0, a1, c1, a2, c2, _, _, _, hc, _⟩ := oDisk_cells ho
 exact ⟨a0, _, c0, a1, _, c1, a2, _, c2, _, hc⟩
set_option maxHeartbeats 8000000 in
theorem l2Draw_ok {g : Nat} {w : World} (q : Int) (hc : CurOk w g) (hq : q <= 100) :
  Calls Tryz.prog 32 #[.pointer (some ⟨g, 0, none⟩), .int .i64 q] w fun e w' => ∃ (cs : List Value) (m : MDisk), e = .returned (.agg cs.toArray) /\ (∃ F, oDisk w' cs m F /\ ∀ b, b ∈ F -> w.heap.size <= b) /\ Fit m /\ CurOk w' g /\ Turn [g] w w' := by
 have hgl := hc.lt
 have HC := Hm hc
 clear hc
 go_enter Tryz.func32, Tryz.ntmps32
 go_wp2_with fail
 obtain ⟨wq, hwq⟩ : ∃ wq, wq = w.alloc (.cells #[.slice none 0 0, .slice none 0 0, .slice none 0 0, .int .i64 0] 27) := ⟨_, rfl⟩
 have hbq : Below w.heap.size w wq := by rw [hwq]; exact rB.alloc rN _
 have hbr : Bw wq w.heap.size 27 dZ := by rw [hwq]; exact Bw.new _ _ _
 rw [<- hwq]
 clear hwq
 refine (specDiskNew_o wq).mono ?_
 rintro e w1 ⟨rfl, hx1⟩
 replace hbr := hbr.under hx1
 replace hbq := bthen hbq hx1
 have hrl := hbr.lt
 clear hx1
 go_wp2_with fail
 obtain ⟨w2, hw2⟩ : ∃ x, x = w1.alloc (.cells #[.slice none 0 0, .slice none 0 0, .slice none 0 0, .int .i64 1] 27) := ⟨_, rfl⟩
 have hx2 : Below w1.heap.size w1 w2 := by rw [hw2]; exact rB.alloc rN _
 have hbd : Bw w2 w1.heap.size 27 [.slice none 0 0, .slice none 0 0, .slice none 0 0, .int .i64 1] := by rw [hw2]; exact Bw.new _ _ _
 rw [<- hw2]
 obtain ⟨bd, hbdq⟩ : ∃ z, z = w1.heap.size := ⟨_, rfl⟩
 rw [<- hbdq] at hbd ⊢
 obtain ⟨br, hbrq⟩ : ∃ z, z = w.heap.size := ⟨_, rfl⟩
 have HST : Hid (DSt w g br bd w2 [.slice none 0 0, .slice none 0 0, .slice none 0 0, .int .i64 1] ⟨[], [], [], 1⟩) := by
  rw [hbrq]
  exact ⟨hbd, hbr.under hx2, ⟨[], own_new _, fun b hb => by cases hb⟩, fit_new, HC.out.below (bthen hbq hx2), Turn.ofBelow (bthen hbq hx2)⟩
 have HPL : Hid (DPl w g br bd) := ⟨hgl, by omega, by have := hbq.size; omega, by omega⟩
 rw [<- hbrq]
 clear hw2 hx2 hbd hbdq hbrq hbr hbq hrl hgl HC
 refine (l1Below_ok q HST.out.c).mono ?_
 rintro e w3 ⟨x, rfl, hx, hc3, hg3⟩
 have hx0 : 0 <= x := hx.1
 have hx100 : x <= 100 := by
  obtain ⟨_, _, h1, h2⟩ := hx
  by_cases h : 0 < q
  ·have := h1 h; omega
  ·have := h2 (by omega); omega
 replace HST := Hm (HST.out.cur HPL.out hg3 hc3)
 clear hx hc3 hg3 hq
 go_wp2_with fail
 go_loopw [6] (fun i wr => ∃ (x : Int) (a0 a1 a2 : Option Addr) (n0 c0 n1 c1 n2 c2 : Nat) (z : Int) (m : MDisk), i = .int .i64 x /\ 0 <= x /\ x <= 100 /\ Hid (DSt w g br bd wr [.slice a0 n0 c0, .slice a1 n1 c1, .slice a2 n2 c2, .int .i64 z] m)) (fun i _ => (intOf i).toNat)
 case atStart => exact ⟨x, none, none, none, 0, 0, 0, 0, 0, 0, 1, _, rfl, hx0, hx100, HST⟩
 case round =>
  clear HST hx0 hx100
  obtain ⟨x, a0, a1, a2, n0, c0, n1, c1, n2, c2, z, m, rfl, hx0, hx100, HST⟩ := hrel
  by_cases hlt : 0 < x
  ·go_wp2_with fail
   refine (l2DrawName_ok HST.out.c).mono ?_
   rintro e w4 ⟨s, ⟨rfl, hs⟩, hc4, hg4⟩
   have hs20 := namesL_short s hs
   replace HST := Hm (HST.out.cur HPL.out hg4 hc4)
   clear hs hc4 hg4
   go_wp2_with fail
   refine (l1Below_ok 10 HST.out.c).mono ?_
   rintro e w5 ⟨y, rfl, hy, hc5, hg5⟩
   have hy0 := hy.1
   have hy10 : y < 10 := hy.2.2.1 (by omega)
   replace HST := Hm (HST.out.cur HPL.out hg5 hc5)
   clear hy hc5 hg5
   have hbd := HST.out.d
   obtain ⟨p0, p1, p2, p3⟩ := hbd.c4
   have hs1 : s.size <= 1048576 := by omega
   have hs2 : s.size <= 9223372036854775807 := by omega
   have HRD := Hm HST.out.read
   have HSM := Hm HST.out.f.small
   have HFT := Hm HST.out.f
   clear hbd
   have hcase : y = 0 ∨ y = 1 ∨ y = 2 ∨ y = 3 ∨ y = 4 ∨ y = 5 ∨ y = 6 ∨ y = 7 ∨ y = 8 ∨ y = 9 := by omega
   clear hy0 hy10
   rcases hcase with rfl | rfl | rfl | rfl | rfl | rfl | rfl | rfl | rfl | rfl
   ·go_wp2_with fail
    refine (specCreate_o _ m s w5 HRD.out hs2 HSM.out hs1).mono ?_
    rintro e w6 ⟨cs6, rfl, ho6, hx6⟩
    obtain ⟨d0, k0, e0, d1, k1, e1, d2, k2, e2, z2, hc6⟩ := odisk_four ho6
    subst hc6
    have HN := Hm (HST.out.put HPL.out rfl hx6 ho6 (fit_create HFT.out))
    have hbd := HST.out.d.under hx6
    clear p0 p1 p2 p3 ho6 hx6 HRD
    obtain ⟨p0, p1, p2, p3⟩ := hbd.c4
    obtain ⟨f0, f1, f2, f3⟩ := hbd.f4
    have l0 := hbd.lt
    clear hbd
    go_wp2_with fail
    go_roundw
    case rel => exact ⟨x - 1, d0, d1, d2, k0, e0, k1, e1, k2, e2, z2, _, rfl, by omega, by omega, HN⟩
    case measure => simp [intOf]; omega
   ·go_wp2_with fail
    refine (specCreate_o _ m s w5 HRD.out hs2 HSM.out hs1).mono ?_
    rintro e w6 ⟨cs6, rfl, ho6, hx6⟩
    obtain ⟨d0, k0, e0, d1, k1, e1, d2, k2, e2, z2, hc6⟩ := odisk_four ho6
    subst hc6
    have HN := Hm (HST.out.put HPL.out rfl hx6 ho6 (fit_create HFT.out))
    have hbd := HST.out.d.under hx6
    clear p0 p1 p2 p3 ho6 hx6 HRD
    obtain ⟨p0, p1, p2, p3⟩ := hbd.c4
    obtain ⟨f0, f1, f2, f3⟩ := hbd.f4
    have l0 := hbd.lt
    clear hbd
    go_wp2_with fail
    go_roundw
    case rel => exact ⟨x - 1, d0, d1, d2, k0, e0, k1, e1, k2, e2, z2, _, rfl, by omega, by omega, HN⟩
    case measure => simp [intOf]; omega
   ·go_wp2_with fail
    refine (specCreate_o _ m s w5 HRD.out hs2 HSM.out hs1).mono ?_
    rintro e w6 ⟨cs6, rfl, ho6, hx6⟩
    obtain ⟨d0, k0, e0, d1, k1, e1, d2, k2, e2, z2, hc6⟩ := odisk_four ho6
    subst hc6
    have HN := Hm (HST.out.put HPL.out rfl hx6 ho6 (fit_create HFT.out))
    have hbd := HST.out.d.under hx6
    clear p0 p1 p2 p3 ho6 hx6 HRD
    obtain ⟨p0, p1, p2, p3⟩ := hbd.c4
    obtain ⟨f0, f1, f2, f3⟩ := hbd.f4
    have l0 := hbd.lt
    clear hbd
    go_wp2_with fail
    go_roundw
    case rel => exact ⟨x - 1, d0, d1, d2, k0, e0, k1, e1, k2, e2, z2, _, rfl, by omega, by omega, HN⟩
    case measure => simp [intOf]; omega
   ·go_wp2_with fail
    refine wp_region_held_drew (S := fun W => True) (by kernel_rfl) (trivial) (fun hZ => ?_)
    obtain ⟨wS, hwS⟩ : ∃ wS, wS = w5.drew := ⟨_, rfl⟩
    have HDS : Hid (DSt w g br bd wS [.slice a0 n0 c0, .slice a1 n1 c1, .slice a2 n2 c2, .int .i64 z] m) := by unfold Hid; rw [hwS]; exact HST.out.drew
    rw [<- hwS]
    clear hwS p0 p1 p2 p3 HRD
    refine uq 1 q993_32_14_1 39 hZ ?_
    refine uq 2 q993_32_14_2 40 hZ ?_
    refine arR [0, 3] ?_
    refine (AllReadyH.cons (o := q993_32_14_0) rfl (fun K hK => ?_) (AllReadyH.cons (o := q993_32_14_3) rfl (fun K hK => ?_) AllReadyH.nil))
    ·go_simp
     have hD : DSt w g br bd wS [.slice a0 n0 c0, .slice a1 n1 c1, .slice a2 n2 c2, .int .i64 z] m := by first | exact HD3.out | exact HDS.out
     obtain ⟨p0, p1, p2, p3⟩ := hD.d.c4
     go_simp
     obtain ⟨wE0, hqL⟩ : ∃ x, x = wS := ⟨_, rfl⟩
     have HD0 : Hid (DSt w g br bd wE0 [.slice a0 n0 c0, .slice a1 n1 c1, .slice a2 n2 c2, .int .i64 z] m) := by unfold Hid; rw [hqL]; exact hD
     have hop0 : True := trivial
     (try rw [<- hqL] at HOB)
     rw [<- hqL]
     clear hqL p0 p1 p2 p3 hD
     refine hK.out _ _ (trivial) (fun hZ => ?_)
     clear hK K
     try simp only[Act.put,sa,s0,s1]
     refine ar1 3 q993_32_14_3 fun K hK => ?_
     ·go_simp
      have hD : DSt w g br bd wE0 [.slice a0 n0 c0, .slice a1 n1 c1, .slice a2 n2 c2, .int .i64 z] m := by first | exact HD0.out | exact HDS.out
      refine (l1Some_ok hD.c).mono ?_
      rintro e wE3 ⟨vb, rfl, bs, hb9, hbok, hob, hcx, hgx⟩
      obtain ⟨ab, cb, rfl⟩ := own_slice hob
      have HOB := Hm hob
      clear hob
      have HD3 : Hid (DSt w g br bd wE3 [.slice a0 n0 c0, .slice a1 n1 c1, .slice a2 n2 c2, .int .i64 z] m) := hD.cur HPL.out hgx hcx
      clear hD hgx hcx
      go_wp2_with fail
      refine hK.out _ _ (trivial) (fun hZ => ?_)
      clear hK K
      try simp only[Act.put,sa,s0,s1]
      refine ar1 4 q993_32_14_4 fun K hK => ?_
      ·go_simp
       have HST : Hid (DSt w g br bd wE3 [.slice a0 n0 c0, .slice a1 n1 c1, .slice a2 n2 c2, .int .i64 z] m) := by first | exact HD3 | exact HD0
       refine (specAppend_o _ m s _ bs wE3 HST.out.read hs2 (ownB.read (e := 5) (F := _) ⟨own_base HOB.out (Nat.zero_le _), hbok, rfl⟩) HSM.out hs1 (by omega)).mono ?_
       rintro e wE4 ⟨cs6, F6, rfl, ho6, hg6, hx6⟩
       replace ho6 : ∃ F, oDisk wE4 cs6 _ F /\ ∀ b, b ∈ F -> wE3.heap.size <= b := ⟨F6, ho6, hg6⟩
       obtain ⟨d0, k0, e0, d1, k1, e1, d2, k2, e2, z2, hc6⟩ := odisk_four ho6
       subst hc6
       have HN := Hm (HST.out.put HPL.out rfl hx6 ho6 (fit_append HFT.out))
       have HB6 := Hm (HST.out.d.under hx6)
       clear ho6 hx6
       go_wp2_with fail
       refine hK.out _ _ (trivial) (fun hZ => ?_)
       clear hK K
       try simp only[Act.put,sa,s0,s1]
       refine uq 5 q993_32_14_5 37 hZ ?_
       refine uq 6 q993_32_14_6 43 hZ ?_
       refine uq 7 q993_32_14_7 44 hZ ?_
       refine ar1 8 q993_32_14_8 fun K hK => ?_
       ·skip
        have hbd := HB6.out
        obtain ⟨p0, p1, p2, p3⟩ := hbd.c4
        obtain ⟨f0, f1, f2, f3⟩ := hbd.f4
        have l0 := hbd.lt
        clear hbd
        go_simp
        refine hK.out _ _ (trivial) (fun hZ => ?_)
        clear hK K
        try simp only[Act.put,sa,s0,s1]
        refine wpAnyH_done (by kernel_rfl) ?_ _
        clear p0 p1 p2 p3 f0 f1 f2 f3 l0
        go_wp2_with fail
        go_roundw
        case rel => exact ⟨x - 1, d0, d1, d2, k0, e0, k1, e1, k2, e2, z2, _, rfl, by omega, by omega, HN⟩
        case measure => simp [intOf]; omega
    ·go_simp
     have hD : DSt w g br bd wS [.slice a0 n0 c0, .slice a1 n1 c1, .slice a2 n2 c2, .int .i64 z] m := by first | exact HD0.out | exact HDS.out
     refine (l1Some_ok hD.c).mono ?_
     rintro e wE3 ⟨vb, rfl, bs, hb9, hbok, hob, hcx, hgx⟩
     obtain ⟨ab, cb, rfl⟩ := own_slice hob
     have HOB := Hm hob
     clear hob
     have HD3 : Hid (DSt w g br bd wE3 [.slice a0 n0 c0, .slice a1 n1 c1, .slice a2 n2 c2, .int .i64 z] m) := hD.cur HPL.out hgx hcx
     clear hD hgx hcx
     go_wp2_with fail
     refine hK.out _ _ (trivial) (fun hZ => ?_)
     clear hK K
     try simp only[Act.put,sa,s0,s1]
     refine ar1 0 q993_32_14_0 fun K hK => ?_
     ·go_simp
      have hD : DSt w g br bd wE3 [.slice a0 n0 c0, .slice a1 n1 c1, .slice a2 n2 c2, .int .i64 z] m := by first | exact HD3.out | exact HDS.out
      obtain ⟨p0, p1, p2, p3⟩ := hD.d.c4
      go_simp
      obtain ⟨wE0, hqL⟩ : ∃ x, x = wE3 := ⟨_, rfl⟩
      have HD0 : Hid (DSt w g br bd wE0 [.slice a0 n0 c0, .slice a1 n1 c1, .slice a2 n2 c2, .int .i64 z] m) := by unfold Hid; rw [hqL]; exact hD
      have hop0 : True := trivial
      (try rw [<- hqL] at HOB)
      rw [<- hqL]
      clear hqL p0 p1 p2 p3 hD
      refine hK.out _ _ (trivial) (fun hZ => ?_)
      clear hK K
      try simp only[Act.put,sa,s0,s1]
      refine ar1 4 q993_32_14_4 fun K hK => ?_
      ·go_simp
       have HST : Hid (DSt w g br bd wE0 [.slice a0 n0 c0, .slice a1 n1 c1, .slice a2 n2 c2, .int .i64 z] m) := by first | exact HD3 | exact HD0
       refine (specAppend_o _ m s _ bs wE0 HST.out.read hs2 (ownB.read (e := 5) (F := _) ⟨own_base HOB.out (Nat.zero_le _), hbok, rfl⟩) HSM.out hs1 (by omega)).mono ?_
       rintro e wE4 ⟨cs6, F6, rfl, ho6, hg6, hx6⟩
       replace ho6 : ∃ F, oDisk wE4 cs6 _ F /\ ∀ b, b ∈ F -> wE0.heap.size <= b := ⟨F6, ho6, hg6⟩
       obtain ⟨d0, k0, e0, d1, k1, e1, d2, k2, e2, z2, hc6⟩ := odisk_four ho6
       subst hc6
       have HN := Hm (HST.out.put HPL.out rfl hx6 ho6 (fit_append HFT.out))
       have HB6 := Hm (HST.out.d.under hx6)
       clear ho6 hx6
       go_wp2_with fail
       refine hK.out _ _ (trivial) (fun hZ => ?_)
       clear hK K
       try simp only[Act.put,sa,s0,s1]
       refine uq 5 q993_32_14_5 37 hZ ?_
       refine uq 6 q993_32_14_6 43 hZ ?_
       refine uq 7 q993_32_14_7 44 hZ ?_
       refine ar1 8 q993_32_14_8 fun K hK => ?_
       ·skip
        have hbd := HB6.out
        obtain ⟨p0, p1, p2, p3⟩ := hbd.c4
        obtain ⟨f0, f1, f2, f3⟩ := hbd.f4
        have l0 := hbd.lt
        clear hbd
        go_simp
        refine hK.out _ _ (trivial) (fun hZ => ?_)
        clear hK K
        try simp only[Act.put,sa,s0,s1]
        refine wpAnyH_done (by kernel_rfl) ?_ _
        clear p0 p1 p2 p3 f0 f1 f2 f3 l0
        go_wp2_with fail
        go_roundw
        case rel => exact ⟨x - 1, d0, d1, d2, k0, e0, k1, e1, k2, e2, z2, _, rfl, by omega, by omega, HN⟩
        case measure => simp [intOf]; omega
   ·go_wp2_with fail
    refine wp_region_held_drew (S := fun W => True) (by kernel_rfl) (trivial) (fun hZ => ?_)
    obtain ⟨wS, hwS⟩ : ∃ wS, wS = w5.drew := ⟨_, rfl⟩
    have HDS : Hid (DSt w g br bd wS [.slice a0 n0 c0, .slice a1 n1 c1, .slice a2 n2 c2, .int .i64 z] m) := by unfold Hid; rw [hwS]; exact HST.out.drew
    rw [<- hwS]
    clear hwS p0 p1 p2 p3 HRD
    refine uq 1 q993_32_14_1 39 hZ ?_
    refine uq 2 q993_32_14_2 40 hZ ?_
    refine arR [0, 3] ?_
    refine (AllReadyH.cons (o := q993_32_14_0) rfl (fun K hK => ?_) (AllReadyH.cons (o := q993_32_14_3) rfl (fun K hK => ?_) AllReadyH.nil))
    ·go_simp
     have hD : DSt w g br bd wS [.slice a0 n0 c0, .slice a1 n1 c1, .slice a2 n2 c2, .int .i64 z] m := by first | exact HD3.out | exact HDS.out
     obtain ⟨p0, p1, p2, p3⟩ := hD.d.c4
     go_simp
     obtain ⟨wE0, hqL⟩ : ∃ x, x = wS := ⟨_, rfl⟩
     have HD0 : Hid (DSt w g br bd wE0 [.slice a0 n0 c0, .slice a1 n1 c1, .slice a2 n2 c2, .int .i64 z] m) := by unfold Hid; rw [hqL]; exact hD
     have hop0 : True := trivial
     (try rw [<- hqL] at HOB)
     rw [<- hqL]
     clear hqL p0 p1 p2 p3 hD
     refine hK.out _ _ (trivial) (fun hZ => ?_)
     clear hK K
     try simp only[Act.put,sa,s0,s1]
     refine ar1 3 q993_32_14_3 fun K hK => ?_
     ·go_simp
      have hD : DSt w g br bd wE0 [.slice a0 n0 c0, .slice a1 n1 c1, .slice a2 n2 c2, .int .i64 z] m := by first | exact HD0.out | exact HDS.out
      refine (l1Some_ok hD.c).mono ?_
      rintro e wE3 ⟨vb, rfl, bs, hb9, hbok, hob, hcx, hgx⟩
      obtain ⟨ab, cb, rfl⟩ := own_slice hob
      have HOB := Hm hob
      clear hob
      have HD3 : Hid (DSt w g br bd wE3 [.slice a0 n0 c0, .slice a1 n1 c1, .slice a2 n2 c2, .int .i64 z] m) := hD.cur HPL.out hgx hcx
      clear hD hgx hcx
      go_wp2_with fail
      refine hK.out _ _ (trivial) (fun hZ => ?_)
      clear hK K
      try simp only[Act.put,sa,s0,s1]
      refine ar1 4 q993_32_14_4 fun K hK => ?_
      ·go_simp
       have HST : Hid (DSt w g br bd wE3 [.slice a0 n0 c0, .slice a1 n1 c1, .slice a2 n2 c2, .int .i64 z] m) := by first | exact HD3 | exact HD0
       refine (specAppend_o _ m s _ bs wE3 HST.out.read hs2 (ownB.read (e := 5) (F := _) ⟨own_base HOB.out (Nat.zero_le _), hbok, rfl⟩) HSM.out hs1 (by omega)).mono ?_
       rintro e wE4 ⟨cs6, F6, rfl, ho6, hg6, hx6⟩
       replace ho6 : ∃ F, oDisk wE4 cs6 _ F /\ ∀ b, b ∈ F -> wE3.heap.size <= b := ⟨F6, ho6, hg6⟩
       obtain ⟨d0, k0, e0, d1, k1, e1, d2, k2, e2, z2, hc6⟩ := odisk_four ho6
       subst hc6
       have HN := Hm (HST.out.put HPL.out rfl hx6 ho6 (fit_append HFT.out))
       have HB6 := Hm (HST.out.d.under hx6)
       clear ho6 hx6
       go_wp2_with fail
       refine hK.out _ _ (trivial) (fun hZ => ?_)
       clear hK K
       try simp only[Act.put,sa,s0,s1]
       refine uq 5 q993_32_14_5 37 hZ ?_
       refine uq 6 q993_32_14_6 43 hZ ?_
       refine uq 7 q993_32_14_7 44 hZ ?_
       refine ar1 8 q993_32_14_8 fun K hK => ?_
       ·skip
        have hbd := HB6.out
        obtain ⟨p0, p1, p2, p3⟩ := hbd.c4
        obtain ⟨f0, f1, f2, f3⟩ := hbd.f4
        have l0 := hbd.lt
        clear hbd
        go_simp
        refine hK.out _ _ (trivial) (fun hZ => ?_)
        clear hK K
        try simp only[Act.put,sa,s0,s1]
        refine wpAnyH_done (by kernel_rfl) ?_ _
        clear p0 p1 p2 p3 f0 f1 f2 f3 l0
        go_wp2_with fail
        go_roundw
        case rel => exact ⟨x - 1, d0, d1, d2, k0, e0, k1, e1, k2, e2, z2, _, rfl, by omega, by omega, HN⟩
        case measure => simp [intOf]; omega
    ·go_simp
     have hD : DSt w g br bd wS [.slice a0 n0 c0, .slice a1 n1 c1, .slice a2 n2 c2, .int .i64 z] m := by first | exact HD0.out | exact HDS.out
     refine (l1Some_ok hD.c).mono ?_
     rintro e wE3 ⟨vb, rfl, bs, hb9, hbok, hob, hcx, hgx⟩
     obtain ⟨ab, cb, rfl⟩ := own_slice hob
     have HOB := Hm hob
     clear hob
     have HD3 : Hid (DSt w g br bd wE3 [.slice a0 n0 c0, .slice a1 n1 c1, .slice a2 n2 c2, .int .i64 z] m) := hD.cur HPL.out hgx hcx
     clear hD hgx hcx
     go_wp2_with fail
     refine hK.out _ _ (trivial) (fun hZ => ?_)
     clear hK K
     try simp only[Act.put,sa,s0,s1]
     refine ar1 0 q993_32_14_0 fun K hK => ?_
     ·go_simp
      have hD : DSt w g br bd wE3 [.slice a0 n0 c0, .slice a1 n1 c1, .slice a2 n2 c2, .int .i64 z] m := by first | exact HD3.out | exact HDS.out
      obtain ⟨p0, p1, p2, p3⟩ := hD.d.c4
      go_simp
      obtain ⟨wE0, hqL⟩ : ∃ x, x = wE3 := ⟨_, rfl⟩
      have HD0 : Hid (DSt w g br bd wE0 [.slice a0 n0 c0, .slice a1 n1 c1, .slice a2 n2 c2, .int .i64 z] m) := by unfold Hid; rw [hqL]; exact hD
      have hop0 : True := trivial
      (try rw [<- hqL] at HOB)
      rw [<- hqL]
      clear hqL p0 p1 p2 p3 hD
      refine hK.out _ _ (trivial) (fun hZ => ?_)
      clear hK K
      try simp only[Act.put,sa,s0,s1]
      refine ar1 4 q993_32_14_4 fun K hK => ?_
      ·go_simp
       have HST : Hid (DSt w g br bd wE0 [.slice a0 n0 c0, .slice a1 n1 c1, .slice a2 n2 c2, .int .i64 z] m) := by first | exact HD3 | exact HD0
       refine (specAppend_o _ m s _ bs wE0 HST.out.read hs2 (ownB.read (e := 5) (F := _) ⟨own_base HOB.out (Nat.zero_le _), hbok, rfl⟩) HSM.out hs1 (by omega)).mono ?_
       rintro e wE4 ⟨cs6, F6, rfl, ho6, hg6, hx6⟩
       replace ho6 : ∃ F, oDisk wE4 cs6 _ F /\ ∀ b, b ∈ F -> wE0.heap.size <= b := ⟨F6, ho6, hg6⟩
       obtain ⟨d0, k0, e0, d1, k1, e1, d2, k2, e2, z2, hc6⟩ := odisk_four ho6
       subst hc6
       have HN := Hm (HST.out.put HPL.out rfl hx6 ho6 (fit_append HFT.out))
       have HB6 := Hm (HST.out.d.under hx6)
       clear ho6 hx6
       go_wp2_with fail
       refine hK.out _ _ (trivial) (fun hZ => ?_)
       clear hK K
       try simp only[Act.put,sa,s0,s1]
       refine uq 5 q993_32_14_5 37 hZ ?_
       refine uq 6 q993_32_14_6 43 hZ ?_
       refine uq 7 q993_32_14_7 44 hZ ?_
       refine ar1 8 q993_32_14_8 fun K hK => ?_
       ·skip
        have hbd := HB6.out
        obtain ⟨p0, p1, p2, p3⟩ := hbd.c4
        obtain ⟨f0, f1, f2, f3⟩ := hbd.f4
        have l0 := hbd.lt
        clear hbd
        go_simp
        refine hK.out _ _ (trivial) (fun hZ => ?_)
        clear hK K
        try simp only[Act.put,sa,s0,s1]
        refine wpAnyH_done (by kernel_rfl) ?_ _
        clear p0 p1 p2 p3 f0 f1 f2 f3 l0
        go_wp2_with fail
        go_roundw
        case rel => exact ⟨x - 1, d0, d1, d2, k0, e0, k1, e1, k2, e2, z2, _, rfl, by omega, by omega, HN⟩
        case measure => simp [intOf]; omega
   ·go_wp2_with fail
    refine (specSync_o _ m s w5 HRD.out hs2 HSM.out hs1).mono ?_
    rintro e w6 ⟨cs6, rfl, ho6, hx6⟩
    obtain ⟨d0, k0, e0, d1, k1, e1, d2, k2, e2, z2, hc6⟩ := odisk_four ho6
    subst hc6
    have HN := Hm (HST.out.put HPL.out rfl hx6 ho6 (fit_sync HFT.out))
    have hbd := HST.out.d.under hx6
    clear p0 p1 p2 p3 ho6 hx6 HRD
    obtain ⟨p0, p1, p2, p3⟩ := hbd.c4
    obtain ⟨f0, f1, f2, f3⟩ := hbd.f4
    have l0 := hbd.lt
    clear hbd
    go_wp2_with fail
    go_roundw
    case rel => exact ⟨x - 1, d0, d1, d2, k0, e0, k1, e1, k2, e2, z2, _, rfl, by omega, by omega, HN⟩
    case measure => simp [intOf]; omega
   ·go_wp2_with fail
    refine (specSyncDir_o _ m w5 HRD.out HSM.out).mono ?_
    rintro e w6 ⟨cs6, rfl, ho6, hx6⟩
    obtain ⟨d0, k0, e0, d1, k1, e1, d2, k2, e2, z2, hc6⟩ := odisk_four ho6
    subst hc6
    have HN := Hm (HST.out.put HPL.out rfl hx6 ho6 (fit_syncDir HFT.out))
    have hbd := HST.out.d.under hx6
    clear p0 p1 p2 p3 ho6 hx6 HRD
    obtain ⟨p0, p1, p2, p3⟩ := hbd.c4
    obtain ⟨f0, f1, f2, f3⟩ := hbd.f4
    have l0 := hbd.lt
    clear hbd
    go_wp2_with fail
    go_roundw
    case rel => exact ⟨x - 1, d0, d1, d2, k0, e0, k1, e1, k2, e2, z2, _, rfl, by omega, by omega, HN⟩
    case measure => simp [intOf]; omega
   ·go_wp2_with fail
    refine wp_region_held_drew (S := fun W => True) (by kernel_rfl) (trivial) (fun hZ => ?_)
    obtain ⟨wS, hwS⟩ : ∃ wS, wS = w5.drew := ⟨_, rfl⟩
    have HDS : Hid (DSt w g br bd wS [.slice a0 n0 c0, .slice a1 n1 c1, .slice a2 n2 c2, .int .i64 z] m) := by unfold Hid; rw [hwS]; exact HST.out.drew
    rw [<- hwS]
    clear hwS p0 p1 p2 p3 HRD
    refine uq 1 q993_32_20_1 64 hZ ?_
    refine uq 2 q993_32_20_2 65 hZ ?_
    refine arR [0, 3] ?_
    refine (AllReadyH.cons (o := q993_32_20_0) rfl (fun K hK => ?_) (AllReadyH.cons (o := q993_32_20_3) rfl (fun K hK => ?_) AllReadyH.nil))
    ·go_simp
     have hD : DSt w g br bd wS [.slice a0 n0 c0, .slice a1 n1 c1, .slice a2 n2 c2, .int .i64 z] m := by first | exact HD3.out | exact HDS.out
     obtain ⟨p0, p1, p2, p3⟩ := hD.d.c4
     go_simp
     obtain ⟨wE0, hqL⟩ : ∃ x, x = wS := ⟨_, rfl⟩
     have HD0 : Hid (DSt w g br bd wE0 [.slice a0 n0 c0, .slice a1 n1 c1, .slice a2 n2 c2, .int .i64 z] m) := by unfold Hid; rw [hqL]; exact hD
     have hop0 : True := trivial
     (try rw [<- hqL] at HOB)
     rw [<- hqL]
     clear hqL p0 p1 p2 p3 hD
     refine hK.out _ _ (trivial) (fun hZ => ?_)
     clear hK K
     try simp only[Act.put,sa,s0,s1]
     refine ar1 3 q993_32_20_3 fun K hK => ?_
     ·go_simp
      have hD : DSt w g br bd wE0 [.slice a0 n0 c0, .slice a1 n1 c1, .slice a2 n2 c2, .int .i64 z] m := by first | exact HD0.out | exact HDS.out
      refine (l2DrawName_ok hD.c).mono ?_
      rintro e wE3 ⟨t, ⟨rfl, ht⟩, hcx, hgx⟩
      have ht20 := namesL_short t ht
      clear ht
      have HD3 : Hid (DSt w g br bd wE3 [.slice a0 n0 c0, .slice a1 n1 c1, .slice a2 n2 c2, .int .i64 z] m) := hD.cur HPL.out hgx hcx
      clear hD hgx hcx
      go_wp2_with fail
      refine hK.out _ _ (trivial) (fun hZ => ?_)
      clear hK K
      try simp only[Act.put,sa,s0,s1]
      refine ar1 4 q993_32_20_4 fun K hK => ?_
      ·go_simp
       have HST : Hid (DSt w g br bd wE3 [.slice a0 n0 c0, .slice a1 n1 c1, .slice a2 n2 c2, .int .i64 z] m) := by first | exact HD3 | exact HD0
       refine (specRename_o _ m s t wE3 HST.out.read hs2 (by omega) HSM.out hs1 (by omega)).mono ?_
       rintro e wE4 ⟨cs6, rfl, ho6, hx6⟩
       obtain ⟨d0, k0, e0, d1, k1, e1, d2, k2, e2, z2, hc6⟩ := odisk_four ho6
       subst hc6
       have HN := Hm (HST.out.put HPL.out rfl hx6 ho6 (fit_rename HFT.out))
       have HB6 := Hm (HST.out.d.under hx6)
       clear ho6 hx6
       go_wp2_with fail
       refine hK.out _ _ (trivial) (fun hZ => ?_)
       clear hK K
       try simp only[Act.put,sa,s0,s1]
       refine uq 5 q993_32_20_5 62 hZ ?_
       refine uq 6 q993_32_20_6 68 hZ ?_
       refine uq 7 q993_32_20_7 69 hZ ?_
       refine ar1 8 q993_32_20_8 fun K hK => ?_
       ·skip
        have hbd := HB6.out
        obtain ⟨p0, p1, p2, p3⟩ := hbd.c4
        obtain ⟨f0, f1, f2, f3⟩ := hbd.f4
        have l0 := hbd.lt
        clear hbd
        go_simp
        refine hK.out _ _ (trivial) (fun hZ => ?_)
        clear hK K
        try simp only[Act.put,sa,s0,s1]
        refine wpAnyH_done (by kernel_rfl) ?_ _
        clear p0 p1 p2 p3 f0 f1 f2 f3 l0
        go_wp2_with fail
        go_roundw
        case rel => exact ⟨x - 1, d0, d1, d2, k0, e0, k1, e1, k2, e2, z2, _, rfl, by omega, by omega, HN⟩
        case measure => simp [intOf]; omega
    ·go_simp
     have hD : DSt w g br bd wS [.slice a0 n0 c0, .slice a1 n1 c1, .slice a2 n2 c2, .int .i64 z] m := by first | exact HD0.out | exact HDS.out
     refine (l2DrawName_ok hD.c).mono ?_
     rintro e wE3 ⟨t, ⟨rfl, ht⟩, hcx, hgx⟩
     have ht20 := namesL_short t ht
     clear ht
     have HD3 : Hid (DSt w g br bd wE3 [.slice a0 n0 c0, .slice a1 n1 c1, .slice a2 n2 c2, .int .i64 z] m) := hD.cur HPL.out hgx hcx
     clear hD hgx hcx
     go_wp2_with fail
     refine hK.out _ _ (trivial) (fun hZ => ?_)
     clear hK K
     try simp only[Act.put,sa,s0,s1]
     refine ar1 0 q993_32_20_0 fun K hK => ?_
     ·go_simp
      have hD : DSt w g br bd wE3 [.slice a0 n0 c0, .slice a1 n1 c1, .slice a2 n2 c2, .int .i64 z] m := by first | exact HD3.out | exact HDS.out
      obtain ⟨p0, p1, p2, p3⟩ := hD.d.c4
      go_simp
      obtain ⟨wE0, hqL⟩ : ∃ x, x = wE3 := ⟨_, rfl⟩
      have HD0 : Hid (DSt w g br bd wE0 [.slice a0 n0 c0, .slice a1 n1 c1, .slice a2 n2 c2, .int .i64 z] m) := by unfold Hid; rw [hqL]; exact hD
      have hop0 : True := trivial
      (try rw [<- hqL] at HOB)
      rw [<- hqL]
      clear hqL p0 p1 p2 p3 hD
      refine hK.out _ _ (trivial) (fun hZ => ?_)
      clear hK K
      try simp only[Act.put,sa,s0,s1]
      refine ar1 4 q993_32_20_4 fun K hK => ?_
      ·go_simp
       have HST : Hid (DSt w g br bd wE0 [.slice a0 n0 c0, .slice a1 n1 c1, .slice a2 n2 c2, .int .i64 z] m) := by first | exact HD3 | exact HD0
       refine (specRename_o _ m s t wE0 HST.out.read hs2 (by omega) HSM.out hs1 (by omega)).mono ?_
       rintro e wE4 ⟨cs6, rfl, ho6, hx6⟩
       obtain ⟨d0, k0, e0, d1, k1, e1, d2, k2, e2, z2, hc6⟩ := odisk_four ho6
       subst hc6
       have HN := Hm (HST.out.put HPL.out rfl hx6 ho6 (fit_rename HFT.out))
       have HB6 := Hm (HST.out.d.under hx6)
       clear ho6 hx6
       go_wp2_with fail
       refine hK.out _ _ (trivial) (fun hZ => ?_)
       clear hK K
       try simp only[Act.put,sa,s0,s1]
       refine uq 5 q993_32_20_5 62 hZ ?_
       refine uq 6 q993_32_20_6 68 hZ ?_
       refine uq 7 q993_32_20_7 69 hZ ?_
       refine ar1 8 q993_32_20_8 fun K hK => ?_
       ·skip
        have hbd := HB6.out
        obtain ⟨p0, p1, p2, p3⟩ := hbd.c4
        obtain ⟨f0, f1, f2, f3⟩ := hbd.f4
        have l0 := hbd.lt
        clear hbd
        go_simp
        refine hK.out _ _ (trivial) (fun hZ => ?_)
        clear hK K
        try simp only[Act.put,sa,s0,s1]
        refine wpAnyH_done (by kernel_rfl) ?_ _
        clear p0 p1 p2 p3 f0 f1 f2 f3 l0
        go_wp2_with fail
        go_roundw
        case rel => exact ⟨x - 1, d0, d1, d2, k0, e0, k1, e1, k2, e2, z2, _, rfl, by omega, by omega, HN⟩
        case measure => simp [intOf]; omega
   ·go_wp2_with fail
    refine (specRemove_o _ m s w5 HRD.out hs2 HSM.out hs1).mono ?_
    rintro e w6 ⟨cs6, rfl, ho6, hx6⟩
    obtain ⟨d0, k0, e0, d1, k1, e1, d2, k2, e2, z2, hc6⟩ := odisk_four ho6
    subst hc6
    have HN := Hm (HST.out.put HPL.out rfl hx6 ho6 (fit_remove HFT.out))
    have hbd := HST.out.d.under hx6
    clear p0 p1 p2 p3 ho6 hx6 HRD
    obtain ⟨p0, p1, p2, p3⟩ := hbd.c4
    obtain ⟨f0, f1, f2, f3⟩ := hbd.f4
    have l0 := hbd.lt
    clear hbd
    go_wp2_with fail
    go_roundw
    case rel => exact ⟨x - 1, d0, d1, d2, k0, e0, k1, e1, k2, e2, z2, _, rfl, by omega, by omega, HN⟩
    case measure => simp [intOf]; omega
   ·go_wp2_with fail
    refine wp_region_held_drew (S := fun W => True) (by kernel_rfl) (trivial) (fun hZ => ?_)
    obtain ⟨wS, hwS⟩ : ∃ wS, wS = w5.drew := ⟨_, rfl⟩
    have HDS : Hid (DSt w g br bd wS [.slice a0 n0 c0, .slice a1 n1 c1, .slice a2 n2 c2, .int .i64 z] m) := by unfold Hid; rw [hwS]; exact HST.out.drew
    rw [<- hwS]
    clear hwS p0 p1 p2 p3 HRD
    refine uq 1 q993_32_7_1 21 hZ ?_
    refine arR [0, 2] ?_
    refine (AllReadyH.cons (o := q993_32_7_0) rfl (fun K hK => ?_) (AllReadyH.cons (o := q993_32_7_2) rfl (fun K hK => ?_) AllReadyH.nil))
    ·go_simp
     have hD : DSt w g br bd wS [.slice a0 n0 c0, .slice a1 n1 c1, .slice a2 n2 c2, .int .i64 z] m := by first | exact HD2.out | exact HDS.out
     obtain ⟨p0, p1, p2, p3⟩ := hD.d.c4
     go_simp
     obtain ⟨wE0, hqL⟩ : ∃ x, x = wS := ⟨_, rfl⟩
     have HD0 : Hid (DSt w g br bd wE0 [.slice a0 n0 c0, .slice a1 n1 c1, .slice a2 n2 c2, .int .i64 z] m) := by unfold Hid; rw [hqL]; exact hD
     have hop0 : True := trivial
     (try rw [<- hqL] at HOB)
     rw [<- hqL]
     clear hqL p0 p1 p2 p3 hD
     refine hK.out _ _ (trivial) (fun hZ => ?_)
     clear hK K
     try simp only[Act.put,sa,s0,s1]
     refine ar1 2 q993_32_7_2 fun K hK => ?_
     ·go_simp
      have hD : DSt w g br bd wE0 [.slice a0 n0 c0, .slice a1 n1 c1, .slice a2 n2 c2, .int .i64 z] m := by first | exact HD0.out | exact HDS.out
      refine (l1Below_ok 4 hD.c).mono ?_
      rintro e wE2 ⟨kf, rfl, hkf, hcx, hgx⟩
      have hkf4 : 0 <= kf /\ kf < 16777216 := ⟨hkf.1, hkf.2.1⟩
      clear hkf
      have HD2 : Hid (DSt w g br bd wE2 [.slice a0 n0 c0, .slice a1 n1 c1, .slice a2 n2 c2, .int .i64 z] m) := hD.cur HPL.out hgx hcx
      clear hD hgx hcx
      go_wp2_with fail
      refine hK.out _ _ (trivial) (fun hZ => ?_)
      clear hK K
      try simp only[Act.put,sa,s0,s1]
      refine ar1 3 q993_32_7_3 fun K hK => ?_
      ·go_simp
       have HST : Hid (DSt w g br bd wE2 [.slice a0 n0 c0, .slice a1 n1 c1, .slice a2 n2 c2, .int .i64 z] m) := by first | exact HD2 | exact HD0
       refine (specFall_o _ m kf wE2 HST.out.read (WalkArith.wf_i64 (by omega)) HSM.out).mono ?_
       rintro e wE3 ⟨cs6, rfl, ho6, hx6⟩
       obtain ⟨d0, k0, e0, d1, k1, e1, d2, k2, e2, z2, hc6⟩ := odisk_four ho6
       subst hc6
       have HN := Hm (HST.out.put HPL.out rfl hx6 ho6 (fit_fall HFT.out))
       have HB6 := Hm (HST.out.d.under hx6)
       clear ho6 hx6
       go_wp2_with fail
       refine hK.out _ _ (trivial) (fun hZ => ?_)
       clear hK K
       try simp only[Act.put,sa,s0,s1]
       refine ar1 4 q993_32_7_4 fun K hK => ?_
       ·skip
        have hbd := HB6.out
        obtain ⟨p0, p1, p2, p3⟩ := hbd.c4
        obtain ⟨f0, f1, f2, f3⟩ := hbd.f4
        have l0 := hbd.lt
        clear hbd
        go_simp
        refine hK.out _ _ (trivial) (fun hZ => ?_)
        clear hK K
        try simp only[Act.put,sa,s0,s1]
        refine wpAnyH_done (by kernel_rfl) ?_ _
        clear p0 p1 p2 p3 f0 f1 f2 f3 l0
        go_wp2_with fail
        go_roundw
        case rel => exact ⟨x - 1, d0, d1, d2, k0, e0, k1, e1, k2, e2, z2, _, rfl, by omega, by omega, HN⟩
        case measure => simp [intOf]; omega
    ·go_simp
     have hD : DSt w g br bd wS [.slice a0 n0 c0, .slice a1 n1 c1, .slice a2 n2 c2, .int .i64 z] m := by first | exact HD0.out | exact HDS.out
     refine (l1Below_ok 4 hD.c).mono ?_
     rintro e wE2 ⟨kf, rfl, hkf, hcx, hgx⟩
     have hkf4 : 0 <= kf /\ kf < 16777216 := ⟨hkf.1, hkf.2.1⟩
     clear hkf
     have HD2 : Hid (DSt w g br bd wE2 [.slice a0 n0 c0, .slice a1 n1 c1, .slice a2 n2 c2, .int .i64 z] m) := hD.cur HPL.out hgx hcx
     clear hD hgx hcx
     go_wp2_with fail
     refine hK.out _ _ (trivial) (fun hZ => ?_)
     clear hK K
     try simp only[Act.put,sa,s0,s1]
     refine ar1 0 q993_32_7_0 fun K hK => ?_
     ·go_simp
      have hD : DSt w g br bd wE2 [.slice a0 n0 c0, .slice a1 n1 c1, .slice a2 n2 c2, .int .i64 z] m := by first | exact HD2.out | exact HDS.out
      obtain ⟨p0, p1, p2, p3⟩ := hD.d.c4
      go_simp
      obtain ⟨wE0, hqL⟩ : ∃ x, x = wE2 := ⟨_, rfl⟩
      have HD0 : Hid (DSt w g br bd wE0 [.slice a0 n0 c0, .slice a1 n1 c1, .slice a2 n2 c2, .int .i64 z] m) := by unfold Hid; rw [hqL]; exact hD
      have hop0 : True := trivial
      (try rw [<- hqL] at HOB)
      rw [<- hqL]
      clear hqL p0 p1 p2 p3 hD
      refine hK.out _ _ (trivial) (fun hZ => ?_)
      clear hK K
      try simp only[Act.put,sa,s0,s1]
      refine ar1 3 q993_32_7_3 fun K hK => ?_
      ·go_simp
       have HST : Hid (DSt w g br bd wE0 [.slice a0 n0 c0, .slice a1 n1 c1, .slice a2 n2 c2, .int .i64 z] m) := by first | exact HD2 | exact HD0
       refine (specFall_o _ m kf wE0 HST.out.read (WalkArith.wf_i64 (by omega)) HSM.out).mono ?_
       rintro e wE3 ⟨cs6, rfl, ho6, hx6⟩
       obtain ⟨d0, k0, e0, d1, k1, e1, d2, k2, e2, z2, hc6⟩ := odisk_four ho6
       subst hc6
       have HN := Hm (HST.out.put HPL.out rfl hx6 ho6 (fit_fall HFT.out))
       have HB6 := Hm (HST.out.d.under hx6)
       clear ho6 hx6
       go_wp2_with fail
       refine hK.out _ _ (trivial) (fun hZ => ?_)
       clear hK K
       try simp only[Act.put,sa,s0,s1]
       refine ar1 4 q993_32_7_4 fun K hK => ?_
       ·skip
        have hbd := HB6.out
        obtain ⟨p0, p1, p2, p3⟩ := hbd.c4
        obtain ⟨f0, f1, f2, f3⟩ := hbd.f4
        have l0 := hbd.lt
        clear hbd
        go_simp
        refine hK.out _ _ (trivial) (fun hZ => ?_)
        clear hK K
        try simp only[Act.put,sa,s0,s1]
        refine wpAnyH_done (by kernel_rfl) ?_ _
        clear p0 p1 p2 p3 f0 f1 f2 f3 l0
        go_wp2_with fail
        go_roundw
        case rel => exact ⟨x - 1, d0, d1, d2, k0, e0, k1, e1, k2, e2, z2, _, rfl, by omega, by omega, HN⟩
        case measure => simp [intOf]; omega
  ·have hbd := HST.out.d
   have hbr := HST.out.r
   obtain ⟨p0, p1, p2, p3⟩ := hbd.c4
   obtain ⟨q0, q1, q2, q3⟩ := hbr.c4
   obtain ⟨e0, e1, e2, e3⟩ := hbr.f4
   have l0 := hbr.lt
   have HP := Hm (fun W (hT : Turn [br] wr W) => (show (∃ F, oDisk W [.slice a0 n0 c0, .slice a1 n1 c1, .slice a2 n2 c2, .int .i64 z] m F /\ ∀ b, b ∈ F -> w.heap.size <= b) /\ Fit m /\ CurOk W g /\ Turn [g] w W from HST.out.leave HPL.out hT))
   clear hbd hbr HST
   go_wp2_with fail
   refine bodyPost_ret (v := .agg #[.slice a0 n0 c0, .slice a1 n1 c1, .slice a2 n2 c2, .int .i64 z]) (by simp [results, Tryz.results32, go_sem, *]) rfl ⟨[.slice a0 n0 c0, .slice a1 n1 c1, .slice a2 n2 c2, .int .i64 z], rfl, m, HP.out _ ?_⟩
   exact turn4 _ _ _ _ _ _
end Go.Proofs.YtegonncmopecnaaGreatDoor
