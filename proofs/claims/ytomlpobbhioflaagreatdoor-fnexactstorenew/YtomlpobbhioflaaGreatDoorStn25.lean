/-
  Part 26 of the texts that the proof leans on.
-/
import Derived.Test.YtomlpobbhioflaaGreatDoorStn0
import Derived.Test.YtomlpobbhioflaaGreatDoorStn20
import Derived.Test.YtomlpobbhioflaaGreatDoorStn24
import Derived.Test.YtomlpobbhioflaaGreatDoorStn14
import Derived.Deep.DeepCutAuto
set_option linter.unusedVariables false
set_option linter.unusedSimpArgs false
set_option maxRecDepth 10000

namespace Go.Proofs.YtomlpobbhioflaaGreatDoor
open Go.RowKit
abbrev q4f9_5_2_1 : Oper := ⟨some 7, .fieldAddr 31 (.tmp 1) 1, 0, "l07_store.go:77", #[], none⟩
abbrev q4f9_5_2_2 : Oper := ⟨some 8, .load 3 (.tmp 7), 3, "l07_store.go:77", #[⟨1, .data⟩], none⟩
abbrev q4f9_5_2_8 : Oper := ⟨some 2, .alloc 25, 0, "l07_store.go:77", #[], none⟩
abbrev q4f9_5_2_0 : Oper := ⟨some 6, .call { callee := .value (.func 14), args := #[], argTypes := #[] }, 25, "l07_store.go:77", #[], none⟩
abbrev q4f9_5_2_3 : Oper := ⟨some 9, .call { callee := .value (.func 15), args := #[.tmp 8], argTypes := #[3] }, 9, "l07_store.go:77", #[⟨2, .data⟩, ⟨0, .chain⟩], none⟩
abbrev q4f9_5_2_4 : Oper := ⟨some 10, .call { callee := .value (.func 13), args := #[.tmp 6, .tmp 9], argTypes := #[25, 9] }, 38, "l07_store.go:77", #[⟨0, .data⟩, ⟨3, .data⟩, ⟨3, .chain⟩], none⟩
abbrev q4f9_5_2_5 : Oper := ⟨some 5, .move (.tmp 10), 38, "l07_store.go:77", #[⟨4, .data⟩], none⟩
abbrev q4f9_5_2_6 : Oper := ⟨some 11, .extract (.tmp 5) 0, 25, "l07_store.go:77", #[⟨5, .data⟩], none⟩
abbrev q4f9_5_2_7 : Oper := ⟨some 12, .extract (.tmp 5) 1, 3, "l07_store.go:77", #[⟨5, .data⟩, { on := 9, ground := Ground.gcOnly Departure.lateStores }], none⟩
abbrev q4f9_5_2_9 : Oper := ⟨none, .store 25 (.tmp 2) (.tmp 11), 0, "l07_store.go:77", #[⟨8, .data⟩, ⟨6, .data⟩, ⟨4, .chain⟩, ⟨0, .phase⟩, ⟨1, .phase⟩, ⟨2, .phase⟩, ⟨3, .phase⟩, ⟨4, .phase⟩, ⟨5, .phase⟩, ⟨6, .phase⟩, { on := 7, ground := Ground.textOnly Departure.lateStores }, ⟨8, .phase⟩], none⟩
abbrev q4f9_5_2_10 : Oper := ⟨some 3, .assign (.tmp 12), 3, "l07_store.go:77", #[⟨7, .data⟩, ⟨9, .chain⟩, ⟨0, .phase⟩, ⟨1, .phase⟩, ⟨2, .phase⟩, ⟨3, .phase⟩, ⟨4, .phase⟩, ⟨5, .phase⟩, ⟨6, .phase⟩, ⟨7, .phase⟩, ⟨8, .phase⟩, ⟨9, .phase⟩], none⟩
set_option maxHeartbeats 400000 in
theorem logName_any (w : World) (hT : Pow w) :
  Calls Tryz.prog 15 #[.int .i64 1] w fun e w' => e = .returned (.string logB) ∧ Below w.heap.size w w' := by
 have hsz : (strB (decD 1)).size = 1 := by rw [strB_size, show decD 1 = [49] from decD_small (by omega) (by omega)]; rfl
 have HL := Hid.mk log_name
 have HC := Hid.mk (itoa_any 1 w (by omega) (by omega) hT)
 clear hT
 generalize strB (decD 1) = s at HC HL hsz
 have hz : ¬ 9223372036854775807 < 4 + s.size := by omega
 go_enter Tryz.func15, Tryz.ntmps15
 go_wp2_with fail
 refine HC.out.mono ?_
 rintro e w1 ⟨rfl, hx⟩
 go_wp2_with fail
 go_ret
 exact ⟨by rw [← HL.out]; rfl, hx⟩
set_option maxHeartbeats 4000000 in
theorem implStoreNew_c (w : World) (hT : Pow w) :
  Calls Tryz.prog 5 #[] w fun e w' => ∃ (cs : List Value) (F : List Nat), e = .returned (.agg (stoC cs).toArray) ∧ oDisk w' cs stoD F ∧ F.Nodup ∧ (∀ b, b ∈ F → w.heap.size ≤ b) ∧ Below w.heap.size w w' := by
 have HPW := Hid.mk hT
 clear hT
 go_enter Tryz.func5, Tryz.ntmps5
 go_wp2_with fail
 obtain ⟨wq, hwq⟩ : ∃ wq, wq = (w.alloc (.cells #[.slice none 0 0, .slice none 0 0, .slice none 0 0, .int .i64 0, .slice none 0 0, .int .i64 0, .int .i64 0, .slice none 0 0] 33)).alloc (.cells #[.int .i64 2, .int .i64 1, .slice none 0 0] 31) := ⟨_, rfl⟩
 have hbq : Below w.heap.size w wq := by rw [hwq]; exact ((Below.refl _ _).alloc (Nat.le_refl _) _).alloc (by simp) _
 have hbs : Bw wq w.heap.size 33 stoZ := by rw [hwq]; exact (Bw.new _ _ _).alloc _
 have hbm : Bw wq (w.heap.size + 1) 31 [.int .i64 2, .int .i64 1, .slice none 0 0] := by rw [hwq]; exact Bw.new' _ _ _ (by simp)
 rw [← hwq]
 clear hwq
 replace HPW : Hid (∀ W : World, Below wq.heap.size wq W → Pow W) := fun W h => (HPW.out.below hbq).below h
 have y1 : ∀ W, Below wq.heap.size wq W → W.cell? ⟨w.heap.size + 1, 1, none⟩ = some (.int .i64 1) := fun W h => (hbm.under h).cell 1 _ rfl
 have HCL := Hid.mk (fun (W : World) (h : Below wq.heap.size wq W) => logName_any W (HPW.out W h))
 have hBB := hbm.lt
 go_cut [2] (fun x wc => ∃ (bd : Nat) (cs : List Value), x = .pointer (some ⟨bd, 0, none⟩) ∧ Hid (Bw wc bd 25 cs) ∧ Hid (rDisk wc.heap.size wc cs logD) ∧ wq.heap.size ≤ bd ∧ Below wq.heap.size wq wc)
 case first =>
  refine wp_region_held_drew (S := fun W => Below wq.heap.size wq W) (by kernel_rfl) (Below.drew (Below.refl _ _)) (fun hHeld => ?_)
  obtain ⟨wS, hwS⟩ : ∃ wS, wS = wq.drew := ⟨_, rfl⟩
  rw [← hwS] at hHeld ⊢
  clear hwS
  refine uq 1 q4f9_5_2_1 7 hHeld ?_
  refine uq 2 q4f9_5_2_2 8 hHeld ?_
  refine arR [0, 8] ?_
  refine (AllReadyH.cons (o := q4f9_5_2_0) rfl (fun K hK => ?_) (AllReadyH.cons (o := q4f9_5_2_8) rfl (fun K hK => ?_) AllReadyH.nil))
  ·go_simp
   refine (implDiskNew_c wS).mono ?_
   rintro e wE0 ⟨cs0, F0, rfl, ho0, _, _, hop0⟩
   have HR0 := Hid.mk (oDisk_good.read ho0)
   clear ho0
   go_wp2_with fail
   refine hK.out _ _ (bthen hHeld hop0) (fun hHeld => ?_)
   clear hK K
   try simp only[Act.put,sa,s0,s1]
   refine arR [3, 8] ?_
   refine (AllReadyH.cons (o := q4f9_5_2_3) rfl (fun K hK => ?_) (AllReadyH.cons (o := q4f9_5_2_8) rfl (fun K hK => ?_) AllReadyH.nil))
   ·go_simp
    refine (HCL.out wE0 hHeld).mono ?_
    rintro e wE3 ⟨rfl, hop3⟩
    go_wp2_with fail
    refine hK.out _ _ (bthen hHeld hop3) (fun hHeld => ?_)
    clear hK K
    try simp only[Act.put,sa,s0,s1]
    refine arR [4, 8] ?_
    refine (AllReadyH.cons (o := q4f9_5_2_4) rfl (fun K hK => ?_) (AllReadyH.cons (o := q4f9_5_2_8) rfl (fun K hK => ?_) AllReadyH.nil))
    ·go_simp
     refine (implCreate_c cs0 newDisk logB wE3 (rDisk_good.mono (rDisk_good.below HR0.out (show Below wE0.heap.size wE0 wE3 from bthen (Below.refl _ _) hop3)) ((show Below wE0.heap.size wE0 wE3 from bthen (Below.refl _ _) hop3)).size) (by have := logB_size; omega) new_small logB_size).mono ?_
     rintro e wE4 ⟨cs4, F4, rfl, ho4, _, _, hop4⟩
     have HR4 : Hid (rDisk wE4.heap.size wE4 cs4 logD) := oDisk_good.read ho4
     clear ho4
     obtain ⟨a0, c0, a1, c1, a2, c2, hcs4, _⟩ := id HR4.out
     subst hcs4
     generalize createC newDisk logB = cc
     generalize logD.fInodes.length = n0 at *
     generalize logD.fNames.length = n1 at *
     generalize logD.fSafe.length = n2 at *
     generalize logD.fNext = nx at *
     go_wp2_with fail
     refine hK.out _ _ (bthen hHeld hop4) (fun hHeld => ?_)
     clear hK K
     try simp only[Act.put,sa,s0,s1]
     refine uq 5 q4f9_5_2_5 5 hHeld ?_
     refine uq 6 q4f9_5_2_6 11 hHeld ?_
     refine uq 7 q4f9_5_2_7 12 hHeld ?_
     refine ar1 8 q4f9_5_2_8 fun K hK => ?_
     ·go_simp
      obtain ⟨wE8, hq8⟩ : ∃ q, q = wE4.alloc (.cells #[.slice none 0 0, .slice none 0 0, .slice none 0 0, .int .i64 0] 25) := ⟨_, rfl⟩
      have hop8 : Below wE4.heap.size wE4 wE8 := by rw [hq8]; exact (Below.refl _ _).alloc (Nat.le_refl _) _
      obtain ⟨bd, HBD⟩ : ∃ z, Hid (z = wE4.heap.size) := ⟨_, Hid.mk rfl⟩
      have HB8 : Hid (Bw wE8 bd 25 [.slice none 0 0, .slice none 0 0, .slice none 0 0, .int .i64 0]) := by unfold Hid; rw [HBD.out, hq8]; exact Bw.new _ _ _
      have HBL : Hid (wq.heap.size ≤ bd) := by unfold Hid; rw [HBD.out]; exact hHeld.size
      rw [← HBD.out]
      rw [← hq8]
      clear hq8
      refine hK.out _ _ (bthen hHeld hop8) (fun hHeld => ?_)
      clear hK K
      try simp only[Act.put,sa,s0,s1]
      refine ar1 9 q4f9_5_2_9 fun K hK => ?_
      ·skip
       have hbd := HB8.out.under (show Below wE8.heap.size wE8 wE8 from Below.refl _ _)
       obtain ⟨s0, s1, s2, s3⟩ := hbd.c4
       obtain ⟨t0, t1, t2, t3⟩ := hbd.f4
       have s4 := hbd.lt
       go_simp
       obtain ⟨wE9, hq9⟩ : ∃ q, q = (((wE8.setCell ⟨bd, 0, none⟩ (.slice a0 n0 c0)).setCell ⟨bd, 1, none⟩ (.slice a1 n1 c1)).setCell ⟨bd, 2, none⟩ (.slice a2 n2 c2)).setCell ⟨bd, 3, none⟩ (.int .i64 nx) := ⟨_, rfl⟩
       have hT9 : Turn [bd] wE8 wE9 := by rw [hq9]; exact turn4 _ _ _ _ _ _
       have hs9 : wE9.heap.size = wE8.heap.size := by rw [hq9]; simp
       have HB9 : Hid (Bw wE9 bd 25 [.slice a0 n0 c0, .slice a1 n1 c1, .slice a2 n2 c2, .int .i64 nx]) := by unfold Hid; rw [hq9]; exact (((hbd.put 0 _).put 1 _).put 2 _).put 3 _
       have HR9 : Hid (rDisk wE9.heap.size wE9 [.slice a0 n0 c0, .slice a1 n1 c1, .slice a2 n2 c2, .int .i64 nx] logD) := by unfold Hid; rw [hs9]; exact rDisk_turn hbd.dzero hT9 (rDisk_good.mono (rDisk_good.below HR4.out (show Below wE4.heap.size wE4 wE8 from bthen (Below.refl _ _) hop8)) ((show Below wE4.heap.size wE4 wE8 from bthen (Below.refl _ _) hop8)).size)
       rw [← hq9]
       clear hq9 s0 s1 s2 s3 s4 t0 t1 t2 t3 hbd hs9
       refine hK.out _ _ (hHeld.trans (hT9.below (fun k hk => by simp at hk; rw [hk]; exact HBL.out) hHeld.size)) (fun hHeld => ?_)
       clear hK K
       try simp only[Act.put,sa,s0,s1]
       refine uq 10 q4f9_5_2_10 3 hHeld ?_
       refine wpAnyH_done (by kernel_rfl) ?_ _
       try go_wp2_with fail
       go_meet
       case rel => exact ⟨bd, _, rfl, HB9, HR9, HBL.out, hHeld⟩
    ·go_simp
     obtain ⟨wE8, hq8⟩ : ∃ q, q = wE3.alloc (.cells #[.slice none 0 0, .slice none 0 0, .slice none 0 0, .int .i64 0] 25) := ⟨_, rfl⟩
     have hop8 : Below wE3.heap.size wE3 wE8 := by rw [hq8]; exact (Below.refl _ _).alloc (Nat.le_refl _) _
     obtain ⟨bd, HBD⟩ : ∃ z, Hid (z = wE3.heap.size) := ⟨_, Hid.mk rfl⟩
     have HB8 : Hid (Bw wE8 bd 25 [.slice none 0 0, .slice none 0 0, .slice none 0 0, .int .i64 0]) := by unfold Hid; rw [HBD.out, hq8]; exact Bw.new _ _ _
     have HBL : Hid (wq.heap.size ≤ bd) := by unfold Hid; rw [HBD.out]; exact hHeld.size
     rw [← HBD.out]
     rw [← hq8]
     clear hq8
     refine hK.out _ _ (bthen hHeld hop8) (fun hHeld => ?_)
     clear hK K
     try simp only[Act.put,sa,s0,s1]
     refine ar1 4 q4f9_5_2_4 fun K hK => ?_
     ·go_simp
      refine (implCreate_c cs0 newDisk logB wE8 (rDisk_good.mono (rDisk_good.below HR0.out (show Below wE0.heap.size wE0 wE8 from bthen (bthen (Below.refl _ _) hop3) hop8)) ((show Below wE0.heap.size wE0 wE8 from bthen (bthen (Below.refl _ _) hop3) hop8)).size) (by have := logB_size; omega) new_small logB_size).mono ?_
      rintro e wE4 ⟨cs4, F4, rfl, ho4, _, _, hop4⟩
      have HR4 : Hid (rDisk wE4.heap.size wE4 cs4 logD) := oDisk_good.read ho4
      clear ho4
      obtain ⟨a0, c0, a1, c1, a2, c2, hcs4, _⟩ := id HR4.out
      subst hcs4
      generalize createC newDisk logB = cc
      generalize logD.fInodes.length = n0 at *
      generalize logD.fNames.length = n1 at *
      generalize logD.fSafe.length = n2 at *
      generalize logD.fNext = nx at *
      go_wp2_with fail
      refine hK.out _ _ (bthen hHeld hop4) (fun hHeld => ?_)
      clear hK K
      try simp only[Act.put,sa,s0,s1]
      refine uq 5 q4f9_5_2_5 5 hHeld ?_
      refine uq 6 q4f9_5_2_6 11 hHeld ?_
      refine uq 7 q4f9_5_2_7 12 hHeld ?_
      refine ar1 9 q4f9_5_2_9 fun K hK => ?_
      ·skip
       have hbd := HB8.out.under (show Below wE8.heap.size wE8 wE4 from bthen (Below.refl _ _) hop4)
       obtain ⟨s0, s1, s2, s3⟩ := hbd.c4
       obtain ⟨t0, t1, t2, t3⟩ := hbd.f4
       have s4 := hbd.lt
       go_simp
       obtain ⟨wE9, hq9⟩ : ∃ q, q = (((wE4.setCell ⟨bd, 0, none⟩ (.slice a0 n0 c0)).setCell ⟨bd, 1, none⟩ (.slice a1 n1 c1)).setCell ⟨bd, 2, none⟩ (.slice a2 n2 c2)).setCell ⟨bd, 3, none⟩ (.int .i64 nx) := ⟨_, rfl⟩
       have hT9 : Turn [bd] wE4 wE9 := by rw [hq9]; exact turn4 _ _ _ _ _ _
       have hs9 : wE9.heap.size = wE4.heap.size := by rw [hq9]; simp
       have HB9 : Hid (Bw wE9 bd 25 [.slice a0 n0 c0, .slice a1 n1 c1, .slice a2 n2 c2, .int .i64 nx]) := by unfold Hid; rw [hq9]; exact (((hbd.put 0 _).put 1 _).put 2 _).put 3 _
       have HR9 : Hid (rDisk wE9.heap.size wE9 [.slice a0 n0 c0, .slice a1 n1 c1, .slice a2 n2 c2, .int .i64 nx] logD) := by unfold Hid; rw [hs9]; exact rDisk_turn hbd.dzero hT9 (rDisk_good.mono (rDisk_good.below HR4.out (show Below wE4.heap.size wE4 wE4 from Below.refl _ _)) ((show Below wE4.heap.size wE4 wE4 from Below.refl _ _)).size)
       rw [← hq9]
       clear hq9 s0 s1 s2 s3 s4 t0 t1 t2 t3 hbd hs9
       refine hK.out _ _ (hHeld.trans (hT9.below (fun k hk => by simp at hk; rw [hk]; exact HBL.out) hHeld.size)) (fun hHeld => ?_)
       clear hK K
       try simp only[Act.put,sa,s0,s1]
       refine uq 10 q4f9_5_2_10 3 hHeld ?_
       refine wpAnyH_done (by kernel_rfl) ?_ _
       try go_wp2_with fail
       go_meet
       case rel => exact ⟨bd, _, rfl, HB9, HR9, HBL.out, hHeld⟩
   ·go_simp
    obtain ⟨wE8, hq8⟩ : ∃ q, q = wE0.alloc (.cells #[.slice none 0 0, .slice none 0 0, .slice none 0 0, .int .i64 0] 25) := ⟨_, rfl⟩
    have hop8 : Below wE0.heap.size wE0 wE8 := by rw [hq8]; exact (Below.refl _ _).alloc (Nat.le_refl _) _
    obtain ⟨bd, HBD⟩ : ∃ z, Hid (z = wE0.heap.size) := ⟨_, Hid.mk rfl⟩
    have HB8 : Hid (Bw wE8 bd 25 [.slice none 0 0, .slice none 0 0, .slice none 0 0, .int .i64 0]) := by unfold Hid; rw [HBD.out, hq8]; exact Bw.new _ _ _
    have HBL : Hid (wq.heap.size ≤ bd) := by unfold Hid; rw [HBD.out]; exact hHeld.size
    rw [← HBD.out]
    rw [← hq8]
    clear hq8
    refine hK.out _ _ (bthen hHeld hop8) (fun hHeld => ?_)
    clear hK K
    try simp only[Act.put,sa,s0,s1]
    refine ar1 3 q4f9_5_2_3 fun K hK => ?_
    ·go_simp
     refine (HCL.out wE8 hHeld).mono ?_
     rintro e wE3 ⟨rfl, hop3⟩
     go_wp2_with fail
     refine hK.out _ _ (bthen hHeld hop3) (fun hHeld => ?_)
     clear hK K
     try simp only[Act.put,sa,s0,s1]
     refine ar1 4 q4f9_5_2_4 fun K hK => ?_
     ·go_simp
      refine (implCreate_c cs0 newDisk logB wE3 (rDisk_good.mono (rDisk_good.below HR0.out (show Below wE0.heap.size wE0 wE3 from bthen (bthen (Below.refl _ _) hop8) hop3)) ((show Below wE0.heap.size wE0 wE3 from bthen (bthen (Below.refl _ _) hop8) hop3)).size) (by have := logB_size; omega) new_small logB_size).mono ?_
      rintro e wE4 ⟨cs4, F4, rfl, ho4, _, _, hop4⟩
      have HR4 : Hid (rDisk wE4.heap.size wE4 cs4 logD) := oDisk_good.read ho4
      clear ho4
      obtain ⟨a0, c0, a1, c1, a2, c2, hcs4, _⟩ := id HR4.out
      subst hcs4
      generalize createC newDisk logB = cc
      generalize logD.fInodes.length = n0 at *
      generalize logD.fNames.length = n1 at *
      generalize logD.fSafe.length = n2 at *
      generalize logD.fNext = nx at *
      go_wp2_with fail
      refine hK.out _ _ (bthen hHeld hop4) (fun hHeld => ?_)
      clear hK K
      try simp only[Act.put,sa,s0,s1]
      refine uq 5 q4f9_5_2_5 5 hHeld ?_
      refine uq 6 q4f9_5_2_6 11 hHeld ?_
      refine uq 7 q4f9_5_2_7 12 hHeld ?_
      refine ar1 9 q4f9_5_2_9 fun K hK => ?_
      ·skip
       have hbd := HB8.out.under (show Below wE8.heap.size wE8 wE4 from bthen (bthen (Below.refl _ _) hop3) hop4)
       obtain ⟨s0, s1, s2, s3⟩ := hbd.c4
       obtain ⟨t0, t1, t2, t3⟩ := hbd.f4
       have s4 := hbd.lt
       go_simp
       obtain ⟨wE9, hq9⟩ : ∃ q, q = (((wE4.setCell ⟨bd, 0, none⟩ (.slice a0 n0 c0)).setCell ⟨bd, 1, none⟩ (.slice a1 n1 c1)).setCell ⟨bd, 2, none⟩ (.slice a2 n2 c2)).setCell ⟨bd, 3, none⟩ (.int .i64 nx) := ⟨_, rfl⟩
       have hT9 : Turn [bd] wE4 wE9 := by rw [hq9]; exact turn4 _ _ _ _ _ _
       have hs9 : wE9.heap.size = wE4.heap.size := by rw [hq9]; simp
       have HB9 : Hid (Bw wE9 bd 25 [.slice a0 n0 c0, .slice a1 n1 c1, .slice a2 n2 c2, .int .i64 nx]) := by unfold Hid; rw [hq9]; exact (((hbd.put 0 _).put 1 _).put 2 _).put 3 _
       have HR9 : Hid (rDisk wE9.heap.size wE9 [.slice a0 n0 c0, .slice a1 n1 c1, .slice a2 n2 c2, .int .i64 nx] logD) := by unfold Hid; rw [hs9]; exact rDisk_turn hbd.dzero hT9 (rDisk_good.mono (rDisk_good.below HR4.out (show Below wE4.heap.size wE4 wE4 from Below.refl _ _)) ((show Below wE4.heap.size wE4 wE4 from Below.refl _ _)).size)
       rw [← hq9]
       clear hq9 s0 s1 s2 s3 s4 t0 t1 t2 t3 hbd hs9
       refine hK.out _ _ (hHeld.trans (hT9.below (fun k hk => by simp at hk; rw [hk]; exact HBL.out) hHeld.size)) (fun hHeld => ?_)
       clear hK K
       try simp only[Act.put,sa,s0,s1]
       refine uq 10 q4f9_5_2_10 3 hHeld ?_
       refine wpAnyH_done (by kernel_rfl) ?_ _
       try go_wp2_with fail
       go_meet
       case rel => exact ⟨bd, _, rfl, HB9, HR9, HBL.out, hHeld⟩
  ·go_simp
   obtain ⟨wE8, hq8⟩ : ∃ q, q = wS.alloc (.cells #[.slice none 0 0, .slice none 0 0, .slice none 0 0, .int .i64 0] 25) := ⟨_, rfl⟩
   have hop8 : Below wS.heap.size wS wE8 := by rw [hq8]; exact (Below.refl _ _).alloc (Nat.le_refl _) _
   obtain ⟨bd, HBD⟩ : ∃ z, Hid (z = wS.heap.size) := ⟨_, Hid.mk rfl⟩
   have HB8 : Hid (Bw wE8 bd 25 [.slice none 0 0, .slice none 0 0, .slice none 0 0, .int .i64 0]) := by unfold Hid; rw [HBD.out, hq8]; exact Bw.new _ _ _
   have HBL : Hid (wq.heap.size ≤ bd) := by unfold Hid; rw [HBD.out]; exact hHeld.size
   rw [← HBD.out]
   rw [← hq8]
   clear hq8
   refine hK.out _ _ (bthen hHeld hop8) (fun hHeld => ?_)
   clear hK K
   try simp only[Act.put,sa,s0,s1]
   refine ar1 0 q4f9_5_2_0 fun K hK => ?_
   ·go_simp
    refine (implDiskNew_c wE8).mono ?_
    rintro e wE0 ⟨cs0, F0, rfl, ho0, _, _, hop0⟩
    have HR0 := Hid.mk (oDisk_good.read ho0)
    clear ho0
    go_wp2_with fail
    refine hK.out _ _ (bthen hHeld hop0) (fun hHeld => ?_)
    clear hK K
    try simp only[Act.put,sa,s0,s1]
    refine ar1 3 q4f9_5_2_3 fun K hK => ?_
    ·go_simp
     refine (HCL.out wE0 hHeld).mono ?_
     rintro e wE3 ⟨rfl, hop3⟩
     go_wp2_with fail
     refine hK.out _ _ (bthen hHeld hop3) (fun hHeld => ?_)
     clear hK K
     try simp only[Act.put,sa,s0,s1]
     refine ar1 4 q4f9_5_2_4 fun K hK => ?_
     ·go_simp
      refine (implCreate_c cs0 newDisk logB wE3 (rDisk_good.mono (rDisk_good.below HR0.out (show Below wE0.heap.size wE0 wE3 from bthen (Below.refl _ _) hop3)) ((show Below wE0.heap.size wE0 wE3 from bthen (Below.refl _ _) hop3)).size) (by have := logB_size; omega) new_small logB_size).mono ?_
      rintro e wE4 ⟨cs4, F4, rfl, ho4, _, _, hop4⟩
      have HR4 : Hid (rDisk wE4.heap.size wE4 cs4 logD) := oDisk_good.read ho4
      clear ho4
      obtain ⟨a0, c0, a1, c1, a2, c2, hcs4, _⟩ := id HR4.out
      subst hcs4
      generalize createC newDisk logB = cc
      generalize logD.fInodes.length = n0 at *
      generalize logD.fNames.length = n1 at *
      generalize logD.fSafe.length = n2 at *
      generalize logD.fNext = nx at *
      go_wp2_with fail
      refine hK.out _ _ (bthen hHeld hop4) (fun hHeld => ?_)
      clear hK K
      try simp only[Act.put,sa,s0,s1]
      refine uq 5 q4f9_5_2_5 5 hHeld ?_
      refine uq 6 q4f9_5_2_6 11 hHeld ?_
      refine uq 7 q4f9_5_2_7 12 hHeld ?_
      refine ar1 9 q4f9_5_2_9 fun K hK => ?_
      ·skip
       have hbd := HB8.out.under (show Below wE8.heap.size wE8 wE4 from bthen (bthen (bthen (Below.refl _ _) hop0) hop3) hop4)
       obtain ⟨s0, s1, s2, s3⟩ := hbd.c4
       obtain ⟨t0, t1, t2, t3⟩ := hbd.f4
       have s4 := hbd.lt
       go_simp
       obtain ⟨wE9, hq9⟩ : ∃ q, q = (((wE4.setCell ⟨bd, 0, none⟩ (.slice a0 n0 c0)).setCell ⟨bd, 1, none⟩ (.slice a1 n1 c1)).setCell ⟨bd, 2, none⟩ (.slice a2 n2 c2)).setCell ⟨bd, 3, none⟩ (.int .i64 nx) := ⟨_, rfl⟩
       have hT9 : Turn [bd] wE4 wE9 := by rw [hq9]; exact turn4 _ _ _ _ _ _
       have hs9 : wE9.heap.size = wE4.heap.size := by rw [hq9]; simp
       have HB9 : Hid (Bw wE9 bd 25 [.slice a0 n0 c0, .slice a1 n1 c1, .slice a2 n2 c2, .int .i64 nx]) := by unfold Hid; rw [hq9]; exact (((hbd.put 0 _).put 1 _).put 2 _).put 3 _
       have HR9 : Hid (rDisk wE9.heap.size wE9 [.slice a0 n0 c0, .slice a1 n1 c1, .slice a2 n2 c2, .int .i64 nx] logD) := by unfold Hid; rw [hs9]; exact rDisk_turn hbd.dzero hT9 (rDisk_good.mono (rDisk_good.below HR4.out (show Below wE4.heap.size wE4 wE4 from Below.refl _ _)) ((show Below wE4.heap.size wE4 wE4 from Below.refl _ _)).size)
       rw [← hq9]
       clear hq9 s0 s1 s2 s3 s4 t0 t1 t2 t3 hbd hs9
       refine hK.out _ _ (hHeld.trans (hT9.below (fun k hk => by simp at hk; rw [hk]; exact HBL.out) hHeld.size)) (fun hHeld => ?_)
       clear hK K
       try simp only[Act.put,sa,s0,s1]
       refine uq 10 q4f9_5_2_10 3 hHeld ?_
       refine wpAnyH_done (by kernel_rfl) ?_ _
       try go_wp2_with fail
       go_meet
       case rel => exact ⟨bd, _, rfl, HB9, HR9, HBL.out, hHeld⟩
 case rest =>
  obtain ⟨bd, cs, rfl, HBD, HR, hbl, hbc⟩ := hcut
  generalize wc = wA at *
  clear y1 HCL
  have hPA : Pow wA := HPW.out wA hbc
  have HPA := Hid.mk hPA
  clear hPA
  obtain ⟨a0, c0, a1, c1, a2, c2, hcs, _⟩ := id HR.out
  subst hcs
  have hbsA := hbs.under hbc
  have hbmA := hbm.under hbc
  have hbA : Below w.heap.size w wA := bthen hbq hbc
  generalize logD.fInodes.length = n0 at *
  generalize logD.fNames.length = n1 at *
  generalize logD.fSafe.length = n2 at *
  generalize logD.fNext = nx at *
  have hbd := HBD.out
  obtain ⟨y0, y1, y2, y3⟩ := hbd.c4
  have z0 := hbmA.cell 0 _ rfl
  have z1 := hbmA.cell 1 _ rfl
  have z2 := hbmA.cell 2 _ rfl
  have hbs0 : w.heap.size + 1 < bd := Nat.lt_of_lt_of_le hBB hbl
  go_wp2_with fail
  refine (implInstall_c _ logD _ man1 wA HR.out (man1_read _ _) log_small man1_small HPA.out).mono ?_
  rintro e w5 ⟨cs5, F5, rfl, ho5, hN5, hge5, hx5⟩
  replace ho5 : oDisk w5 cs5 stoD F5 := ho5
  obtain ⟨b0, d0, b1, d1, b2, d2, hcs5, _⟩ := oDisk_good.read ho5
  subst hcs5
  have HO5 := Hid.mk ho5
  have hb5 := bthen hbA hx5
  replace hbsA := hbsA.under hx5
  replace hbmA := hbmA.under hx5
  replace hbd := hbd.under hx5
  have hltd := HBD.out.lt
  have HGE : Hid (∀ b, b ∈ F5 → bd < b ∧ w.heap.size + 1 < b) := fun b hb => by have := hge5 b hb; omega
  clear y0 y1 y2 y3 z0 z1 z2 ho5 hge5
  generalize instC logD man1 = ic
  generalize stoD.fInodes.length = k0 at *
  generalize stoD.fNames.length = k1 at *
  generalize stoD.fSafe.length = k2 at *
  generalize stoD.fNext = kx at *
  obtain ⟨y0, y1, y2, y3⟩ := hbd.c4
  obtain ⟨u0, u1, u2, u3⟩ := hbd.f4
  have l0 := hbd.lt
  obtain ⟨w6, hw6⟩ : ∃ x, x = (((w5.setCell ⟨bd, 0, none⟩ (.slice b0 k0 d0)).setCell ⟨bd, 1, none⟩ (.slice b1 k1 d1)).setCell ⟨bd, 2, none⟩ (.slice b2 k2 d2)).setCell ⟨bd, 3, none⟩ (.int .i64 kx) := ⟨_, rfl⟩
  have hT6 : Turn [bd] w5 w6 := by rw [hw6]; exact turn4 _ _ _ _ _ _
  have hbd6 : Bw w6 bd 25 [.slice b0 k0 d0, .slice b1 k1 d1, .slice b2 k2 d2, .int .i64 kx] := by rw [hw6]; exact (((hbd.put 0 _).put 1 _).put 2 _).put 3 _
  have HO6 : Hid (oDisk w6 [.slice b0 k0 d0, .slice b1 k1 d1, .slice b2 k2 d2, .int .i64 kx] stoD F5) := oDisk_good.frame HO5.out (fun b hb => hT6.block b (oDisk_good.lt HO5.out b hb) (fun h => by simp at h; have := (HGE.out b hb).1; omega))
  have hbs6 := hbsA.turn hT6 (by simp; omega)
  have hbm6 := hbmA.turn hT6 (by simp; omega)
  have hb6 : Below w.heap.size w w6 := hb5.trans (hT6.below (fun k hk => by simp at hk; omega) hb5.size)
  have HW6 := Hid.mk hw6
  clear hw6 hT6
  obtain ⟨p0, p1, p2, p3⟩ := hbd6.c4
  have q0 := hbm6.cell 0 _ rfl
  have q1 := hbm6.cell 1 _ rfl
  have q2 := hbm6.cell 2 _ rfl
  have r0 := hbs6.cell 0 _ rfl
  have r1 := hbs6.cell 1 _ rfl
  have r2 := hbs6.cell 2 _ rfl
  have r3 := hbs6.cell 3 _ rfl
  have r4 := hbs6.cell 4 _ rfl
  have r5 := hbs6.cell 5 _ rfl
  have r6 := hbs6.cell 6 _ rfl
  have r7 := hbs6.cell 7 _ rfl
  obtain ⟨e0, e1, e2, e3⟩ := hbs6.f4
  have e4 := hbs6.free 4
  have e5 := hbs6.free 5
  have e6 := hbs6.free 6
  have e7 := hbs6.free 7
  have l6 := hbs6.lt
  rw [HW6.out] at p0 p1 p2 p3 q0 q1 q2 r0 r1 r2 r3 r4 r5 r6 r7 e0 e1 e2 e3 e4 e5 e6 e7
  have HP := Hid.mk (fun W (hT : Turn [w.heap.size] w6 W) => (show oDisk W _ stoD F5 ∧ F5.Nodup ∧ (∀ b, b ∈ F5 → w.heap.size ≤ b) ∧ Below w.heap.size w W from ⟨oDisk_good.frame HO6.out (fun b hb => hT.block b (oDisk_good.lt HO6.out b hb) (fun h => by simp at h; have := (HGE.out b hb).2; omega)), hN5, (fun b hb => by have := (HGE.out b hb).2; omega), hb6.trans (hT.below (fun k hk => by simp at hk; omega) hb6.size)⟩))
  rw [HW6.out] at HP
  clear hbs hbm hbd hbs6 hbm6 hbd6 hbsA hbmA hb5 hb6 HO5 HO6 HW6 hbA HBD HR HPW HPA
  go_wp2_with fail
  refine bodyPost_ret (v := .agg #[.slice b0 k0 d0, .slice b1 k1 d1, .slice b2 k2 d2, .int .i64 kx, .slice none 0 0, .int .i64 2, .int .i64 1, .slice none 0 0]) (by simp [results, Tryz.results5, go_sem, *]) rfl ⟨[.slice b0 k0 d0, .slice b1 k1 d1, .slice b2 k2 d2, .int .i64 kx], F5, rfl, HP.out _ ?_⟩
  repeat (first | with_reducible exact Turn.refl _ _ | with_reducible refine Turn.setCell ?_ (by simp) _)
set_option maxHeartbeats 4000000 in
theorem law_FnExactStoreNew (w : World) (hT : Pow w) :
  Calls Tryz.prog 3 #[] w fun e w' => e = .returned (.bool true) ∧ Below w.heap.size w w' := by
 have HPW : Hid (∀ W : World, Below w.heap.size w W → Pow W) := fun W h => hT.below h
 clear hT
 have hsz : wDisk stoD ≤ 1048576 := sto_small
 have hsz2 : wDisk stoD ≤ 1099511627776 := by omega
 have hcnt := tcntDisk_le stoD
 have hq2 : (1 : Int) + tcntDisk stoD ≤ 70368744177664 := by omega
 have HI := Hid.mk (fun (W : World) (h : Below w.heap.size w W) => implStoreNew_c W (HPW.out W h))
 have HS := Hid.mk (fun (W : World) => specStoreNew_c W)
 have HE := Hid.mk (fun (cs1 cs2 : List Value) (W : World) (h1 : rDisk W.heap.size W cs1 stoD) (h2 : rDisk W.heap.size W cs2 stoD) => eqStore_new cs1 cs2 stoD W h1 h2 hsz2)
 have HM := Hid.mk (fun (cs : List Value) (F : List Nat) (W : World) (ho : oDisk W cs stoD F) (hN : F.Nodup) => markStore_new cs stoD F 1 W (by omega) hq2 ho hN)
 have HSH : Hid (∀ (B : Nat) (W : World) (cs : List Value), rDisk B W cs stoD → ∃ a0 c0 a1 c1 a2 c2, cs = [.slice a0 stoD.fInodes.length c0, .slice a1 stoD.fNames.length c1, .slice a2 stoD.fSafe.length c2, .int .i64 stoD.fNext]) := fun B W cs h => by
  obtain ⟨a0, c0, a1, c1, a2, c2, hc, _⟩ := h
  exact ⟨a0, c0, a1, c1, a2, c2, hc⟩
 clear hcnt hsz hsz2 hq2
 generalize stoD = D at *
 generalize D.fInodes.length = k0 at *
 generalize D.fNames.length = k1 at *
 generalize D.fSafe.length = k2 at *
 generalize D.fNext = kx at *
 go_enter Tryz.func3, Tryz.ntmps3
 go_wp2_with fail
 refine (HS.out w).mono ?_
 rintro e w1 ⟨cs0, rfl, hr0, hx1⟩
 obtain ⟨a0, c0, a1, c1, a2, c2, hc0⟩ := HSH.out _ _ _ hr0
 subst hc0
 have HL0 := Hid.mk hr0
 clear hr0
 unfold stoC
 go_wp2_with fail
 obtain ⟨wq, hwq⟩ : ∃ wq, wq = w1.alloc (.cells #[.slice a0 k0 c0, .slice a1 k1 c1, .slice a2 k2 c2, .int .i64 kx, .slice none 0 0, .int .i64 2, .int .i64 1, .slice none 0 0] 33) := ⟨_, rfl⟩
 have hxq : Below w1.heap.size w1 wq := by rw [hwq]; exact (Below.refl _ _).alloc (Nat.le_refl _) _
 have hbW : Below w.heap.size w wq := bthen hx1 hxq
 have hbx : Bx wq w1.heap.size [.slice a0 k0 c0, .slice a1 k1 c1, .slice a2 k2 c2, .int .i64 kx, .slice none 0 0, .int .i64 2, .int .i64 1, .slice none 0 0] := by rw [hwq]; exact Bx.new _ _ _
 replace HL0 : Hid (rDisk wq.heap.size wq [.slice a0 k0 c0, .slice a1 k1 c1, .slice a2 k2 c2, .int .i64 kx] D) := rDisk_good.mono (rDisk_good.below HL0.out hxq) hxq.size
 rw [← hwq]
 clear hwq hx1 hxq
 refine (HI.out wq hbW).mono ?_
 rintro e w2 ⟨cs1, F1, rfl, ho1, hN1, hge1, hx2⟩
 obtain ⟨b0, d0, b1, d1, b2, d2, hc1⟩ := HSH.out _ _ _ (oDisk_good.read ho1)
 subst hc1
 have HBQ := Hid.mk hx2
 have HGQ : Hid (∀ b, b ∈ F1 → wq.heap.size ≤ b) := hge1
 have HO1 := Hid.mk ho1
 have HGE1 : Hid (∀ b, b ∈ F1 → w1.heap.size < b) := fun b hb => Nat.lt_of_lt_of_le hbx.1 (hge1 b hb)
 have HGW : Hid (∀ b, b ∈ F1 → w.heap.size ≤ b) := fun b hb => Nat.le_trans hbW.size (hge1 b hb)
 clear ho1 hge1
 replace hbW := bthen hbW hx2
 replace hbx := hbx.under hx2
 clear hx2
 have y0 := fun o => (hbx.alloc o).2 0 _ rfl
 have y1 := fun o => (hbx.alloc o).2 1 _ rfl
 have y2 := fun o => (hbx.alloc o).2 2 _ rfl
 have y3 := fun o => (hbx.alloc o).2 3 _ rfl
 have y4 := fun o => (hbx.alloc o).2 4 _ rfl
 have y5 := fun o => (hbx.alloc o).2 5 _ rfl
 have y6 := fun o => (hbx.alloc o).2 6 _ rfl
 have y7 := fun o => (hbx.alloc o).2 7 _ rfl
 unfold stoC
 go_wp2_with fail
 obtain ⟨wr, hwr⟩ : ∃ wr, wr = w2.alloc (.cells #[.slice b0 k0 d0, .slice b1 k1 d1, .slice b2 k2 d2, .int .i64 kx, .slice none 0 0, .int .i64 2, .int .i64 1, .slice none 0 0] 33) := ⟨_, rfl⟩
 have hxr : Below w2.heap.size w2 wr := by rw [hwr]; exact (Below.refl _ _).alloc (Nat.le_refl _) _
 have hbR : Below w.heap.size w wr := bthen hbW hxr
 have hby : Bx wr w2.heap.size [.slice b0 k0 d0, .slice b1 k1 d1, .slice b2 k2 d2, .int .i64 kx, .slice none 0 0, .int .i64 2, .int .i64 1, .slice none 0 0] := by rw [hwr]; exact Bx.new _ _ _
 replace hbx : Bx wr w1.heap.size [.slice a0 k0 c0, .slice a1 k1 c1, .slice a2 k2 c2, .int .i64 kx, .slice none 0 0, .int .i64 2, .int .i64 1, .slice none 0 0] := hbx.under hxr
 replace HBQ := Hid.mk (bthen HBQ.out hxr)
 have HLT1 : Hid (∀ b, b ∈ F1 → b < w2.heap.size) := fun b hb => oDisk_good.lt HO1.out b hb
 replace HO1 : Hid (oDisk wr [.slice b0 k0 d0, .slice b1 k1 d1, .slice b2 k2 d2, .int .i64 kx] D F1) := oDisk_good.frame HO1.out (fun b hb => hxr.block b (HLT1.out b hb))
 rw [← hwr]
 clear hwr hbW hxr
 clear y0 y1 y2 y3 y4 y5 y6 y7
 have y0 := hbx.2 0 _ rfl
 have y1 := hbx.2 1 _ rfl
 have y2 := hbx.2 2 _ rfl
 have y3 := hbx.2 3 _ rfl
 have y4 := hbx.2 4 _ rfl
 have y5 := hbx.2 5 _ rfl
 have y6 := hbx.2 6 _ rfl
 have y7 := hbx.2 7 _ rfl
 have z0 := hby.2 0 _ rfl
 have z1 := hby.2 1 _ rfl
 have z2 := hby.2 2 _ rfl
 have z3 := hby.2 3 _ rfl
 have z4 := hby.2 4 _ rfl
 have z5 := hby.2 5 _ rfl
 have z6 := hby.2 6 _ rfl
 have z7 := hby.2 7 _ rfl
 go_wp2_with fail
 refine (HE.out [.slice b0 k0 d0, .slice b1 k1 d1, .slice b2 k2 d2, .int .i64 kx] [.slice a0 k0 c0, .slice a1 k1 c1, .slice a2 k2 c2, .int .i64 kx] wr (oDisk_good.read HO1.out) (rDisk_good.mono (rDisk_good.below HL0.out HBQ.out) HBQ.out.size)).mono ?_
 rintro e w11 ⟨rfl, hx⟩
 replace hbR := bthen hbR hx
 replace hbx := hbx.under hx
 replace hby := hby.under hx
 replace HO1 : Hid (oDisk w11 [.slice b0 k0 d0, .slice b1 k1 d1, .slice b2 k2 d2, .int .i64 kx] D F1) := oDisk_good.frame HO1.out (fun b hb => hx.block b (oDisk_good.lt HO1.out b hb))
 replace HBQ := Hid.mk (bthen HBQ.out hx)
 clear hx
 clear y0 y1 y2 y3 y4 y5 y6 y7 z0 z1 z2 z3 z4 z5 z6 z7
 have y0 := hbx.2 0 _ rfl
 have y1 := hbx.2 1 _ rfl
 have y2 := hbx.2 2 _ rfl
 have y3 := hbx.2 3 _ rfl
 have y4 := hbx.2 4 _ rfl
 have y5 := hbx.2 5 _ rfl
 have y6 := hbx.2 6 _ rfl
 have y7 := hbx.2 7 _ rfl
 have z0 := hby.2 0 _ rfl
 have z1 := hby.2 1 _ rfl
 have z2 := hby.2 2 _ rfl
 have z3 := hby.2 3 _ rfl
 have z4 := hby.2 4 _ rfl
 have z5 := hby.2 5 _ rfl
 have z6 := hby.2 6 _ rfl
 have z7 := hby.2 7 _ rfl
 go_wp2_with fail
 refine (HM.out [.slice b0 k0 d0, .slice b1 k1 d1, .slice b2 k2 d2, .int .i64 kx] F1 w11 HO1.out hN1).mono ?_
 rintro e w12 ⟨m', Q, rfl, hQ1, hQ2, ho2, hh2, ht2⟩
 have HO2 := Hid.mk ho2
 have HHE := Hid.mk (fun (W : World) (hr : rDisk W.heap.size W [.slice b0 k0 d0, .slice b1 k1 d1, .slice b2 k2 d2, .int .i64 kx] m') => heldStore_new [.slice b0 k0 d0, .slice b1 k1 d1, .slice b2 k2 d2, .int .i64 kx] m' 1 Q W hr hh2 (by omega) (by omega) hQ2)
 clear ho2 hh2
 clear y0 y1 y2 y3 y4 y5 y6 y7 z0 z1 z2 z3 z4 z5 z6 z7
 replace hbx := hbx.turn ht2 (fun h => by have := HGE1.out _ h; omega)
 replace hby := hby.turn ht2 (fun h => by have := HLT1.out _ h; omega)
 replace hbR : Below w.heap.size w w12 := hbR.trans (ht2.below HGW.out hbR.size)
 replace HBQ : Hid (Below wq.heap.size wq w12) := HBQ.out.trans (ht2.below HGQ.out HBQ.out.size)
 clear ht2 HO1
 have y0 := hbx.2 0 _ rfl
 have y1 := hbx.2 1 _ rfl
 have y2 := hbx.2 2 _ rfl
 have y3 := hbx.2 3 _ rfl
 have y4 := hbx.2 4 _ rfl
 have y5 := hbx.2 5 _ rfl
 have y6 := hbx.2 6 _ rfl
 have y7 := hbx.2 7 _ rfl
 have z0 := hby.2 0 _ rfl
 have z1 := hby.2 1 _ rfl
 have z2 := hby.2 2 _ rfl
 have z3 := hby.2 3 _ rfl
 have z4 := hby.2 4 _ rfl
 have z5 := hby.2 5 _ rfl
 have z6 := hby.2 6 _ rfl
 have z7 := hby.2 7 _ rfl
 go_wp2_with fail
 refine (HHE.out w12 (oDisk_good.read HO2.out)).mono ?_
 rintro e w13 ⟨rfl, hx⟩
 replace hbR := bthen hbR hx
 replace hbx := hbx.under hx
 replace hby := hby.under hx
 replace HO2 : Hid (oDisk w13 [.slice b0 k0 d0, .slice b1 k1 d1, .slice b2 k2 d2, .int .i64 kx] m' F1) := oDisk_good.frame HO2.out (fun b hb => hx.block b (oDisk_good.lt HO2.out b hb))
 replace HBQ := Hid.mk (bthen HBQ.out hx)
 clear hx
 clear y0 y1 y2 y3 y4 y5 y6 y7 z0 z1 z2 z3 z4 z5 z6 z7
 have y0 := hbx.2 0 _ rfl
 have y1 := hbx.2 1 _ rfl
 have y2 := hbx.2 2 _ rfl
 have y3 := hbx.2 3 _ rfl
 have y4 := hbx.2 4 _ rfl
 have y5 := hbx.2 5 _ rfl
 have y6 := hbx.2 6 _ rfl
 have y7 := hbx.2 7 _ rfl
 have z0 := hby.2 0 _ rfl
 have z1 := hby.2 1 _ rfl
 have z2 := hby.2 2 _ rfl
 have z3 := hby.2 3 _ rfl
 have z4 := hby.2 4 _ rfl
 have z5 := hby.2 5 _ rfl
 have z6 := hby.2 6 _ rfl
 have z7 := hby.2 7 _ rfl
 go_wp2_with fail
 refine (HI.out w13 hbR).mono ?_
 rintro e w14 ⟨cs4, F4, rfl, ho4, _, _, hx⟩
 obtain ⟨p0, q0, p1, q1, p2, q2, hc4⟩ := HSH.out _ _ _ (oDisk_good.read ho4)
 subst hc4
 have HL4 := Hid.mk (oDisk_good.read ho4)
 clear ho4
 replace hbR := bthen hbR hx
 replace hbx := hbx.under hx
 replace hby := hby.under hx
 replace HO2 : Hid (oDisk w14 [.slice b0 k0 d0, .slice b1 k1 d1, .slice b2 k2 d2, .int .i64 kx] m' F1) := oDisk_good.frame HO2.out (fun b hb => hx.block b (oDisk_good.lt HO2.out b hb))
 replace HBQ := Hid.mk (bthen HBQ.out hx)
 clear hx
 clear y0 y1 y2 y3 y4 y5 y6 y7 z0 z1 z2 z3 z4 z5 z6 z7
 have y0 := fun o => (hbx.alloc o).2 0 _ rfl
 have y1 := fun o => (hbx.alloc o).2 1 _ rfl
 have y2 := fun o => (hbx.alloc o).2 2 _ rfl
 have y3 := fun o => (hbx.alloc o).2 3 _ rfl
 have y4 := fun o => (hbx.alloc o).2 4 _ rfl
 have y5 := fun o => (hbx.alloc o).2 5 _ rfl
 have y6 := fun o => (hbx.alloc o).2 6 _ rfl
 have y7 := fun o => (hbx.alloc o).2 7 _ rfl
 have z0 := fun o => (hby.alloc o).2 0 _ rfl
 have z1 := fun o => (hby.alloc o).2 1 _ rfl
 have z2 := fun o => (hby.alloc o).2 2 _ rfl
 have z3 := fun o => (hby.alloc o).2 3 _ rfl
 have z4 := fun o => (hby.alloc o).2 4 _ rfl
 have z5 := fun o => (hby.alloc o).2 5 _ rfl
 have z6 := fun o => (hby.alloc o).2 6 _ rfl
 have z7 := fun o => (hby.alloc o).2 7 _ rfl
 unfold stoC
 go_wp2_with fail
 obtain ⟨wt, hwt⟩ : ∃ wt, wt = w14.alloc (.cells #[.slice p0 k0 q0, .slice p1 k1 q1, .slice p2 k2 q2, .int .i64 kx, .slice none 0 0, .int .i64 2, .int .i64 1, .slice none 0 0] 33) := ⟨_, rfl⟩
 have hxt : Below w14.heap.size w14 wt := by rw [hwt]; exact (Below.refl _ _).alloc (Nat.le_refl _) _
 replace hbR : Below w.heap.size w wt := bthen hbR hxt
 have hbz : Bx wt w14.heap.size [.slice p0 k0 q0, .slice p1 k1 q1, .slice p2 k2 q2, .int .i64 kx, .slice none 0 0, .int .i64 2, .int .i64 1, .slice none 0 0] := by rw [hwt]; exact Bx.new _ _ _
 replace hbx := hbx.under hxt
 replace hby := hby.under hxt
 replace HO2 : Hid (oDisk wt [.slice b0 k0 d0, .slice b1 k1 d1, .slice b2 k2 d2, .int .i64 kx] m' F1) := oDisk_good.frame HO2.out (fun b hb => hxt.block b (oDisk_good.lt HO2.out b hb))
 replace HBQ := Hid.mk (bthen HBQ.out hxt)
 replace HL4 : Hid (rDisk wt.heap.size wt [.slice p0 k0 q0, .slice p1 k1 q1, .slice p2 k2 q2, .int .i64 kx] D) := rDisk_good.mono (rDisk_good.below HL4.out hxt) hxt.size
 rw [← hwt]
 clear hwt hxt
 clear y0 y1 y2 y3 y4 y5 y6 y7 z0 z1 z2 z3 z4 z5 z6 z7
 have x0 := hbz.2 0 _ rfl
 have x1 := hbz.2 1 _ rfl
 have x2 := hbz.2 2 _ rfl
 have x3 := hbz.2 3 _ rfl
 have x4 := hbz.2 4 _ rfl
 have x5 := hbz.2 5 _ rfl
 have x6 := hbz.2 6 _ rfl
 have x7 := hbz.2 7 _ rfl
 have y0 := hbx.2 0 _ rfl
 have y1 := hbx.2 1 _ rfl
 have y2 := hbx.2 2 _ rfl
 have y3 := hbx.2 3 _ rfl
 have y4 := hbx.2 4 _ rfl
 have y5 := hbx.2 5 _ rfl
 have y6 := hbx.2 6 _ rfl
 have y7 := hbx.2 7 _ rfl
 have z0 := hby.2 0 _ rfl
 have z1 := hby.2 1 _ rfl
 have z2 := hby.2 2 _ rfl
 have z3 := hby.2 3 _ rfl
 have z4 := hby.2 4 _ rfl
 have z5 := hby.2 5 _ rfl
 have z6 := hby.2 6 _ rfl
 have z7 := hby.2 7 _ rfl
 go_wp2_with fail
 refine (HE.out [.slice p0 k0 q0, .slice p1 k1 q1, .slice p2 k2 q2, .int .i64 kx] [.slice a0 k0 c0, .slice a1 k1 c1, .slice a2 k2 c2, .int .i64 kx] wt HL4.out (rDisk_good.mono (rDisk_good.below HL0.out HBQ.out) HBQ.out.size)).mono ?_
 rintro e w16 ⟨rfl, hx⟩
 replace hbR := bthen hbR hx
 replace hbx := hbx.under hx
 replace hby := hby.under hx
 replace HO2 : Hid (oDisk w16 [.slice b0 k0 d0, .slice b1 k1 d1, .slice b2 k2 d2, .int .i64 kx] m' F1) := oDisk_good.frame HO2.out (fun b hb => hx.block b (oDisk_good.lt HO2.out b hb))
 clear hx
 clear x0 x1 x2 x3 x4 x5 x6 x7
 clear y0 y1 y2 y3 y4 y5 y6 y7 z0 z1 z2 z3 z4 z5 z6 z7
 have y0 := hbx.2 0 _ rfl
 have y1 := hbx.2 1 _ rfl
 have y2 := hbx.2 2 _ rfl
 have y3 := hbx.2 3 _ rfl
 have y4 := hbx.2 4 _ rfl
 have y5 := hbx.2 5 _ rfl
 have y6 := hbx.2 6 _ rfl
 have y7 := hbx.2 7 _ rfl
 have z0 := hby.2 0 _ rfl
 have z1 := hby.2 1 _ rfl
 have z2 := hby.2 2 _ rfl
 have z3 := hby.2 3 _ rfl
 have z4 := hby.2 4 _ rfl
 have z5 := hby.2 5 _ rfl
 have z6 := hby.2 6 _ rfl
 have z7 := hby.2 7 _ rfl
 go_wp2_with fail
 refine (HHE.out w16 (oDisk_good.read HO2.out)).mono ?_
 rintro e w17 ⟨rfl, hx⟩
 replace hbR := bthen hbR hx
 clear y0 y1 y2 y3 y4 y5 y6 y7 z0 z1 z2 z3 z4 z5 z6 z7
 clear hx
 go_wp2_with fail
 go_ret
 exact ⟨rfl, hbR⟩
end Go.Proofs.YtomlpobbhioflaaGreatDoor
