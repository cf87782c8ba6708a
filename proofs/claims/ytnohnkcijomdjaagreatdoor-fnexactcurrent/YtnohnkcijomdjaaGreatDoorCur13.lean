/-
  Part 14 of the texts that the proof leans on.
-/
import Derived.Test.YtnohnkcijomdjaaGreatDoorCur12
import Derived.Test.YtnohnkcijomdjaaGreatDoorCur2
set_option linter.unusedVariables false
set_option linter.unusedSimpArgs false
set_option maxRecDepth 10000

namespace Go.Proofs.YtnohnkcijomdjaaGreatDoor
open Go.RowKit Go.Maps Go.Shelf
abbrev qf15_22_10_0 : Oper := ⟨some 34, .fieldAddr 24 (.tmp 3) 2, 0, "l06_manifest.go:179", #[], none⟩
abbrev qf15_22_10_2 : Oper := ⟨some 36, .move (.tmp 0), 76, "l06_manifest.go:179", #[], none⟩
abbrev qf15_22_10_4 : Oper := ⟨some 38, .move (.tmp 0), 76, "l06_manifest.go:179", #[], none⟩
abbrev qf15_22_10_6 : Oper := ⟨some 40, .move (.tmp 0), 76, "l06_manifest.go:179", #[], none⟩
abbrev qf15_22_10_8 : Oper := ⟨some 42, .move (.tmp 0), 76, "l06_manifest.go:179", #[], none⟩
abbrev qf15_22_10_3 : Oper := ⟨some 37, .call { callee := .value (.func 46), args := #[.tmp 36], argTypes := #[76] }, 3, "l06_manifest.go:179", #[⟨2, .data⟩], none⟩
abbrev qf15_22_10_1 : Oper := ⟨some 35, .load 22 (.tmp 34), 22, "l06_manifest.go:179", #[⟨0, .data⟩], none⟩
abbrev qf15_22_10_5 : Oper := ⟨some 39, .call { callee := .value (.func 46), args := #[.tmp 38], argTypes := #[76] }, 3, "l06_manifest.go:179", #[⟨4, .data⟩, ⟨3, .chain⟩], none⟩
abbrev qf15_22_10_7 : Oper := ⟨some 41, .call { callee := .value (.func 47), args := #[.tmp 40], argTypes := #[76] }, 9, "l06_manifest.go:179", #[⟨6, .data⟩, ⟨5, .chain⟩], none⟩
abbrev qf15_22_10_9 : Oper := ⟨some 43, .call { callee := .value (.func 47), args := #[.tmp 42], argTypes := #[76] }, 9, "l06_manifest.go:179", #[⟨8, .data⟩, ⟨7, .chain⟩], none⟩
abbrev qf15_22_10_10 : Oper := ⟨some 44, .build 49 #[(0, .tmp 37), (1, .tmp 39), (2, .tmp 41), (3, .tmp 43)], 49, "l06_manifest.go:179", #[⟨3, .data⟩, ⟨5, .data⟩, ⟨7, .data⟩, ⟨9, .data⟩], none⟩
abbrev qf15_22_10_11 : Oper := ⟨some 45, .buildSlice 22 1 #[(0, .tmp 44)], 22, "l06_manifest.go:179", #[⟨10, .data⟩], none⟩
abbrev qf15_22_10_12 : Oper := ⟨some 46, .call { callee := .builtin .append, args := #[.tmp 35, .tmp 45], argTypes := #[22, 22] }, 22, "l06_manifest.go:179", #[⟨1, .data⟩, ⟨11, .data⟩, ⟨9, .chain⟩], none⟩
abbrev qf15_22_10_13 : Oper := ⟨some 47, .fieldAddr 24 (.tmp 3) 2, 0, "l06_manifest.go:179", #[⟨0, .phase⟩, ⟨1, .phase⟩, ⟨2, .phase⟩, ⟨3, .phase⟩, ⟨4, .phase⟩, ⟨5, .phase⟩, ⟨6, .phase⟩, ⟨7, .phase⟩, ⟨8, .phase⟩, ⟨9, .phase⟩, ⟨10, .phase⟩, ⟨11, .phase⟩, ⟨12, .phase⟩], none⟩
abbrev qf15_22_10_14 : Oper := ⟨none, .store 22 (.tmp 47) (.tmp 46), 0, "l06_manifest.go:179", #[⟨13, .data⟩, ⟨12, .data⟩, ⟨12, .chain⟩, ⟨0, .phase⟩, ⟨1, .phase⟩, ⟨2, .phase⟩, ⟨3, .phase⟩, ⟨4, .phase⟩, ⟨5, .phase⟩, ⟨6, .phase⟩, ⟨7, .phase⟩, ⟨8, .phase⟩, ⟨9, .phase⟩, ⟨10, .phase⟩, ⟨11, .phase⟩, ⟨12, .phase⟩], none⟩

set_option maxHeartbeats 8000000 in
theorem manifest_to (A : Nat) (l : List (List UInt8)) (w : World) (TG : List MMeta × Bool) (hTG : TG = rdTabs (l.length + 2) l.tail.tail.tail.tail (headB l) []) (h : WdR w A l false) (hE : Ers w) (hA : A < w.heap.size) (g15 : layAtoi_ren.g 15 < A) (g16 : layAtoi_ren.g 16 < A) (hll : l.length ≤ 1048576) :
    Calls Tryz.prog 22 #[.pointer (some ⟨A, 0, none⟩)] w fun e w' => ∃ (a : Option Addr) (c : Nat), e = .returned (.agg #[.int .i64 (numbP l.tail).1, .int .i64 (numbP l.tail.tail.tail).1, .slice a TG.1.length c]) ∧ (∃ l', WdR w' A l' TG.2) ∧ Turn [A] w w' ∧ ∃ F, ownS 4 49 oMeta w' (.slice a TG.1.length c) TG.1 F ∧ F.Nodup ∧ ∀ q, q ∈ F → w.heap.size ≤ q := by
  have HTG := Hid.mk hTG
  clear hTG
  obtain ⟨iT, hiT, hz0, hz1, hz2⟩ := info_parts Tryz.infoMeta4
  obtain ⟨w1, hw1⟩ : ∃ q, q = (w.alloc (.cells #[.int .i64 0, .int .i64 0, .slice none 0 0] 24)).alloc (.cells #[.int .i64 0, .int .i64 0, .slice none 0 0] 24) := ⟨_, rfl⟩
  have hb1 : Below w.heap.size w w1 := by rw [hw1]; exact ((Below.refl _ _).alloc (Nat.le_refl _) _).alloc (by simp) _
  have HS1 : Hid (MSt w A (w.heap.size + 1) w.heap.size w1 l false 0 0 [] none 0) :=
    ⟨⟨h.below hb1, by rw [hw1]; exact Bw.new' _ _ _ (by simp), hE.below hb1, Turn.ofBelow hb1, by omega, hA, by omega, by omega⟩, ⟨[], .inl ⟨rfl, rfl, rfl⟩, by simp, fun q hq => by cases hq⟩, by rw [hw1]; exact (Bw.new _ _ _).alloc _, Nat.le_refl _, by omega⟩
  clear h hE
  go_enter Tryz.func22, Tryz.ntmps22
  go_wp2_with (rw [← hw1])
  refine HS1.out.name.mono ?_
  rintro e w2 ⟨rfl, hS2⟩
  have HS2 := Hid.mk hS2
  clear HS1 hS2
  have hq : ((strB (nameP l).1).toList == [110, 101, 120, 116]) = decide ((nameP l).1 = [110, 101, 120, 116]) := (congrArg (fun z => (strB (nameP l).1).toList == z) (show ([110, 101, 120, 116] : List UInt8) = (strB [110, 101, 120, 116]).toList by decide +kernel)).trans (str_is _ [110, 101, 120, 116])
  generalize hbn : decide ((nameP l).1 = [110, 101, 120, 116]) = bn at hq
  have HBN := Hid.mk hbn
  clear hbn
  go_wp2_with fail
  refine (HS2.out.take _).mono ?_
  rintro e w3 ⟨rfl, hS3⟩
  try rw [hq] at hS3
  have HS3 : Hid (MSt w A (w.heap.size + 1) w.heap.size w3 l.tail ((false || !(nameP l).2) || !bn) 0 0 [] none 0) := hS3
  clear hS3 HS2 hq
  go_wp2_with fail
  refine HS3.out.number.mono ?_
  rintro e w4 ⟨rfl, hS4⟩
  have c4 := hS4.s.box.cell 0 _ rfl
  have f4 := hS4.s.box.free 0
  have hl4 := hS4.s.box.lt
  have HS4 := Hid.mk (hS4.put0 g15 g16 (numbP l.tail).1)
  clear hS4 HS3
  obtain ⟨w5, hw5⟩ : ∃ q, q = w4.setCell ⟨w.heap.size + 1, 0, none⟩ (.int .i64 (numbP l.tail).1) := ⟨_, rfl⟩
  rw [← hw5] at HS4
  go_wp2_with (rw [← hw5])
  clear hw5 f4 hl4 c4
  refine HS4.out.name.mono ?_
  rintro e w6 ⟨rfl, hS6⟩
  have HS6 := Hid.mk hS6
  clear HS4 hS6
  have hq : ((strB (nameP l.tail.tail).1).toList == [108, 111, 103]) = decide ((nameP l.tail.tail).1 = [108, 111, 103]) := (congrArg (fun z => (strB (nameP l.tail.tail).1).toList == z) (show ([108, 111, 103] : List UInt8) = (strB [108, 111, 103]).toList by decide +kernel)).trans (str_is _ [108, 111, 103])
  generalize hbl : decide ((nameP l.tail.tail).1 = [108, 111, 103]) = bl at hq
  have HBL := Hid.mk hbl
  clear hbl
  go_wp2_with fail
  refine (HS6.out.take _).mono ?_
  rintro e w7 ⟨rfl, hS7⟩
  try rw [hq] at hS7
  have HS7 := Hid.mk hS7
  clear HS6 hS7 hq
  go_wp2_with fail
  refine HS7.out.number.mono ?_
  rintro e w8 ⟨rfl, hS8⟩
  have c8 := hS8.s.box.cell 1 _ rfl
  have f8 := hS8.s.box.free 1
  have hl8 := hS8.s.box.lt
  have HS8 := Hid.mk (hS8.put1 g15 g16 (numbP l.tail.tail.tail).1)
  clear hS8 HS7
  obtain ⟨w9, hw9⟩ : ∃ q, q = w8.setCell ⟨w.heap.size + 1, 1, none⟩ (.int .i64 (numbP l.tail.tail.tail).1) := ⟨_, rfl⟩
  rw [← hw9] at HS8
  go_wp2_with (rw [← hw9])
  clear hw9 f8 hl8 c8
  obtain ⟨B, hB⟩ : ∃ q, q = headB l := ⟨_, rfl⟩
  have hS : MSt w A (w.heap.size + 1) w.heap.size w9 l.tail.tail.tail.tail B (numbP l.tail).1 (numbP l.tail.tail.tail).1 [] none 0 := by
    rw [hB]; unfold headB; rw [HBN.out, HBL.out]; exact HS8.out
  obtain ⟨R, hRq⟩ : ∃ q, q = w.heap.size := ⟨_, rfl⟩
  obtain ⟨M, hMq⟩ : ∃ q, q = w.heap.size + 1 := ⟨_, rfl⟩
  have hM0 : MSt w A M R w9 l.tail.tail.tail.tail B (numbP l.tail).1 (numbP l.tail.tail.tail).1 [] none 0 := by rw [hMq, hRq]; exact hS
  have HL0 : Hid (RdL l.length TG l.tail.tail.tail.tail B []) := ⟨_, by rw [hB]; exact HTG.out.symm, by omega, fun _ => by simp only [List.length_tail, List.length_nil]; omega⟩
  have HST := Hid.mk hM0
  have HG15 := Hid.mk g15
  have HG16 := Hid.mk g16
  have HLL := Hid.mk hll
  rw [← hMq]
  rw [← hRq]
  clear hM0 hRq hMq hS hB HTG HS8 HBN HBL g15 g16 hll hb1 hw1
  obtain ⟨x, hx⟩ : ∃ q, q = (numbP l.tail).1 := ⟨_, rfl⟩
  obtain ⟨y, hy⟩ : ∃ q, q = (numbP l.tail.tail.tail).1 := ⟨_, rfl⟩
  rw [← hx, ← hy] at HST
  have HX := Hid.mk hx
  have HY := Hid.mk hy
  clear hx hy
  generalize l.tail.tail.tail.tail = L4 at HST HL0
  generalize l.length = N at HL0 HLL
  go_wp2_with fail
  go_loopw [4] (fun i wr => ∃ (l : List (List UInt8)) (b : Bool) (ts : List MMeta) (a : Option Addr) (c : Nat), Hid (MSt w A M R wr l b x y ts a c) ∧ Hid (RdL N TG l b ts)) (fun i wr => leftW A wr)
  case atStart => exact ⟨_, _, _, _, _, HST, HL0⟩
  case round =>
    clear HST HL0
    obtain ⟨l, b, ts, a, c, HST, HLR⟩ := hrel
    have H0L := Hid.mk HST.out.s.rd.left
    have hrd := HST.out.s.rd
    obtain ⟨p, cc, hbb, _, _⟩ := hrd
    have b1 := hbb.cell 1 _ rfl
    clear hbb
    cases b
    · have H0L : Hid (leftW A wr = l.length + 1) := H0L
      go_wp2_with fail
      clear b1
      refine HST.out.name.mono ?_
      rintro e w1 ⟨rfl, hm1⟩
      clear HST
      have H1 := Hid.mk hm1
      clear hm1
      have hq : ((strB (nameP l).1).toList == [101, 110, 100]) = decide ((nameP l).1 = [101, 110, 100]) := (congrArg (fun z => (strB (nameP l).1).toList == z) (show ([101, 110, 100] : List UInt8) = (strB [101, 110, 100]).toList by decide +kernel)).trans (str_is _ [101, 110, 100])
      have hq2 : ((strB (nameP l).1).toList == [116, 97, 98]) = decide ((nameP l).1 = [116, 97, 98]) := (congrArg (fun z => (strB (nameP l).1).toList == z) (show ([116, 97, 98] : List UInt8) = (strB [116, 97, 98]).toList by decide +kernel)).trans (str_is _ [116, 97, 98])
      by_cases hend : (nameP l).1 = [101, 110, 100]
      · rw [decide_eq_true hend] at hq
        have HDN := Hid.mk (HLR.out.done hend)
        clear hq2 hend HLR H0L
        generalize strB (nameP l).1 = nm at *
        have m0 := H1.out.s.box.cell 0 _ rfl
        have m1 := H1.out.s.box.cell 1 _ rfl
        have m2 := H1.out.s.box.cell 2 _ rfl
        have o0 := H1.out.r.cell 0 _ rfl
        have o1 := H1.out.r.cell 1 _ rfl
        have o2 := H1.out.r.cell 2 _ rfl
        have f0 := H1.out.r.free 0
        have f1 := H1.out.r.free 1
        have f2 := H1.out.r.free 2
        have hlr := H1.out.r.lt
        go_wp2_with fail
        refine bodyPost_ret (v := .agg #[.int .i64 x, .int .i64 y, .slice a ts.length c]) (by simp [results, Tryz.results22, go_sem, *]) rfl ?_
        rw [HDN.out, ← HX.out, ← HY.out]
        exact ⟨a, c, rfl, H1.out.leave (turn3 _ _ _ _ _)⟩
      · rw [decide_eq_false hend] at hq
        obtain ⟨bt, hbt⟩ : ∃ q, q = decide ((nameP l).1 = [116, 97, 98]) := ⟨_, rfl⟩
        rw [← hbt] at hq2
        have HTB : Hid (tabB l false = ((false || !(nameP l).2) || !bt)) := by show _ = _; rw [hbt]; rfl
        have HMR := Hid.mk (HLR.out.more hend)
        have HTN : Hid (ts.length ≤ 1048576) := Nat.le_trans HMR.out.2.1 HLL.out
        clear hend HLR hbt
        go_wp2_with fail
        refine (H1.out.take _).mono ?_
        rintro e w2 ⟨rfl, hm2⟩
        try rw [hq2] at hm2
        have H2 : Hid (MSt w A M R w2 l.tail (tabB l false) x y ts a c) := by show MSt _ _ _ _ _ _ _ _ _ _ _ _; rw [HTB.out]; exact hm2
        clear hm2 H1 HTB hq hq2
        go_wp2_with fail
        refine wp_region_held_drew (S := fun W => True) (by kernel_rfl) (trivial) (fun hHeld => ?_)
        obtain ⟨wS, hwS⟩ : ∃ wS, wS = w2.drew := ⟨_, rfl⟩
        have HDc : Hid (MSt w A M R wS l.tail (tabB l false) x y ts a c) := by show MSt _ _ _ _ _ _ _ _ _ _ _ _; rw [hwS]; exact H2.out.under (Below.drew (Below.refl _ _))
        rw [← hwS]
        clear hwS H2
        refine tk 0 qf15_22_10_0 (some 34) (v := ?v1) rfl rfl (by kernel_rfl) hHeld (by rfl) (fun _ _ _ h => h) (fun w h => ?y1) ?_; (case y1 => (try dsimp only at h); go_simp; try (with_reducible rfl)); try simp only [Act.put, sa, s0, s1]
        refine tk 2 qf15_22_10_2 (some 36) (v := ?v2) rfl rfl (by kernel_rfl) hHeld (by rfl) (fun _ _ _ h => h) (fun w h => ?y2) ?_; (case y2 => (try dsimp only at h); go_simp; try (with_reducible rfl)); try simp only [Act.put, sa, s0, s1]
        refine tk 4 qf15_22_10_4 (some 38) (v := ?v3) rfl rfl (by kernel_rfl) hHeld (by rfl) (fun _ _ _ h => h) (fun w h => ?y3) ?_; (case y3 => (try dsimp only at h); go_simp; try (with_reducible rfl)); try simp only [Act.put, sa, s0, s1]
        refine tk 6 qf15_22_10_6 (some 40) (v := ?v4) rfl rfl (by kernel_rfl) hHeld (by rfl) (fun _ _ _ h => h) (fun w h => ?y4) ?_; (case y4 => (try dsimp only at h); go_simp; try (with_reducible rfl)); try simp only [Act.put, sa, s0, s1]
        refine tk 8 qf15_22_10_8 (some 42) (v := ?v5) rfl rfl (by kernel_rfl) hHeld (by rfl) (fun _ _ _ h => h) (fun w h => ?y5) ?_; (case y5 => (try dsimp only at h); go_simp; try (with_reducible rfl)); try simp only [Act.put, sa, s0, s1]
        refine wpAnyH_ready (rs := [1, 3]) (by kernel_rfl) (by simp) ?_
        refine (AllReadyH.cons (o := qf15_22_10_1) rfl (fun K hK => ?_) (AllReadyH.cons (o := qf15_22_10_3) rfl (fun K hK => ?_) AllReadyH.nil))
        · go_simp
          have p2 := HDc.out.s.box.cell 2 _ rfl
          go_simp
          obtain ⟨wE1, hqL⟩ : ∃ x, x = wS := ⟨_, rfl⟩
          have hop1 : True := trivial
          rw [← hqL] at HDc ⊢
          (try rw [← hqL] at HB11)
          clear hqL p2
          refine hK.out _ _ (trivial) (fun hHeld => ?_)
          clear hK K
          try simp only [Act.put, sa, s0, s1]
          refine wpAnyH_ready (rs := [3]) (by kernel_rfl) (by simp) ?_
          refine (AllReadyH.cons (o := qf15_22_10_3) rfl (fun K hK => ?_) AllReadyH.nil)
          · go_simp
            refine HDc.out.number.mono ?_
            rintro e wE3 ⟨rfl, hm3⟩
            clear HDc
            have HDc := Hid.mk hm3
            clear hm3
            have hop3 : True := trivial
            go_wp2_with fail
            refine hK.out _ _ (trivial) (fun hHeld => ?_)
            clear hK K
            try simp only [Act.put, sa, s0, s1]
            refine wpAnyH_ready (rs := [5]) (by kernel_rfl) (by simp) ?_
            refine (AllReadyH.cons (o := qf15_22_10_5) rfl (fun K hK => ?_) AllReadyH.nil)
            · go_simp
              refine HDc.out.number.mono ?_
              rintro e wE5 ⟨rfl, hm5⟩
              clear HDc
              have HDc := Hid.mk hm5
              clear hm5
              have hop5 : True := trivial
              go_wp2_with fail
              refine hK.out _ _ (trivial) (fun hHeld => ?_)
              clear hK K
              try simp only [Act.put, sa, s0, s1]
              refine wpAnyH_ready (rs := [7]) (by kernel_rfl) (by simp) ?_
              refine (AllReadyH.cons (o := qf15_22_10_7) rfl (fun K hK => ?_) AllReadyH.nil)
              · go_simp
                have HK3 := Hid.mk (keyP_size HDc.out.s.rd)
                refine HDc.out.key.mono ?_
                rintro e wE7 ⟨rfl, hm7⟩
                clear HDc
                have HDc := Hid.mk hm7
                clear hm7
                have hop7 : True := trivial
                go_wp2_with fail
                refine hK.out _ _ (trivial) (fun hHeld => ?_)
                clear hK K
                try simp only [Act.put, sa, s0, s1]
                refine wpAnyH_ready (rs := [9]) (by kernel_rfl) (by simp) ?_
                refine (AllReadyH.cons (o := qf15_22_10_9) rfl (fun K hK => ?_) AllReadyH.nil)
                · go_simp
                  have HK4 := Hid.mk (keyP_size HDc.out.s.rd)
                  refine HDc.out.key.mono ?_
                  rintro e wE9 ⟨rfl, hm9⟩
                  clear HDc
                  have HDc := Hid.mk hm9
                  clear hm9
                  have hop9 : True := trivial
                  go_wp2_with fail
                  refine hK.out _ _ (trivial) (fun hHeld => ?_)
                  clear hK K
                  try simp only [Act.put, sa, s0, s1]
                  refine tk 10 qf15_22_10_10 (some 44) (v := ?v6) rfl rfl (by kernel_rfl) hHeld (by rfl) (fun _ _ _ h => h) (fun w h => ?y6) ?_; (case y6 => (try dsimp only at h); go_simp; try (with_reducible rfl)); try simp only [Act.put, sa, s0, s1]
                  refine wpAnyH_ready (rs := [11]) (by kernel_rfl) (by simp) ?_
                  refine (AllReadyH.cons (o := qf15_22_10_11) rfl (fun K hK => ?_) AllReadyH.nil)
                  · go_simp
                    obtain ⟨wE11, hq11⟩ : ∃ x, x = wE9.alloc (.cells (List.toArray [.int .i64 (numbP l.tail).1, .int .i64 (numbP l.tail.tail).1, .string (strB (keyP l.tail.tail.tail).1), .string (strB (keyP l.tail.tail.tail.tail).1)]) 49) := ⟨_, rfl⟩
                    have hx11 : Below wE9.heap.size wE9 wE11 := by rw [hq11]; exact (Below.refl _ _).alloc (Nat.le_refl _) _
                    have HD11 := Hid.mk (HDc.out.under hx11)
                    clear HDc
                    have HDc := HD11
                    clear HD11
                    have HB11 : Hid (Bx wE11 wE9.heap.size [.int .i64 (numbP l.tail).1, .int .i64 (numbP l.tail.tail).1, .string (strB (keyP l.tail.tail.tail).1), .string (strB (keyP l.tail.tail.tail.tail).1)]) := by unfold Hid; rw [hq11]; exact Bx.new _ _ _
                    obtain ⟨g11, HG11⟩ : ∃ x, Hid (x = wE9.heap.size) := ⟨_, Hid.mk rfl⟩
                    rw [← HG11.out] at HB11 ⊢
                    have hop11 : True := trivial
                    rw [← hq11]
                    clear hq11 hx11
                    refine hK.out _ _ (trivial) (fun hHeld => ?_)
                    clear hK K
                    try simp only [Act.put, sa, s0, s1]
                    refine wpAnyH_ready (rs := [12]) (by kernel_rfl) (by simp) ?_
                    refine (AllReadyH.cons (o := qf15_22_10_12) rfl (fun K hK => ?_) AllReadyH.nil)
                    · skip
                      obtain ⟨xs, hxs, hpush⟩ := HDc.out.push HG15.out HG16.out
                      have HPU := Hid.mk hpush
                      clear hpush
                      refine step_append_src _ rfl _ _ 22 22 rfl 0 49 iT (.agg (List.toArray [.int .i64 0, .int .i64 0, .string ⟨#[]⟩, .string ⟨#[]⟩])) 4 48 Tryz.underlying22 hiT hz0 hz1 hz2 rfl (.slice a ts.length c) ts.length xs rfl hxs (.slice (some ⟨g11, 0, none⟩) 1 1) rfl 1 [.int .i64 (numbP l.tail).1, .int .i64 (numbP l.tail.tail).1, .string (strB (keyP l.tail.tail.tail).1), .string (strB (keyP l.tail.tail.tail.tail).1)] (Src.meta Tryz.underlying22 HB11.out) (by unfold maxLen; have := HTN.out; omega) (by have := HTN.out; omega) (Nat.zero_le _) ?_
                      intro v12 wE12 ho12 hgr12 hat12
                      obtain ⟨r12, q12, rfl⟩ := own_slice ho12
                      have HN12 := Hid.mk (HPU.out _ wE12 (rowM l.tail) (numbP_wf _) (numbP_wf _) (Nat.le_trans HK3.out (by decide)) (Nat.le_trans HK4.out (by decide)) ho12 hgr12 hat12 r12 q12 rfl)
                      have hop12 : True := trivial
                      clear hxs ho12 hat12 hgr12
                      refine hK.out _ _ (trivial) (fun hHeld => ?_)
                      clear hK K
                      try simp only [Act.put, sa, s0, s1]
                      refine tk 13 qf15_22_10_13 (some 47) (v := ?v7) rfl rfl (by kernel_rfl) hHeld (by rfl) (fun _ _ _ h => h) (fun w h => ?y7) ?_; (case y7 => (try dsimp only at h); go_simp; try (with_reducible rfl)); try simp only [Act.put, sa, s0, s1]
                      refine wpAnyH_ready (rs := [14]) (by kernel_rfl) (by simp) ?_
                      refine (AllReadyH.cons (o := qf15_22_10_14) rfl (fun K hK => ?_) AllReadyH.nil)
                      · skip
                        have hbo := HN12.out.1
                        have o2 := hbo.cell 2 _ rfl
                        have f2 := hbo.free 2
                        have lo := hbo.lt
                        go_simp
                        obtain ⟨wE14, hq14⟩ : ∃ x, x = wE12.setCell ⟨M, 2, none⟩ (.slice r12 (ts.length + 1) q12) := ⟨_, rfl⟩
                        have HE := Hid.mk HN12.out.2
                        rw [← hq14] at HE ⊢
                        have hop14 : True := trivial
                        clear hq14 hbo o2 f2 lo
                        refine hK.out _ _ (trivial) (fun hHeld => ?_)
                        clear hK K
                        try simp only [Act.put, sa, s0, s1]
                        refine wpAnyH_done (by kernel_rfl) ?_ _
                        go_wp2_with fail
                        go_roundw
                        case rel => exact ⟨_, _, _, _, _, HE, Hid.mk HMR.out.1⟩
                        case measure => rw [HE.out.s.rd.left, H0L.out]; exact HMR.out.2.2
        · go_simp
          refine HDc.out.number.mono ?_
          rintro e wE3 ⟨rfl, hm3⟩
          clear HDc
          have HDc := Hid.mk hm3
          clear hm3
          have hop3 : True := trivial
          go_wp2_with fail
          refine hK.out _ _ (trivial) (fun hHeld => ?_)
          clear hK K
          try simp only [Act.put, sa, s0, s1]
          refine wpAnyH_ready (rs := [1, 5]) (by kernel_rfl) (by simp) ?_
          refine (AllReadyH.cons (o := qf15_22_10_1) rfl (fun K hK => ?_) (AllReadyH.cons (o := qf15_22_10_5) rfl (fun K hK => ?_) AllReadyH.nil))
          · go_simp
            have p2 := HDc.out.s.box.cell 2 _ rfl
            go_simp
            obtain ⟨wE1, hqL⟩ : ∃ x, x = wE3 := ⟨_, rfl⟩
            have hop1 : True := trivial
            rw [← hqL] at HDc ⊢
            (try rw [← hqL] at HB11)
            clear hqL p2
            refine hK.out _ _ (trivial) (fun hHeld => ?_)
            clear hK K
            try simp only [Act.put, sa, s0, s1]
            refine wpAnyH_ready (rs := [5]) (by kernel_rfl) (by simp) ?_
            refine (AllReadyH.cons (o := qf15_22_10_5) rfl (fun K hK => ?_) AllReadyH.nil)
            · go_simp
              refine HDc.out.number.mono ?_
              rintro e wE5 ⟨rfl, hm5⟩
              clear HDc
              have HDc := Hid.mk hm5
              clear hm5
              have hop5 : True := trivial
              go_wp2_with fail
              refine hK.out _ _ (trivial) (fun hHeld => ?_)
              clear hK K
              try simp only [Act.put, sa, s0, s1]
              refine wpAnyH_ready (rs := [7]) (by kernel_rfl) (by simp) ?_
              refine (AllReadyH.cons (o := qf15_22_10_7) rfl (fun K hK => ?_) AllReadyH.nil)
              · go_simp
                have HK3 := Hid.mk (keyP_size HDc.out.s.rd)
                refine HDc.out.key.mono ?_
                rintro e wE7 ⟨rfl, hm7⟩
                clear HDc
                have HDc := Hid.mk hm7
                clear hm7
                have hop7 : True := trivial
                go_wp2_with fail
                refine hK.out _ _ (trivial) (fun hHeld => ?_)
                clear hK K
                try simp only [Act.put, sa, s0, s1]
                refine wpAnyH_ready (rs := [9]) (by kernel_rfl) (by simp) ?_
                refine (AllReadyH.cons (o := qf15_22_10_9) rfl (fun K hK => ?_) AllReadyH.nil)
                · go_simp
                  have HK4 := Hid.mk (keyP_size HDc.out.s.rd)
                  refine HDc.out.key.mono ?_
                  rintro e wE9 ⟨rfl, hm9⟩
                  clear HDc
                  have HDc := Hid.mk hm9
                  clear hm9
                  have hop9 : True := trivial
                  go_wp2_with fail
                  refine hK.out _ _ (trivial) (fun hHeld => ?_)
                  clear hK K
                  try simp only [Act.put, sa, s0, s1]
                  refine tk 10 qf15_22_10_10 (some 44) (v := ?v8) rfl rfl (by kernel_rfl) hHeld (by rfl) (fun _ _ _ h => h) (fun w h => ?y8) ?_; (case y8 => (try dsimp only at h); go_simp; try (with_reducible rfl)); try simp only [Act.put, sa, s0, s1]
                  refine wpAnyH_ready (rs := [11]) (by kernel_rfl) (by simp) ?_
                  refine (AllReadyH.cons (o := qf15_22_10_11) rfl (fun K hK => ?_) AllReadyH.nil)
                  · go_simp
                    obtain ⟨wE11, hq11⟩ : ∃ x, x = wE9.alloc (.cells (List.toArray [.int .i64 (numbP l.tail).1, .int .i64 (numbP l.tail.tail).1, .string (strB (keyP l.tail.tail.tail).1), .string (strB (keyP l.tail.tail.tail.tail).1)]) 49) := ⟨_, rfl⟩
                    have hx11 : Below wE9.heap.size wE9 wE11 := by rw [hq11]; exact (Below.refl _ _).alloc (Nat.le_refl _) _
                    have HD11 := Hid.mk (HDc.out.under hx11)
                    clear HDc
                    have HDc := HD11
                    clear HD11
                    have HB11 : Hid (Bx wE11 wE9.heap.size [.int .i64 (numbP l.tail).1, .int .i64 (numbP l.tail.tail).1, .string (strB (keyP l.tail.tail.tail).1), .string (strB (keyP l.tail.tail.tail.tail).1)]) := by unfold Hid; rw [hq11]; exact Bx.new _ _ _
                    obtain ⟨g11, HG11⟩ : ∃ x, Hid (x = wE9.heap.size) := ⟨_, Hid.mk rfl⟩
                    rw [← HG11.out] at HB11 ⊢
                    have hop11 : True := trivial
                    rw [← hq11]
                    clear hq11 hx11
                    refine hK.out _ _ (trivial) (fun hHeld => ?_)
                    clear hK K
                    try simp only [Act.put, sa, s0, s1]
                    refine wpAnyH_ready (rs := [12]) (by kernel_rfl) (by simp) ?_
                    refine (AllReadyH.cons (o := qf15_22_10_12) rfl (fun K hK => ?_) AllReadyH.nil)
                    · skip
                      obtain ⟨xs, hxs, hpush⟩ := HDc.out.push HG15.out HG16.out
                      have HPU := Hid.mk hpush
                      clear hpush
                      refine step_append_src _ rfl _ _ 22 22 rfl 0 49 iT (.agg (List.toArray [.int .i64 0, .int .i64 0, .string ⟨#[]⟩, .string ⟨#[]⟩])) 4 48 Tryz.underlying22 hiT hz0 hz1 hz2 rfl (.slice a ts.length c) ts.length xs rfl hxs (.slice (some ⟨g11, 0, none⟩) 1 1) rfl 1 [.int .i64 (numbP l.tail).1, .int .i64 (numbP l.tail.tail).1, .string (strB (keyP l.tail.tail.tail).1), .string (strB (keyP l.tail.tail.tail.tail).1)] (Src.meta Tryz.underlying22 HB11.out) (by unfold maxLen; have := HTN.out; omega) (by have := HTN.out; omega) (Nat.zero_le _) ?_
                      intro v12 wE12 ho12 hgr12 hat12
                      obtain ⟨r12, q12, rfl⟩ := own_slice ho12
                      have HN12 := Hid.mk (HPU.out _ wE12 (rowM l.tail) (numbP_wf _) (numbP_wf _) (Nat.le_trans HK3.out (by decide)) (Nat.le_trans HK4.out (by decide)) ho12 hgr12 hat12 r12 q12 rfl)
                      have hop12 : True := trivial
                      clear hxs ho12 hat12 hgr12
                      refine hK.out _ _ (trivial) (fun hHeld => ?_)
                      clear hK K
                      try simp only [Act.put, sa, s0, s1]
                      refine tk 13 qf15_22_10_13 (some 47) (v := ?v9) rfl rfl (by kernel_rfl) hHeld (by rfl) (fun _ _ _ h => h) (fun w h => ?y9) ?_; (case y9 => (try dsimp only at h); go_simp; try (with_reducible rfl)); try simp only [Act.put, sa, s0, s1]
                      refine wpAnyH_ready (rs := [14]) (by kernel_rfl) (by simp) ?_
                      refine (AllReadyH.cons (o := qf15_22_10_14) rfl (fun K hK => ?_) AllReadyH.nil)
                      · skip
                        have hbo := HN12.out.1
                        have o2 := hbo.cell 2 _ rfl
                        have f2 := hbo.free 2
                        have lo := hbo.lt
                        go_simp
                        obtain ⟨wE14, hq14⟩ : ∃ x, x = wE12.setCell ⟨M, 2, none⟩ (.slice r12 (ts.length + 1) q12) := ⟨_, rfl⟩
                        have HE := Hid.mk HN12.out.2
                        rw [← hq14] at HE ⊢
                        have hop14 : True := trivial
                        clear hq14 hbo o2 f2 lo
                        refine hK.out _ _ (trivial) (fun hHeld => ?_)
                        clear hK K
                        try simp only [Act.put, sa, s0, s1]
                        refine wpAnyH_done (by kernel_rfl) ?_ _
                        go_wp2_with fail
                        go_roundw
                        case rel => exact ⟨_, _, _, _, _, HE, Hid.mk HMR.out.1⟩
                        case measure => rw [HE.out.s.rd.left, H0L.out]; exact HMR.out.2.2
          · go_simp
            refine HDc.out.number.mono ?_
            rintro e wE5 ⟨rfl, hm5⟩
            clear HDc
            have HDc := Hid.mk hm5
            clear hm5
            have hop5 : True := trivial
            go_wp2_with fail
            refine hK.out _ _ (trivial) (fun hHeld => ?_)
            clear hK K
            try simp only [Act.put, sa, s0, s1]
            refine wpAnyH_ready (rs := [1, 7]) (by kernel_rfl) (by simp) ?_
            refine (AllReadyH.cons (o := qf15_22_10_1) rfl (fun K hK => ?_) (AllReadyH.cons (o := qf15_22_10_7) rfl (fun K hK => ?_) AllReadyH.nil))
            · go_simp
              have p2 := HDc.out.s.box.cell 2 _ rfl
              go_simp
              obtain ⟨wE1, hqL⟩ : ∃ x, x = wE5 := ⟨_, rfl⟩
              have hop1 : True := trivial
              rw [← hqL] at HDc ⊢
              (try rw [← hqL] at HB11)
              clear hqL p2
              refine hK.out _ _ (trivial) (fun hHeld => ?_)
              clear hK K
              try simp only [Act.put, sa, s0, s1]
              refine wpAnyH_ready (rs := [7]) (by kernel_rfl) (by simp) ?_
              refine (AllReadyH.cons (o := qf15_22_10_7) rfl (fun K hK => ?_) AllReadyH.nil)
              · go_simp
                have HK3 := Hid.mk (keyP_size HDc.out.s.rd)
                refine HDc.out.key.mono ?_
                rintro e wE7 ⟨rfl, hm7⟩
                clear HDc
                have HDc := Hid.mk hm7
                clear hm7
                have hop7 : True := trivial
                go_wp2_with fail
                refine hK.out _ _ (trivial) (fun hHeld => ?_)
                clear hK K
                try simp only [Act.put, sa, s0, s1]
                refine wpAnyH_ready (rs := [9]) (by kernel_rfl) (by simp) ?_
                refine (AllReadyH.cons (o := qf15_22_10_9) rfl (fun K hK => ?_) AllReadyH.nil)
                · go_simp
                  have HK4 := Hid.mk (keyP_size HDc.out.s.rd)
                  refine HDc.out.key.mono ?_
                  rintro e wE9 ⟨rfl, hm9⟩
                  clear HDc
                  have HDc := Hid.mk hm9
                  clear hm9
                  have hop9 : True := trivial
                  go_wp2_with fail
                  refine hK.out _ _ (trivial) (fun hHeld => ?_)
                  clear hK K
                  try simp only [Act.put, sa, s0, s1]
                  refine tk 10 qf15_22_10_10 (some 44) (v := ?v10) rfl rfl (by kernel_rfl) hHeld (by rfl) (fun _ _ _ h => h) (fun w h => ?y10) ?_; (case y10 => (try dsimp only at h); go_simp; try (with_reducible rfl)); try simp only [Act.put, sa, s0, s1]
                  refine wpAnyH_ready (rs := [11]) (by kernel_rfl) (by simp) ?_
                  refine (AllReadyH.cons (o := qf15_22_10_11) rfl (fun K hK => ?_) AllReadyH.nil)
                  · go_simp
                    obtain ⟨wE11, hq11⟩ : ∃ x, x = wE9.alloc (.cells (List.toArray [.int .i64 (numbP l.tail).1, .int .i64 (numbP l.tail.tail).1, .string (strB (keyP l.tail.tail.tail).1), .string (strB (keyP l.tail.tail.tail.tail).1)]) 49) := ⟨_, rfl⟩
                    have hx11 : Below wE9.heap.size wE9 wE11 := by rw [hq11]; exact (Below.refl _ _).alloc (Nat.le_refl _) _
                    have HD11 := Hid.mk (HDc.out.under hx11)
                    clear HDc
                    have HDc := HD11
                    clear HD11
                    have HB11 : Hid (Bx wE11 wE9.heap.size [.int .i64 (numbP l.tail).1, .int .i64 (numbP l.tail.tail).1, .string (strB (keyP l.tail.tail.tail).1), .string (strB (keyP l.tail.tail.tail.tail).1)]) := by unfold Hid; rw [hq11]; exact Bx.new _ _ _
                    obtain ⟨g11, HG11⟩ : ∃ x, Hid (x = wE9.heap.size) := ⟨_, Hid.mk rfl⟩
                    rw [← HG11.out] at HB11 ⊢
                    have hop11 : True := trivial
                    rw [← hq11]
                    clear hq11 hx11
                    refine hK.out _ _ (trivial) (fun hHeld => ?_)
                    clear hK K
                    try simp only [Act.put, sa, s0, s1]
                    refine wpAnyH_ready (rs := [12]) (by kernel_rfl) (by simp) ?_
                    refine (AllReadyH.cons (o := qf15_22_10_12) rfl (fun K hK => ?_) AllReadyH.nil)
                    · skip
                      obtain ⟨xs, hxs, hpush⟩ := HDc.out.push HG15.out HG16.out
                      have HPU := Hid.mk hpush
                      clear hpush
                      refine step_append_src _ rfl _ _ 22 22 rfl 0 49 iT (.agg (List.toArray [.int .i64 0, .int .i64 0, .string ⟨#[]⟩, .string ⟨#[]⟩])) 4 48 Tryz.underlying22 hiT hz0 hz1 hz2 rfl (.slice a ts.length c) ts.length xs rfl hxs (.slice (some ⟨g11, 0, none⟩) 1 1) rfl 1 [.int .i64 (numbP l.tail).1, .int .i64 (numbP l.tail.tail).1, .string (strB (keyP l.tail.tail.tail).1), .string (strB (keyP l.tail.tail.tail.tail).1)] (Src.meta Tryz.underlying22 HB11.out) (by unfold maxLen; have := HTN.out; omega) (by have := HTN.out; omega) (Nat.zero_le _) ?_
                      intro v12 wE12 ho12 hgr12 hat12
                      obtain ⟨r12, q12, rfl⟩ := own_slice ho12
                      have HN12 := Hid.mk (HPU.out _ wE12 (rowM l.tail) (numbP_wf _) (numbP_wf _) (Nat.le_trans HK3.out (by decide)) (Nat.le_trans HK4.out (by decide)) ho12 hgr12 hat12 r12 q12 rfl)
                      have hop12 : True := trivial
                      clear hxs ho12 hat12 hgr12
                      refine hK.out _ _ (trivial) (fun hHeld => ?_)
                      clear hK K
                      try simp only [Act.put, sa, s0, s1]
                      refine tk 13 qf15_22_10_13 (some 47) (v := ?v11) rfl rfl (by kernel_rfl) hHeld (by rfl) (fun _ _ _ h => h) (fun w h => ?y11) ?_; (case y11 => (try dsimp only at h); go_simp; try (with_reducible rfl)); try simp only [Act.put, sa, s0, s1]
                      refine wpAnyH_ready (rs := [14]) (by kernel_rfl) (by simp) ?_
                      refine (AllReadyH.cons (o := qf15_22_10_14) rfl (fun K hK => ?_) AllReadyH.nil)
                      · skip
                        have hbo := HN12.out.1
                        have o2 := hbo.cell 2 _ rfl
                        have f2 := hbo.free 2
                        have lo := hbo.lt
                        go_simp
                        obtain ⟨wE14, hq14⟩ : ∃ x, x = wE12.setCell ⟨M, 2, none⟩ (.slice r12 (ts.length + 1) q12) := ⟨_, rfl⟩
                        have HE := Hid.mk HN12.out.2
                        rw [← hq14] at HE ⊢
                        have hop14 : True := trivial
                        clear hq14 hbo o2 f2 lo
                        refine hK.out _ _ (trivial) (fun hHeld => ?_)
                        clear hK K
                        try simp only [Act.put, sa, s0, s1]
                        refine wpAnyH_done (by kernel_rfl) ?_ _
                        go_wp2_with fail
                        go_roundw
                        case rel => exact ⟨_, _, _, _, _, HE, Hid.mk HMR.out.1⟩
                        case measure => rw [HE.out.s.rd.left, H0L.out]; exact HMR.out.2.2
            · go_simp
              have HK3 := Hid.mk (keyP_size HDc.out.s.rd)
              refine HDc.out.key.mono ?_
              rintro e wE7 ⟨rfl, hm7⟩
              clear HDc
              have HDc := Hid.mk hm7
              clear hm7
              have hop7 : True := trivial
              go_wp2_with fail
              refine hK.out _ _ (trivial) (fun hHeld => ?_)
              clear hK K
              try simp only [Act.put, sa, s0, s1]
              refine wpAnyH_ready (rs := [1, 9]) (by kernel_rfl) (by simp) ?_
              refine (AllReadyH.cons (o := qf15_22_10_1) rfl (fun K hK => ?_) (AllReadyH.cons (o := qf15_22_10_9) rfl (fun K hK => ?_) AllReadyH.nil))
              · go_simp
                have p2 := HDc.out.s.box.cell 2 _ rfl
                go_simp
                obtain ⟨wE1, hqL⟩ : ∃ x, x = wE7 := ⟨_, rfl⟩
                have hop1 : True := trivial
                rw [← hqL] at HDc ⊢
                (try rw [← hqL] at HB11)
                clear hqL p2
                refine hK.out _ _ (trivial) (fun hHeld => ?_)
                clear hK K
                try simp only [Act.put, sa, s0, s1]
                refine wpAnyH_ready (rs := [9]) (by kernel_rfl) (by simp) ?_
                refine (AllReadyH.cons (o := qf15_22_10_9) rfl (fun K hK => ?_) AllReadyH.nil)
                · go_simp
                  have HK4 := Hid.mk (keyP_size HDc.out.s.rd)
                  refine HDc.out.key.mono ?_
                  rintro e wE9 ⟨rfl, hm9⟩
                  clear HDc
                  have HDc := Hid.mk hm9
                  clear hm9
                  have hop9 : True := trivial
                  go_wp2_with fail
                  refine hK.out _ _ (trivial) (fun hHeld => ?_)
                  clear hK K
                  try simp only [Act.put, sa, s0, s1]
                  refine tk 10 qf15_22_10_10 (some 44) (v := ?v12) rfl rfl (by kernel_rfl) hHeld (by rfl) (fun _ _ _ h => h) (fun w h => ?y12) ?_; (case y12 => (try dsimp only at h); go_simp; try (with_reducible rfl)); try simp only [Act.put, sa, s0, s1]
                  refine wpAnyH_ready (rs := [11]) (by kernel_rfl) (by simp) ?_
                  refine (AllReadyH.cons (o := qf15_22_10_11) rfl (fun K hK => ?_) AllReadyH.nil)
                  · go_simp
                    obtain ⟨wE11, hq11⟩ : ∃ x, x = wE9.alloc (.cells (List.toArray [.int .i64 (numbP l.tail).1, .int .i64 (numbP l.tail.tail).1, .string (strB (keyP l.tail.tail.tail).1), .string (strB (keyP l.tail.tail.tail.tail).1)]) 49) := ⟨_, rfl⟩
                    have hx11 : Below wE9.heap.size wE9 wE11 := by rw [hq11]; exact (Below.refl _ _).alloc (Nat.le_refl _) _
                    have HD11 := Hid.mk (HDc.out.under hx11)
                    clear HDc
                    have HDc := HD11
                    clear HD11
                    have HB11 : Hid (Bx wE11 wE9.heap.size [.int .i64 (numbP l.tail).1, .int .i64 (numbP l.tail.tail).1, .string (strB (keyP l.tail.tail.tail).1), .string (strB (keyP l.tail.tail.tail.tail).1)]) := by unfold Hid; rw [hq11]; exact Bx.new _ _ _
                    obtain ⟨g11, HG11⟩ : ∃ x, Hid (x = wE9.heap.size) := ⟨_, Hid.mk rfl⟩
                    rw [← HG11.out] at HB11 ⊢
                    have hop11 : True := trivial
                    rw [← hq11]
                    clear hq11 hx11
                    refine hK.out _ _ (trivial) (fun hHeld => ?_)
                    clear hK K
                    try simp only [Act.put, sa, s0, s1]
                    refine wpAnyH_ready (rs := [12]) (by kernel_rfl) (by simp) ?_
                    refine (AllReadyH.cons (o := qf15_22_10_12) rfl (fun K hK => ?_) AllReadyH.nil)
                    · skip
                      obtain ⟨xs, hxs, hpush⟩ := HDc.out.push HG15.out HG16.out
                      have HPU := Hid.mk hpush
                      clear hpush
                      refine step_append_src _ rfl _ _ 22 22 rfl 0 49 iT (.agg (List.toArray [.int .i64 0, .int .i64 0, .string ⟨#[]⟩, .string ⟨#[]⟩])) 4 48 Tryz.underlying22 hiT hz0 hz1 hz2 rfl (.slice a ts.length c) ts.length xs rfl hxs (.slice (some ⟨g11, 0, none⟩) 1 1) rfl 1 [.int .i64 (numbP l.tail).1, .int .i64 (numbP l.tail.tail).1, .string (strB (keyP l.tail.tail.tail).1), .string (strB (keyP l.tail.tail.tail.tail).1)] (Src.meta Tryz.underlying22 HB11.out) (by unfold maxLen; have := HTN.out; omega) (by have := HTN.out; omega) (Nat.zero_le _) ?_
                      intro v12 wE12 ho12 hgr12 hat12
                      obtain ⟨r12, q12, rfl⟩ := own_slice ho12
                      have HN12 := Hid.mk (HPU.out _ wE12 (rowM l.tail) (numbP_wf _) (numbP_wf _) (Nat.le_trans HK3.out (by decide)) (Nat.le_trans HK4.out (by decide)) ho12 hgr12 hat12 r12 q12 rfl)
                      have hop12 : True := trivial
                      clear hxs ho12 hat12 hgr12
                      refine hK.out _ _ (trivial) (fun hHeld => ?_)
                      clear hK K
                      try simp only [Act.put, sa, s0, s1]
                      refine tk 13 qf15_22_10_13 (some 47) (v := ?v13) rfl rfl (by kernel_rfl) hHeld (by rfl) (fun _ _ _ h => h) (fun w h => ?y13) ?_; (case y13 => (try dsimp only at h); go_simp; try (with_reducible rfl)); try simp only [Act.put, sa, s0, s1]
                      refine wpAnyH_ready (rs := [14]) (by kernel_rfl) (by simp) ?_
                      refine (AllReadyH.cons (o := qf15_22_10_14) rfl (fun K hK => ?_) AllReadyH.nil)
                      · skip
                        have hbo := HN12.out.1
                        have o2 := hbo.cell 2 _ rfl
                        have f2 := hbo.free 2
                        have lo := hbo.lt
                        go_simp
                        obtain ⟨wE14, hq14⟩ : ∃ x, x = wE12.setCell ⟨M, 2, none⟩ (.slice r12 (ts.length + 1) q12) := ⟨_, rfl⟩
                        have HE := Hid.mk HN12.out.2
                        rw [← hq14] at HE ⊢
                        have hop14 : True := trivial
                        clear hq14 hbo o2 f2 lo
                        refine hK.out _ _ (trivial) (fun hHeld => ?_)
                        clear hK K
                        try simp only [Act.put, sa, s0, s1]
                        refine wpAnyH_done (by kernel_rfl) ?_ _
                        go_wp2_with fail
                        go_roundw
                        case rel => exact ⟨_, _, _, _, _, HE, Hid.mk HMR.out.1⟩
                        case measure => rw [HE.out.s.rd.left, H0L.out]; exact HMR.out.2.2
              · go_simp
                have HK4 := Hid.mk (keyP_size HDc.out.s.rd)
                refine HDc.out.key.mono ?_
                rintro e wE9 ⟨rfl, hm9⟩
                clear HDc
                have HDc := Hid.mk hm9
                clear hm9
                have hop9 : True := trivial
                go_wp2_with fail
                refine hK.out _ _ (trivial) (fun hHeld => ?_)
                clear hK K
                try simp only [Act.put, sa, s0, s1]
                refine tk 10 qf15_22_10_10 (some 44) (v := ?v14) rfl rfl (by kernel_rfl) hHeld (by rfl) (fun _ _ _ h => h) (fun w h => ?y14) ?_; (case y14 => (try dsimp only at h); go_simp; try (with_reducible rfl)); try simp only [Act.put, sa, s0, s1]
                refine wpAnyH_ready (rs := [1, 11]) (by kernel_rfl) (by simp) ?_
                refine (AllReadyH.cons (o := qf15_22_10_1) rfl (fun K hK => ?_) (AllReadyH.cons (o := qf15_22_10_11) rfl (fun K hK => ?_) AllReadyH.nil))
                · go_simp
                  have p2 := HDc.out.s.box.cell 2 _ rfl
                  go_simp
                  obtain ⟨wE1, hqL⟩ : ∃ x, x = wE9 := ⟨_, rfl⟩
                  have hop1 : True := trivial
                  rw [← hqL] at HDc ⊢
                  (try rw [← hqL] at HB11)
                  clear hqL p2
                  refine hK.out _ _ (trivial) (fun hHeld => ?_)
                  clear hK K
                  try simp only [Act.put, sa, s0, s1]
                  refine wpAnyH_ready (rs := [11]) (by kernel_rfl) (by simp) ?_
                  refine (AllReadyH.cons (o := qf15_22_10_11) rfl (fun K hK => ?_) AllReadyH.nil)
                  · go_simp
                    obtain ⟨wE11, hq11⟩ : ∃ x, x = wE1.alloc (.cells (List.toArray [.int .i64 (numbP l.tail).1, .int .i64 (numbP l.tail.tail).1, .string (strB (keyP l.tail.tail.tail).1), .string (strB (keyP l.tail.tail.tail.tail).1)]) 49) := ⟨_, rfl⟩
                    have hx11 : Below wE1.heap.size wE1 wE11 := by rw [hq11]; exact (Below.refl _ _).alloc (Nat.le_refl _) _
                    have HD11 := Hid.mk (HDc.out.under hx11)
                    clear HDc
                    have HDc := HD11
                    clear HD11
                    have HB11 : Hid (Bx wE11 wE1.heap.size [.int .i64 (numbP l.tail).1, .int .i64 (numbP l.tail.tail).1, .string (strB (keyP l.tail.tail.tail).1), .string (strB (keyP l.tail.tail.tail.tail).1)]) := by unfold Hid; rw [hq11]; exact Bx.new _ _ _
                    obtain ⟨g11, HG11⟩ : ∃ x, Hid (x = wE1.heap.size) := ⟨_, Hid.mk rfl⟩
                    rw [← HG11.out] at HB11 ⊢
                    have hop11 : True := trivial
                    rw [← hq11]
                    clear hq11 hx11
                    refine hK.out _ _ (trivial) (fun hHeld => ?_)
                    clear hK K
                    try simp only [Act.put, sa, s0, s1]
                    refine wpAnyH_ready (rs := [12]) (by kernel_rfl) (by simp) ?_
                    refine (AllReadyH.cons (o := qf15_22_10_12) rfl (fun K hK => ?_) AllReadyH.nil)
                    · skip
                      obtain ⟨xs, hxs, hpush⟩ := HDc.out.push HG15.out HG16.out
                      have HPU := Hid.mk hpush
                      clear hpush
                      refine step_append_src _ rfl _ _ 22 22 rfl 0 49 iT (.agg (List.toArray [.int .i64 0, .int .i64 0, .string ⟨#[]⟩, .string ⟨#[]⟩])) 4 48 Tryz.underlying22 hiT hz0 hz1 hz2 rfl (.slice a ts.length c) ts.length xs rfl hxs (.slice (some ⟨g11, 0, none⟩) 1 1) rfl 1 [.int .i64 (numbP l.tail).1, .int .i64 (numbP l.tail.tail).1, .string (strB (keyP l.tail.tail.tail).1), .string (strB (keyP l.tail.tail.tail.tail).1)] (Src.meta Tryz.underlying22 HB11.out) (by unfold maxLen; have := HTN.out; omega) (by have := HTN.out; omega) (Nat.zero_le _) ?_
                      intro v12 wE12 ho12 hgr12 hat12
                      obtain ⟨r12, q12, rfl⟩ := own_slice ho12
                      have HN12 := Hid.mk (HPU.out _ wE12 (rowM l.tail) (numbP_wf _) (numbP_wf _) (Nat.le_trans HK3.out (by decide)) (Nat.le_trans HK4.out (by decide)) ho12 hgr12 hat12 r12 q12 rfl)
                      have hop12 : True := trivial
                      clear hxs ho12 hat12 hgr12
                      refine hK.out _ _ (trivial) (fun hHeld => ?_)
                      clear hK K
                      try simp only [Act.put, sa, s0, s1]
                      refine tk 13 qf15_22_10_13 (some 47) (v := ?v15) rfl rfl (by kernel_rfl) hHeld (by rfl) (fun _ _ _ h => h) (fun w h => ?y15) ?_; (case y15 => (try dsimp only at h); go_simp; try (with_reducible rfl)); try simp only [Act.put, sa, s0, s1]
                      refine wpAnyH_ready (rs := [14]) (by kernel_rfl) (by simp) ?_
                      refine (AllReadyH.cons (o := qf15_22_10_14) rfl (fun K hK => ?_) AllReadyH.nil)
                      · skip
                        have hbo := HN12.out.1
                        have o2 := hbo.cell 2 _ rfl
                        have f2 := hbo.free 2
                        have lo := hbo.lt
                        go_simp
                        obtain ⟨wE14, hq14⟩ : ∃ x, x = wE12.setCell ⟨M, 2, none⟩ (.slice r12 (ts.length + 1) q12) := ⟨_, rfl⟩
                        have HE := Hid.mk HN12.out.2
                        rw [← hq14] at HE ⊢
                        have hop14 : True := trivial
                        clear hq14 hbo o2 f2 lo
                        refine hK.out _ _ (trivial) (fun hHeld => ?_)
                        clear hK K
                        try simp only [Act.put, sa, s0, s1]
                        refine wpAnyH_done (by kernel_rfl) ?_ _
                        go_wp2_with fail
                        go_roundw
                        case rel => exact ⟨_, _, _, _, _, HE, Hid.mk HMR.out.1⟩
                        case measure => rw [HE.out.s.rd.left, H0L.out]; exact HMR.out.2.2
                · go_simp
                  obtain ⟨wE11, hq11⟩ : ∃ x, x = wE9.alloc (.cells (List.toArray [.int .i64 (numbP l.tail).1, .int .i64 (numbP l.tail.tail).1, .string (strB (keyP l.tail.tail.tail).1), .string (strB (keyP l.tail.tail.tail.tail).1)]) 49) := ⟨_, rfl⟩
                  have hx11 : Below wE9.heap.size wE9 wE11 := by rw [hq11]; exact (Below.refl _ _).alloc (Nat.le_refl _) _
                  have HD11 := Hid.mk (HDc.out.under hx11)
                  clear HDc
                  have HDc := HD11
                  clear HD11
                  have HB11 : Hid (Bx wE11 wE9.heap.size [.int .i64 (numbP l.tail).1, .int .i64 (numbP l.tail.tail).1, .string (strB (keyP l.tail.tail.tail).1), .string (strB (keyP l.tail.tail.tail.tail).1)]) := by unfold Hid; rw [hq11]; exact Bx.new _ _ _
                  obtain ⟨g11, HG11⟩ : ∃ x, Hid (x = wE9.heap.size) := ⟨_, Hid.mk rfl⟩
                  rw [← HG11.out] at HB11 ⊢
                  have hop11 : True := trivial
                  rw [← hq11]
                  clear hq11 hx11
                  refine hK.out _ _ (trivial) (fun hHeld => ?_)
                  clear hK K
                  try simp only [Act.put, sa, s0, s1]
                  refine wpAnyH_ready (rs := [1]) (by kernel_rfl) (by simp) ?_
                  refine (AllReadyH.cons (o := qf15_22_10_1) rfl (fun K hK => ?_) AllReadyH.nil)
                  · go_simp
                    have p2 := HDc.out.s.box.cell 2 _ rfl
                    go_simp
                    obtain ⟨wE1, hqL⟩ : ∃ x, x = wE11 := ⟨_, rfl⟩
                    have hop1 : True := trivial
                    rw [← hqL] at HDc ⊢
                    (try rw [← hqL] at HB11)
                    clear hqL p2
                    refine hK.out _ _ (trivial) (fun hHeld => ?_)
                    clear hK K
                    try simp only [Act.put, sa, s0, s1]
                    refine wpAnyH_ready (rs := [12]) (by kernel_rfl) (by simp) ?_
                    refine (AllReadyH.cons (o := qf15_22_10_12) rfl (fun K hK => ?_) AllReadyH.nil)
                    · skip
                      obtain ⟨xs, hxs, hpush⟩ := HDc.out.push HG15.out HG16.out
                      have HPU := Hid.mk hpush
                      clear hpush
                      refine step_append_src _ rfl _ _ 22 22 rfl 0 49 iT (.agg (List.toArray [.int .i64 0, .int .i64 0, .string ⟨#[]⟩, .string ⟨#[]⟩])) 4 48 Tryz.underlying22 hiT hz0 hz1 hz2 rfl (.slice a ts.length c) ts.length xs rfl hxs (.slice (some ⟨g11, 0, none⟩) 1 1) rfl 1 [.int .i64 (numbP l.tail).1, .int .i64 (numbP l.tail.tail).1, .string (strB (keyP l.tail.tail.tail).1), .string (strB (keyP l.tail.tail.tail.tail).1)] (Src.meta Tryz.underlying22 HB11.out) (by unfold maxLen; have := HTN.out; omega) (by have := HTN.out; omega) (Nat.zero_le _) ?_
                      intro v12 wE12 ho12 hgr12 hat12
                      obtain ⟨r12, q12, rfl⟩ := own_slice ho12
                      have HN12 := Hid.mk (HPU.out _ wE12 (rowM l.tail) (numbP_wf _) (numbP_wf _) (Nat.le_trans HK3.out (by decide)) (Nat.le_trans HK4.out (by decide)) ho12 hgr12 hat12 r12 q12 rfl)
                      have hop12 : True := trivial
                      clear hxs ho12 hat12 hgr12
                      refine hK.out _ _ (trivial) (fun hHeld => ?_)
                      clear hK K
                      try simp only [Act.put, sa, s0, s1]
                      refine tk 13 qf15_22_10_13 (some 47) (v := ?v16) rfl rfl (by kernel_rfl) hHeld (by rfl) (fun _ _ _ h => h) (fun w h => ?y16) ?_; (case y16 => (try dsimp only at h); go_simp; try (with_reducible rfl)); try simp only [Act.put, sa, s0, s1]
                      refine wpAnyH_ready (rs := [14]) (by kernel_rfl) (by simp) ?_
                      refine (AllReadyH.cons (o := qf15_22_10_14) rfl (fun K hK => ?_) AllReadyH.nil)
                      · skip
                        have hbo := HN12.out.1
                        have o2 := hbo.cell 2 _ rfl
                        have f2 := hbo.free 2
                        have lo := hbo.lt
                        go_simp
                        obtain ⟨wE14, hq14⟩ : ∃ x, x = wE12.setCell ⟨M, 2, none⟩ (.slice r12 (ts.length + 1) q12) := ⟨_, rfl⟩
                        have HE := Hid.mk HN12.out.2
                        rw [← hq14] at HE ⊢
                        have hop14 : True := trivial
                        clear hq14 hbo o2 f2 lo
                        refine hK.out _ _ (trivial) (fun hHeld => ?_)
                        clear hK K
                        try simp only [Act.put, sa, s0, s1]
                        refine wpAnyH_done (by kernel_rfl) ?_ _
                        go_wp2_with fail
                        go_roundw
                        case rel => exact ⟨_, _, _, _, _, HE, Hid.mk HMR.out.1⟩
                        case measure => rw [HE.out.s.rd.left, H0L.out]; exact HMR.out.2.2
    · have HDN := Hid.mk HLR.out.bad
      clear HLR H0L
      have m0 := HST.out.s.box.cell 0 _ rfl
      have m1 := HST.out.s.box.cell 1 _ rfl
      have m2 := HST.out.s.box.cell 2 _ rfl
      have o0 := HST.out.r.cell 0 _ rfl
      have o1 := HST.out.r.cell 1 _ rfl
      have o2 := HST.out.r.cell 2 _ rfl
      have f0 := HST.out.r.free 0
      have f1 := HST.out.r.free 1
      have f2 := HST.out.r.free 2
      have hlr := HST.out.r.lt
      go_wp2_with fail
      refine bodyPost_ret (v := .agg #[.int .i64 x, .int .i64 y, .slice a ts.length c]) (by simp [results, Tryz.results22, go_sem, *]) rfl ?_
      rw [HDN.out, ← HX.out, ← HY.out]
      exact ⟨a, c, rfl, HST.out.leave (turn3 _ _ _ _ _)⟩

theorem manifest_any (A : Nat) (l : List (List UInt8)) (w : World) (h : WdR w A l false) (hE : Ers w) (hA : A < w.heap.size) (g15 : layAtoi_ren.g 15 < A) (g16 : layAtoi_ren.g 16 < A) (hll : l.length ≤ 1048576) :
    Calls Tryz.prog 22 #[.pointer (some ⟨A, 0, none⟩)] w fun e w' => ∃ (a : Option Addr) (c : Nat), e = .returned (.agg #[.int .i64 (rdMan l).1.fNext, .int .i64 (rdMan l).1.fLog, .slice a (rdMan l).1.fTables.length c]) ∧ (∃ l', WdR w' A l' (rdMan l).2) ∧ Turn [A] w w' ∧ ∃ F, ownS 4 49 oMeta w' (.slice a (rdMan l).1.fTables.length c) (rdMan l).1.fTables F ∧ F.Nodup ∧ ∀ q, q ∈ F → w.heap.size ≤ q :=
  manifest_to A l w _ rfl h hE hA g15 g16 hll

end Go.Proofs.YtnohnkcijomdjaaGreatDoor
