/-
  Part 5 of the texts that the proof leans on.
-/
import Derived.Test.YtmbobjhplkpfoaaFfl0
import Derived.Test.YtmbobjhplkpfoaaFfl3
set_option linter.unusedVariables false
set_option linter.unusedSimpArgs false
set_option maxRecDepth 10000

namespace Go.Proofs.Ytmbobjhplkpfoaa
open Go.RowKit
abbrev q1a0_32_1_1 : Oper := ⟨some 7, .fieldAddr 27 (.tmp 1) 1, 0, "l02_files.go:68", #[], none⟩
abbrev q1a0_32_1_2 : Oper := ⟨some 8, .load 25 (.tmp 7), 25, "l02_files.go:68", #[⟨1, .data⟩], none⟩
abbrev q1a0_32_1_5 : Oper := ⟨some 11, .fieldAddr 27 (.tmp 1) 2, 0, "l02_files.go:68", #[], none⟩
abbrev q1a0_32_1_6 : Oper := ⟨some 12, .load 25 (.tmp 11), 25, "l02_files.go:68", #[⟨5, .data⟩], none⟩
abbrev q1a0_32_1_8 : Oper := ⟨some 14, .fieldAddr 27 (.tmp 1) 3, 0, "l02_files.go:68", #[], none⟩
abbrev q1a0_32_1_9 : Oper := ⟨some 15, .load 3 (.tmp 14), 3, "l02_files.go:68", #[⟨8, .data⟩], none⟩
abbrev q1a0_32_1_11 : Oper := ⟨some 3, .alloc 27, 0, "l02_files.go:68", #[], none⟩
abbrev q1a0_32_1_4 : Oper := ⟨some 10, .buildSlice 25 0 #[], 25, "l02_files.go:68", #[], none⟩
abbrev q1a0_32_1_0 : Oper := ⟨some 6, .buildSlice 25 0 #[], 25, "l02_files.go:68", #[], none⟩
abbrev q1a0_32_1_3 : Oper := ⟨some 9, .call { callee := .builtin .append, args := #[.tmp 6, .tmp 8], argTypes := #[25, 25] }, 25, "l02_files.go:68", #[⟨0, .data⟩, ⟨2, .data⟩], none⟩
abbrev q1a0_32_1_7 : Oper := ⟨some 13, .call { callee := .builtin .append, args := #[.tmp 10, .tmp 12], argTypes := #[25, 25] }, 25, "l02_files.go:68", #[⟨4, .data⟩, ⟨6, .data⟩, ⟨3, .chain⟩], none⟩
abbrev q1a0_32_1_10 : Oper := ⟨some 16, .build 27 #[(1, .tmp 9), (2, .tmp 13), (3, .tmp 15)], 27, "l02_files.go:68", #[⟨3, .data⟩, ⟨7, .data⟩, ⟨9, .data⟩], none⟩
abbrev q1a0_32_1_12 : Oper := ⟨none, .store 27 (.tmp 3) (.tmp 16), 0, "l02_files.go:68", #[⟨11, .data⟩, ⟨10, .data⟩, ⟨7, .chain⟩, ⟨0, .phase⟩, ⟨1, .phase⟩, ⟨2, .phase⟩, ⟨3, .phase⟩, ⟨4, .phase⟩, ⟨5, .phase⟩, ⟨6, .phase⟩, ⟨7, .phase⟩, ⟨8, .phase⟩, ⟨9, .phase⟩, ⟨10, .phase⟩, ⟨11, .phase⟩], none⟩
abbrev q1a0_32_6_0 : Oper := ⟨some 29, .fieldAddr 27 (.tmp 3) 0, 0, "l02_files.go:71", #[], none⟩
abbrev q1a0_32_6_2 : Oper := ⟨some 31, .fieldAddr 56 (.tmp 5) 0, 0, "l02_files.go:71", #[], none⟩
abbrev q1a0_32_6_3 : Oper := ⟨some 32, .load 3 (.tmp 31), 3, "l02_files.go:71", #[⟨2, .data⟩], none⟩
abbrev q1a0_32_6_5 : Oper := ⟨some 34, .fieldAddr 56 (.tmp 5) 1, 0, "l02_files.go:71", #[], none⟩
abbrev q1a0_32_6_6 : Oper := ⟨some 35, .load 22 (.tmp 34), 22, "l02_files.go:71", #[⟨5, .data⟩], none⟩
abbrev q1a0_32_6_8 : Oper := ⟨some 37, .fieldAddr 56 (.tmp 5) 2, 0, "l02_files.go:71", #[], none⟩
abbrev q1a0_32_6_9 : Oper := ⟨some 38, .load 3 (.tmp 37), 3, "l02_files.go:71", #[⟨8, .data⟩], none⟩
abbrev q1a0_32_6_4 : Oper := ⟨some 33, .buildSlice 22 0 #[], 22, "l02_files.go:71", #[], none⟩
abbrev q1a0_32_6_1 : Oper := ⟨some 30, .load 24 (.tmp 29), 24, "l02_files.go:71", #[⟨0, .data⟩], none⟩
abbrev q1a0_32_6_7 : Oper := ⟨some 36, .call { callee := .builtin .append, args := #[.tmp 33, .tmp 35], argTypes := #[22, 22] }, 22, "l02_files.go:71", #[⟨4, .data⟩, ⟨6, .data⟩], none⟩
abbrev q1a0_32_6_10 : Oper := ⟨some 39, .build 56 #[(0, .tmp 32), (1, .tmp 36), (2, .tmp 38)], 56, "l02_files.go:71", #[⟨3, .data⟩, ⟨7, .data⟩, ⟨9, .data⟩], none⟩
abbrev q1a0_32_6_11 : Oper := ⟨some 40, .buildSlice 24 1 #[(0, .tmp 39)], 24, "l02_files.go:71", #[⟨10, .data⟩], none⟩
abbrev q1a0_32_6_12 : Oper := ⟨some 41, .call { callee := .builtin .append, args := #[.tmp 30, .tmp 40], argTypes := #[24, 24] }, 24, "l02_files.go:71", #[⟨1, .data⟩, ⟨11, .data⟩, ⟨7, .chain⟩], none⟩
abbrev q1a0_32_6_13 : Oper := ⟨some 42, .fieldAddr 27 (.tmp 3) 0, 0, "l02_files.go:71", #[⟨0, .phase⟩, ⟨1, .phase⟩, ⟨2, .phase⟩, ⟨3, .phase⟩, ⟨4, .phase⟩, ⟨5, .phase⟩, ⟨6, .phase⟩, ⟨7, .phase⟩, ⟨8, .phase⟩, ⟨9, .phase⟩, ⟨10, .phase⟩, ⟨11, .phase⟩, ⟨12, .phase⟩], none⟩
abbrev q1a0_32_6_14 : Oper := ⟨none, .store 24 (.tmp 42) (.tmp 41), 0, "l02_files.go:71", #[⟨13, .data⟩, ⟨12, .data⟩, ⟨12, .chain⟩, ⟨0, .phase⟩, ⟨1, .phase⟩, ⟨2, .phase⟩, ⟨3, .phase⟩, ⟨4, .phase⟩, ⟨5, .phase⟩, ⟨6, .phase⟩, ⟨7, .phase⟩, ⟨8, .phase⟩, ⟨9, .phase⟩, ⟨10, .phase⟩, ⟨11, .phase⟩, ⟨12, .phase⟩], none⟩

theorem nodup_opt (o : Option Nat) : o.toList.Nodup := by cases o <;> simp

set_option maxHeartbeats 4000000 in
theorem l2Copy_any (cs : List Value) (m : MDisk) (w : World) (hr : rDisk w.heap.size w cs m) (hw : wDisk m ≤ 1048576) :
    Calls Try.prog 32 #[.agg cs.toArray] w fun e w' => ∃ (cs' : List Value) (F : List Nat), e = .returned (.agg cs'.toArray) ∧ oDisk w' cs' m F ∧ F.Nodup ∧ (∀ b, b ∈ F → w.heap.size ≤ b) ∧ Below w.heap.size w w' := by
  have hq := hr
  obtain ⟨a0, c0, a1, c1, a2, c2, rfl, hI, hNm, hSf, hnx, _⟩ := hq
  have hw2 : m.fInodes.length + sumW wInode m.fInodes + (m.fNames.length + sumW wEntry m.fNames) + (m.fSafe.length + sumW wEntry m.fSafe) ≤ 1048576 := hw
  obtain ⟨iI, hiI, hzI0, hzI1, hzI2⟩ := info_parts Try.infoOfInode
  obtain ⟨iE, hiE, hzE0, hzE1, hzE2⟩ := info_parts Try.infoOfEntry
  obtain ⟨iB, hiB, hzB0, hzB1, hzB2⟩ := info_parts Try.info5
  go_enter Try.func32, Try.ntmps32
  go_wp2_with fail
  obtain ⟨wq, hwq⟩ : ∃ wq, wq = (w.alloc (.cells #[.slice a0 m.fInodes.length c0, .slice a1 m.fNames.length c1, .slice a2 m.fSafe.length c2, .int .i64 m.fNext] 27)).alloc (.cells #[.slice none 0 0, .slice none 0 0, .slice none 0 0, .int .i64 0] 27) := ⟨_, rfl⟩
  have hbW : Below w.heap.size w wq := by rw [hwq]; exact ((Below.refl _ _).alloc (Nat.le_refl _) _).alloc (by simp) _
  have hbx : Bx wq w.heap.size [.slice a0 m.fInodes.length c0, .slice a1 m.fNames.length c1, .slice a2 m.fSafe.length c2, .int .i64 m.fNext] := by rw [hwq]; exact (Bx.new _ _ _).alloc _
  have hres : wq.heap[w.heap.size + 1]? = some (.cells #[.slice none 0 0, .slice none 0 0, .slice none 0 0, .int .i64 0] 27 (0, 0)) := by rw [hwq, al_heap, if_pos (by simp)]
  have HRES := Hid.mk hres
  clear hres
  rw [← hwq]
  clear hwq
  have p1 : ∀ W, Below wq.heap.size wq W → W.cell? ⟨w.heap.size, 1, none⟩ = some (.slice a1 m.fNames.length c1) := fun W hb => (hbx.under hb).2 1 _ rfl
  have p2 : ∀ W, Below wq.heap.size wq W → W.cell? ⟨w.heap.size, 2, none⟩ = some (.slice a2 m.fSafe.length c2) := fun W hb => (hbx.under hb).2 2 _ rfl
  have p3 : ∀ W, Below wq.heap.size wq W → W.cell? ⟨w.heap.size, 3, none⟩ = some (.int .i64 m.fNext) := fun W hb => (hbx.under hb).2 3 _ rfl
  have HN := Hid.mk hNm
  have HS := Hid.mk hSf
  have HI := Hid.mk hI
  have HBW := Hid.mk hbW
  clear hNm hSf hI hr hw hbW
  refine Code.wp_mono (Q := fun e a' w' => e = .normal ∧ ∃ (x6 x7 x9 x10 x11 x13 x14 : Value) (gb : Nat) (F1 F2 : List Nat), a' = { tmps := #[.agg #[.slice a0 m.fInodes.length c0, .slice a1 m.fNames.length c1, .slice a2 m.fSafe.length c2, .int .i64 m.fNext], .pointer (some ⟨w.heap.size, 0, none⟩), .pointer (some ⟨w.heap.size + 1, 0, none⟩), .pointer (some ⟨gb, 0, none⟩), undef, undef, x6, x7, .slice a1 m.fNames.length c1, x9, x10, x11, .slice a2 m.fSafe.length c2, x13, x14, .int .i64 m.fNext, .agg #[.slice none 0 0, x9, x13, .int .i64 m.fNext], undef, undef, undef, undef, undef, undef, undef, undef, undef, undef, undef, undef, undef, undef, undef, undef, undef, undef, undef, undef, undef, undef, undef, undef, undef, undef, undef], defers := [] } ∧ wq.heap.size ≤ gb ∧
      w'.heap[gb]? = some (.cells #[.slice none 0 0, x9, x13, .int .i64 m.fNext] 27 (0, 0)) ∧ ownS 2 61 oEntry w' x9 m.fNames F1 ∧ ownS 2 61 oEntry w' x13 m.fSafe F2 ∧ (F1 ++ F2).Nodup ∧ (∀ b, b ∈ F1 ++ F2 → wq.heap.size ≤ b ∧ b ≠ gb) ∧ Below wq.heap.size wq w') ?mono ?reg
  case reg =>
    refine wp_region_held_drew (S := fun W => Below wq.heap.size wq W) (by kernel_rfl) (Below.drew (Below.refl _ _)) (fun hHeld => ?_)
    obtain ⟨wS, hwS⟩ : ∃ wS, wS = wq.drew := ⟨_, rfl⟩
    have HZS : Hid (wS.heap.size = wq.heap.size) := by show _ = _; rw [hwS]; rfl
    rw [← hwS] at hHeld ⊢
    clear hwS
    refine tk 1 q1a0_32_1_1 (some 7) (v := ?v1) rfl rfl (by kernel_rfl) hHeld (by rfl) (fun _ _ _ h => by cases h.1) (fun w h => ?y1) ?_; (case y1 => (try dsimp only at h); go_simp; try (with_reducible rfl)); try simp only [Act.put, sa, s0, s1]
    refine tk 2 q1a0_32_1_2 (some 8) (v := ?v2) rfl rfl (by kernel_rfl) hHeld (by rfl) (fun _ _ _ h => by cases h.1) (fun w h => ?y2) ?_; (case y2 => (try dsimp only at h); go_simp; try (with_reducible rfl)); try simp only [Act.put, sa, s0, s1]
    refine tk 5 q1a0_32_1_5 (some 11) (v := ?v3) rfl rfl (by kernel_rfl) hHeld (by rfl) (fun _ _ _ h => by cases h.1) (fun w h => ?y3) ?_; (case y3 => (try dsimp only at h); go_simp; try (with_reducible rfl)); try simp only [Act.put, sa, s0, s1]
    refine tk 6 q1a0_32_1_6 (some 12) (v := ?v4) rfl rfl (by kernel_rfl) hHeld (by rfl) (fun _ _ _ h => by cases h.1) (fun w h => ?y4) ?_; (case y4 => (try dsimp only at h); go_simp; try (with_reducible rfl)); try simp only [Act.put, sa, s0, s1]
    refine tk 8 q1a0_32_1_8 (some 14) (v := ?v5) rfl rfl (by kernel_rfl) hHeld (by rfl) (fun _ _ _ h => by cases h.1) (fun w h => ?y5) ?_; (case y5 => (try dsimp only at h); go_simp; try (with_reducible rfl)); try simp only [Act.put, sa, s0, s1]
    refine tk 9 q1a0_32_1_9 (some 15) (v := ?v6) rfl rfl (by kernel_rfl) hHeld (by rfl) (fun _ _ _ h => by cases h.1) (fun w h => ?y6) ?_; (case y6 => (try dsimp only at h); go_simp; try (with_reducible rfl)); try simp only [Act.put, sa, s0, s1]
    refine wpAnyH_ready (rs := [0, 4, 11]) (by kernel_rfl) (by simp) ?_
    refine (AllReadyH.cons (o := q1a0_32_1_0) rfl (fun K hK => ?_) (AllReadyH.cons (o := q1a0_32_1_4) rfl (fun K hK => ?_) (AllReadyH.cons (o := q1a0_32_1_11) rfl (fun K hK => ?_) AllReadyH.nil)))
    · go_simp
      obtain ⟨wE0, g6, hq0, hG6, hop0, hob0, hL6, hW6⟩ := lit_new (wq := wq) 61 2 hHeld.size
      rw [← hG6]
      rw [← hq0]
      clear hq0
      have HGg6 := Hid.mk hG6
      have HLg6 := Hid.mk hL6
      have HWg6 := Hid.mk hW6
      clear hG6 hL6 hW6
      refine hK.out _ _ (bthen hHeld hop0) (fun hHeld => ?_)
      clear hK K
      try simp only [Act.put, sa, s0, s1]
      refine wpAnyH_ready (rs := [3, 4, 11]) (by kernel_rfl) (by simp) ?_
      refine (AllReadyH.cons (o := q1a0_32_1_3) rfl (fun K hK => ?_) (AllReadyH.cons (o := q1a0_32_1_4) rfl (fun K hK => ?_) (AllReadyH.cons (o := q1a0_32_1_11) rfl (fun K hK => ?_) AllReadyH.nil)))
      · skip
        refine step_ents rfl _ _ 25 rfl Try.underlying25 hiE hzE0 hzE1 hzE2 rfl g6 rfl (own_below hob0 (show Below wE0.heap.size wE0 wE0 from Below.refl _ _)) rfl rfl (HN.out.2.2.below rEntry_good (HBW.out.trans (hHeld.mono HBW.out.size))) (by omega) hHeld.size ?_
        intro r3 q3 wE3 hos3 hop3 hat3
        have HAT3 := Hid.mk hat3
        have HP3 : Hid (wq.heap.size ≤ wE0.heap.size) := hHeld.size
        have HOS3 := Hid.mk hos3
        clear hos3 hat3
        refine hK.out _ _ (bthen hHeld hop3) (fun hHeld => ?_)
        clear hK K
        try simp only [Act.put, sa, s0, s1]
        refine wpAnyH_ready (rs := [4, 11]) (by kernel_rfl) (by simp) ?_
        refine (AllReadyH.cons (o := q1a0_32_1_4) rfl (fun K hK => ?_) (AllReadyH.cons (o := q1a0_32_1_11) rfl (fun K hK => ?_) AllReadyH.nil))
        · go_simp
          obtain ⟨wE4, g10, hq4, hG10, hop4, hob4, hL10, hW10⟩ := lit_new (wq := wq) 61 2 hHeld.size
          rw [← hG10]
          rw [← hq4]
          clear hq4
          have HGg10 := Hid.mk hG10
          have HLg10 := Hid.mk hL10
          have HWg10 := Hid.mk hW10
          clear hG10 hL10 hW10
          refine hK.out _ _ (bthen hHeld hop4) (fun hHeld => ?_)
          clear hK K
          try simp only [Act.put, sa, s0, s1]
          refine wpAnyH_ready (rs := [7, 11]) (by kernel_rfl) (by simp) ?_
          refine (AllReadyH.cons (o := q1a0_32_1_7) rfl (fun K hK => ?_) (AllReadyH.cons (o := q1a0_32_1_11) rfl (fun K hK => ?_) AllReadyH.nil))
          · skip
            refine step_ents rfl _ _ 25 rfl Try.underlying25 hiE hzE0 hzE1 hzE2 rfl g10 rfl (own_below hob4 (show Below wE4.heap.size wE4 wE4 from Below.refl _ _)) rfl rfl (HS.out.2.2.below rEntry_good (HBW.out.trans (hHeld.mono HBW.out.size))) (by omega) hHeld.size ?_
            intro r7 q7 wE7 hos7 hop7 hat7
            have HAT7 := Hid.mk hat7
            have HP7 : Hid (wq.heap.size ≤ wE4.heap.size) := hHeld.size
            have HOS7 := Hid.mk hos7
            clear hos7 hat7
            refine hK.out _ _ (bthen hHeld hop7) (fun hHeld => ?_)
            clear hK K
            try simp only [Act.put, sa, s0, s1]
            refine tk 10 q1a0_32_1_10 (some 16) (v := ?v7) rfl rfl (by kernel_rfl) hHeld (by rfl) (fun _ _ _ h => by cases h.1) (fun w h => ?y7) ?_; (case y7 => (try dsimp only at h); go_simp; try (with_reducible rfl)); try simp only [Act.put, sa, s0, s1]
            refine wpAnyH_ready (rs := [11]) (by kernel_rfl) (by simp) ?_
            refine (AllReadyH.cons (o := q1a0_32_1_11) rfl (fun K hK => ?_) AllReadyH.nil)
            · go_simp
              obtain ⟨wE11, hq11⟩ : ∃ x, x = wE7.alloc (.cells #[.slice none 0 0, .slice none 0 0, .slice none 0 0, .int .i64 0] 27) := ⟨_, rfl⟩
              have hop11 : Below wE7.heap.size wE7 wE11 := by rw [hq11]; exact (Below.refl _ _).alloc (Nat.le_refl _) _
              have HB11 : Hid (wE11.heap[wE7.heap.size]? = some (.cells #[.slice none 0 0, .slice none 0 0, .slice none 0 0, .int .i64 0] 27 (0, 0))) := by show _ = _; rw [hq11, al_heap, if_pos rfl]
              obtain ⟨gb, HGb⟩ : ∃ g, Hid (g = wE7.heap.size) := ⟨_, rfl⟩
              rw [← HGb.out] at HB11 ⊢
              have HLb : Hid (gb < wE11.heap.size) := (Array.getElem?_eq_some_iff.1 HB11.out).1
              have HGW : Hid (wq.heap.size ≤ gb) := by show _ ≤ _; rw [HGb.out]; exact hHeld.size
              rw [← hq11]
              clear hq11
              refine hK.out _ _ (bthen hHeld hop11) (fun hHeld => ?_)
              clear hK K
              try simp only [Act.put, sa, s0, s1]
              refine wpAnyH_ready (rs := [12]) (by kernel_rfl) (by simp) ?_
              refine (AllReadyH.cons (o := q1a0_32_1_12) rfl (fun K hK => ?_) AllReadyH.nil)
              · go_simp
                have hb12 := (((show Below wE11.heap.size wE11 wE11 from Below.refl _ _)).block gb HLb.out).trans HB11.out
                have cb0 := rowC hb12 0 rfl
                have fb0 := frozen_of_row wE11 gb 0 _ _ hb12
                have cb1 := rowC hb12 1 rfl
                have fb1 := frozen_of_row wE11 gb 1 _ _ hb12
                have cb2 := rowC hb12 2 rfl
                have fb2 := frozen_of_row wE11 gb 2 _ _ hb12
                have cb3 := rowC hb12 3 rfl
                have fb3 := frozen_of_row wE11 gb 3 _ _ hb12
                go_simp
                obtain ⟨wE12, hq12, hgb12, hT12⟩ := put4_row hb12 (.slice none 0 0) (.slice r3 m.fNames.length q3) (.slice r7 m.fSafe.length q7) (.int .i64 m.fNext)
                rw [← hq12]
                clear hq12 cb0 cb1 cb2 cb3 fb0 fb1 fb2 fb3
                refine hK.out _ _ (hHeld.trans (hT12.below (fun k hk => by simp at hk; subst hk; exact HGW.out) hHeld.size)) (fun hHeld => ?_)
                clear hK K
                try simp only [Act.put, sa, s0, s1]
                refine wpAnyH_done (by kernel_rfl) ?_ _
                have z0 := hop0.size
                have z3 := hop3.size
                have z4 := hop4.size
                have z7 := hop7.size
                have z11 := hop11.size
                have b6 := HGg6.out
                have b10 := HGg10.out
                have bb := HGb.out
                have l6 := HLg6.out
                have l10 := HLg10.out
                have lb := HLb.out
                have w6 := HWg6.out
                have w10 := HWg10.out
                have wb := HGW.out
                have wp3 := HP3.out
                have wp7 := HP7.out
                have t3 := HAT3.out
                have t7 := HAT7.out
                obtain ⟨e1, e2, e3, e4⟩ := copy_fin (B := wq.heap.size) HOS3.out HOS7.out (show Below wE3.heap.size wE3 wE11 from bthen (bthen (bthen (Below.refl _ _) hop4) hop7) hop11) (show Below wE7.heap.size wE7 wE11 from bthen (Below.refl _ _) hop11) hT12 (nodup_opt _) (nodup_opt _) (fun j hj => by have := t3 j hj; omega) (fun j hj => by have := t7 j hj; omega) (fun a ha b hb => by have := t3 a ha; have := t7 b hb; omega)
                exact ⟨rfl, _, _, _, _, _, _, _, gb, _, _, rfl, wb, hgb12, e1, e2, e3, e4, hHeld⟩
          · go_simp
            obtain ⟨wE11, hq11⟩ : ∃ x, x = wE4.alloc (.cells #[.slice none 0 0, .slice none 0 0, .slice none 0 0, .int .i64 0] 27) := ⟨_, rfl⟩
            have hop11 : Below wE4.heap.size wE4 wE11 := by rw [hq11]; exact (Below.refl _ _).alloc (Nat.le_refl _) _
            have HB11 : Hid (wE11.heap[wE4.heap.size]? = some (.cells #[.slice none 0 0, .slice none 0 0, .slice none 0 0, .int .i64 0] 27 (0, 0))) := by show _ = _; rw [hq11, al_heap, if_pos rfl]
            obtain ⟨gb, HGb⟩ : ∃ g, Hid (g = wE4.heap.size) := ⟨_, rfl⟩
            rw [← HGb.out] at HB11 ⊢
            have HLb : Hid (gb < wE11.heap.size) := (Array.getElem?_eq_some_iff.1 HB11.out).1
            have HGW : Hid (wq.heap.size ≤ gb) := by show _ ≤ _; rw [HGb.out]; exact hHeld.size
            rw [← hq11]
            clear hq11
            refine hK.out _ _ (bthen hHeld hop11) (fun hHeld => ?_)
            clear hK K
            try simp only [Act.put, sa, s0, s1]
            refine wpAnyH_ready (rs := [7]) (by kernel_rfl) (by simp) ?_
            refine (AllReadyH.cons (o := q1a0_32_1_7) rfl (fun K hK => ?_) AllReadyH.nil)
            · skip
              refine step_ents rfl _ _ 25 rfl Try.underlying25 hiE hzE0 hzE1 hzE2 rfl g10 rfl (own_below hob4 (show Below wE4.heap.size wE4 wE11 from bthen (Below.refl _ _) hop11)) rfl rfl (HS.out.2.2.below rEntry_good (HBW.out.trans (hHeld.mono HBW.out.size))) (by omega) hHeld.size ?_
              intro r7 q7 wE7 hos7 hop7 hat7
              have HAT7 := Hid.mk hat7
              have HP7 : Hid (wq.heap.size ≤ wE11.heap.size) := hHeld.size
              have HOS7 := Hid.mk hos7
              clear hos7 hat7
              refine hK.out _ _ (bthen hHeld hop7) (fun hHeld => ?_)
              clear hK K
              try simp only [Act.put, sa, s0, s1]
              refine tk 10 q1a0_32_1_10 (some 16) (v := ?v8) rfl rfl (by kernel_rfl) hHeld (by rfl) (fun _ _ _ h => by cases h.1) (fun w h => ?y8) ?_; (case y8 => (try dsimp only at h); go_simp; try (with_reducible rfl)); try simp only [Act.put, sa, s0, s1]
              refine wpAnyH_ready (rs := [12]) (by kernel_rfl) (by simp) ?_
              refine (AllReadyH.cons (o := q1a0_32_1_12) rfl (fun K hK => ?_) AllReadyH.nil)
              · go_simp
                have hb12 := (((show Below wE11.heap.size wE11 wE7 from bthen (Below.refl _ _) hop7)).block gb HLb.out).trans HB11.out
                have cb0 := rowC hb12 0 rfl
                have fb0 := frozen_of_row wE7 gb 0 _ _ hb12
                have cb1 := rowC hb12 1 rfl
                have fb1 := frozen_of_row wE7 gb 1 _ _ hb12
                have cb2 := rowC hb12 2 rfl
                have fb2 := frozen_of_row wE7 gb 2 _ _ hb12
                have cb3 := rowC hb12 3 rfl
                have fb3 := frozen_of_row wE7 gb 3 _ _ hb12
                go_simp
                obtain ⟨wE12, hq12, hgb12, hT12⟩ := put4_row hb12 (.slice none 0 0) (.slice r3 m.fNames.length q3) (.slice r7 m.fSafe.length q7) (.int .i64 m.fNext)
                rw [← hq12]
                clear hq12 cb0 cb1 cb2 cb3 fb0 fb1 fb2 fb3
                refine hK.out _ _ (hHeld.trans (hT12.below (fun k hk => by simp at hk; subst hk; exact HGW.out) hHeld.size)) (fun hHeld => ?_)
                clear hK K
                try simp only [Act.put, sa, s0, s1]
                refine wpAnyH_done (by kernel_rfl) ?_ _
                have z0 := hop0.size
                have z3 := hop3.size
                have z4 := hop4.size
                have z7 := hop7.size
                have z11 := hop11.size
                have b6 := HGg6.out
                have b10 := HGg10.out
                have bb := HGb.out
                have l6 := HLg6.out
                have l10 := HLg10.out
                have lb := HLb.out
                have w6 := HWg6.out
                have w10 := HWg10.out
                have wb := HGW.out
                have wp3 := HP3.out
                have wp7 := HP7.out
                have t3 := HAT3.out
                have t7 := HAT7.out
                obtain ⟨e1, e2, e3, e4⟩ := copy_fin (B := wq.heap.size) HOS3.out HOS7.out (show Below wE3.heap.size wE3 wE7 from bthen (bthen (bthen (Below.refl _ _) hop4) hop11) hop7) (show Below wE7.heap.size wE7 wE7 from Below.refl _ _) hT12 (nodup_opt _) (nodup_opt _) (fun j hj => by have := t3 j hj; omega) (fun j hj => by have := t7 j hj; omega) (fun a ha b hb => by have := t3 a ha; have := t7 b hb; omega)
                exact ⟨rfl, _, _, _, _, _, _, _, gb, _, _, rfl, wb, hgb12, e1, e2, e3, e4, hHeld⟩
        · go_simp
          obtain ⟨wE11, hq11⟩ : ∃ x, x = wE3.alloc (.cells #[.slice none 0 0, .slice none 0 0, .slice none 0 0, .int .i64 0] 27) := ⟨_, rfl⟩
          have hop11 : Below wE3.heap.size wE3 wE11 := by rw [hq11]; exact (Below.refl _ _).alloc (Nat.le_refl _) _
          have HB11 : Hid (wE11.heap[wE3.heap.size]? = some (.cells #[.slice none 0 0, .slice none 0 0, .slice none 0 0, .int .i64 0] 27 (0, 0))) := by show _ = _; rw [hq11, al_heap, if_pos rfl]
          obtain ⟨gb, HGb⟩ : ∃ g, Hid (g = wE3.heap.size) := ⟨_, rfl⟩
          rw [← HGb.out] at HB11 ⊢
          have HLb : Hid (gb < wE11.heap.size) := (Array.getElem?_eq_some_iff.1 HB11.out).1
          have HGW : Hid (wq.heap.size ≤ gb) := by show _ ≤ _; rw [HGb.out]; exact hHeld.size
          rw [← hq11]
          clear hq11
          refine hK.out _ _ (bthen hHeld hop11) (fun hHeld => ?_)
          clear hK K
          try simp only [Act.put, sa, s0, s1]
          refine wpAnyH_ready (rs := [4]) (by kernel_rfl) (by simp) ?_
          refine (AllReadyH.cons (o := q1a0_32_1_4) rfl (fun K hK => ?_) AllReadyH.nil)
          · go_simp
            obtain ⟨wE4, g10, hq4, hG10, hop4, hob4, hL10, hW10⟩ := lit_new (wq := wq) 61 2 hHeld.size
            rw [← hG10]
            rw [← hq4]
            clear hq4
            have HGg10 := Hid.mk hG10
            have HLg10 := Hid.mk hL10
            have HWg10 := Hid.mk hW10
            clear hG10 hL10 hW10
            refine hK.out _ _ (bthen hHeld hop4) (fun hHeld => ?_)
            clear hK K
            try simp only [Act.put, sa, s0, s1]
            refine wpAnyH_ready (rs := [7]) (by kernel_rfl) (by simp) ?_
            refine (AllReadyH.cons (o := q1a0_32_1_7) rfl (fun K hK => ?_) AllReadyH.nil)
            · skip
              refine step_ents rfl _ _ 25 rfl Try.underlying25 hiE hzE0 hzE1 hzE2 rfl g10 rfl (own_below hob4 (show Below wE4.heap.size wE4 wE4 from Below.refl _ _)) rfl rfl (HS.out.2.2.below rEntry_good (HBW.out.trans (hHeld.mono HBW.out.size))) (by omega) hHeld.size ?_
              intro r7 q7 wE7 hos7 hop7 hat7
              have HAT7 := Hid.mk hat7
              have HP7 : Hid (wq.heap.size ≤ wE4.heap.size) := hHeld.size
              have HOS7 := Hid.mk hos7
              clear hos7 hat7
              refine hK.out _ _ (bthen hHeld hop7) (fun hHeld => ?_)
              clear hK K
              try simp only [Act.put, sa, s0, s1]
              refine tk 10 q1a0_32_1_10 (some 16) (v := ?v9) rfl rfl (by kernel_rfl) hHeld (by rfl) (fun _ _ _ h => by cases h.1) (fun w h => ?y9) ?_; (case y9 => (try dsimp only at h); go_simp; try (with_reducible rfl)); try simp only [Act.put, sa, s0, s1]
              refine wpAnyH_ready (rs := [12]) (by kernel_rfl) (by simp) ?_
              refine (AllReadyH.cons (o := q1a0_32_1_12) rfl (fun K hK => ?_) AllReadyH.nil)
              · go_simp
                have hb12 := (((show Below wE11.heap.size wE11 wE7 from bthen (bthen (Below.refl _ _) hop4) hop7)).block gb HLb.out).trans HB11.out
                have cb0 := rowC hb12 0 rfl
                have fb0 := frozen_of_row wE7 gb 0 _ _ hb12
                have cb1 := rowC hb12 1 rfl
                have fb1 := frozen_of_row wE7 gb 1 _ _ hb12
                have cb2 := rowC hb12 2 rfl
                have fb2 := frozen_of_row wE7 gb 2 _ _ hb12
                have cb3 := rowC hb12 3 rfl
                have fb3 := frozen_of_row wE7 gb 3 _ _ hb12
                go_simp
                obtain ⟨wE12, hq12, hgb12, hT12⟩ := put4_row hb12 (.slice none 0 0) (.slice r3 m.fNames.length q3) (.slice r7 m.fSafe.length q7) (.int .i64 m.fNext)
                rw [← hq12]
                clear hq12 cb0 cb1 cb2 cb3 fb0 fb1 fb2 fb3
                refine hK.out _ _ (hHeld.trans (hT12.below (fun k hk => by simp at hk; subst hk; exact HGW.out) hHeld.size)) (fun hHeld => ?_)
                clear hK K
                try simp only [Act.put, sa, s0, s1]
                refine wpAnyH_done (by kernel_rfl) ?_ _
                have z0 := hop0.size
                have z3 := hop3.size
                have z4 := hop4.size
                have z7 := hop7.size
                have z11 := hop11.size
                have b6 := HGg6.out
                have b10 := HGg10.out
                have bb := HGb.out
                have l6 := HLg6.out
                have l10 := HLg10.out
                have lb := HLb.out
                have w6 := HWg6.out
                have w10 := HWg10.out
                have wb := HGW.out
                have wp3 := HP3.out
                have wp7 := HP7.out
                have t3 := HAT3.out
                have t7 := HAT7.out
                obtain ⟨e1, e2, e3, e4⟩ := copy_fin (B := wq.heap.size) HOS3.out HOS7.out (show Below wE3.heap.size wE3 wE7 from bthen (bthen (bthen (Below.refl _ _) hop11) hop4) hop7) (show Below wE7.heap.size wE7 wE7 from Below.refl _ _) hT12 (nodup_opt _) (nodup_opt _) (fun j hj => by have := t3 j hj; omega) (fun j hj => by have := t7 j hj; omega) (fun a ha b hb => by have := t3 a ha; have := t7 b hb; omega)
                exact ⟨rfl, _, _, _, _, _, _, _, gb, _, _, rfl, wb, hgb12, e1, e2, e3, e4, hHeld⟩
      · go_simp
        obtain ⟨wE4, g10, hq4, hG10, hop4, hob4, hL10, hW10⟩ := lit_new (wq := wq) 61 2 hHeld.size
        rw [← hG10]
        rw [← hq4]
        clear hq4
        have HGg10 := Hid.mk hG10
        have HLg10 := Hid.mk hL10
        have HWg10 := Hid.mk hW10
        clear hG10 hL10 hW10
        refine hK.out _ _ (bthen hHeld hop4) (fun hHeld => ?_)
        clear hK K
        try simp only [Act.put, sa, s0, s1]
        refine wpAnyH_ready (rs := [3, 11]) (by kernel_rfl) (by simp) ?_
        refine (AllReadyH.cons (o := q1a0_32_1_3) rfl (fun K hK => ?_) (AllReadyH.cons (o := q1a0_32_1_11) rfl (fun K hK => ?_) AllReadyH.nil))
        · skip
          refine step_ents rfl _ _ 25 rfl Try.underlying25 hiE hzE0 hzE1 hzE2 rfl g6 rfl (own_below hob0 (show Below wE0.heap.size wE0 wE4 from bthen (Below.refl _ _) hop4)) rfl rfl (HN.out.2.2.below rEntry_good (HBW.out.trans (hHeld.mono HBW.out.size))) (by omega) hHeld.size ?_
          intro r3 q3 wE3 hos3 hop3 hat3
          have HAT3 := Hid.mk hat3
          have HP3 : Hid (wq.heap.size ≤ wE4.heap.size) := hHeld.size
          have HOS3 := Hid.mk hos3
          clear hos3 hat3
          refine hK.out _ _ (bthen hHeld hop3) (fun hHeld => ?_)
          clear hK K
          try simp only [Act.put, sa, s0, s1]
          refine wpAnyH_ready (rs := [7, 11]) (by kernel_rfl) (by simp) ?_
          refine (AllReadyH.cons (o := q1a0_32_1_7) rfl (fun K hK => ?_) (AllReadyH.cons (o := q1a0_32_1_11) rfl (fun K hK => ?_) AllReadyH.nil))
          · skip
            refine step_ents rfl _ _ 25 rfl Try.underlying25 hiE hzE0 hzE1 hzE2 rfl g10 rfl (own_below hob4 (show Below wE4.heap.size wE4 wE3 from bthen (Below.refl _ _) hop3)) rfl rfl (HS.out.2.2.below rEntry_good (HBW.out.trans (hHeld.mono HBW.out.size))) (by omega) hHeld.size ?_
            intro r7 q7 wE7 hos7 hop7 hat7
            have HAT7 := Hid.mk hat7
            have HP7 : Hid (wq.heap.size ≤ wE3.heap.size) := hHeld.size
            have HOS7 := Hid.mk hos7
            clear hos7 hat7
            refine hK.out _ _ (bthen hHeld hop7) (fun hHeld => ?_)
            clear hK K
            try simp only [Act.put, sa, s0, s1]
            refine tk 10 q1a0_32_1_10 (some 16) (v := ?v10) rfl rfl (by kernel_rfl) hHeld (by rfl) (fun _ _ _ h => by cases h.1) (fun w h => ?y10) ?_; (case y10 => (try dsimp only at h); go_simp; try (with_reducible rfl)); try simp only [Act.put, sa, s0, s1]
            refine wpAnyH_ready (rs := [11]) (by kernel_rfl) (by simp) ?_
            refine (AllReadyH.cons (o := q1a0_32_1_11) rfl (fun K hK => ?_) AllReadyH.nil)
            · go_simp
              obtain ⟨wE11, hq11⟩ : ∃ x, x = wE7.alloc (.cells #[.slice none 0 0, .slice none 0 0, .slice none 0 0, .int .i64 0] 27) := ⟨_, rfl⟩
              have hop11 : Below wE7.heap.size wE7 wE11 := by rw [hq11]; exact (Below.refl _ _).alloc (Nat.le_refl _) _
              have HB11 : Hid (wE11.heap[wE7.heap.size]? = some (.cells #[.slice none 0 0, .slice none 0 0, .slice none 0 0, .int .i64 0] 27 (0, 0))) := by show _ = _; rw [hq11, al_heap, if_pos rfl]
              obtain ⟨gb, HGb⟩ : ∃ g, Hid (g = wE7.heap.size) := ⟨_, rfl⟩
              rw [← HGb.out] at HB11 ⊢
              have HLb : Hid (gb < wE11.heap.size) := (Array.getElem?_eq_some_iff.1 HB11.out).1
              have HGW : Hid (wq.heap.size ≤ gb) := by show _ ≤ _; rw [HGb.out]; exact hHeld.size
              rw [← hq11]
              clear hq11
              refine hK.out _ _ (bthen hHeld hop11) (fun hHeld => ?_)
              clear hK K
              try simp only [Act.put, sa, s0, s1]
              refine wpAnyH_ready (rs := [12]) (by kernel_rfl) (by simp) ?_
              refine (AllReadyH.cons (o := q1a0_32_1_12) rfl (fun K hK => ?_) AllReadyH.nil)
              · go_simp
                have hb12 := (((show Below wE11.heap.size wE11 wE11 from Below.refl _ _)).block gb HLb.out).trans HB11.out
                have cb0 := rowC hb12 0 rfl
                have fb0 := frozen_of_row wE11 gb 0 _ _ hb12
                have cb1 := rowC hb12 1 rfl
                have fb1 := frozen_of_row wE11 gb 1 _ _ hb12
                have cb2 := rowC hb12 2 rfl
                have fb2 := frozen_of_row wE11 gb 2 _ _ hb12
                have cb3 := rowC hb12 3 rfl
                have fb3 := frozen_of_row wE11 gb 3 _ _ hb12
                go_simp
                obtain ⟨wE12, hq12, hgb12, hT12⟩ := put4_row hb12 (.slice none 0 0) (.slice r3 m.fNames.length q3) (.slice r7 m.fSafe.length q7) (.int .i64 m.fNext)
                rw [← hq12]
                clear hq12 cb0 cb1 cb2 cb3 fb0 fb1 fb2 fb3
                refine hK.out _ _ (hHeld.trans (hT12.below (fun k hk => by simp at hk; subst hk; exact HGW.out) hHeld.size)) (fun hHeld => ?_)
                clear hK K
                try simp only [Act.put, sa, s0, s1]
                refine wpAnyH_done (by kernel_rfl) ?_ _
                have z0 := hop0.size
                have z3 := hop3.size
                have z4 := hop4.size
                have z7 := hop7.size
                have z11 := hop11.size
                have b6 := HGg6.out
                have b10 := HGg10.out
                have bb := HGb.out
                have l6 := HLg6.out
                have l10 := HLg10.out
                have lb := HLb.out
                have w6 := HWg6.out
                have w10 := HWg10.out
                have wb := HGW.out
                have wp3 := HP3.out
                have wp7 := HP7.out
                have t3 := HAT3.out
                have t7 := HAT7.out
                obtain ⟨e1, e2, e3, e4⟩ := copy_fin (B := wq.heap.size) HOS3.out HOS7.out (show Below wE3.heap.size wE3 wE11 from bthen (bthen (Below.refl _ _) hop7) hop11) (show Below wE7.heap.size wE7 wE11 from bthen (Below.refl _ _) hop11) hT12 (nodup_opt _) (nodup_opt _) (fun j hj => by have := t3 j hj; omega) (fun j hj => by have := t7 j hj; omega) (fun a ha b hb => by have := t3 a ha; have := t7 b hb; omega)
                exact ⟨rfl, _, _, _, _, _, _, _, gb, _, _, rfl, wb, hgb12, e1, e2, e3, e4, hHeld⟩
          · go_simp
            obtain ⟨wE11, hq11⟩ : ∃ x, x = wE3.alloc (.cells #[.slice none 0 0, .slice none 0 0, .slice none 0 0, .int .i64 0] 27) := ⟨_, rfl⟩
            have hop11 : Below wE3.heap.size wE3 wE11 := by rw [hq11]; exact (Below.refl _ _).alloc (Nat.le_refl _) _
            have HB11 : Hid (wE11.heap[wE3.heap.size]? = some (.cells #[.slice none 0 0, .slice none 0 0, .slice none 0 0, .int .i64 0] 27 (0, 0))) := by show _ = _; rw [hq11, al_heap, if_pos rfl]
            obtain ⟨gb, HGb⟩ : ∃ g, Hid (g = wE3.heap.size) := ⟨_, rfl⟩
            rw [← HGb.out] at HB11 ⊢
            have HLb : Hid (gb < wE11.heap.size) := (Array.getElem?_eq_some_iff.1 HB11.out).1
            have HGW : Hid (wq.heap.size ≤ gb) := by show _ ≤ _; rw [HGb.out]; exact hHeld.size
            rw [← hq11]
            clear hq11
            refine hK.out _ _ (bthen hHeld hop11) (fun hHeld => ?_)
            clear hK K
            try simp only [Act.put, sa, s0, s1]
            refine wpAnyH_ready (rs := [7]) (by kernel_rfl) (by simp) ?_
            refine (AllReadyH.cons (o := q1a0_32_1_7) rfl (fun K hK => ?_) AllReadyH.nil)
            · skip
              refine step_ents rfl _ _ 25 rfl Try.underlying25 hiE hzE0 hzE1 hzE2 rfl g10 rfl (own_below hob4 (show Below wE4.heap.size wE4 wE11 from bthen (bthen (Below.refl _ _) hop3) hop11)) rfl rfl (HS.out.2.2.below rEntry_good (HBW.out.trans (hHeld.mono HBW.out.size))) (by omega) hHeld.size ?_
              intro r7 q7 wE7 hos7 hop7 hat7
              have HAT7 := Hid.mk hat7
              have HP7 : Hid (wq.heap.size ≤ wE11.heap.size) := hHeld.size
              have HOS7 := Hid.mk hos7
              clear hos7 hat7
              refine hK.out _ _ (bthen hHeld hop7) (fun hHeld => ?_)
              clear hK K
              try simp only [Act.put, sa, s0, s1]
              refine tk 10 q1a0_32_1_10 (some 16) (v := ?v11) rfl rfl (by kernel_rfl) hHeld (by rfl) (fun _ _ _ h => by cases h.1) (fun w h => ?y11) ?_; (case y11 => (try dsimp only at h); go_simp; try (with_reducible rfl)); try simp only [Act.put, sa, s0, s1]
              refine wpAnyH_ready (rs := [12]) (by kernel_rfl) (by simp) ?_
              refine (AllReadyH.cons (o := q1a0_32_1_12) rfl (fun K hK => ?_) AllReadyH.nil)
              · go_simp
                have hb12 := (((show Below wE11.heap.size wE11 wE7 from bthen (Below.refl _ _) hop7)).block gb HLb.out).trans HB11.out
                have cb0 := rowC hb12 0 rfl
                have fb0 := frozen_of_row wE7 gb 0 _ _ hb12
                have cb1 := rowC hb12 1 rfl
                have fb1 := frozen_of_row wE7 gb 1 _ _ hb12
                have cb2 := rowC hb12 2 rfl
                have fb2 := frozen_of_row wE7 gb 2 _ _ hb12
                have cb3 := rowC hb12 3 rfl
                have fb3 := frozen_of_row wE7 gb 3 _ _ hb12
                go_simp
                obtain ⟨wE12, hq12, hgb12, hT12⟩ := put4_row hb12 (.slice none 0 0) (.slice r3 m.fNames.length q3) (.slice r7 m.fSafe.length q7) (.int .i64 m.fNext)
                rw [← hq12]
                clear hq12 cb0 cb1 cb2 cb3 fb0 fb1 fb2 fb3
                refine hK.out _ _ (hHeld.trans (hT12.below (fun k hk => by simp at hk; subst hk; exact HGW.out) hHeld.size)) (fun hHeld => ?_)
                clear hK K
                try simp only [Act.put, sa, s0, s1]
                refine wpAnyH_done (by kernel_rfl) ?_ _
                have z0 := hop0.size
                have z3 := hop3.size
                have z4 := hop4.size
                have z7 := hop7.size
                have z11 := hop11.size
                have b6 := HGg6.out
                have b10 := HGg10.out
                have bb := HGb.out
                have l6 := HLg6.out
                have l10 := HLg10.out
                have lb := HLb.out
                have w6 := HWg6.out
                have w10 := HWg10.out
                have wb := HGW.out
                have wp3 := HP3.out
                have wp7 := HP7.out
                have t3 := HAT3.out
                have t7 := HAT7.out
                obtain ⟨e1, e2, e3, e4⟩ := copy_fin (B := wq.heap.size) HOS3.out HOS7.out (show Below wE3.heap.size wE3 wE7 from bthen (bthen (Below.refl _ _) hop11) hop7) (show Below wE7.heap.size wE7 wE7 from Below.refl _ _) hT12 (nodup_opt _) (nodup_opt _) (fun j hj => by have := t3 j hj; omega) (fun j hj => by have := t7 j hj; omega) (fun a ha b hb => by have := t3 a ha; have := t7 b hb; omega)
                exact ⟨rfl, _, _, _, _, _, _, _, gb, _, _, rfl, wb, hgb12, e1, e2, e3, e4, hHeld⟩
        · go_simp
          obtain ⟨wE11, hq11⟩ : ∃ x, x = wE4.alloc (.cells #[.slice none 0 0, .slice none 0 0, .slice none 0 0, .int .i64 0] 27) := ⟨_, rfl⟩
          have hop11 : Below wE4.heap.size wE4 wE11 := by rw [hq11]; exact (Below.refl _ _).alloc (Nat.le_refl _) _
          have HB11 : Hid (wE11.heap[wE4.heap.size]? = some (.cells #[.slice none 0 0, .slice none 0 0, .slice none 0 0, .int .i64 0] 27 (0, 0))) := by show _ = _; rw [hq11, al_heap, if_pos rfl]
          obtain ⟨gb, HGb⟩ : ∃ g, Hid (g = wE4.heap.size) := ⟨_, rfl⟩
          rw [← HGb.out] at HB11 ⊢
          have HLb : Hid (gb < wE11.heap.size) := (Array.getElem?_eq_some_iff.1 HB11.out).1
          have HGW : Hid (wq.heap.size ≤ gb) := by show _ ≤ _; rw [HGb.out]; exact hHeld.size
          rw [← hq11]
          clear hq11
          refine hK.out _ _ (bthen hHeld hop11) (fun hHeld => ?_)
          clear hK K
          try simp only [Act.put, sa, s0, s1]
          refine wpAnyH_ready (rs := [3]) (by kernel_rfl) (by simp) ?_
          refine (AllReadyH.cons (o := q1a0_32_1_3) rfl (fun K hK => ?_) AllReadyH.nil)
          · skip
            refine step_ents rfl _ _ 25 rfl Try.underlying25 hiE hzE0 hzE1 hzE2 rfl g6 rfl (own_below hob0 (show Below wE0.heap.size wE0 wE11 from bthen (bthen (Below.refl _ _) hop4) hop11)) rfl rfl (HN.out.2.2.below rEntry_good (HBW.out.trans (hHeld.mono HBW.out.size))) (by omega) hHeld.size ?_
            intro r3 q3 wE3 hos3 hop3 hat3
            have HAT3 := Hid.mk hat3
            have HP3 : Hid (wq.heap.size ≤ wE11.heap.size) := hHeld.size
            have HOS3 := Hid.mk hos3
            clear hos3 hat3
            refine hK.out _ _ (bthen hHeld hop3) (fun hHeld => ?_)
            clear hK K
            try simp only [Act.put, sa, s0, s1]
            refine wpAnyH_ready (rs := [7]) (by kernel_rfl) (by simp) ?_
            refine (AllReadyH.cons (o := q1a0_32_1_7) rfl (fun K hK => ?_) AllReadyH.nil)
            · skip
              refine step_ents rfl _ _ 25 rfl Try.underlying25 hiE hzE0 hzE1 hzE2 rfl g10 rfl (own_below hob4 (show Below wE4.heap.size wE4 wE3 from bthen (bthen (Below.refl _ _) hop11) hop3)) rfl rfl (HS.out.2.2.below rEntry_good (HBW.out.trans (hHeld.mono HBW.out.size))) (by omega) hHeld.size ?_
              intro r7 q7 wE7 hos7 hop7 hat7
              have HAT7 := Hid.mk hat7
              have HP7 : Hid (wq.heap.size ≤ wE3.heap.size) := hHeld.size
              have HOS7 := Hid.mk hos7
              clear hos7 hat7
              refine hK.out _ _ (bthen hHeld hop7) (fun hHeld => ?_)
              clear hK K
              try simp only [Act.put, sa, s0, s1]
              refine tk 10 q1a0_32_1_10 (some 16) (v := ?v12) rfl rfl (by kernel_rfl) hHeld (by rfl) (fun _ _ _ h => by cases h.1) (fun w h => ?y12) ?_; (case y12 => (try dsimp only at h); go_simp; try (with_reducible rfl)); try simp only [Act.put, sa, s0, s1]
              refine wpAnyH_ready (rs := [12]) (by kernel_rfl) (by simp) ?_
              refine (AllReadyH.cons (o := q1a0_32_1_12) rfl (fun K hK => ?_) AllReadyH.nil)
              · go_simp
                have hb12 := (((show Below wE11.heap.size wE11 wE7 from bthen (bthen (Below.refl _ _) hop3) hop7)).block gb HLb.out).trans HB11.out
                have cb0 := rowC hb12 0 rfl
                have fb0 := frozen_of_row wE7 gb 0 _ _ hb12
                have cb1 := rowC hb12 1 rfl
                have fb1 := frozen_of_row wE7 gb 1 _ _ hb12
                have cb2 := rowC hb12 2 rfl
                have fb2 := frozen_of_row wE7 gb 2 _ _ hb12
                have cb3 := rowC hb12 3 rfl
                have fb3 := frozen_of_row wE7 gb 3 _ _ hb12
                go_simp
                obtain ⟨wE12, hq12, hgb12, hT12⟩ := put4_row hb12 (.slice none 0 0) (.slice r3 m.fNames.length q3) (.slice r7 m.fSafe.length q7) (.int .i64 m.fNext)
                rw [← hq12]
                clear hq12 cb0 cb1 cb2 cb3 fb0 fb1 fb2 fb3
                refine hK.out _ _ (hHeld.trans (hT12.below (fun k hk => by simp at hk; subst hk; exact HGW.out) hHeld.size)) (fun hHeld => ?_)
                clear hK K
                try simp only [Act.put, sa, s0, s1]
                refine wpAnyH_done (by kernel_rfl) ?_ _
                have z0 := hop0.size
                have z3 := hop3.size
                have z4 := hop4.size
                have z7 := hop7.size
                have z11 := hop11.size
                have b6 := HGg6.out
                have b10 := HGg10.out
                have bb := HGb.out
                have l6 := HLg6.out
                have l10 := HLg10.out
                have lb := HLb.out
                have w6 := HWg6.out
                have w10 := HWg10.out
                have wb := HGW.out
                have wp3 := HP3.out
                have wp7 := HP7.out
                have t3 := HAT3.out
                have t7 := HAT7.out
                obtain ⟨e1, e2, e3, e4⟩ := copy_fin (B := wq.heap.size) HOS3.out HOS7.out (show Below wE3.heap.size wE3 wE7 from bthen (Below.refl _ _) hop7) (show Below wE7.heap.size wE7 wE7 from Below.refl _ _) hT12 (nodup_opt _) (nodup_opt _) (fun j hj => by have := t3 j hj; omega) (fun j hj => by have := t7 j hj; omega) (fun a ha b hb => by have := t3 a ha; have := t7 b hb; omega)
                exact ⟨rfl, _, _, _, _, _, _, _, gb, _, _, rfl, wb, hgb12, e1, e2, e3, e4, hHeld⟩
      · go_simp
        obtain ⟨wE11, hq11⟩ : ∃ x, x = wE0.alloc (.cells #[.slice none 0 0, .slice none 0 0, .slice none 0 0, .int .i64 0] 27) := ⟨_, rfl⟩
        have hop11 : Below wE0.heap.size wE0 wE11 := by rw [hq11]; exact (Below.refl _ _).alloc (Nat.le_refl _) _
        have HB11 : Hid (wE11.heap[wE0.heap.size]? = some (.cells #[.slice none 0 0, .slice none 0 0, .slice none 0 0, .int .i64 0] 27 (0, 0))) := by show _ = _; rw [hq11, al_heap, if_pos rfl]
        obtain ⟨gb, HGb⟩ : ∃ g, Hid (g = wE0.heap.size) := ⟨_, rfl⟩
        rw [← HGb.out] at HB11 ⊢
        have HLb : Hid (gb < wE11.heap.size) := (Array.getElem?_eq_some_iff.1 HB11.out).1
        have HGW : Hid (wq.heap.size ≤ gb) := by show _ ≤ _; rw [HGb.out]; exact hHeld.size
        rw [← hq11]
        clear hq11
        refine hK.out _ _ (bthen hHeld hop11) (fun hHeld => ?_)
        clear hK K
        try simp only [Act.put, sa, s0, s1]
        refine wpAnyH_ready (rs := [3, 4]) (by kernel_rfl) (by simp) ?_
        refine (AllReadyH.cons (o := q1a0_32_1_3) rfl (fun K hK => ?_) (AllReadyH.cons (o := q1a0_32_1_4) rfl (fun K hK => ?_) AllReadyH.nil))
        · skip
          refine step_ents rfl _ _ 25 rfl Try.underlying25 hiE hzE0 hzE1 hzE2 rfl g6 rfl (own_below hob0 (show Below wE0.heap.size wE0 wE11 from bthen (Below.refl _ _) hop11)) rfl rfl (HN.out.2.2.below rEntry_good (HBW.out.trans (hHeld.mono HBW.out.size))) (by omega) hHeld.size ?_
          intro r3 q3 wE3 hos3 hop3 hat3
          have HAT3 := Hid.mk hat3
          have HP3 : Hid (wq.heap.size ≤ wE11.heap.size) := hHeld.size
          have HOS3 := Hid.mk hos3
          clear hos3 hat3
          refine hK.out _ _ (bthen hHeld hop3) (fun hHeld => ?_)
          clear hK K
          try simp only [Act.put, sa, s0, s1]
          refine wpAnyH_ready (rs := [4]) (by kernel_rfl) (by simp) ?_
          refine (AllReadyH.cons (o := q1a0_32_1_4) rfl (fun K hK => ?_) AllReadyH.nil)
          · go_simp
            obtain ⟨wE4, g10, hq4, hG10, hop4, hob4, hL10, hW10⟩ := lit_new (wq := wq) 61 2 hHeld.size
            rw [← hG10]
            rw [← hq4]
            clear hq4
            have HGg10 := Hid.mk hG10
            have HLg10 := Hid.mk hL10
            have HWg10 := Hid.mk hW10
            clear hG10 hL10 hW10
            refine hK.out _ _ (bthen hHeld hop4) (fun hHeld => ?_)
            clear hK K
            try simp only [Act.put, sa, s0, s1]
            refine wpAnyH_ready (rs := [7]) (by kernel_rfl) (by simp) ?_
            refine (AllReadyH.cons (o := q1a0_32_1_7) rfl (fun K hK => ?_) AllReadyH.nil)
            · skip
              refine step_ents rfl _ _ 25 rfl Try.underlying25 hiE hzE0 hzE1 hzE2 rfl g10 rfl (own_below hob4 (show Below wE4.heap.size wE4 wE4 from Below.refl _ _)) rfl rfl (HS.out.2.2.below rEntry_good (HBW.out.trans (hHeld.mono HBW.out.size))) (by omega) hHeld.size ?_
              intro r7 q7 wE7 hos7 hop7 hat7
              have HAT7 := Hid.mk hat7
              have HP7 : Hid (wq.heap.size ≤ wE4.heap.size) := hHeld.size
              have HOS7 := Hid.mk hos7
              clear hos7 hat7
              refine hK.out _ _ (bthen hHeld hop7) (fun hHeld => ?_)
              clear hK K
              try simp only [Act.put, sa, s0, s1]
              refine tk 10 q1a0_32_1_10 (some 16) (v := ?v13) rfl rfl (by kernel_rfl) hHeld (by rfl) (fun _ _ _ h => by cases h.1) (fun w h => ?y13) ?_; (case y13 => (try dsimp only at h); go_simp; try (with_reducible rfl)); try simp only [Act.put, sa, s0, s1]
              refine wpAnyH_ready (rs := [12]) (by kernel_rfl) (by simp) ?_
              refine (AllReadyH.cons (o := q1a0_32_1_12) rfl (fun K hK => ?_) AllReadyH.nil)
              · go_simp
                have hb12 := (((show Below wE11.heap.size wE11 wE7 from bthen (bthen (bthen (Below.refl _ _) hop3) hop4) hop7)).block gb HLb.out).trans HB11.out
                have cb0 := rowC hb12 0 rfl
                have fb0 := frozen_of_row wE7 gb 0 _ _ hb12
                have cb1 := rowC hb12 1 rfl
                have fb1 := frozen_of_row wE7 gb 1 _ _ hb12
                have cb2 := rowC hb12 2 rfl
                have fb2 := frozen_of_row wE7 gb 2 _ _ hb12
                have cb3 := rowC hb12 3 rfl
                have fb3 := frozen_of_row wE7 gb 3 _ _ hb12
                go_simp
                obtain ⟨wE12, hq12, hgb12, hT12⟩ := put4_row hb12 (.slice none 0 0) (.slice r3 m.fNames.length q3) (.slice r7 m.fSafe.length q7) (.int .i64 m.fNext)
                rw [← hq12]
                clear hq12 cb0 cb1 cb2 cb3 fb0 fb1 fb2 fb3
                refine hK.out _ _ (hHeld.trans (hT12.below (fun k hk => by simp at hk; subst hk; exact HGW.out) hHeld.size)) (fun hHeld => ?_)
                clear hK K
                try simp only [Act.put, sa, s0, s1]
                refine wpAnyH_done (by kernel_rfl) ?_ _
                have z0 := hop0.size
                have z3 := hop3.size
                have z4 := hop4.size
                have z7 := hop7.size
                have z11 := hop11.size
                have b6 := HGg6.out
                have b10 := HGg10.out
                have bb := HGb.out
                have l6 := HLg6.out
                have l10 := HLg10.out
                have lb := HLb.out
                have w6 := HWg6.out
                have w10 := HWg10.out
                have wb := HGW.out
                have wp3 := HP3.out
                have wp7 := HP7.out
                have t3 := HAT3.out
                have t7 := HAT7.out
                obtain ⟨e1, e2, e3, e4⟩ := copy_fin (B := wq.heap.size) HOS3.out HOS7.out (show Below wE3.heap.size wE3 wE7 from bthen (bthen (Below.refl _ _) hop4) hop7) (show Below wE7.heap.size wE7 wE7 from Below.refl _ _) hT12 (nodup_opt _) (nodup_opt _) (fun j hj => by have := t3 j hj; omega) (fun j hj => by have := t7 j hj; omega) (fun a ha b hb => by have := t3 a ha; have := t7 b hb; omega)
                exact ⟨rfl, _, _, _, _, _, _, _, gb, _, _, rfl, wb, hgb12, e1, e2, e3, e4, hHeld⟩
        · go_simp
          obtain ⟨wE4, g10, hq4, hG10, hop4, hob4, hL10, hW10⟩ := lit_new (wq := wq) 61 2 hHeld.size
          rw [← hG10]
          rw [← hq4]
          clear hq4
          have HGg10 := Hid.mk hG10
          have HLg10 := Hid.mk hL10
          have HWg10 := Hid.mk hW10
          clear hG10 hL10 hW10
          refine hK.out _ _ (bthen hHeld hop4) (fun hHeld => ?_)
          clear hK K
          try simp only [Act.put, sa, s0, s1]
          refine wpAnyH_ready (rs := [3]) (by kernel_rfl) (by simp) ?_
          refine (AllReadyH.cons (o := q1a0_32_1_3) rfl (fun K hK => ?_) AllReadyH.nil)
          · skip
            refine step_ents rfl _ _ 25 rfl Try.underlying25 hiE hzE0 hzE1 hzE2 rfl g6 rfl (own_below hob0 (show Below wE0.heap.size wE0 wE4 from bthen (bthen (Below.refl _ _) hop11) hop4)) rfl rfl (HN.out.2.2.below rEntry_good (HBW.out.trans (hHeld.mono HBW.out.size))) (by omega) hHeld.size ?_
            intro r3 q3 wE3 hos3 hop3 hat3
            have HAT3 := Hid.mk hat3
            have HP3 : Hid (wq.heap.size ≤ wE4.heap.size) := hHeld.size
            have HOS3 := Hid.mk hos3
            clear hos3 hat3
            refine hK.out _ _ (bthen hHeld hop3) (fun hHeld => ?_)
            clear hK K
            try simp only [Act.put, sa, s0, s1]
            refine wpAnyH_ready (rs := [7]) (by kernel_rfl) (by simp) ?_
            refine (AllReadyH.cons (o := q1a0_32_1_7) rfl (fun K hK => ?_) AllReadyH.nil)
            · skip
              refine step_ents rfl _ _ 25 rfl Try.underlying25 hiE hzE0 hzE1 hzE2 rfl g10 rfl (own_below hob4 (show Below wE4.heap.size wE4 wE3 from bthen (Below.refl _ _) hop3)) rfl rfl (HS.out.2.2.below rEntry_good (HBW.out.trans (hHeld.mono HBW.out.size))) (by omega) hHeld.size ?_
              intro r7 q7 wE7 hos7 hop7 hat7
              have HAT7 := Hid.mk hat7
              have HP7 : Hid (wq.heap.size ≤ wE3.heap.size) := hHeld.size
              have HOS7 := Hid.mk hos7
              clear hos7 hat7
              refine hK.out _ _ (bthen hHeld hop7) (fun hHeld => ?_)
              clear hK K
              try simp only [Act.put, sa, s0, s1]
              refine tk 10 q1a0_32_1_10 (some 16) (v := ?v14) rfl rfl (by kernel_rfl) hHeld (by rfl) (fun _ _ _ h => by cases h.1) (fun w h => ?y14) ?_; (case y14 => (try dsimp only at h); go_simp; try (with_reducible rfl)); try simp only [Act.put, sa, s0, s1]
              refine wpAnyH_ready (rs := [12]) (by kernel_rfl) (by simp) ?_
              refine (AllReadyH.cons (o := q1a0_32_1_12) rfl (fun K hK => ?_) AllReadyH.nil)
              · go_simp
                have hb12 := (((show Below wE11.heap.size wE11 wE7 from bthen (bthen (bthen (Below.refl _ _) hop4) hop3) hop7)).block gb HLb.out).trans HB11.out
                have cb0 := rowC hb12 0 rfl
                have fb0 := frozen_of_row wE7 gb 0 _ _ hb12
                have cb1 := rowC hb12 1 rfl
                have fb1 := frozen_of_row wE7 gb 1 _ _ hb12
                have cb2 := rowC hb12 2 rfl
                have fb2 := frozen_of_row wE7 gb 2 _ _ hb12
                have cb3 := rowC hb12 3 rfl
                have fb3 := frozen_of_row wE7 gb 3 _ _ hb12
                go_simp
                obtain ⟨wE12, hq12, hgb12, hT12⟩ := put4_row hb12 (.slice none 0 0) (.slice r3 m.fNames.length q3) (.slice r7 m.fSafe.length q7) (.int .i64 m.fNext)
                rw [← hq12]
                clear hq12 cb0 cb1 cb2 cb3 fb0 fb1 fb2 fb3
                refine hK.out _ _ (hHeld.trans (hT12.below (fun k hk => by simp at hk; subst hk; exact HGW.out) hHeld.size)) (fun hHeld => ?_)
                clear hK K
                try simp only [Act.put, sa, s0, s1]
                refine wpAnyH_done (by kernel_rfl) ?_ _
                have z0 := hop0.size
                have z3 := hop3.size
                have z4 := hop4.size
                have z7 := hop7.size
                have z11 := hop11.size
                have b6 := HGg6.out
                have b10 := HGg10.out
                have bb := HGb.out
                have l6 := HLg6.out
                have l10 := HLg10.out
                have lb := HLb.out
                have w6 := HWg6.out
                have w10 := HWg10.out
                have wb := HGW.out
                have wp3 := HP3.out
                have wp7 := HP7.out
                have t3 := HAT3.out
                have t7 := HAT7.out
                obtain ⟨e1, e2, e3, e4⟩ := copy_fin (B := wq.heap.size) HOS3.out HOS7.out (show Below wE3.heap.size wE3 wE7 from bthen (Below.refl _ _) hop7) (show Below wE7.heap.size wE7 wE7 from Below.refl _ _) hT12 (nodup_opt _) (nodup_opt _) (fun j hj => by have := t3 j hj; omega) (fun j hj => by have := t7 j hj; omega) (fun a ha b hb => by have := t3 a ha; have := t7 b hb; omega)
                exact ⟨rfl, _, _, _, _, _, _, _, gb, _, _, rfl, wb, hgb12, e1, e2, e3, e4, hHeld⟩
    · go_simp
      obtain ⟨wE4, g10, hq4, hG10, hop4, hob4, hL10, hW10⟩ := lit_new (wq := wq) 61 2 hHeld.size
      rw [← hG10]
      rw [← hq4]
      clear hq4
      have HGg10 := Hid.mk hG10
      have HLg10 := Hid.mk hL10
      have HWg10 := Hid.mk hW10
      clear hG10 hL10 hW10
      refine hK.out _ _ (bthen hHeld hop4) (fun hHeld => ?_)
      clear hK K
      try simp only [Act.put, sa, s0, s1]
      refine wpAnyH_ready (rs := [0, 11]) (by kernel_rfl) (by simp) ?_
      refine (AllReadyH.cons (o := q1a0_32_1_0) rfl (fun K hK => ?_) (AllReadyH.cons (o := q1a0_32_1_11) rfl (fun K hK => ?_) AllReadyH.nil))
      · go_simp
        obtain ⟨wE0, g6, hq0, hG6, hop0, hob0, hL6, hW6⟩ := lit_new (wq := wq) 61 2 hHeld.size
        rw [← hG6]
        rw [← hq0]
        clear hq0
        have HGg6 := Hid.mk hG6
        have HLg6 := Hid.mk hL6
        have HWg6 := Hid.mk hW6
        clear hG6 hL6 hW6
        refine hK.out _ _ (bthen hHeld hop0) (fun hHeld => ?_)
        clear hK K
        try simp only [Act.put, sa, s0, s1]
        refine wpAnyH_ready (rs := [3, 11]) (by kernel_rfl) (by simp) ?_
        refine (AllReadyH.cons (o := q1a0_32_1_3) rfl (fun K hK => ?_) (AllReadyH.cons (o := q1a0_32_1_11) rfl (fun K hK => ?_) AllReadyH.nil))
        · skip
          refine step_ents rfl _ _ 25 rfl Try.underlying25 hiE hzE0 hzE1 hzE2 rfl g6 rfl (own_below hob0 (show Below wE0.heap.size wE0 wE0 from Below.refl _ _)) rfl rfl (HN.out.2.2.below rEntry_good (HBW.out.trans (hHeld.mono HBW.out.size))) (by omega) hHeld.size ?_
          intro r3 q3 wE3 hos3 hop3 hat3
          have HAT3 := Hid.mk hat3
          have HP3 : Hid (wq.heap.size ≤ wE0.heap.size) := hHeld.size
          have HOS3 := Hid.mk hos3
          clear hos3 hat3
          refine hK.out _ _ (bthen hHeld hop3) (fun hHeld => ?_)
          clear hK K
          try simp only [Act.put, sa, s0, s1]
          refine wpAnyH_ready (rs := [7, 11]) (by kernel_rfl) (by simp) ?_
          refine (AllReadyH.cons (o := q1a0_32_1_7) rfl (fun K hK => ?_) (AllReadyH.cons (o := q1a0_32_1_11) rfl (fun K hK => ?_) AllReadyH.nil))
          · skip
            refine step_ents rfl _ _ 25 rfl Try.underlying25 hiE hzE0 hzE1 hzE2 rfl g10 rfl (own_below hob4 (show Below wE4.heap.size wE4 wE3 from bthen (bthen (Below.refl _ _) hop0) hop3)) rfl rfl (HS.out.2.2.below rEntry_good (HBW.out.trans (hHeld.mono HBW.out.size))) (by omega) hHeld.size ?_
            intro r7 q7 wE7 hos7 hop7 hat7
            have HAT7 := Hid.mk hat7
            have HP7 : Hid (wq.heap.size ≤ wE3.heap.size) := hHeld.size
            have HOS7 := Hid.mk hos7
            clear hos7 hat7
            refine hK.out _ _ (bthen hHeld hop7) (fun hHeld => ?_)
            clear hK K
            try simp only [Act.put, sa, s0, s1]
            refine tk 10 q1a0_32_1_10 (some 16) (v := ?v15) rfl rfl (by kernel_rfl) hHeld (by rfl) (fun _ _ _ h => by cases h.1) (fun w h => ?y15) ?_; (case y15 => (try dsimp only at h); go_simp; try (with_reducible rfl)); try simp only [Act.put, sa, s0, s1]
            refine wpAnyH_ready (rs := [11]) (by kernel_rfl) (by simp) ?_
            refine (AllReadyH.cons (o := q1a0_32_1_11) rfl (fun K hK => ?_) AllReadyH.nil)
            · go_simp
              obtain ⟨wE11, hq11⟩ : ∃ x, x = wE7.alloc (.cells #[.slice none 0 0, .slice none 0 0, .slice none 0 0, .int .i64 0] 27) := ⟨_, rfl⟩
              have hop11 : Below wE7.heap.size wE7 wE11 := by rw [hq11]; exact (Below.refl _ _).alloc (Nat.le_refl _) _
              have HB11 : Hid (wE11.heap[wE7.heap.size]? = some (.cells #[.slice none 0 0, .slice none 0 0, .slice none 0 0, .int .i64 0] 27 (0, 0))) := by show _ = _; rw [hq11, al_heap, if_pos rfl]
              obtain ⟨gb, HGb⟩ : ∃ g, Hid (g = wE7.heap.size) := ⟨_, rfl⟩
              rw [← HGb.out] at HB11 ⊢
              have HLb : Hid (gb < wE11.heap.size) := (Array.getElem?_eq_some_iff.1 HB11.out).1
              have HGW : Hid (wq.heap.size ≤ gb) := by show _ ≤ _; rw [HGb.out]; exact hHeld.size
              rw [← hq11]
              clear hq11
              refine hK.out _ _ (bthen hHeld hop11) (fun hHeld => ?_)
              clear hK K
              try simp only [Act.put, sa, s0, s1]
              refine wpAnyH_ready (rs := [12]) (by kernel_rfl) (by simp) ?_
              refine (AllReadyH.cons (o := q1a0_32_1_12) rfl (fun K hK => ?_) AllReadyH.nil)
              · go_simp
                have hb12 := (((show Below wE11.heap.size wE11 wE11 from Below.refl _ _)).block gb HLb.out).trans HB11.out
                have cb0 := rowC hb12 0 rfl
                have fb0 := frozen_of_row wE11 gb 0 _ _ hb12
                have cb1 := rowC hb12 1 rfl
                have fb1 := frozen_of_row wE11 gb 1 _ _ hb12
                have cb2 := rowC hb12 2 rfl
                have fb2 := frozen_of_row wE11 gb 2 _ _ hb12
                have cb3 := rowC hb12 3 rfl
                have fb3 := frozen_of_row wE11 gb 3 _ _ hb12
                go_simp
                obtain ⟨wE12, hq12, hgb12, hT12⟩ := put4_row hb12 (.slice none 0 0) (.slice r3 m.fNames.length q3) (.slice r7 m.fSafe.length q7) (.int .i64 m.fNext)
                rw [← hq12]
                clear hq12 cb0 cb1 cb2 cb3 fb0 fb1 fb2 fb3
                refine hK.out _ _ (hHeld.trans (hT12.below (fun k hk => by simp at hk; subst hk; exact HGW.out) hHeld.size)) (fun hHeld => ?_)
                clear hK K
                try simp only [Act.put, sa, s0, s1]
                refine wpAnyH_done (by kernel_rfl) ?_ _
                have z0 := hop0.size
                have z3 := hop3.size
                have z4 := hop4.size
                have z7 := hop7.size
                have z11 := hop11.size
                have b6 := HGg6.out
                have b10 := HGg10.out
                have bb := HGb.out
                have l6 := HLg6.out
                have l10 := HLg10.out
                have lb := HLb.out
                have w6 := HWg6.out
                have w10 := HWg10.out
                have wb := HGW.out
                have wp3 := HP3.out
                have wp7 := HP7.out
                have t3 := HAT3.out
                have t7 := HAT7.out
                obtain ⟨e1, e2, e3, e4⟩ := copy_fin (B := wq.heap.size) HOS3.out HOS7.out (show Below wE3.heap.size wE3 wE11 from bthen (bthen (Below.refl _ _) hop7) hop11) (show Below wE7.heap.size wE7 wE11 from bthen (Below.refl _ _) hop11) hT12 (nodup_opt _) (nodup_opt _) (fun j hj => by have := t3 j hj; omega) (fun j hj => by have := t7 j hj; omega) (fun a ha b hb => by have := t3 a ha; have := t7 b hb; omega)
                exact ⟨rfl, _, _, _, _, _, _, _, gb, _, _, rfl, wb, hgb12, e1, e2, e3, e4, hHeld⟩
          · go_simp
            obtain ⟨wE11, hq11⟩ : ∃ x, x = wE3.alloc (.cells #[.slice none 0 0, .slice none 0 0, .slice none 0 0, .int .i64 0] 27) := ⟨_, rfl⟩
            have hop11 : Below wE3.heap.size wE3 wE11 := by rw [hq11]; exact (Below.refl _ _).alloc (Nat.le_refl _) _
            have HB11 : Hid (wE11.heap[wE3.heap.size]? = some (.cells #[.slice none 0 0, .slice none 0 0, .slice none 0 0, .int .i64 0] 27 (0, 0))) := by show _ = _; rw [hq11, al_heap, if_pos rfl]
            obtain ⟨gb, HGb⟩ : ∃ g, Hid (g = wE3.heap.size) := ⟨_, rfl⟩
            rw [← HGb.out] at HB11 ⊢
            have HLb : Hid (gb < wE11.heap.size) := (Array.getElem?_eq_some_iff.1 HB11.out).1
            have HGW : Hid (wq.heap.size ≤ gb) := by show _ ≤ _; rw [HGb.out]; exact hHeld.size
            rw [← hq11]
            clear hq11
            refine hK.out _ _ (bthen hHeld hop11) (fun hHeld => ?_)
            clear hK K
            try simp only [Act.put, sa, s0, s1]
            refine wpAnyH_ready (rs := [7]) (by kernel_rfl) (by simp) ?_
            refine (AllReadyH.cons (o := q1a0_32_1_7) rfl (fun K hK => ?_) AllReadyH.nil)
            · skip
              refine step_ents rfl _ _ 25 rfl Try.underlying25 hiE hzE0 hzE1 hzE2 rfl g10 rfl (own_below hob4 (show Below wE4.heap.size wE4 wE11 from bthen (bthen (bthen (Below.refl _ _) hop0) hop3) hop11)) rfl rfl (HS.out.2.2.below rEntry_good (HBW.out.trans (hHeld.mono HBW.out.size))) (by omega) hHeld.size ?_
              intro r7 q7 wE7 hos7 hop7 hat7
              have HAT7 := Hid.mk hat7
              have HP7 : Hid (wq.heap.size ≤ wE11.heap.size) := hHeld.size
              have HOS7 := Hid.mk hos7
              clear hos7 hat7
              refine hK.out _ _ (bthen hHeld hop7) (fun hHeld => ?_)
              clear hK K
              try simp only [Act.put, sa, s0, s1]
              refine tk 10 q1a0_32_1_10 (some 16) (v := ?v16) rfl rfl (by kernel_rfl) hHeld (by rfl) (fun _ _ _ h => by cases h.1) (fun w h => ?y16) ?_; (case y16 => (try dsimp only at h); go_simp; try (with_reducible rfl)); try simp only [Act.put, sa, s0, s1]
              refine wpAnyH_ready (rs := [12]) (by kernel_rfl) (by simp) ?_
              refine (AllReadyH.cons (o := q1a0_32_1_12) rfl (fun K hK => ?_) AllReadyH.nil)
              · go_simp
                have hb12 := (((show Below wE11.heap.size wE11 wE7 from bthen (Below.refl _ _) hop7)).block gb HLb.out).trans HB11.out
                have cb0 := rowC hb12 0 rfl
                have fb0 := frozen_of_row wE7 gb 0 _ _ hb12
                have cb1 := rowC hb12 1 rfl
                have fb1 := frozen_of_row wE7 gb 1 _ _ hb12
                have cb2 := rowC hb12 2 rfl
                have fb2 := frozen_of_row wE7 gb 2 _ _ hb12
                have cb3 := rowC hb12 3 rfl
                have fb3 := frozen_of_row wE7 gb 3 _ _ hb12
                go_simp
                obtain ⟨wE12, hq12, hgb12, hT12⟩ := put4_row hb12 (.slice none 0 0) (.slice r3 m.fNames.length q3) (.slice r7 m.fSafe.length q7) (.int .i64 m.fNext)
                rw [← hq12]
                clear hq12 cb0 cb1 cb2 cb3 fb0 fb1 fb2 fb3
                refine hK.out _ _ (hHeld.trans (hT12.below (fun k hk => by simp at hk; subst hk; exact HGW.out) hHeld.size)) (fun hHeld => ?_)
                clear hK K
                try simp only [Act.put, sa, s0, s1]
                refine wpAnyH_done (by kernel_rfl) ?_ _
                have z0 := hop0.size
                have z3 := hop3.size
                have z4 := hop4.size
                have z7 := hop7.size
                have z11 := hop11.size
                have b6 := HGg6.out
                have b10 := HGg10.out
                have bb := HGb.out
                have l6 := HLg6.out
                have l10 := HLg10.out
                have lb := HLb.out
                have w6 := HWg6.out
                have w10 := HWg10.out
                have wb := HGW.out
                have wp3 := HP3.out
                have wp7 := HP7.out
                have t3 := HAT3.out
                have t7 := HAT7.out
                obtain ⟨e1, e2, e3, e4⟩ := copy_fin (B := wq.heap.size) HOS3.out HOS7.out (show Below wE3.heap.size wE3 wE7 from bthen (bthen (Below.refl _ _) hop11) hop7) (show Below wE7.heap.size wE7 wE7 from Below.refl _ _) hT12 (nodup_opt _) (nodup_opt _) (fun j hj => by have := t3 j hj; omega) (fun j hj => by have := t7 j hj; omega) (fun a ha b hb => by have := t3 a ha; have := t7 b hb; omega)
                exact ⟨rfl, _, _, _, _, _, _, _, gb, _, _, rfl, wb, hgb12, e1, e2, e3, e4, hHeld⟩
        · go_simp
          obtain ⟨wE11, hq11⟩ : ∃ x, x = wE0.alloc (.cells #[.slice none 0 0, .slice none 0 0, .slice none 0 0, .int .i64 0] 27) := ⟨_, rfl⟩
          have hop11 : Below wE0.heap.size wE0 wE11 := by rw [hq11]; exact (Below.refl _ _).alloc (Nat.le_refl _) _
          have HB11 : Hid (wE11.heap[wE0.heap.size]? = some (.cells #[.slice none 0 0, .slice none 0 0, .slice none 0 0, .int .i64 0] 27 (0, 0))) := by show _ = _; rw [hq11, al_heap, if_pos rfl]
          obtain ⟨gb, HGb⟩ : ∃ g, Hid (g = wE0.heap.size) := ⟨_, rfl⟩
          rw [← HGb.out] at HB11 ⊢
          have HLb : Hid (gb < wE11.heap.size) := (Array.getElem?_eq_some_iff.1 HB11.out).1
          have HGW : Hid (wq.heap.size ≤ gb) := by show _ ≤ _; rw [HGb.out]; exact hHeld.size
          rw [← hq11]
          clear hq11
          refine hK.out _ _ (bthen hHeld hop11) (fun hHeld => ?_)
          clear hK K
          try simp only [Act.put, sa, s0, s1]
          refine wpAnyH_ready (rs := [3]) (by kernel_rfl) (by simp) ?_
          refine (AllReadyH.cons (o := q1a0_32_1_3) rfl (fun K hK => ?_) AllReadyH.nil)
          · skip
            refine step_ents rfl _ _ 25 rfl Try.underlying25 hiE hzE0 hzE1 hzE2 rfl g6 rfl (own_below hob0 (show Below wE0.heap.size wE0 wE11 from bthen (Below.refl _ _) hop11)) rfl rfl (HN.out.2.2.below rEntry_good (HBW.out.trans (hHeld.mono HBW.out.size))) (by omega) hHeld.size ?_
            intro r3 q3 wE3 hos3 hop3 hat3
            have HAT3 := Hid.mk hat3
            have HP3 : Hid (wq.heap.size ≤ wE11.heap.size) := hHeld.size
            have HOS3 := Hid.mk hos3
            clear hos3 hat3
            refine hK.out _ _ (bthen hHeld hop3) (fun hHeld => ?_)
            clear hK K
            try simp only [Act.put, sa, s0, s1]
            refine wpAnyH_ready (rs := [7]) (by kernel_rfl) (by simp) ?_
            refine (AllReadyH.cons (o := q1a0_32_1_7) rfl (fun K hK => ?_) AllReadyH.nil)
            · skip
              refine step_ents rfl _ _ 25 rfl Try.underlying25 hiE hzE0 hzE1 hzE2 rfl g10 rfl (own_below hob4 (show Below wE4.heap.size wE4 wE3 from bthen (bthen (bthen (Below.refl _ _) hop0) hop11) hop3)) rfl rfl (HS.out.2.2.below rEntry_good (HBW.out.trans (hHeld.mono HBW.out.size))) (by omega) hHeld.size ?_
              intro r7 q7 wE7 hos7 hop7 hat7
              have HAT7 := Hid.mk hat7
              have HP7 : Hid (wq.heap.size ≤ wE3.heap.size) := hHeld.size
              have HOS7 := Hid.mk hos7
              clear hos7 hat7
              refine hK.out _ _ (bthen hHeld hop7) (fun hHeld => ?_)
              clear hK K
              try simp only [Act.put, sa, s0, s1]
              refine tk 10 q1a0_32_1_10 (some 16) (v := ?v17) rfl rfl (by kernel_rfl) hHeld (by rfl) (fun _ _ _ h => by cases h.1) (fun w h => ?y17) ?_; (case y17 => (try dsimp only at h); go_simp; try (with_reducible rfl)); try simp only [Act.put, sa, s0, s1]
              refine wpAnyH_ready (rs := [12]) (by kernel_rfl) (by simp) ?_
              refine (AllReadyH.cons (o := q1a0_32_1_12) rfl (fun K hK => ?_) AllReadyH.nil)
              · go_simp
                have hb12 := (((show Below wE11.heap.size wE11 wE7 from bthen (bthen (Below.refl _ _) hop3) hop7)).block gb HLb.out).trans HB11.out
                have cb0 := rowC hb12 0 rfl
                have fb0 := frozen_of_row wE7 gb 0 _ _ hb12
                have cb1 := rowC hb12 1 rfl
                have fb1 := frozen_of_row wE7 gb 1 _ _ hb12
                have cb2 := rowC hb12 2 rfl
                have fb2 := frozen_of_row wE7 gb 2 _ _ hb12
                have cb3 := rowC hb12 3 rfl
                have fb3 := frozen_of_row wE7 gb 3 _ _ hb12
                go_simp
                obtain ⟨wE12, hq12, hgb12, hT12⟩ := put4_row hb12 (.slice none 0 0) (.slice r3 m.fNames.length q3) (.slice r7 m.fSafe.length q7) (.int .i64 m.fNext)
                rw [← hq12]
                clear hq12 cb0 cb1 cb2 cb3 fb0 fb1 fb2 fb3
                refine hK.out _ _ (hHeld.trans (hT12.below (fun k hk => by simp at hk; subst hk; exact HGW.out) hHeld.size)) (fun hHeld => ?_)
                clear hK K
                try simp only [Act.put, sa, s0, s1]
                refine wpAnyH_done (by kernel_rfl) ?_ _
                have z0 := hop0.size
                have z3 := hop3.size
                have z4 := hop4.size
                have z7 := hop7.size
                have z11 := hop11.size
                have b6 := HGg6.out
                have b10 := HGg10.out
                have bb := HGb.out
                have l6 := HLg6.out
                have l10 := HLg10.out
                have lb := HLb.out
                have w6 := HWg6.out
                have w10 := HWg10.out
                have wb := HGW.out
                have wp3 := HP3.out
                have wp7 := HP7.out
                have t3 := HAT3.out
                have t7 := HAT7.out
                obtain ⟨e1, e2, e3, e4⟩ := copy_fin (B := wq.heap.size) HOS3.out HOS7.out (show Below wE3.heap.size wE3 wE7 from bthen (Below.refl _ _) hop7) (show Below wE7.heap.size wE7 wE7 from Below.refl _ _) hT12 (nodup_opt _) (nodup_opt _) (fun j hj => by have := t3 j hj; omega) (fun j hj => by have := t7 j hj; omega) (fun a ha b hb => by have := t3 a ha; have := t7 b hb; omega)
                exact ⟨rfl, _, _, _, _, _, _, _, gb, _, _, rfl, wb, hgb12, e1, e2, e3, e4, hHeld⟩
      · go_simp
        obtain ⟨wE11, hq11⟩ : ∃ x, x = wE4.alloc (.cells #[.slice none 0 0, .slice none 0 0, .slice none 0 0, .int .i64 0] 27) := ⟨_, rfl⟩
        have hop11 : Below wE4.heap.size wE4 wE11 := by rw [hq11]; exact (Below.refl _ _).alloc (Nat.le_refl _) _
        have HB11 : Hid (wE11.heap[wE4.heap.size]? = some (.cells #[.slice none 0 0, .slice none 0 0, .slice none 0 0, .int .i64 0] 27 (0, 0))) := by show _ = _; rw [hq11, al_heap, if_pos rfl]
        obtain ⟨gb, HGb⟩ : ∃ g, Hid (g = wE4.heap.size) := ⟨_, rfl⟩
        rw [← HGb.out] at HB11 ⊢
        have HLb : Hid (gb < wE11.heap.size) := (Array.getElem?_eq_some_iff.1 HB11.out).1
        have HGW : Hid (wq.heap.size ≤ gb) := by show _ ≤ _; rw [HGb.out]; exact hHeld.size
        rw [← hq11]
        clear hq11
        refine hK.out _ _ (bthen hHeld hop11) (fun hHeld => ?_)
        clear hK K
        try simp only [Act.put, sa, s0, s1]
        refine wpAnyH_ready (rs := [0]) (by kernel_rfl) (by simp) ?_
        refine (AllReadyH.cons (o := q1a0_32_1_0) rfl (fun K hK => ?_) AllReadyH.nil)
        · go_simp
          obtain ⟨wE0, g6, hq0, hG6, hop0, hob0, hL6, hW6⟩ := lit_new (wq := wq) 61 2 hHeld.size
          rw [← hG6]
          rw [← hq0]
          clear hq0
          have HGg6 := Hid.mk hG6
          have HLg6 := Hid.mk hL6
          have HWg6 := Hid.mk hW6
          clear hG6 hL6 hW6
          refine hK.out _ _ (bthen hHeld hop0) (fun hHeld => ?_)
          clear hK K
          try simp only [Act.put, sa, s0, s1]
          refine wpAnyH_ready (rs := [3]) (by kernel_rfl) (by simp) ?_
          refine (AllReadyH.cons (o := q1a0_32_1_3) rfl (fun K hK => ?_) AllReadyH.nil)
          · skip
            refine step_ents rfl _ _ 25 rfl Try.underlying25 hiE hzE0 hzE1 hzE2 rfl g6 rfl (own_below hob0 (show Below wE0.heap.size wE0 wE0 from Below.refl _ _)) rfl rfl (HN.out.2.2.below rEntry_good (HBW.out.trans (hHeld.mono HBW.out.size))) (by omega) hHeld.size ?_
            intro r3 q3 wE3 hos3 hop3 hat3
            have HAT3 := Hid.mk hat3
            have HP3 : Hid (wq.heap.size ≤ wE0.heap.size) := hHeld.size
            have HOS3 := Hid.mk hos3
            clear hos3 hat3
            refine hK.out _ _ (bthen hHeld hop3) (fun hHeld => ?_)
            clear hK K
            try simp only [Act.put, sa, s0, s1]
            refine wpAnyH_ready (rs := [7]) (by kernel_rfl) (by simp) ?_
            refine (AllReadyH.cons (o := q1a0_32_1_7) rfl (fun K hK => ?_) AllReadyH.nil)
            · skip
              refine step_ents rfl _ _ 25 rfl Try.underlying25 hiE hzE0 hzE1 hzE2 rfl g10 rfl (own_below hob4 (show Below wE4.heap.size wE4 wE3 from bthen (bthen (bthen (Below.refl _ _) hop11) hop0) hop3)) rfl rfl (HS.out.2.2.below rEntry_good (HBW.out.trans (hHeld.mono HBW.out.size))) (by omega) hHeld.size ?_
              intro r7 q7 wE7 hos7 hop7 hat7
              have HAT7 := Hid.mk hat7
              have HP7 : Hid (wq.heap.size ≤ wE3.heap.size) := hHeld.size
              have HOS7 := Hid.mk hos7
              clear hos7 hat7
              refine hK.out _ _ (bthen hHeld hop7) (fun hHeld => ?_)
              clear hK K
              try simp only [Act.put, sa, s0, s1]
              refine tk 10 q1a0_32_1_10 (some 16) (v := ?v18) rfl rfl (by kernel_rfl) hHeld (by rfl) (fun _ _ _ h => by cases h.1) (fun w h => ?y18) ?_; (case y18 => (try dsimp only at h); go_simp; try (with_reducible rfl)); try simp only [Act.put, sa, s0, s1]
              refine wpAnyH_ready (rs := [12]) (by kernel_rfl) (by simp) ?_
              refine (AllReadyH.cons (o := q1a0_32_1_12) rfl (fun K hK => ?_) AllReadyH.nil)
              · go_simp
                have hb12 := (((show Below wE11.heap.size wE11 wE7 from bthen (bthen (bthen (Below.refl _ _) hop0) hop3) hop7)).block gb HLb.out).trans HB11.out
                have cb0 := rowC hb12 0 rfl
                have fb0 := frozen_of_row wE7 gb 0 _ _ hb12
                have cb1 := rowC hb12 1 rfl
                have fb1 := frozen_of_row wE7 gb 1 _ _ hb12
                have cb2 := rowC hb12 2 rfl
                have fb2 := frozen_of_row wE7 gb 2 _ _ hb12
                have cb3 := rowC hb12 3 rfl
                have fb3 := frozen_of_row wE7 gb 3 _ _ hb12
                go_simp
                obtain ⟨wE12, hq12, hgb12, hT12⟩ := put4_row hb12 (.slice none 0 0) (.slice r3 m.fNames.length q3) (.slice r7 m.fSafe.length q7) (.int .i64 m.fNext)
                rw [← hq12]
                clear hq12 cb0 cb1 cb2 cb3 fb0 fb1 fb2 fb3
                refine hK.out _ _ (hHeld.trans (hT12.below (fun k hk => by simp at hk; subst hk; exact HGW.out) hHeld.size)) (fun hHeld => ?_)
                clear hK K
                try simp only [Act.put, sa, s0, s1]
                refine wpAnyH_done (by kernel_rfl) ?_ _
                have z0 := hop0.size
                have z3 := hop3.size
                have z4 := hop4.size
                have z7 := hop7.size
                have z11 := hop11.size
                have b6 := HGg6.out
                have b10 := HGg10.out
                have bb := HGb.out
                have l6 := HLg6.out
                have l10 := HLg10.out
                have lb := HLb.out
                have w6 := HWg6.out
                have w10 := HWg10.out
                have wb := HGW.out
                have wp3 := HP3.out
                have wp7 := HP7.out
                have t3 := HAT3.out
                have t7 := HAT7.out
                obtain ⟨e1, e2, e3, e4⟩ := copy_fin (B := wq.heap.size) HOS3.out HOS7.out (show Below wE3.heap.size wE3 wE7 from bthen (Below.refl _ _) hop7) (show Below wE7.heap.size wE7 wE7 from Below.refl _ _) hT12 (nodup_opt _) (nodup_opt _) (fun j hj => by have := t3 j hj; omega) (fun j hj => by have := t7 j hj; omega) (fun a ha b hb => by have := t3 a ha; have := t7 b hb; omega)
                exact ⟨rfl, _, _, _, _, _, _, _, gb, _, _, rfl, wb, hgb12, e1, e2, e3, e4, hHeld⟩
    · go_simp
      obtain ⟨wE11, hq11⟩ : ∃ x, x = wS.alloc (.cells #[.slice none 0 0, .slice none 0 0, .slice none 0 0, .int .i64 0] 27) := ⟨_, rfl⟩
      have hop11 : Below wS.heap.size wS wE11 := by rw [hq11]; exact (Below.refl _ _).alloc (Nat.le_refl _) _
      have HB11 : Hid (wE11.heap[wS.heap.size]? = some (.cells #[.slice none 0 0, .slice none 0 0, .slice none 0 0, .int .i64 0] 27 (0, 0))) := by show _ = _; rw [hq11, al_heap, if_pos rfl]
      obtain ⟨gb, HGb⟩ : ∃ g, Hid (g = wS.heap.size) := ⟨_, rfl⟩
      rw [← HGb.out] at HB11 ⊢
      have HLb : Hid (gb < wE11.heap.size) := (Array.getElem?_eq_some_iff.1 HB11.out).1
      have HGW : Hid (wq.heap.size ≤ gb) := by show _ ≤ _; rw [HGb.out]; exact hHeld.size
      rw [← hq11]
      clear hq11
      refine hK.out _ _ (bthen hHeld hop11) (fun hHeld => ?_)
      clear hK K
      try simp only [Act.put, sa, s0, s1]
      refine wpAnyH_ready (rs := [0, 4]) (by kernel_rfl) (by simp) ?_
      refine (AllReadyH.cons (o := q1a0_32_1_0) rfl (fun K hK => ?_) (AllReadyH.cons (o := q1a0_32_1_4) rfl (fun K hK => ?_) AllReadyH.nil))
      · go_simp
        obtain ⟨wE0, g6, hq0, hG6, hop0, hob0, hL6, hW6⟩ := lit_new (wq := wq) 61 2 hHeld.size
        rw [← hG6]
        rw [← hq0]
        clear hq0
        have HGg6 := Hid.mk hG6
        have HLg6 := Hid.mk hL6
        have HWg6 := Hid.mk hW6
        clear hG6 hL6 hW6
        refine hK.out _ _ (bthen hHeld hop0) (fun hHeld => ?_)
        clear hK K
        try simp only [Act.put, sa, s0, s1]
        refine wpAnyH_ready (rs := [3, 4]) (by kernel_rfl) (by simp) ?_
        refine (AllReadyH.cons (o := q1a0_32_1_3) rfl (fun K hK => ?_) (AllReadyH.cons (o := q1a0_32_1_4) rfl (fun K hK => ?_) AllReadyH.nil))
        · skip
          refine step_ents rfl _ _ 25 rfl Try.underlying25 hiE hzE0 hzE1 hzE2 rfl g6 rfl (own_below hob0 (show Below wE0.heap.size wE0 wE0 from Below.refl _ _)) rfl rfl (HN.out.2.2.below rEntry_good (HBW.out.trans (hHeld.mono HBW.out.size))) (by omega) hHeld.size ?_
          intro r3 q3 wE3 hos3 hop3 hat3
          have HAT3 := Hid.mk hat3
          have HP3 : Hid (wq.heap.size ≤ wE0.heap.size) := hHeld.size
          have HOS3 := Hid.mk hos3
          clear hos3 hat3
          refine hK.out _ _ (bthen hHeld hop3) (fun hHeld => ?_)
          clear hK K
          try simp only [Act.put, sa, s0, s1]
          refine wpAnyH_ready (rs := [4]) (by kernel_rfl) (by simp) ?_
          refine (AllReadyH.cons (o := q1a0_32_1_4) rfl (fun K hK => ?_) AllReadyH.nil)
          · go_simp
            obtain ⟨wE4, g10, hq4, hG10, hop4, hob4, hL10, hW10⟩ := lit_new (wq := wq) 61 2 hHeld.size
            rw [← hG10]
            rw [← hq4]
            clear hq4
            have HGg10 := Hid.mk hG10
            have HLg10 := Hid.mk hL10
            have HWg10 := Hid.mk hW10
            clear hG10 hL10 hW10
            refine hK.out _ _ (bthen hHeld hop4) (fun hHeld => ?_)
            clear hK K
            try simp only [Act.put, sa, s0, s1]
            refine wpAnyH_ready (rs := [7]) (by kernel_rfl) (by simp) ?_
            refine (AllReadyH.cons (o := q1a0_32_1_7) rfl (fun K hK => ?_) AllReadyH.nil)
            · skip
              refine step_ents rfl _ _ 25 rfl Try.underlying25 hiE hzE0 hzE1 hzE2 rfl g10 rfl (own_below hob4 (show Below wE4.heap.size wE4 wE4 from Below.refl _ _)) rfl rfl (HS.out.2.2.below rEntry_good (HBW.out.trans (hHeld.mono HBW.out.size))) (by omega) hHeld.size ?_
              intro r7 q7 wE7 hos7 hop7 hat7
              have HAT7 := Hid.mk hat7
              have HP7 : Hid (wq.heap.size ≤ wE4.heap.size) := hHeld.size
              have HOS7 := Hid.mk hos7
              clear hos7 hat7
              refine hK.out _ _ (bthen hHeld hop7) (fun hHeld => ?_)
              clear hK K
              try simp only [Act.put, sa, s0, s1]
              refine tk 10 q1a0_32_1_10 (some 16) (v := ?v19) rfl rfl (by kernel_rfl) hHeld (by rfl) (fun _ _ _ h => by cases h.1) (fun w h => ?y19) ?_; (case y19 => (try dsimp only at h); go_simp; try (with_reducible rfl)); try simp only [Act.put, sa, s0, s1]
              refine wpAnyH_ready (rs := [12]) (by kernel_rfl) (by simp) ?_
              refine (AllReadyH.cons (o := q1a0_32_1_12) rfl (fun K hK => ?_) AllReadyH.nil)
              · go_simp
                have hb12 := (((show Below wE11.heap.size wE11 wE7 from bthen (bthen (bthen (bthen (Below.refl _ _) hop0) hop3) hop4) hop7)).block gb HLb.out).trans HB11.out
                have cb0 := rowC hb12 0 rfl
                have fb0 := frozen_of_row wE7 gb 0 _ _ hb12
                have cb1 := rowC hb12 1 rfl
                have fb1 := frozen_of_row wE7 gb 1 _ _ hb12
                have cb2 := rowC hb12 2 rfl
                have fb2 := frozen_of_row wE7 gb 2 _ _ hb12
                have cb3 := rowC hb12 3 rfl
                have fb3 := frozen_of_row wE7 gb 3 _ _ hb12
                go_simp
                obtain ⟨wE12, hq12, hgb12, hT12⟩ := put4_row hb12 (.slice none 0 0) (.slice r3 m.fNames.length q3) (.slice r7 m.fSafe.length q7) (.int .i64 m.fNext)
                rw [← hq12]
                clear hq12 cb0 cb1 cb2 cb3 fb0 fb1 fb2 fb3
                refine hK.out _ _ (hHeld.trans (hT12.below (fun k hk => by simp at hk; subst hk; exact HGW.out) hHeld.size)) (fun hHeld => ?_)
                clear hK K
                try simp only [Act.put, sa, s0, s1]
                refine wpAnyH_done (by kernel_rfl) ?_ _
                have z0 := hop0.size
                have z3 := hop3.size
                have z4 := hop4.size
                have z7 := hop7.size
                have z11 := hop11.size
                have b6 := HGg6.out
                have b10 := HGg10.out
                have bb := HGb.out
                have l6 := HLg6.out
                have l10 := HLg10.out
                have lb := HLb.out
                have w6 := HWg6.out
                have w10 := HWg10.out
                have wb := HGW.out
                have wp3 := HP3.out
                have wp7 := HP7.out
                have t3 := HAT3.out
                have t7 := HAT7.out
                obtain ⟨e1, e2, e3, e4⟩ := copy_fin (B := wq.heap.size) HOS3.out HOS7.out (show Below wE3.heap.size wE3 wE7 from bthen (bthen (Below.refl _ _) hop4) hop7) (show Below wE7.heap.size wE7 wE7 from Below.refl _ _) hT12 (nodup_opt _) (nodup_opt _) (fun j hj => by have := t3 j hj; omega) (fun j hj => by have := t7 j hj; omega) (fun a ha b hb => by have := t3 a ha; have := t7 b hb; omega)
                exact ⟨rfl, _, _, _, _, _, _, _, gb, _, _, rfl, wb, hgb12, e1, e2, e3, e4, hHeld⟩
        · go_simp
          obtain ⟨wE4, g10, hq4, hG10, hop4, hob4, hL10, hW10⟩ := lit_new (wq := wq) 61 2 hHeld.size
          rw [← hG10]
          rw [← hq4]
          clear hq4
          have HGg10 := Hid.mk hG10
          have HLg10 := Hid.mk hL10
          have HWg10 := Hid.mk hW10
          clear hG10 hL10 hW10
          refine hK.out _ _ (bthen hHeld hop4) (fun hHeld => ?_)
          clear hK K
          try simp only [Act.put, sa, s0, s1]
          refine wpAnyH_ready (rs := [3]) (by kernel_rfl) (by simp) ?_
          refine (AllReadyH.cons (o := q1a0_32_1_3) rfl (fun K hK => ?_) AllReadyH.nil)
          · skip
            refine step_ents rfl _ _ 25 rfl Try.underlying25 hiE hzE0 hzE1 hzE2 rfl g6 rfl (own_below hob0 (show Below wE0.heap.size wE0 wE4 from bthen (Below.refl _ _) hop4)) rfl rfl (HN.out.2.2.below rEntry_good (HBW.out.trans (hHeld.mono HBW.out.size))) (by omega) hHeld.size ?_
            intro r3 q3 wE3 hos3 hop3 hat3
            have HAT3 := Hid.mk hat3
            have HP3 : Hid (wq.heap.size ≤ wE4.heap.size) := hHeld.size
            have HOS3 := Hid.mk hos3
            clear hos3 hat3
            refine hK.out _ _ (bthen hHeld hop3) (fun hHeld => ?_)
            clear hK K
            try simp only [Act.put, sa, s0, s1]
            refine wpAnyH_ready (rs := [7]) (by kernel_rfl) (by simp) ?_
            refine (AllReadyH.cons (o := q1a0_32_1_7) rfl (fun K hK => ?_) AllReadyH.nil)
            · skip
              refine step_ents rfl _ _ 25 rfl Try.underlying25 hiE hzE0 hzE1 hzE2 rfl g10 rfl (own_below hob4 (show Below wE4.heap.size wE4 wE3 from bthen (Below.refl _ _) hop3)) rfl rfl (HS.out.2.2.below rEntry_good (HBW.out.trans (hHeld.mono HBW.out.size))) (by omega) hHeld.size ?_
              intro r7 q7 wE7 hos7 hop7 hat7
              have HAT7 := Hid.mk hat7
              have HP7 : Hid (wq.heap.size ≤ wE3.heap.size) := hHeld.size
              have HOS7 := Hid.mk hos7
              clear hos7 hat7
              refine hK.out _ _ (bthen hHeld hop7) (fun hHeld => ?_)
              clear hK K
              try simp only [Act.put, sa, s0, s1]
              refine tk 10 q1a0_32_1_10 (some 16) (v := ?v20) rfl rfl (by kernel_rfl) hHeld (by rfl) (fun _ _ _ h => by cases h.1) (fun w h => ?y20) ?_; (case y20 => (try dsimp only at h); go_simp; try (with_reducible rfl)); try simp only [Act.put, sa, s0, s1]
              refine wpAnyH_ready (rs := [12]) (by kernel_rfl) (by simp) ?_
              refine (AllReadyH.cons (o := q1a0_32_1_12) rfl (fun K hK => ?_) AllReadyH.nil)
              · go_simp
                have hb12 := (((show Below wE11.heap.size wE11 wE7 from bthen (bthen (bthen (bthen (Below.refl _ _) hop0) hop4) hop3) hop7)).block gb HLb.out).trans HB11.out
                have cb0 := rowC hb12 0 rfl
                have fb0 := frozen_of_row wE7 gb 0 _ _ hb12
                have cb1 := rowC hb12 1 rfl
                have fb1 := frozen_of_row wE7 gb 1 _ _ hb12
                have cb2 := rowC hb12 2 rfl
                have fb2 := frozen_of_row wE7 gb 2 _ _ hb12
                have cb3 := rowC hb12 3 rfl
                have fb3 := frozen_of_row wE7 gb 3 _ _ hb12
                go_simp
                obtain ⟨wE12, hq12, hgb12, hT12⟩ := put4_row hb12 (.slice none 0 0) (.slice r3 m.fNames.length q3) (.slice r7 m.fSafe.length q7) (.int .i64 m.fNext)
                rw [← hq12]
                clear hq12 cb0 cb1 cb2 cb3 fb0 fb1 fb2 fb3
                refine hK.out _ _ (hHeld.trans (hT12.below (fun k hk => by simp at hk; subst hk; exact HGW.out) hHeld.size)) (fun hHeld => ?_)
                clear hK K
                try simp only [Act.put, sa, s0, s1]
                refine wpAnyH_done (by kernel_rfl) ?_ _
                have z0 := hop0.size
                have z3 := hop3.size
                have z4 := hop4.size
                have z7 := hop7.size
                have z11 := hop11.size
                have b6 := HGg6.out
                have b10 := HGg10.out
                have bb := HGb.out
                have l6 := HLg6.out
                have l10 := HLg10.out
                have lb := HLb.out
                have w6 := HWg6.out
                have w10 := HWg10.out
                have wb := HGW.out
                have wp3 := HP3.out
                have wp7 := HP7.out
                have t3 := HAT3.out
                have t7 := HAT7.out
                obtain ⟨e1, e2, e3, e4⟩ := copy_fin (B := wq.heap.size) HOS3.out HOS7.out (show Below wE3.heap.size wE3 wE7 from bthen (Below.refl _ _) hop7) (show Below wE7.heap.size wE7 wE7 from Below.refl _ _) hT12 (nodup_opt _) (nodup_opt _) (fun j hj => by have := t3 j hj; omega) (fun j hj => by have := t7 j hj; omega) (fun a ha b hb => by have := t3 a ha; have := t7 b hb; omega)
                exact ⟨rfl, _, _, _, _, _, _, _, gb, _, _, rfl, wb, hgb12, e1, e2, e3, e4, hHeld⟩
      · go_simp
        obtain ⟨wE4, g10, hq4, hG10, hop4, hob4, hL10, hW10⟩ := lit_new (wq := wq) 61 2 hHeld.size
        rw [← hG10]
        rw [← hq4]
        clear hq4
        have HGg10 := Hid.mk hG10
        have HLg10 := Hid.mk hL10
        have HWg10 := Hid.mk hW10
        clear hG10 hL10 hW10
        refine hK.out _ _ (bthen hHeld hop4) (fun hHeld => ?_)
        clear hK K
        try simp only [Act.put, sa, s0, s1]
        refine wpAnyH_ready (rs := [0]) (by kernel_rfl) (by simp) ?_
        refine (AllReadyH.cons (o := q1a0_32_1_0) rfl (fun K hK => ?_) AllReadyH.nil)
        · go_simp
          obtain ⟨wE0, g6, hq0, hG6, hop0, hob0, hL6, hW6⟩ := lit_new (wq := wq) 61 2 hHeld.size
          rw [← hG6]
          rw [← hq0]
          clear hq0
          have HGg6 := Hid.mk hG6
          have HLg6 := Hid.mk hL6
          have HWg6 := Hid.mk hW6
          clear hG6 hL6 hW6
          refine hK.out _ _ (bthen hHeld hop0) (fun hHeld => ?_)
          clear hK K
          try simp only [Act.put, sa, s0, s1]
          refine wpAnyH_ready (rs := [3]) (by kernel_rfl) (by simp) ?_
          refine (AllReadyH.cons (o := q1a0_32_1_3) rfl (fun K hK => ?_) AllReadyH.nil)
          · skip
            refine step_ents rfl _ _ 25 rfl Try.underlying25 hiE hzE0 hzE1 hzE2 rfl g6 rfl (own_below hob0 (show Below wE0.heap.size wE0 wE0 from Below.refl _ _)) rfl rfl (HN.out.2.2.below rEntry_good (HBW.out.trans (hHeld.mono HBW.out.size))) (by omega) hHeld.size ?_
            intro r3 q3 wE3 hos3 hop3 hat3
            have HAT3 := Hid.mk hat3
            have HP3 : Hid (wq.heap.size ≤ wE0.heap.size) := hHeld.size
            have HOS3 := Hid.mk hos3
            clear hos3 hat3
            refine hK.out _ _ (bthen hHeld hop3) (fun hHeld => ?_)
            clear hK K
            try simp only [Act.put, sa, s0, s1]
            refine wpAnyH_ready (rs := [7]) (by kernel_rfl) (by simp) ?_
            refine (AllReadyH.cons (o := q1a0_32_1_7) rfl (fun K hK => ?_) AllReadyH.nil)
            · skip
              refine step_ents rfl _ _ 25 rfl Try.underlying25 hiE hzE0 hzE1 hzE2 rfl g10 rfl (own_below hob4 (show Below wE4.heap.size wE4 wE3 from bthen (bthen (Below.refl _ _) hop0) hop3)) rfl rfl (HS.out.2.2.below rEntry_good (HBW.out.trans (hHeld.mono HBW.out.size))) (by omega) hHeld.size ?_
              intro r7 q7 wE7 hos7 hop7 hat7
              have HAT7 := Hid.mk hat7
              have HP7 : Hid (wq.heap.size ≤ wE3.heap.size) := hHeld.size
              have HOS7 := Hid.mk hos7
              clear hos7 hat7
              refine hK.out _ _ (bthen hHeld hop7) (fun hHeld => ?_)
              clear hK K
              try simp only [Act.put, sa, s0, s1]
              refine tk 10 q1a0_32_1_10 (some 16) (v := ?v21) rfl rfl (by kernel_rfl) hHeld (by rfl) (fun _ _ _ h => by cases h.1) (fun w h => ?y21) ?_; (case y21 => (try dsimp only at h); go_simp; try (with_reducible rfl)); try simp only [Act.put, sa, s0, s1]
              refine wpAnyH_ready (rs := [12]) (by kernel_rfl) (by simp) ?_
              refine (AllReadyH.cons (o := q1a0_32_1_12) rfl (fun K hK => ?_) AllReadyH.nil)
              · go_simp
                have hb12 := (((show Below wE11.heap.size wE11 wE7 from bthen (bthen (bthen (bthen (Below.refl _ _) hop4) hop0) hop3) hop7)).block gb HLb.out).trans HB11.out
                have cb0 := rowC hb12 0 rfl
                have fb0 := frozen_of_row wE7 gb 0 _ _ hb12
                have cb1 := rowC hb12 1 rfl
                have fb1 := frozen_of_row wE7 gb 1 _ _ hb12
                have cb2 := rowC hb12 2 rfl
                have fb2 := frozen_of_row wE7 gb 2 _ _ hb12
                have cb3 := rowC hb12 3 rfl
                have fb3 := frozen_of_row wE7 gb 3 _ _ hb12
                go_simp
                obtain ⟨wE12, hq12, hgb12, hT12⟩ := put4_row hb12 (.slice none 0 0) (.slice r3 m.fNames.length q3) (.slice r7 m.fSafe.length q7) (.int .i64 m.fNext)
                rw [← hq12]
                clear hq12 cb0 cb1 cb2 cb3 fb0 fb1 fb2 fb3
                refine hK.out _ _ (hHeld.trans (hT12.below (fun k hk => by simp at hk; subst hk; exact HGW.out) hHeld.size)) (fun hHeld => ?_)
                clear hK K
                try simp only [Act.put, sa, s0, s1]
                refine wpAnyH_done (by kernel_rfl) ?_ _
                have z0 := hop0.size
                have z3 := hop3.size
                have z4 := hop4.size
                have z7 := hop7.size
                have z11 := hop11.size
                have b6 := HGg6.out
                have b10 := HGg10.out
                have bb := HGb.out
                have l6 := HLg6.out
                have l10 := HLg10.out
                have lb := HLb.out
                have w6 := HWg6.out
                have w10 := HWg10.out
                have wb := HGW.out
                have wp3 := HP3.out
                have wp7 := HP7.out
                have t3 := HAT3.out
                have t7 := HAT7.out
                obtain ⟨e1, e2, e3, e4⟩ := copy_fin (B := wq.heap.size) HOS3.out HOS7.out (show Below wE3.heap.size wE3 wE7 from bthen (Below.refl _ _) hop7) (show Below wE7.heap.size wE7 wE7 from Below.refl _ _) hT12 (nodup_opt _) (nodup_opt _) (fun j hj => by have := t3 j hj; omega) (fun j hj => by have := t7 j hj; omega) (fun a ha b hb => by have := t3 a ha; have := t7 b hb; omega)
                exact ⟨rfl, _, _, _, _, _, _, _, gb, _, _, rfl, wb, hgb12, e1, e2, e3, e4, hHeld⟩
  case mono =>
    rintro e a' w1 ⟨rfl, x6, x7, x9, x10, x11, x13, x14, gb, F1, F2, rfl, hgb0, hgb, hoN, hoS, hFN, hFge, hb1⟩
    obtain ⟨r9, q9, rfl, _⟩ := ownS.read oEntry_good hoN
    obtain ⟨r13, q13, rfl, _⟩ := ownS.read oEntry_good hoS
    have hlb : gb < w1.heap.size := (Array.getElem?_eq_some_iff.1 hgb).1
    have hbA := bthen HBW.out hb1
    have hq1 := hb1.size
    have hq0 := HBW.out.size
    have hlx := hbx.1
    have hQ2 : w.heap.size + 1 < wq.heap.size := (Array.getElem?_eq_some_iff.1 HRES.out).1
    have HX := Hid.mk (hbx.under hb1)
    have HGB := Hid.mk hgb
    have HON := Hid.mk hoN
    have HOS := Hid.mk hoS
    have HFN := Hid.mk hFN
    have HFG := Hid.mk hFge
    have HBA := Hid.mk hbA
    have HB1 := Hid.mk hb1
    clear p1 p2 p3 hgb hoN hoS hFN hFge hbA hbx hb1
    go_wp2_with fail
    go_loopw [4] (fun i wr => ∃ (k : Nat) (v0 : Value) (F0 : List Nat), k ≤ m.fInodes.length ∧ i = .int .i64 k ∧ wr.heap[gb]? = some (.cells #[v0, .slice r9 m.fNames.length q9, .slice r13 m.fSafe.length q13, .int .i64 m.fNext] 27 (0, 0)) ∧ ownS 3 56 oInode wr v0 (m.fInodes.take k) F0 ∧ F0.Nodup ∧ (∀ b, b ∈ F0 → w1.heap.size ≤ b) ∧ Turn [gb] w1 wr) (fun i _ => m.fInodes.length - (intOf i).toNat)
    case atStart => exact ⟨0, .slice none 0 0, [], Nat.zero_le _, rfl, HGB.out, .inl ⟨rfl, rfl, rfl⟩, List.nodup_nil, (fun b hb => by cases hb), Turn.refl _ _⟩
    case round =>
      obtain ⟨k, v0, F0, hk, rfl, hgk, hok, hnk, hge, hTk⟩ := hrel
      have hsz := hTk.size
      have HGK := Hid.mk hgk
      have HO0 := Hid.mk hok
      have HN0 := Hid.mk hnk
      have HGE0 := Hid.mk hge
      have HTK := Hid.mk hTk
      have HXR := Hid.mk (HX.out.turn hTk (by simp; omega))
      have x0 := HXR.out.2 0 _ rfl
      obtain ⟨m_k, hmk⟩ : ∃ m_k, m_k = (m.fInodes.take k).length := ⟨_, rfl⟩
      have HMK := Hid.mk hmk
      have hmk2 : m_k ≤ k := by rw [hmk]; simp; omega
      have hmk3 : k ≤ m_k := by rw [hmk]; simp; omega
      obtain ⟨ra, qa, rfl, _⟩ := ownS.read oInode_good hok
      rw [← hmk] at HGK HO0
      have HLT0 : Hid (∀ b, b ∈ F0 → b < wr.heap.size) := ownS.lt oInode_good HO0.out
      have HIN : Hid (∀ j, Value.ownBlock (.slice ra m_k qa) = some j → j ∈ F0) := by
        intro j hj
        rcases HO0.out with ⟨h1, _, _⟩ | ⟨g, cap, cur, Fs, h1, _, _, _, _, _, _, rfl⟩
        · rw [h1] at hj; cases hj
        · rw [h1] at hj; simp [Value.ownBlock] at hj; simp [hj]
      clear hgk hok hnk hge hmk
      by_cases hlt : k < m.fInodes.length
      · have hbR := Turn.under HBA.out hTk (fun k hk => by simp at hk; omega)
        have hwk := sumW_le (f := wInode) hlt
        obtain ⟨b1, o1, rfl, hB, cs, hcl, hcell, hrT⟩ := (HI.out.2.2.below rInode_good hbR) k hlt
        obtain ⟨n, hn⟩ : ∃ n, m.fInodes[k] = n := ⟨_, rfl⟩
        rw [hn] at hrT hwk
        have HNd : Hid (m.fInodes[k] = n) := hn
        clear hn
        obtain ⟨ad, cd, rfl, hid, hda, hsu, _⟩ := hrT
        have k0 := hcell 0 _ rfl
        have k1 := hcell 1 _ rfl
        have k2 := hcell 2 _ rfl
        rw [Nat.add_zero] at k0
        have hdl : n.fData.length ≤ 1048576 := by have : wInode n = n.fData.length := rfl; omega
        have HDA := Hid.mk hda
        have HBR := Hid.mk hbR
        clear hcell hcl hwk hda hbR hTk
        go_wp2_with fail
        obtain ⟨wi, hwi⟩ : ∃ wi, wi = wr.alloc (.cells #[.int .i64 n.fId, .slice ad n.fData.length cd, .int .i64 n.fSure] 56) := ⟨_, rfl⟩
        have hbi : Below wr.heap.size wr wi := by rw [hwi]; exact (Below.refl _ _).alloc (Nat.le_refl _) _
        have hbn : Bx wi wr.heap.size [.int .i64 n.fId, .slice ad n.fData.length cd, .int .i64 n.fSure] := by rw [hwi]; exact Bx.new _ _ _
        have hzi : wr.heap.size + 1 ≤ wi.heap.size := by rw [hwi]; simp
        rw [← hwi]
        clear hwi k0 k1 k2
        have HGI : Hid (wi.heap[gb]? = some (.cells #[.slice ra m_k qa, .slice r9 m.fNames.length q9, .slice r13 m.fSafe.length q13, .int .i64 m.fNext] 27 (0, 0))) := (hbi.block gb (by omega)).trans HGK.out
        have HO : Hid (ownS 3 56 oInode wi (.slice ra m_k qa) (m.fInodes.take k) F0) := ownS.frame oInode_good HO0.out (fun b hb => hbi.block b (HLT0.out b hb))
        have HLT : Hid (∀ b, b ∈ F0 → b < wi.heap.size) := fun b hb => by have := HLT0.out b hb; omega
        have HBI : Hid (Below w.heap.size wr wi) := hbi.mono HBR.out.size
        have HZI : Hid (w.heap.size ≤ wi.heap.size) := by show _ ≤ _; have := HBR.out.size; omega
        have HTI : Hid (Turn [gb] w1 wi) := HTK.out.trans (Turn.ofBelow hbi)
        have hng : gb ∉ F0 := fun h => by have := HGE0.out gb h; omega
        have hnw : wr.heap.size ∉ gb :: F0 := by
          intro h
          rcases List.mem_cons.1 h with h | h
          · omega
          · have := HLT0.out _ h; omega
        have n0 : ∀ W, Turn (gb :: F0) wi W → W.cell? ⟨wr.heap.size, 0, none⟩ = some (.int .i64 n.fId) := fun W hT => (hbn.turn hT hnw).2 0 _ rfl
        have n1 : ∀ W, Turn (gb :: F0) wi W → W.cell? ⟨wr.heap.size, 1, none⟩ = some (.slice ad n.fData.length cd) := fun W hT => (hbn.turn hT hnw).2 1 _ rfl
        have n2 : ∀ W, Turn (gb :: F0) wi W → W.cell? ⟨wr.heap.size, 2, none⟩ = some (.int .i64 n.fSure) := fun W hT => (hbn.turn hT hnw).2 2 _ rfl
        clear hbn hbi
        refine wp_region_held_drew (S := fun W => Turn (gb :: F0) wi W) (by kernel_rfl) (Turn.ofBelow (Below.drew (Below.refl _ _))) (fun hHeld => ?_)
        obtain ⟨wS, hwS⟩ : ∃ wS, wS = wi.drew := ⟨_, rfl⟩
        have HSB : Hid (Below wi.heap.size wi wS) := by rw [hwS]; exact Below.drew (Below.refl _ _)
        have hszS : wi.heap.size ≤ wS.heap.size := by rw [hwS]; exact Nat.le_refl _
        rw [← hwS] at hHeld ⊢
        clear hwS
        obtain ⟨zS, hzS⟩ : ∃ z, z = wS.heap.size := ⟨_, rfl⟩
        have hzS1 : zS ≤ wS.heap.size := by omega
        have hzS2 : wS.heap.size ≤ zS := by omega
        clear hzS
        have cgS : wS.cell? ⟨gb, 0, none⟩ = some (.slice ra m_k qa) := (HSB.out.cell (p := ⟨gb, 0, none⟩) (by simp; omega)).trans (by rw [cell_of_row _ _ _ _ _ (0, 0) HGI.out]; rfl)
        have HGS : Hid (wS.heap[gb]? = some (.cells #[.slice ra m_k qa, .slice r9 m.fNames.length q9, .slice r13 m.fSafe.length q13, .int .i64 m.fNext] 27 (0, 0))) := (HSB.out.block gb (by omega)).trans HGI.out
        refine tk 0 q1a0_32_6_0 (some 29) (v := ?v22) rfl rfl (by kernel_rfl) hHeld (by rfl) (fun _ _ _ h => h) (fun w h => ?y22) ?_; (case y22 => (try dsimp only at h); go_simp; try (with_reducible rfl)); try simp only [Act.put, sa, s0, s1]
        refine tk 2 q1a0_32_6_2 (some 31) (v := ?v23) rfl rfl (by kernel_rfl) hHeld (by rfl) (fun _ _ _ h => h) (fun w h => ?y23) ?_; (case y23 => (try dsimp only at h); go_simp; try (with_reducible rfl)); try simp only [Act.put, sa, s0, s1]
        refine tk 3 q1a0_32_6_3 (some 32) (v := ?v24) rfl rfl (by kernel_rfl) hHeld (by rfl) (fun _ _ _ h => h) (fun w h => ?y24) ?_; (case y24 => (try dsimp only at h); go_simp; try (with_reducible rfl)); try simp only [Act.put, sa, s0, s1]
        refine tk 5 q1a0_32_6_5 (some 34) (v := ?v25) rfl rfl (by kernel_rfl) hHeld (by rfl) (fun _ _ _ h => h) (fun w h => ?y25) ?_; (case y25 => (try dsimp only at h); go_simp; try (with_reducible rfl)); try simp only [Act.put, sa, s0, s1]
        refine tk 6 q1a0_32_6_6 (some 35) (v := ?v26) rfl rfl (by kernel_rfl) hHeld (by rfl) (fun _ _ _ h => h) (fun w h => ?y26) ?_; (case y26 => (try dsimp only at h); go_simp; try (with_reducible rfl)); try simp only [Act.put, sa, s0, s1]
        refine tk 8 q1a0_32_6_8 (some 37) (v := ?v27) rfl rfl (by kernel_rfl) hHeld (by rfl) (fun _ _ _ h => h) (fun w h => ?y27) ?_; (case y27 => (try dsimp only at h); go_simp; try (with_reducible rfl)); try simp only [Act.put, sa, s0, s1]
        refine tk 9 q1a0_32_6_9 (some 38) (v := ?v28) rfl rfl (by kernel_rfl) hHeld (by rfl) (fun _ _ _ h => h) (fun w h => ?y28) ?_; (case y28 => (try dsimp only at h); go_simp; try (with_reducible rfl)); try simp only [Act.put, sa, s0, s1]
        refine wpAnyH_ready (rs := [1, 4]) (by kernel_rfl) (by simp) ?_
        refine (AllReadyH.cons (o := q1a0_32_6_1) rfl (fun K hK => ?_) (AllReadyH.cons (o := q1a0_32_6_4) rfl (fun K hK => ?_) AllReadyH.nil))
        · go_simp
          have cl1 : wS.cell? ⟨gb, 0, none⟩ = some (.slice ra m_k qa) := (((show Below wS.heap.size wS wS from Below.refl _ _)).cell (p := ⟨gb, 0, none⟩) (by simp; omega)).trans cgS
          go_simp
          obtain ⟨wE1, hq1⟩ : ∃ x, x = wS := ⟨_, rfl⟩
          have hop1 : Below wS.heap.size wS wE1 := by rw [hq1]; exact Below.refl _ _
          rw [← hq1]
          clear hq1 cl1
          refine hK.out _ _ (hHeld.trans (Turn.ofBelow hop1)) (fun hHeld => ?_)
          clear hK K
          try simp only [Act.put, sa, s0, s1]
          refine wpAnyH_ready (rs := [4]) (by kernel_rfl) (by simp) ?_
          refine (AllReadyH.cons (o := q1a0_32_6_4) rfl (fun K hK => ?_) AllReadyH.nil)
          · go_simp
            obtain ⟨wE4, hq4⟩ : ∃ x, x = wE1.alloc (.cells #[] 5) := ⟨_, rfl⟩
            have hop4 : Below wE1.heap.size wE1 wE4 := by rw [hq4]; exact (Below.refl _ _).alloc (Nat.le_refl _) _
            have hzz := ((show Below wS.heap.size wS wE1 from bthen (Below.refl _ _) hop1)).size
            have hob4 : wE4.ownsRow zS 5 1 (.slice (some ⟨wE1.heap.size, 0, none⟩) 0 0) 0 [] := by rw [hq4]; exact own_lit0 _ _ _ _ (Nat.le_trans hzS1 hzz)
            obtain ⟨g4, HG4⟩ : ∃ g, Hid (g = wE1.heap.size) := ⟨_, rfl⟩
            rw [← HG4.out] at hob4 ⊢
            rw [← hq4]
            clear hq4 hzz
            refine hK.out _ _ (hHeld.trans (Turn.ofBelow hop4)) (fun hHeld => ?_)
            clear hK K
            try simp only [Act.put, sa, s0, s1]
            refine wpAnyH_ready (rs := [7]) (by kernel_rfl) (by simp) ?_
            refine (AllReadyH.cons (o := q1a0_32_6_7) rfl (fun K hK => ?_) AllReadyH.nil)
            · skip
              have hrd7 := ((HDA.out.below (HBI.out.trans ((bthen HSB.out (bthen ((show Below wS.heap.size wS wE4 from bthen (bthen (Below.refl _ _) hop1) hop4)) (Below.refl _ _))).mono HZI.out))).2.2.1)
              refine step_append_lit _ rfl _ _ 22 22 rfl zS 5 iB (.int .u8 0) 1 1 Try.underlying22 hiB hzB0 hzB1 hzB2 rfl g4 rfl (own_below hob4 (show Below wE4.heap.size wE4 wE4 from Below.refl _ _)) (.slice ad n.fData.length cd) rfl n.fData.length (n.fData.map (Value.int .u8)) (Src.rd Try.underlying22 rfl hrd7) (by unfold maxLen; omega) (by omega) (Nat.le_trans hzS1 ((show Below wS.heap.size wS wE4 from bthen (bthen (Below.refl _ _) hop1) hop4)).size) ?_
              intro v7 wE7 hw7 hop7 hat7
              obtain ⟨r7, q7, rfl⟩ := own_slice hw7
              have HW7 := Hid.mk hw7
              clear hw7 hrd7 hat7
              refine hK.out _ _ (hHeld.trans (Turn.ofBelow hop7)) (fun hHeld => ?_)
              clear hK K
              try simp only [Act.put, sa, s0, s1]
              refine tk 10 q1a0_32_6_10 (some 39) (v := ?v29) rfl rfl (by kernel_rfl) hHeld (by rfl) (fun _ _ _ h => h) (fun w h => ?y29) ?_; (case y29 => (try dsimp only at h); go_simp; try (with_reducible rfl)); try simp only [Act.put, sa, s0, s1]
              refine wpAnyH_ready (rs := [11]) (by kernel_rfl) (by simp) ?_
              refine (AllReadyH.cons (o := q1a0_32_6_11) rfl (fun K hK => ?_) AllReadyH.nil)
              · go_simp
                obtain ⟨wE11, hq11⟩ : ∃ x, x = wE7.alloc (.cells #[.int .i64 n.fId, .slice r7 n.fData.length q7, .int .i64 n.fSure] 56) := ⟨_, rfl⟩
                have hop11 : Below wE7.heap.size wE7 wE11 := by rw [hq11]; exact (Below.refl _ _).alloc (Nat.le_refl _) _
                have HB11 : Hid (Bx wE11 wE7.heap.size [.int .i64 n.fId, .slice r7 n.fData.length q7, .int .i64 n.fSure]) := by show Bx _ _ _; rw [hq11]; exact Bx.new _ _ _
                obtain ⟨g11, HG11⟩ : ∃ g, Hid (g = wE7.heap.size) := ⟨_, rfl⟩
                rw [← HG11.out] at HB11 ⊢
                rw [← hq11]
                clear hq11
                refine hK.out _ _ (hHeld.trans (Turn.ofBelow hop11)) (fun hHeld => ?_)
                clear hK K
                try simp only [Act.put, sa, s0, s1]
                refine wpAnyH_ready (rs := [12]) (by kernel_rfl) (by simp) ?_
                refine (AllReadyH.cons (o := q1a0_32_6_12) rfl (fun K hK => ?_) AllReadyH.nil)
                · skip
                  have hP := (show Below wS.heap.size wS wE11 from bthen (bthen (bthen (bthen (Below.refl _ _) hop1) hop4) hop7) hop11)
                  have ho12 := ownS.frame (w' := wE11) oInode_good HO.out (fun b hb => (bthen HSB.out hP).block b (by have := HLT.out b hb; omega))
                  obtain ⟨xs12, hx12, hpush⟩ := ownS.push oInode_good ho12 HN0.out
                  have HPUSH := Hid.mk hpush
                  clear hpush
                  have hB12 : Bx wE11 g11 [.int .i64 n.fId, .slice r7 n.fData.length q7, .int .i64 n.fSure] := HB11.out.under ((show Below wE11.heap.size wE11 wE11 from Below.refl _ _))
                  refine step_append_src _ rfl _ _ 24 24 rfl 0 56 iI (.agg #[.int .i64 0, .slice none 0 0, .int .i64 0]) 3 40 Try.underlying24 hiI hzI0 hzI1 hzI2 rfl (.slice ra m_k qa) m_k xs12 rfl (own_congr hx12 HMK.out.symm rfl) (.slice (some ⟨g11, 0, none⟩) 1 1) rfl 1 [.int .i64 n.fId, .slice r7 n.fData.length q7, .int .i64 n.fSure] (Src.ofSlice wE11 Try.underlying24 ⟨g11, 0, none⟩ 1 1 _ rfl (bx_news hB12) (by intro u hu; simp at hu; rcases hu with rfl | rfl | rfl <;> rfl)) (by unfold maxLen; omega) (by omega) (Nat.zero_le _) ?_
                  intro v12 wE12 hw12 hgr12 hat12
                  obtain ⟨r12, q12, rfl⟩ := own_slice hw12
                  have hT12 : Turn F0 wE11 wE12 := Turn.ofGrown hgr12 (fun j hj => HIN.out j hj)
                  have HT12 := Hid.mk hT12
                  have HB7 : Hid (ownB 5 wE11 (.slice r7 n.fData.length q7) n.fData (Value.ownBlock (.slice r7 n.fData.length q7)).toList) := ⟨own_base (own_below HW7.out ((show Below wE7.heap.size wE7 wE11 from bthen (Below.refl _ _) hop11))) (Nat.zero_le _), HDA.out.2.2.2, rfl⟩
                  have HGE7 : Hid (∀ b, b ∈ (Value.ownBlock (.slice r7 n.fData.length q7)).toList → zS ≤ b) := fun b hb => (HW7.out.lt b (by simpa using hb)).1
                  obtain ⟨F12, o12, n12, f12⟩ := HPUSH.out wE12 _ _ n _ (own_congr hw12 (by rw [HMK.out]) rfl) hgr12 hat12 ⟨_, _, rfl, hid, HB7.out, hsu, rfl⟩ (by rw [List.append_nil]; exact nodup_opt _) (fun b hb => by rw [List.append_nil] at hb; have h1 := HGE7.out b hb; intro hb0; have := HLT.out b hb0; omega)
                  have HO12 := Hid.mk o12
                  have HN12 := Hid.mk n12
                  have HF12 : Hid (∀ b, b ∈ F12 → b ∈ F0 ∨ zS ≤ b) := fun b hb => (by rcases f12 b hb with h | h | h; exact .inl h; (exact .inr (HGE7.out b (by simpa using h))); (exact .inr (by rw [h]; exact Nat.le_trans hzS1 hP.size)))
                  have HP12 := Hid.mk hP
                  clear o12 n12 f12 hT12 hw12 hgr12 hat12 hx12 ho12 hB12 hP
                  refine hK.out _ _ (hHeld.trans (HT12.out.mono (fun k hk => List.mem_cons_of_mem _ hk))) (fun hHeld => ?_)
                  clear hK K
                  try simp only [Act.put, sa, s0, s1]
                  refine tk 13 q1a0_32_6_13 (some 42) (v := ?v30) rfl rfl (by kernel_rfl) hHeld (by rfl) (fun _ _ _ h => h) (fun w h => ?y30) ?_; (case y30 => (try dsimp only at h); go_simp; try (with_reducible rfl)); try simp only [Act.put, sa, s0, s1]
                  refine wpAnyH_ready (rs := [14]) (by kernel_rfl) (by simp) ?_
                  refine (AllReadyH.cons (o := q1a0_32_6_14) rfl (fun K hK => ?_) AllReadyH.nil)
                  · go_simp
                    have hb14 : wE12.heap[gb]? = some (.cells #[.slice ra m_k qa, .slice r9 m.fNames.length q9, .slice r13 m.fSafe.length q13, .int .i64 m.fNext] 27 (0, 0)) := by rw [HT12.out.block gb (by have := HP12.out.size; omega) (fun h => by have := HGE0.out gb h; omega), HP12.out.block gb (by omega)]; exact HGS.out
                    have cb0 : wE12.cell? ⟨gb, 0, none⟩ = some (.slice ra m_k qa) := by rw [cell_of_row _ _ _ _ _ (0, 0) hb14]; rfl
                    have fb0 := frozen_of_row wE12 gb 0 _ _ hb14
                    go_simp
                    obtain ⟨wE14, hq14⟩ : ∃ x, x = wE12.setCell ⟨gb, 0, none⟩ (.slice r12 (m_k + 1) q12) := ⟨_, rfl⟩
                    rw [← hq14]
                    have hgb14 : wE14.heap[gb]? = some (.cells #[.slice r12 (m_k + 1) q12, .slice r9 m.fNames.length q9, .slice r13 m.fSafe.length q13, .int .i64 m.fNext] 27 (0, 0)) := by rw [hq14]; exact heap_setCell_same _ gb 0 _ _ _ hb14
                    have hT14 : Turn [gb] wE12 wE14 := by rw [hq14]; exact Turn.setCell (Turn.refl _ _) (by simp) _
                    have HGB14 := Hid.mk hgb14
                    have HT14 := Hid.mk hT14
                    clear hq14 cb0 fb0 hb14 hgb14 hT14
                    refine hK.out _ _ (hHeld.trans (HT14.out.mono (fun k hk => by simp at hk; simp [hk]))) (fun hHeld => ?_)
                    clear hK K
                    try simp only [Act.put, sa, s0, s1]
                    refine wpAnyH_done (by kernel_rfl) ?_ _
                    have hTe : Turn [gb] w1 wE14 := HTI.out.join hHeld (fun x hx => by rcases List.mem_cons.1 hx with h | h; (exact .inl (by simp [h])); (exact .inr (HGE0.out x h)))
                    have hgn : gb ∉ F12 := fun h => by rcases HF12.out gb h with h1 | h1; (exact hng h1); omega
                    have hoe := ownS.frame (w' := wE14) oInode_good HO12.out (fun b hb => HT14.out.block b (ownS.lt oInode_good HO12.out b hb) (by intro h; simp at h; subst h; exact hgn hb))
                    have hge12 : ∀ b, b ∈ F12 → w1.heap.size ≤ b := fun b hb => by rcases HF12.out b hb with h1 | h1; (exact HGE0.out b h1); omega
                    have htk : m.fInodes.take (k + 1) = m.fInodes.take k ++ [n] := by rw [List.take_succ_eq_append_getElem hlt, HNd.out]
                    have HTKS := Hid.mk htk
                    clear htk hHeld n0 n1 n2
                    go_wp2_with fail
                    go_roundw
                    case rel => exact ⟨k + 1, _, F12, by omega, by go_num, HGB14.out, by rw [HTKS.out]; exact hoe, HN12.out, hge12, hTe⟩
                    case measure => simp [intOf]; omega
        · go_simp
          obtain ⟨wE4, hq4⟩ : ∃ x, x = wS.alloc (.cells #[] 5) := ⟨_, rfl⟩
          have hop4 : Below wS.heap.size wS wE4 := by rw [hq4]; exact (Below.refl _ _).alloc (Nat.le_refl _) _
          have hzz := ((show Below wS.heap.size wS wS from Below.refl _ _)).size
          have hob4 : wE4.ownsRow zS 5 1 (.slice (some ⟨wS.heap.size, 0, none⟩) 0 0) 0 [] := by rw [hq4]; exact own_lit0 _ _ _ _ (Nat.le_trans hzS1 hzz)
          obtain ⟨g4, HG4⟩ : ∃ g, Hid (g = wS.heap.size) := ⟨_, rfl⟩
          rw [← HG4.out] at hob4 ⊢
          rw [← hq4]
          clear hq4 hzz
          refine hK.out _ _ (hHeld.trans (Turn.ofBelow hop4)) (fun hHeld => ?_)
          clear hK K
          try simp only [Act.put, sa, s0, s1]
          refine wpAnyH_ready (rs := [1, 7]) (by kernel_rfl) (by simp) ?_
          refine (AllReadyH.cons (o := q1a0_32_6_1) rfl (fun K hK => ?_) (AllReadyH.cons (o := q1a0_32_6_7) rfl (fun K hK => ?_) AllReadyH.nil))
          · go_simp
            have cl1 : wE4.cell? ⟨gb, 0, none⟩ = some (.slice ra m_k qa) := (((show Below wS.heap.size wS wE4 from bthen (Below.refl _ _) hop4)).cell (p := ⟨gb, 0, none⟩) (by simp; omega)).trans cgS
            go_simp
            obtain ⟨wE1, hq1⟩ : ∃ x, x = wE4 := ⟨_, rfl⟩
            have hop1 : Below wE4.heap.size wE4 wE1 := by rw [hq1]; exact Below.refl _ _
            rw [← hq1]
            clear hq1 cl1
            refine hK.out _ _ (hHeld.trans (Turn.ofBelow hop1)) (fun hHeld => ?_)
            clear hK K
            try simp only [Act.put, sa, s0, s1]
            refine wpAnyH_ready (rs := [7]) (by kernel_rfl) (by simp) ?_
            refine (AllReadyH.cons (o := q1a0_32_6_7) rfl (fun K hK => ?_) AllReadyH.nil)
            · skip
              have hrd7 := ((HDA.out.below (HBI.out.trans ((bthen HSB.out (bthen ((show Below wS.heap.size wS wE1 from bthen (bthen (Below.refl _ _) hop4) hop1)) (Below.refl _ _))).mono HZI.out))).2.2.1)
              refine step_append_lit _ rfl _ _ 22 22 rfl zS 5 iB (.int .u8 0) 1 1 Try.underlying22 hiB hzB0 hzB1 hzB2 rfl g4 rfl (own_below hob4 (show Below wE4.heap.size wE4 wE1 from bthen (Below.refl _ _) hop1)) (.slice ad n.fData.length cd) rfl n.fData.length (n.fData.map (Value.int .u8)) (Src.rd Try.underlying22 rfl hrd7) (by unfold maxLen; omega) (by omega) (Nat.le_trans hzS1 ((show Below wS.heap.size wS wE1 from bthen (bthen (Below.refl _ _) hop4) hop1)).size) ?_
              intro v7 wE7 hw7 hop7 hat7
              obtain ⟨r7, q7, rfl⟩ := own_slice hw7
              have HW7 := Hid.mk hw7
              clear hw7 hrd7 hat7
              refine hK.out _ _ (hHeld.trans (Turn.ofBelow hop7)) (fun hHeld => ?_)
              clear hK K
              try simp only [Act.put, sa, s0, s1]
              refine tk 10 q1a0_32_6_10 (some 39) (v := ?v31) rfl rfl (by kernel_rfl) hHeld (by rfl) (fun _ _ _ h => h) (fun w h => ?y31) ?_; (case y31 => (try dsimp only at h); go_simp; try (with_reducible rfl)); try simp only [Act.put, sa, s0, s1]
              refine wpAnyH_ready (rs := [11]) (by kernel_rfl) (by simp) ?_
              refine (AllReadyH.cons (o := q1a0_32_6_11) rfl (fun K hK => ?_) AllReadyH.nil)
              · go_simp
                obtain ⟨wE11, hq11⟩ : ∃ x, x = wE7.alloc (.cells #[.int .i64 n.fId, .slice r7 n.fData.length q7, .int .i64 n.fSure] 56) := ⟨_, rfl⟩
                have hop11 : Below wE7.heap.size wE7 wE11 := by rw [hq11]; exact (Below.refl _ _).alloc (Nat.le_refl _) _
                have HB11 : Hid (Bx wE11 wE7.heap.size [.int .i64 n.fId, .slice r7 n.fData.length q7, .int .i64 n.fSure]) := by show Bx _ _ _; rw [hq11]; exact Bx.new _ _ _
                obtain ⟨g11, HG11⟩ : ∃ g, Hid (g = wE7.heap.size) := ⟨_, rfl⟩
                rw [← HG11.out] at HB11 ⊢
                rw [← hq11]
                clear hq11
                refine hK.out _ _ (hHeld.trans (Turn.ofBelow hop11)) (fun hHeld => ?_)
                clear hK K
                try simp only [Act.put, sa, s0, s1]
                refine wpAnyH_ready (rs := [12]) (by kernel_rfl) (by simp) ?_
                refine (AllReadyH.cons (o := q1a0_32_6_12) rfl (fun K hK => ?_) AllReadyH.nil)
                · skip
                  have hP := (show Below wS.heap.size wS wE11 from bthen (bthen (bthen (bthen (Below.refl _ _) hop4) hop1) hop7) hop11)
                  have ho12 := ownS.frame (w' := wE11) oInode_good HO.out (fun b hb => (bthen HSB.out hP).block b (by have := HLT.out b hb; omega))
                  obtain ⟨xs12, hx12, hpush⟩ := ownS.push oInode_good ho12 HN0.out
                  have HPUSH := Hid.mk hpush
                  clear hpush
                  have hB12 : Bx wE11 g11 [.int .i64 n.fId, .slice r7 n.fData.length q7, .int .i64 n.fSure] := HB11.out.under ((show Below wE11.heap.size wE11 wE11 from Below.refl _ _))
                  refine step_append_src _ rfl _ _ 24 24 rfl 0 56 iI (.agg #[.int .i64 0, .slice none 0 0, .int .i64 0]) 3 40 Try.underlying24 hiI hzI0 hzI1 hzI2 rfl (.slice ra m_k qa) m_k xs12 rfl (own_congr hx12 HMK.out.symm rfl) (.slice (some ⟨g11, 0, none⟩) 1 1) rfl 1 [.int .i64 n.fId, .slice r7 n.fData.length q7, .int .i64 n.fSure] (Src.ofSlice wE11 Try.underlying24 ⟨g11, 0, none⟩ 1 1 _ rfl (bx_news hB12) (by intro u hu; simp at hu; rcases hu with rfl | rfl | rfl <;> rfl)) (by unfold maxLen; omega) (by omega) (Nat.zero_le _) ?_
                  intro v12 wE12 hw12 hgr12 hat12
                  obtain ⟨r12, q12, rfl⟩ := own_slice hw12
                  have hT12 : Turn F0 wE11 wE12 := Turn.ofGrown hgr12 (fun j hj => HIN.out j hj)
                  have HT12 := Hid.mk hT12
                  have HB7 : Hid (ownB 5 wE11 (.slice r7 n.fData.length q7) n.fData (Value.ownBlock (.slice r7 n.fData.length q7)).toList) := ⟨own_base (own_below HW7.out ((show Below wE7.heap.size wE7 wE11 from bthen (Below.refl _ _) hop11))) (Nat.zero_le _), HDA.out.2.2.2, rfl⟩
                  have HGE7 : Hid (∀ b, b ∈ (Value.ownBlock (.slice r7 n.fData.length q7)).toList → zS ≤ b) := fun b hb => (HW7.out.lt b (by simpa using hb)).1
                  obtain ⟨F12, o12, n12, f12⟩ := HPUSH.out wE12 _ _ n _ (own_congr hw12 (by rw [HMK.out]) rfl) hgr12 hat12 ⟨_, _, rfl, hid, HB7.out, hsu, rfl⟩ (by rw [List.append_nil]; exact nodup_opt _) (fun b hb => by rw [List.append_nil] at hb; have h1 := HGE7.out b hb; intro hb0; have := HLT.out b hb0; omega)
                  have HO12 := Hid.mk o12
                  have HN12 := Hid.mk n12
                  have HF12 : Hid (∀ b, b ∈ F12 → b ∈ F0 ∨ zS ≤ b) := fun b hb => (by rcases f12 b hb with h | h | h; exact .inl h; (exact .inr (HGE7.out b (by simpa using h))); (exact .inr (by rw [h]; exact Nat.le_trans hzS1 hP.size)))
                  have HP12 := Hid.mk hP
                  clear o12 n12 f12 hT12 hw12 hgr12 hat12 hx12 ho12 hB12 hP
                  refine hK.out _ _ (hHeld.trans (HT12.out.mono (fun k hk => List.mem_cons_of_mem _ hk))) (fun hHeld => ?_)
                  clear hK K
                  try simp only [Act.put, sa, s0, s1]
                  refine tk 13 q1a0_32_6_13 (some 42) (v := ?v32) rfl rfl (by kernel_rfl) hHeld (by rfl) (fun _ _ _ h => h) (fun w h => ?y32) ?_; (case y32 => (try dsimp only at h); go_simp; try (with_reducible rfl)); try simp only [Act.put, sa, s0, s1]
                  refine wpAnyH_ready (rs := [14]) (by kernel_rfl) (by simp) ?_
                  refine (AllReadyH.cons (o := q1a0_32_6_14) rfl (fun K hK => ?_) AllReadyH.nil)
                  · go_simp
                    have hb14 : wE12.heap[gb]? = some (.cells #[.slice ra m_k qa, .slice r9 m.fNames.length q9, .slice r13 m.fSafe.length q13, .int .i64 m.fNext] 27 (0, 0)) := by rw [HT12.out.block gb (by have := HP12.out.size; omega) (fun h => by have := HGE0.out gb h; omega), HP12.out.block gb (by omega)]; exact HGS.out
                    have cb0 : wE12.cell? ⟨gb, 0, none⟩ = some (.slice ra m_k qa) := by rw [cell_of_row _ _ _ _ _ (0, 0) hb14]; rfl
                    have fb0 := frozen_of_row wE12 gb 0 _ _ hb14
                    go_simp
                    obtain ⟨wE14, hq14⟩ : ∃ x, x = wE12.setCell ⟨gb, 0, none⟩ (.slice r12 (m_k + 1) q12) := ⟨_, rfl⟩
                    rw [← hq14]
                    have hgb14 : wE14.heap[gb]? = some (.cells #[.slice r12 (m_k + 1) q12, .slice r9 m.fNames.length q9, .slice r13 m.fSafe.length q13, .int .i64 m.fNext] 27 (0, 0)) := by rw [hq14]; exact heap_setCell_same _ gb 0 _ _ _ hb14
                    have hT14 : Turn [gb] wE12 wE14 := by rw [hq14]; exact Turn.setCell (Turn.refl _ _) (by simp) _
                    have HGB14 := Hid.mk hgb14
                    have HT14 := Hid.mk hT14
                    clear hq14 cb0 fb0 hb14 hgb14 hT14
                    refine hK.out _ _ (hHeld.trans (HT14.out.mono (fun k hk => by simp at hk; simp [hk]))) (fun hHeld => ?_)
                    clear hK K
                    try simp only [Act.put, sa, s0, s1]
                    refine wpAnyH_done (by kernel_rfl) ?_ _
                    have hTe : Turn [gb] w1 wE14 := HTI.out.join hHeld (fun x hx => by rcases List.mem_cons.1 hx with h | h; (exact .inl (by simp [h])); (exact .inr (HGE0.out x h)))
                    have hgn : gb ∉ F12 := fun h => by rcases HF12.out gb h with h1 | h1; (exact hng h1); omega
                    have hoe := ownS.frame (w' := wE14) oInode_good HO12.out (fun b hb => HT14.out.block b (ownS.lt oInode_good HO12.out b hb) (by intro h; simp at h; subst h; exact hgn hb))
                    have hge12 : ∀ b, b ∈ F12 → w1.heap.size ≤ b := fun b hb => by rcases HF12.out b hb with h1 | h1; (exact HGE0.out b h1); omega
                    have htk : m.fInodes.take (k + 1) = m.fInodes.take k ++ [n] := by rw [List.take_succ_eq_append_getElem hlt, HNd.out]
                    have HTKS := Hid.mk htk
                    clear htk hHeld n0 n1 n2
                    go_wp2_with fail
                    go_roundw
                    case rel => exact ⟨k + 1, _, F12, by omega, by go_num, HGB14.out, by rw [HTKS.out]; exact hoe, HN12.out, hge12, hTe⟩
                    case measure => simp [intOf]; omega
          · skip
            have hrd7 := ((HDA.out.below (HBI.out.trans ((bthen HSB.out (bthen ((show Below wS.heap.size wS wE4 from bthen (Below.refl _ _) hop4)) (Below.refl _ _))).mono HZI.out))).2.2.1)
            refine step_append_lit _ rfl _ _ 22 22 rfl zS 5 iB (.int .u8 0) 1 1 Try.underlying22 hiB hzB0 hzB1 hzB2 rfl g4 rfl (own_below hob4 (show Below wE4.heap.size wE4 wE4 from Below.refl _ _)) (.slice ad n.fData.length cd) rfl n.fData.length (n.fData.map (Value.int .u8)) (Src.rd Try.underlying22 rfl hrd7) (by unfold maxLen; omega) (by omega) (Nat.le_trans hzS1 ((show Below wS.heap.size wS wE4 from bthen (Below.refl _ _) hop4)).size) ?_
            intro v7 wE7 hw7 hop7 hat7
            obtain ⟨r7, q7, rfl⟩ := own_slice hw7
            have HW7 := Hid.mk hw7
            clear hw7 hrd7 hat7
            refine hK.out _ _ (hHeld.trans (Turn.ofBelow hop7)) (fun hHeld => ?_)
            clear hK K
            try simp only [Act.put, sa, s0, s1]
            refine tk 10 q1a0_32_6_10 (some 39) (v := ?v33) rfl rfl (by kernel_rfl) hHeld (by rfl) (fun _ _ _ h => h) (fun w h => ?y33) ?_; (case y33 => (try dsimp only at h); go_simp; try (with_reducible rfl)); try simp only [Act.put, sa, s0, s1]
            refine wpAnyH_ready (rs := [1, 11]) (by kernel_rfl) (by simp) ?_
            refine (AllReadyH.cons (o := q1a0_32_6_1) rfl (fun K hK => ?_) (AllReadyH.cons (o := q1a0_32_6_11) rfl (fun K hK => ?_) AllReadyH.nil))
            · go_simp
              have cl1 : wE7.cell? ⟨gb, 0, none⟩ = some (.slice ra m_k qa) := (((show Below wS.heap.size wS wE7 from bthen (bthen (Below.refl _ _) hop4) hop7)).cell (p := ⟨gb, 0, none⟩) (by simp; omega)).trans cgS
              go_simp
              obtain ⟨wE1, hq1⟩ : ∃ x, x = wE7 := ⟨_, rfl⟩
              have hop1 : Below wE7.heap.size wE7 wE1 := by rw [hq1]; exact Below.refl _ _
              rw [← hq1]
              clear hq1 cl1
              refine hK.out _ _ (hHeld.trans (Turn.ofBelow hop1)) (fun hHeld => ?_)
              clear hK K
              try simp only [Act.put, sa, s0, s1]
              refine wpAnyH_ready (rs := [11]) (by kernel_rfl) (by simp) ?_
              refine (AllReadyH.cons (o := q1a0_32_6_11) rfl (fun K hK => ?_) AllReadyH.nil)
              · go_simp
                obtain ⟨wE11, hq11⟩ : ∃ x, x = wE1.alloc (.cells #[.int .i64 n.fId, .slice r7 n.fData.length q7, .int .i64 n.fSure] 56) := ⟨_, rfl⟩
                have hop11 : Below wE1.heap.size wE1 wE11 := by rw [hq11]; exact (Below.refl _ _).alloc (Nat.le_refl _) _
                have HB11 : Hid (Bx wE11 wE1.heap.size [.int .i64 n.fId, .slice r7 n.fData.length q7, .int .i64 n.fSure]) := by show Bx _ _ _; rw [hq11]; exact Bx.new _ _ _
                obtain ⟨g11, HG11⟩ : ∃ g, Hid (g = wE1.heap.size) := ⟨_, rfl⟩
                rw [← HG11.out] at HB11 ⊢
                rw [← hq11]
                clear hq11
                refine hK.out _ _ (hHeld.trans (Turn.ofBelow hop11)) (fun hHeld => ?_)
                clear hK K
                try simp only [Act.put, sa, s0, s1]
                refine wpAnyH_ready (rs := [12]) (by kernel_rfl) (by simp) ?_
                refine (AllReadyH.cons (o := q1a0_32_6_12) rfl (fun K hK => ?_) AllReadyH.nil)
                · skip
                  have hP := (show Below wS.heap.size wS wE11 from bthen (bthen (bthen (bthen (Below.refl _ _) hop4) hop7) hop1) hop11)
                  have ho12 := ownS.frame (w' := wE11) oInode_good HO.out (fun b hb => (bthen HSB.out hP).block b (by have := HLT.out b hb; omega))
                  obtain ⟨xs12, hx12, hpush⟩ := ownS.push oInode_good ho12 HN0.out
                  have HPUSH := Hid.mk hpush
                  clear hpush
                  have hB12 : Bx wE11 g11 [.int .i64 n.fId, .slice r7 n.fData.length q7, .int .i64 n.fSure] := HB11.out.under ((show Below wE11.heap.size wE11 wE11 from Below.refl _ _))
                  refine step_append_src _ rfl _ _ 24 24 rfl 0 56 iI (.agg #[.int .i64 0, .slice none 0 0, .int .i64 0]) 3 40 Try.underlying24 hiI hzI0 hzI1 hzI2 rfl (.slice ra m_k qa) m_k xs12 rfl (own_congr hx12 HMK.out.symm rfl) (.slice (some ⟨g11, 0, none⟩) 1 1) rfl 1 [.int .i64 n.fId, .slice r7 n.fData.length q7, .int .i64 n.fSure] (Src.ofSlice wE11 Try.underlying24 ⟨g11, 0, none⟩ 1 1 _ rfl (bx_news hB12) (by intro u hu; simp at hu; rcases hu with rfl | rfl | rfl <;> rfl)) (by unfold maxLen; omega) (by omega) (Nat.zero_le _) ?_
                  intro v12 wE12 hw12 hgr12 hat12
                  obtain ⟨r12, q12, rfl⟩ := own_slice hw12
                  have hT12 : Turn F0 wE11 wE12 := Turn.ofGrown hgr12 (fun j hj => HIN.out j hj)
                  have HT12 := Hid.mk hT12
                  have HB7 : Hid (ownB 5 wE11 (.slice r7 n.fData.length q7) n.fData (Value.ownBlock (.slice r7 n.fData.length q7)).toList) := ⟨own_base (own_below HW7.out ((show Below wE7.heap.size wE7 wE11 from bthen (bthen (Below.refl _ _) hop1) hop11))) (Nat.zero_le _), HDA.out.2.2.2, rfl⟩
                  have HGE7 : Hid (∀ b, b ∈ (Value.ownBlock (.slice r7 n.fData.length q7)).toList → zS ≤ b) := fun b hb => (HW7.out.lt b (by simpa using hb)).1
                  obtain ⟨F12, o12, n12, f12⟩ := HPUSH.out wE12 _ _ n _ (own_congr hw12 (by rw [HMK.out]) rfl) hgr12 hat12 ⟨_, _, rfl, hid, HB7.out, hsu, rfl⟩ (by rw [List.append_nil]; exact nodup_opt _) (fun b hb => by rw [List.append_nil] at hb; have h1 := HGE7.out b hb; intro hb0; have := HLT.out b hb0; omega)
                  have HO12 := Hid.mk o12
                  have HN12 := Hid.mk n12
                  have HF12 : Hid (∀ b, b ∈ F12 → b ∈ F0 ∨ zS ≤ b) := fun b hb => (by rcases f12 b hb with h | h | h; exact .inl h; (exact .inr (HGE7.out b (by simpa using h))); (exact .inr (by rw [h]; exact Nat.le_trans hzS1 hP.size)))
                  have HP12 := Hid.mk hP
                  clear o12 n12 f12 hT12 hw12 hgr12 hat12 hx12 ho12 hB12 hP
                  refine hK.out _ _ (hHeld.trans (HT12.out.mono (fun k hk => List.mem_cons_of_mem _ hk))) (fun hHeld => ?_)
                  clear hK K
                  try simp only [Act.put, sa, s0, s1]
                  refine tk 13 q1a0_32_6_13 (some 42) (v := ?v34) rfl rfl (by kernel_rfl) hHeld (by rfl) (fun _ _ _ h => h) (fun w h => ?y34) ?_; (case y34 => (try dsimp only at h); go_simp; try (with_reducible rfl)); try simp only [Act.put, sa, s0, s1]
                  refine wpAnyH_ready (rs := [14]) (by kernel_rfl) (by simp) ?_
                  refine (AllReadyH.cons (o := q1a0_32_6_14) rfl (fun K hK => ?_) AllReadyH.nil)
                  · go_simp
                    have hb14 : wE12.heap[gb]? = some (.cells #[.slice ra m_k qa, .slice r9 m.fNames.length q9, .slice r13 m.fSafe.length q13, .int .i64 m.fNext] 27 (0, 0)) := by rw [HT12.out.block gb (by have := HP12.out.size; omega) (fun h => by have := HGE0.out gb h; omega), HP12.out.block gb (by omega)]; exact HGS.out
                    have cb0 : wE12.cell? ⟨gb, 0, none⟩ = some (.slice ra m_k qa) := by rw [cell_of_row _ _ _ _ _ (0, 0) hb14]; rfl
                    have fb0 := frozen_of_row wE12 gb 0 _ _ hb14
                    go_simp
                    obtain ⟨wE14, hq14⟩ : ∃ x, x = wE12.setCell ⟨gb, 0, none⟩ (.slice r12 (m_k + 1) q12) := ⟨_, rfl⟩
                    rw [← hq14]
                    have hgb14 : wE14.heap[gb]? = some (.cells #[.slice r12 (m_k + 1) q12, .slice r9 m.fNames.length q9, .slice r13 m.fSafe.length q13, .int .i64 m.fNext] 27 (0, 0)) := by rw [hq14]; exact heap_setCell_same _ gb 0 _ _ _ hb14
                    have hT14 : Turn [gb] wE12 wE14 := by rw [hq14]; exact Turn.setCell (Turn.refl _ _) (by simp) _
                    have HGB14 := Hid.mk hgb14
                    have HT14 := Hid.mk hT14
                    clear hq14 cb0 fb0 hb14 hgb14 hT14
                    refine hK.out _ _ (hHeld.trans (HT14.out.mono (fun k hk => by simp at hk; simp [hk]))) (fun hHeld => ?_)
                    clear hK K
                    try simp only [Act.put, sa, s0, s1]
                    refine wpAnyH_done (by kernel_rfl) ?_ _
                    have hTe : Turn [gb] w1 wE14 := HTI.out.join hHeld (fun x hx => by rcases List.mem_cons.1 hx with h | h; (exact .inl (by simp [h])); (exact .inr (HGE0.out x h)))
                    have hgn : gb ∉ F12 := fun h => by rcases HF12.out gb h with h1 | h1; (exact hng h1); omega
                    have hoe := ownS.frame (w' := wE14) oInode_good HO12.out (fun b hb => HT14.out.block b (ownS.lt oInode_good HO12.out b hb) (by intro h; simp at h; subst h; exact hgn hb))
                    have hge12 : ∀ b, b ∈ F12 → w1.heap.size ≤ b := fun b hb => by rcases HF12.out b hb with h1 | h1; (exact HGE0.out b h1); omega
                    have htk : m.fInodes.take (k + 1) = m.fInodes.take k ++ [n] := by rw [List.take_succ_eq_append_getElem hlt, HNd.out]
                    have HTKS := Hid.mk htk
                    clear htk hHeld n0 n1 n2
                    go_wp2_with fail
                    go_roundw
                    case rel => exact ⟨k + 1, _, F12, by omega, by go_num, HGB14.out, by rw [HTKS.out]; exact hoe, HN12.out, hge12, hTe⟩
                    case measure => simp [intOf]; omega
            · go_simp
              obtain ⟨wE11, hq11⟩ : ∃ x, x = wE7.alloc (.cells #[.int .i64 n.fId, .slice r7 n.fData.length q7, .int .i64 n.fSure] 56) := ⟨_, rfl⟩
              have hop11 : Below wE7.heap.size wE7 wE11 := by rw [hq11]; exact (Below.refl _ _).alloc (Nat.le_refl _) _
              have HB11 : Hid (Bx wE11 wE7.heap.size [.int .i64 n.fId, .slice r7 n.fData.length q7, .int .i64 n.fSure]) := by show Bx _ _ _; rw [hq11]; exact Bx.new _ _ _
              obtain ⟨g11, HG11⟩ : ∃ g, Hid (g = wE7.heap.size) := ⟨_, rfl⟩
              rw [← HG11.out] at HB11 ⊢
              rw [← hq11]
              clear hq11
              refine hK.out _ _ (hHeld.trans (Turn.ofBelow hop11)) (fun hHeld => ?_)
              clear hK K
              try simp only [Act.put, sa, s0, s1]
              refine wpAnyH_ready (rs := [1]) (by kernel_rfl) (by simp) ?_
              refine (AllReadyH.cons (o := q1a0_32_6_1) rfl (fun K hK => ?_) AllReadyH.nil)
              · go_simp
                have cl1 : wE11.cell? ⟨gb, 0, none⟩ = some (.slice ra m_k qa) := (((show Below wS.heap.size wS wE11 from bthen (bthen (bthen (Below.refl _ _) hop4) hop7) hop11)).cell (p := ⟨gb, 0, none⟩) (by simp; omega)).trans cgS
                go_simp
                obtain ⟨wE1, hq1⟩ : ∃ x, x = wE11 := ⟨_, rfl⟩
                have hop1 : Below wE11.heap.size wE11 wE1 := by rw [hq1]; exact Below.refl _ _
                rw [← hq1]
                clear hq1 cl1
                refine hK.out _ _ (hHeld.trans (Turn.ofBelow hop1)) (fun hHeld => ?_)
                clear hK K
                try simp only [Act.put, sa, s0, s1]
                refine wpAnyH_ready (rs := [12]) (by kernel_rfl) (by simp) ?_
                refine (AllReadyH.cons (o := q1a0_32_6_12) rfl (fun K hK => ?_) AllReadyH.nil)
                · skip
                  have hP := (show Below wS.heap.size wS wE1 from bthen (bthen (bthen (bthen (Below.refl _ _) hop4) hop7) hop11) hop1)
                  have ho12 := ownS.frame (w' := wE1) oInode_good HO.out (fun b hb => (bthen HSB.out hP).block b (by have := HLT.out b hb; omega))
                  obtain ⟨xs12, hx12, hpush⟩ := ownS.push oInode_good ho12 HN0.out
                  have HPUSH := Hid.mk hpush
                  clear hpush
                  have hB12 : Bx wE1 g11 [.int .i64 n.fId, .slice r7 n.fData.length q7, .int .i64 n.fSure] := HB11.out.under ((show Below wE11.heap.size wE11 wE1 from bthen (Below.refl _ _) hop1))
                  refine step_append_src _ rfl _ _ 24 24 rfl 0 56 iI (.agg #[.int .i64 0, .slice none 0 0, .int .i64 0]) 3 40 Try.underlying24 hiI hzI0 hzI1 hzI2 rfl (.slice ra m_k qa) m_k xs12 rfl (own_congr hx12 HMK.out.symm rfl) (.slice (some ⟨g11, 0, none⟩) 1 1) rfl 1 [.int .i64 n.fId, .slice r7 n.fData.length q7, .int .i64 n.fSure] (Src.ofSlice wE1 Try.underlying24 ⟨g11, 0, none⟩ 1 1 _ rfl (bx_news hB12) (by intro u hu; simp at hu; rcases hu with rfl | rfl | rfl <;> rfl)) (by unfold maxLen; omega) (by omega) (Nat.zero_le _) ?_
                  intro v12 wE12 hw12 hgr12 hat12
                  obtain ⟨r12, q12, rfl⟩ := own_slice hw12
                  have hT12 : Turn F0 wE1 wE12 := Turn.ofGrown hgr12 (fun j hj => HIN.out j hj)
                  have HT12 := Hid.mk hT12
                  have HB7 : Hid (ownB 5 wE1 (.slice r7 n.fData.length q7) n.fData (Value.ownBlock (.slice r7 n.fData.length q7)).toList) := ⟨own_base (own_below HW7.out ((show Below wE7.heap.size wE7 wE1 from bthen (bthen (Below.refl _ _) hop11) hop1))) (Nat.zero_le _), HDA.out.2.2.2, rfl⟩
                  have HGE7 : Hid (∀ b, b ∈ (Value.ownBlock (.slice r7 n.fData.length q7)).toList → zS ≤ b) := fun b hb => (HW7.out.lt b (by simpa using hb)).1
                  obtain ⟨F12, o12, n12, f12⟩ := HPUSH.out wE12 _ _ n _ (own_congr hw12 (by rw [HMK.out]) rfl) hgr12 hat12 ⟨_, _, rfl, hid, HB7.out, hsu, rfl⟩ (by rw [List.append_nil]; exact nodup_opt _) (fun b hb => by rw [List.append_nil] at hb; have h1 := HGE7.out b hb; intro hb0; have := HLT.out b hb0; omega)
                  have HO12 := Hid.mk o12
                  have HN12 := Hid.mk n12
                  have HF12 : Hid (∀ b, b ∈ F12 → b ∈ F0 ∨ zS ≤ b) := fun b hb => (by rcases f12 b hb with h | h | h; exact .inl h; (exact .inr (HGE7.out b (by simpa using h))); (exact .inr (by rw [h]; exact Nat.le_trans hzS1 hP.size)))
                  have HP12 := Hid.mk hP
                  clear o12 n12 f12 hT12 hw12 hgr12 hat12 hx12 ho12 hB12 hP
                  refine hK.out _ _ (hHeld.trans (HT12.out.mono (fun k hk => List.mem_cons_of_mem _ hk))) (fun hHeld => ?_)
                  clear hK K
                  try simp only [Act.put, sa, s0, s1]
                  refine tk 13 q1a0_32_6_13 (some 42) (v := ?v35) rfl rfl (by kernel_rfl) hHeld (by rfl) (fun _ _ _ h => h) (fun w h => ?y35) ?_; (case y35 => (try dsimp only at h); go_simp; try (with_reducible rfl)); try simp only [Act.put, sa, s0, s1]
                  refine wpAnyH_ready (rs := [14]) (by kernel_rfl) (by simp) ?_
                  refine (AllReadyH.cons (o := q1a0_32_6_14) rfl (fun K hK => ?_) AllReadyH.nil)
                  · go_simp
                    have hb14 : wE12.heap[gb]? = some (.cells #[.slice ra m_k qa, .slice r9 m.fNames.length q9, .slice r13 m.fSafe.length q13, .int .i64 m.fNext] 27 (0, 0)) := by rw [HT12.out.block gb (by have := HP12.out.size; omega) (fun h => by have := HGE0.out gb h; omega), HP12.out.block gb (by omega)]; exact HGS.out
                    have cb0 : wE12.cell? ⟨gb, 0, none⟩ = some (.slice ra m_k qa) := by rw [cell_of_row _ _ _ _ _ (0, 0) hb14]; rfl
                    have fb0 := frozen_of_row wE12 gb 0 _ _ hb14
                    go_simp
                    obtain ⟨wE14, hq14⟩ : ∃ x, x = wE12.setCell ⟨gb, 0, none⟩ (.slice r12 (m_k + 1) q12) := ⟨_, rfl⟩
                    rw [← hq14]
                    have hgb14 : wE14.heap[gb]? = some (.cells #[.slice r12 (m_k + 1) q12, .slice r9 m.fNames.length q9, .slice r13 m.fSafe.length q13, .int .i64 m.fNext] 27 (0, 0)) := by rw [hq14]; exact heap_setCell_same _ gb 0 _ _ _ hb14
                    have hT14 : Turn [gb] wE12 wE14 := by rw [hq14]; exact Turn.setCell (Turn.refl _ _) (by simp) _
                    have HGB14 := Hid.mk hgb14
                    have HT14 := Hid.mk hT14
                    clear hq14 cb0 fb0 hb14 hgb14 hT14
                    refine hK.out _ _ (hHeld.trans (HT14.out.mono (fun k hk => by simp at hk; simp [hk]))) (fun hHeld => ?_)
                    clear hK K
                    try simp only [Act.put, sa, s0, s1]
                    refine wpAnyH_done (by kernel_rfl) ?_ _
                    have hTe : Turn [gb] w1 wE14 := HTI.out.join hHeld (fun x hx => by rcases List.mem_cons.1 hx with h | h; (exact .inl (by simp [h])); (exact .inr (HGE0.out x h)))
                    have hgn : gb ∉ F12 := fun h => by rcases HF12.out gb h with h1 | h1; (exact hng h1); omega
                    have hoe := ownS.frame (w' := wE14) oInode_good HO12.out (fun b hb => HT14.out.block b (ownS.lt oInode_good HO12.out b hb) (by intro h; simp at h; subst h; exact hgn hb))
                    have hge12 : ∀ b, b ∈ F12 → w1.heap.size ≤ b := fun b hb => by rcases HF12.out b hb with h1 | h1; (exact HGE0.out b h1); omega
                    have htk : m.fInodes.take (k + 1) = m.fInodes.take k ++ [n] := by rw [List.take_succ_eq_append_getElem hlt, HNd.out]
                    have HTKS := Hid.mk htk
                    clear htk hHeld n0 n1 n2
                    go_wp2_with fail
                    go_roundw
                    case rel => exact ⟨k + 1, _, F12, by omega, by go_num, HGB14.out, by rw [HTKS.out]; exact hoe, HN12.out, hge12, hTe⟩
                    case measure => simp [intOf]; omega
      · have hkn : k = m.fInodes.length := by omega
        subst hkn
        have hr2 : wr.heap[w.heap.size + 1]? = some (.cells #[.slice none 0 0, .slice none 0 0, .slice none 0 0, .int .i64 0] 27 (0, 0)) := by
          rw [HTK.out.block _ (by omega) (by simp; omega), HB1.out.block _ hQ2]
          exact HRES.out
        have e0 : wr.cell? ⟨w.heap.size + 1, 0, none⟩ = some (.slice none 0 0) := by rw [cell_of_row _ _ _ _ _ (0, 0) hr2]; rfl
        have f0 := frozen_of_row wr (w.heap.size + 1) 0 _ _ hr2
        have z0 : wr.cell? ⟨gb, 0, none⟩ = some (.slice ra m_k qa) := by rw [cell_of_row _ _ _ _ _ (0, 0) HGK.out]; rfl
        have e1 : wr.cell? ⟨w.heap.size + 1, 1, none⟩ = some (.slice none 0 0) := by rw [cell_of_row _ _ _ _ _ (0, 0) hr2]; rfl
        have f1 := frozen_of_row wr (w.heap.size + 1) 1 _ _ hr2
        have z1 : wr.cell? ⟨gb, 1, none⟩ = some (.slice r9 m.fNames.length q9) := by rw [cell_of_row _ _ _ _ _ (0, 0) HGK.out]; rfl
        have e2 : wr.cell? ⟨w.heap.size + 1, 2, none⟩ = some (.slice none 0 0) := by rw [cell_of_row _ _ _ _ _ (0, 0) hr2]; rfl
        have f2 := frozen_of_row wr (w.heap.size + 1) 2 _ _ hr2
        have z2 : wr.cell? ⟨gb, 2, none⟩ = some (.slice r13 m.fSafe.length q13) := by rw [cell_of_row _ _ _ _ _ (0, 0) HGK.out]; rfl
        have e3 : wr.cell? ⟨w.heap.size + 1, 3, none⟩ = some (.int .i64 0) := by rw [cell_of_row _ _ _ _ _ (0, 0) hr2]; rfl
        have f3 := frozen_of_row wr (w.heap.size + 1) 3 _ _ hr2
        have z3 : wr.cell? ⟨gb, 3, none⟩ = some (.int .i64 m.fNext) := by rw [cell_of_row _ _ _ _ _ (0, 0) HGK.out]; rfl
        have hAbv : Above (w.heap.size + 2) wr ((((wr.setCell ⟨w.heap.size + 1, 0, none⟩ (.slice ra m_k qa)).setCell ⟨w.heap.size + 1, 1, none⟩ (.slice r9 m.fNames.length q9)).setCell ⟨w.heap.size + 1, 2, none⟩ (.slice r13 m.fSafe.length q13)).setCell ⟨w.heap.size + 1, 3, none⟩ (.int .i64 m.fNext)) := (((((Above.refl _ _).setCell (by simp) _).setCell (by simp) _).setCell (by simp) _).setCell (by simp) _)
        have hbR := Turn.under HBA.out hTk (fun k hk => by simp at hk; omega)
        have htl : m.fInodes.take m.fInodes.length = m.fInodes := List.take_length
        rw [htl] at HO0
        have HAB := Hid.mk hAbv
        clear hr2 hAbv htl
        go_wp2_with fail
        have hAbv := HAB.out
        refine bodyPost_ret (v := .agg #[.slice ra m_k qa, .slice r9 m.fNames.length q9, .slice r13 m.fSafe.length q13, .int .i64 m.fNext]) (by simp [results, Try.results32, go_sem, *]) rfl ⟨[.slice ra m_k qa, .slice r9 m.fNames.length q9, .slice r13 m.fSafe.length q13, .int .i64 m.fNext], F0 ++ F1 ++ F2 ++ [], rfl, ?_, ?_, ?_, ?_⟩
        · refine ⟨_, F0, _, F1, _, F2, rfl, ?_, ?_, ?_, hnx, rfl⟩
          · exact ownS.frame oInode_good HO0.out (fun b hb => hAbv.block b (by have := HGE0.out b hb; omega) (HLT0.out b hb))
          · refine ownS.frame oEntry_good HON.out (fun b hb => ?_)
            have h1 := HFG.out b (List.mem_append_left _ hb)
            have h2 := ownS.lt oEntry_good HON.out b hb
            rw [hAbv.block b (by omega) (by omega), HTK.out.block b h2 (by simp; omega)]
          · refine ownS.frame oEntry_good HOS.out (fun b hb => ?_)
            have h1 := HFG.out b (List.mem_append_right _ hb)
            have h2 := ownS.lt oEntry_good HOS.out b hb
            rw [hAbv.block b (by omega) (by omega), HTK.out.block b h2 (by simp; omega)]
        · rw [List.append_nil, List.append_assoc]
          refine List.nodup_append.2 ⟨HN0.out, HFN.out, fun x hx y hy hxy => ?_⟩
          subst hxy
          have h1 := HGE0.out x hx
          have h2 : x < w1.heap.size := by
            rcases List.mem_append.1 hy with h | h
            · exact ownS.lt oEntry_good HON.out x h
            · exact ownS.lt oEntry_good HOS.out x h
          omega
        · intro b hb
          rw [List.append_nil, List.append_assoc, List.mem_append] at hb
          rcases hb with hb | hb
          · have := HGE0.out b hb; omega
          · have := HFG.out b hb; omega
        · repeat (first | with_reducible exact hbR | refine Below.setCell ?_ (by simp) _)

end Go.Proofs.Ytmbobjhplkpfoaa
