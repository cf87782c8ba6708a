/-
  The program's pair behind its key.
-/
import Derived.Test.YtjaaaopbidmknaaDoorRegK
import Derived.Test.YtjaaaopbidmknaaDoorBlkS
import Derived.Test.YtjaaaopbidmknaaDoorPutT
namespace Go.Proofs.YtjaaaopbidmknaaDoor
open Go.RowKit
set_option linter.unusedVariables false
set_option linter.unusedSimpArgs false
set_option maxRecDepth 10000
abbrev qb34_117_4_0 : Oper := ⟨some 10, .move (.tmp 0), 27, "l05_table.go:165", #[], none⟩
abbrev qb34_117_4_1 : Oper := ⟨some 11, .move (.tmp 1), 9, "l05_table.go:165", #[], none⟩
abbrev qb34_117_4_3 : Oper := ⟨some 13, .move (.tmp 7), 5, "l05_table.go:165", #[], none⟩
abbrev qb34_117_4_6 : Oper := ⟨some 16, .fieldAddr 45 (.tmp 5) 1, 0, "l05_table.go:165", #[], none⟩
abbrev qb34_117_4_7 : Oper := ⟨some 17, .load 9 (.tmp 16), 9, "l05_table.go:165", #[⟨6, .data⟩], none⟩
abbrev qb34_117_4_4 : Oper := ⟨some 14, .buildSlice 27 1 #[(0, .tmp 13)], 27, "l05_table.go:165", #[⟨3, .data⟩], none⟩
abbrev qb34_117_4_2 : Oper := ⟨some 12, .call { callee := .value (.func 118), args := #[.tmp 10, .tmp 11], argTypes := #[27, 9] }, 27, "l05_table.go:165", #[⟨0, .data⟩, ⟨1, .data⟩], none⟩
abbrev qb34_117_4_5 : Oper := ⟨some 15, .call { callee := .builtin .append, args := #[.tmp 12, .tmp 14], argTypes := #[27, 27] }, 27, "l05_table.go:165", #[⟨2, .data⟩, ⟨4, .data⟩, ⟨2, .chain⟩], none⟩
abbrev qb34_117_4_8 : Oper := ⟨some 18, .call { callee := .value (.func 118), args := #[.tmp 15, .tmp 17], argTypes := #[27, 9] }, 27, "l05_table.go:165", #[⟨5, .data⟩, ⟨7, .data⟩, ⟨5, .chain⟩], none⟩
abbrev qb34_117_4_9 : Oper := ⟨some 6, .assign (.tmp 18), 27, "l05_table.go:165", #[⟨8, .data⟩, ⟨8, .chain⟩, ⟨0, .phase⟩, ⟨1, .phase⟩, ⟨2, .phase⟩, ⟨3, .phase⟩, ⟨4, .phase⟩, ⟨5, .phase⟩, ⟨6, .phase⟩, ⟨7, .phase⟩, ⟨8, .phase⟩], none⟩

set_option maxHeartbeats 4000000 in
theorem putPair_any (a : Option Addr) (n cap : Nat) (zs : List Int) (s : ByteArray) (p : MPair) (w : World) (hx : zs.length = n) (hlen : n ≤ 100000000) (hr : Rd .u8 w.heap.size w a zs) (hs : s.size ≤ 1048576) (hsv : p.fVal.size ≤ 1048576) :
    Calls Tryd.prog 117 #[.slice a n cap, .string s, .agg #[.string p.fKey, .string p.fVal, .bool p.fGone]] w fun e w' => ∃ v, e = .returned v ∧
      w'.ownsRow w.heap.size 5 1 v (putText (putText zs s ++ [goneI p]) p.fVal).length ((putText (putText zs s ++ [goneI p]) p.fVal).map (Value.int .u8)) ∧ Below w.heap.size w w' := by
  obtain ⟨i0, hi, hz0, hz1, hz2⟩ := info_parts Tryd.info5
  have HI := Hid.mk (show _ ∧ _ ∧ _ ∧ _ from ⟨hi, hz0, hz1, hz2⟩)
  have HG : Hid (goneI p = if p.fGone then 1 else 0) := rfl
  obtain ⟨wq, hwq⟩ : ∃ x, x = w.alloc (.cells #[.string p.fKey, .string p.fVal, .bool p.fGone] 45) := ⟨_, rfl⟩
  have hbq : Below w.heap.size w wq := by rw [hwq]; exact (Below.refl _ _).alloc (Nat.le_refl _) _
  have hbx : Bx wq w.heap.size [.string p.fKey, .string p.fVal, .bool p.fGone] := by rw [hwq]; exact Bx.new _ _ _
  have HWQ := Hid.mk hwq
  clear hwq
  have hlq : w.heap.size < wq.heap.size := hbx.1
  have k1 := hbx.2 1 _ rfl
  have k2 := hbx.2 2 _ rfl
  have HC1 : Hid (∀ W, Below wq.heap.size wq W → W.cell? ⟨w.heap.size, 1, none⟩ = some (.string p.fVal)) := fun W hW => (hW.cell (p := ⟨w.heap.size, 1, none⟩) hlq).trans k1
  have HX := Hid.mk hx
  have HR := Hid.mk ((hr.below hbq).mono hbq.size)
  obtain ⟨z2, HZ2⟩ : ∃ z, Hid (z = putText zs s) := ⟨_, rfl⟩
  have hl2 : z2.length ≤ 102000000 := by rw [HZ2.out]; have := putText_len zs s; omega
  obtain ⟨z4, HZ4⟩ : ∃ z, Hid (z = z2 ++ [goneI p]) := ⟨_, rfl⟩
  have hl4 : z4.length ≤ 102000001 := by rw [HZ4.out, List.length_append]; simp; omega
  clear hx hi hz0 hz1 hz2 hr hbx
  go_enter Tryd.func117, Tryd.ntmps117
  rcases hgo : p.fGone with _ | _
  · rw [hgo] at HWQ
    go_wp2_with fail
    rw [← HWQ.out]
    have HG2 : Hid (goneI p = 0) := by unfold Hid; rw [HG.out, hgo]; rfl
    rw [hgo] at k2
    go_wp2_with fail
    refine wp_region_held_drew (S := fun W => W.cell? ⟨w.heap.size, 1, none⟩ = some (.string p.fVal) ∧ Below wq.heap.size wq W) (by kernel_rfl) (⟨k1, Below.drew (Below.refl _ _)⟩) (fun hHeld => ?_)
    obtain ⟨wS, hwS⟩ : ∃ wS, wS = wq.drew := ⟨_, rfl⟩
    rw [← hwS] at hHeld ⊢
    clear hwS
    refine tk 0 qb34_117_4_0 (some 10) (v := ?v1) rfl rfl (by kernel_rfl) hHeld (by rfl) (fun _ _ _ x => x) (fun w h => ?y1) ?_; (case y1 => (try dsimp only at h); go_simp; try (with_reducible rfl)); try simp only [Act.put, sa, s0, s1]
    refine tk 1 qb34_117_4_1 (some 11) (v := ?v2) rfl rfl (by kernel_rfl) hHeld (by rfl) (fun _ _ _ x => x) (fun w h => ?y2) ?_; (case y2 => (try dsimp only at h); go_simp; try (with_reducible rfl)); try simp only [Act.put, sa, s0, s1]
    refine tk 3 qb34_117_4_3 (some 13) (v := ?v3) rfl rfl (by kernel_rfl) hHeld (by rfl) (fun _ _ _ x => x) (fun w h => ?y3) ?_; (case y3 => (try dsimp only at h); go_simp; try (with_reducible rfl)); try simp only [Act.put, sa, s0, s1]
    refine tk 6 qb34_117_4_6 (some 16) (v := ?v4) rfl rfl (by kernel_rfl) hHeld (by rfl) (fun _ _ _ x => x) (fun w h => ?y4) ?_; (case y4 => (try dsimp only at h); go_simp; try (with_reducible rfl)); try simp only [Act.put, sa, s0, s1]
    refine tk 7 qb34_117_4_7 (some 17) (v := ?v5) rfl rfl (by kernel_rfl) hHeld (by rfl) (fun _ _ _ x => x) (fun w h => ?y5) ?_; (case y5 => (try dsimp only at h); go_simp; try (with_reducible rfl)); try simp only [Act.put, sa, s0, s1]
    refine wpAnyH_ready (rs := [2, 4]) (by kernel_rfl) (by simp) ?_
    refine (AllReadyH.cons (o := qb34_117_4_2) rfl (fun K hK => ?_) (AllReadyH.cons (o := qb34_117_4_4) rfl (fun K hK => ?_) AllReadyH.nil))
    · go_simp
      refine Calls.mono (implPutText_R a n cap zs s wS HX.out (by omega) ((HR.out.below hHeld.2).mono hHeld.2.size) (by omega)) ?_
      rintro e wE2 ⟨v2, rfl, ho2, hop2⟩
      rw [← HZ2.out] at ho2
      have HB2 := hHeld.2.trans (hop2.mono hHeld.2.size)
      have ho2' := own_base ho2 hHeld.2.size
      obtain ⟨r2, q2, rfl, _, _⟩ := own_rd rfl ho2'
      have HO2 := Hid.mk ho2'
      clear ho2 ho2'
      go_wp2_with fail
      refine hK.out _ _ (⟨HC1.out _ HB2, HB2⟩) (fun hHeld => ?_)
      clear hK K
      try simp only [Act.put, sa, s0, s1]
      refine wpAnyH_ready (rs := [4]) (by kernel_rfl) (by simp) ?_
      refine (AllReadyH.cons (o := qb34_117_4_4) rfl (fun K hK => ?_) AllReadyH.nil)
      · go_simp
        obtain ⟨wE4, hq4⟩ : ∃ x, x = wE2.alloc (.cells #[.int .u8 0] 5) := ⟨_, rfl⟩
        have hop4 : Below wE2.heap.size wE2 wE4 := by rw [hq4]; exact (Below.refl _ _).alloc (Nat.le_refl _) _
        have HB4 := hHeld.2.trans (hop4.mono hHeld.2.size)
        obtain ⟨g4, HG4⟩ : ∃ g, Hid (g = wE2.heap.size) := ⟨_, rfl⟩
        have HR4 : Hid (Rd .u8 wE4.heap.size wE4 (some ⟨g4, 0, none⟩) [0]) := by unfold Hid; rw [HG4.out, hq4]; simpa using rd_one .u8 wE2 0 5
        rw [← HG4.out]
        rw [← hq4]
        clear hq4
        refine hK.out _ _ (⟨HC1.out _ HB4, HB4⟩) (fun hHeld => ?_)
        clear hK K
        try simp only [Act.put, sa, s0, s1]
        refine wpAnyH_ready (rs := [5]) (by kernel_rfl) (by simp) ?_
        refine (AllReadyH.cons (o := qb34_117_4_5) rfl (fun K hK => ?_) AllReadyH.nil)
        · skip
          have HO5 := Hid.mk (own_below HO2.out (show Below wE2.heap.size wE2 wE4 from bthen (Below.refl _ _) hop4))
          refine step_append_src wE4 rfl _ _ 27 27 rfl wq.heap.size 5 i0 (.int .u8 0) 1 1 Tryd.underlying27 HI.out.1 HI.out.2.1 HI.out.2.2.1 HI.out.2.2.2 rfl (.slice r2 z2.length q2) z2.length (z2.map (Value.int .u8)) rfl HO5.out (.slice (some ⟨g4, 0, none⟩) 1 1) rfl 1 ([0].map (Value.int .u8)) (Src.rd Tryd.underlying27 rfl (HR4.out.below (show Below wE4.heap.size wE4 wE4 from Below.refl _ _))) (by unfold maxLen; omega) (by omega) hHeld.2.size ?_
          intro v5 wE5 ho5 hgr5 hat5
          have HB5 : Below wq.heap.size wq wE5 := hHeld.2.grown hgr5 hHeld.2.size (fun k h => (HO5.out.lt k h).1)
          have ho6 : wE5.ownsRow wq.heap.size 5 1 v5 z4.length (z4.map (Value.int .u8)) := own_congr ho5 (by rw [HZ4.out, HG2.out]; simp) (by rw [HZ4.out, HG2.out]; simp)
          obtain ⟨r5, q5, rfl, _, hr5⟩ := own_rd rfl ho6
          clear ho5 hgr5 hat5 ho6
          refine hK.out _ _ (⟨HC1.out _ HB5, HB5⟩) (fun hHeld => ?_)
          clear hK K
          try simp only [Act.put, sa, s0, s1]
          refine wpAnyH_ready (rs := [8]) (by kernel_rfl) (by simp) ?_
          refine (AllReadyH.cons (o := qb34_117_4_8) rfl (fun K hK => ?_) AllReadyH.nil)
          · go_simp
            refine Calls.mono (implPutText_R r5 _ q5 z4 p.fVal wE5 rfl (by omega) hr5 (by omega)) ?_
            rintro e wE8 ⟨v8, rfl, ho8, hop8⟩
            have HB8 := hHeld.2.trans (hop8.mono hHeld.2.size)
            have HO8 := Hid.mk (own_base ho8 (Nat.le_trans hbq.size hHeld.2.size))
            clear ho8
            go_wp2_with fail
            refine hK.out _ _ (⟨HC1.out _ HB8, HB8⟩) (fun hHeld => ?_)
            clear hK K
            try simp only [Act.put, sa, s0, s1]
            refine tk 9 qb34_117_4_9 (some 6) (v := ?v6) rfl rfl (by kernel_rfl) hHeld (by rfl) (fun _ _ _ x => x) (fun w h => ?y6) ?_; (case y6 => (try dsimp only at h); go_simp; try (with_reducible rfl)); try simp only [Act.put, sa, s0, s1]
            refine wpAnyH_done (by kernel_rfl) ?_ _
            go_wp2_with fail
            go_ret
            exact ⟨v8, rfl, by have h := HO8.out; rw [HZ4.out, HZ2.out] at h; exact h, hbq.trans (HB8.mono hbq.size)⟩
    · go_simp
      obtain ⟨wE4, hq4⟩ : ∃ x, x = wS.alloc (.cells #[.int .u8 0] 5) := ⟨_, rfl⟩
      have hop4 : Below wS.heap.size wS wE4 := by rw [hq4]; exact (Below.refl _ _).alloc (Nat.le_refl _) _
      have HB4 := hHeld.2.trans (hop4.mono hHeld.2.size)
      obtain ⟨g4, HG4⟩ : ∃ g, Hid (g = wS.heap.size) := ⟨_, rfl⟩
      have HR4 : Hid (Rd .u8 wE4.heap.size wE4 (some ⟨g4, 0, none⟩) [0]) := by unfold Hid; rw [HG4.out, hq4]; simpa using rd_one .u8 wS 0 5
      rw [← HG4.out]
      rw [← hq4]
      clear hq4
      refine hK.out _ _ (⟨HC1.out _ HB4, HB4⟩) (fun hHeld => ?_)
      clear hK K
      try simp only [Act.put, sa, s0, s1]
      refine wpAnyH_ready (rs := [2]) (by kernel_rfl) (by simp) ?_
      refine (AllReadyH.cons (o := qb34_117_4_2) rfl (fun K hK => ?_) AllReadyH.nil)
      · go_simp
        refine Calls.mono (implPutText_R a n cap zs s wE4 HX.out (by omega) ((HR.out.below hHeld.2).mono hHeld.2.size) (by omega)) ?_
        rintro e wE2 ⟨v2, rfl, ho2, hop2⟩
        rw [← HZ2.out] at ho2
        have HB2 := hHeld.2.trans (hop2.mono hHeld.2.size)
        have ho2' := own_base ho2 hHeld.2.size
        obtain ⟨r2, q2, rfl, _, _⟩ := own_rd rfl ho2'
        have HO2 := Hid.mk ho2'
        clear ho2 ho2'
        go_wp2_with fail
        refine hK.out _ _ (⟨HC1.out _ HB2, HB2⟩) (fun hHeld => ?_)
        clear hK K
        try simp only [Act.put, sa, s0, s1]
        refine wpAnyH_ready (rs := [5]) (by kernel_rfl) (by simp) ?_
        refine (AllReadyH.cons (o := qb34_117_4_5) rfl (fun K hK => ?_) AllReadyH.nil)
        · skip
          have HO5 := Hid.mk (own_below HO2.out (show Below wE2.heap.size wE2 wE2 from Below.refl _ _))
          refine step_append_src wE2 rfl _ _ 27 27 rfl wq.heap.size 5 i0 (.int .u8 0) 1 1 Tryd.underlying27 HI.out.1 HI.out.2.1 HI.out.2.2.1 HI.out.2.2.2 rfl (.slice r2 z2.length q2) z2.length (z2.map (Value.int .u8)) rfl HO5.out (.slice (some ⟨g4, 0, none⟩) 1 1) rfl 1 ([0].map (Value.int .u8)) (Src.rd Tryd.underlying27 rfl (HR4.out.below (show Below wE4.heap.size wE4 wE2 from bthen (Below.refl _ _) hop2))) (by unfold maxLen; omega) (by omega) hHeld.2.size ?_
          intro v5 wE5 ho5 hgr5 hat5
          have HB5 : Below wq.heap.size wq wE5 := hHeld.2.grown hgr5 hHeld.2.size (fun k h => (HO5.out.lt k h).1)
          have ho6 : wE5.ownsRow wq.heap.size 5 1 v5 z4.length (z4.map (Value.int .u8)) := own_congr ho5 (by rw [HZ4.out, HG2.out]; simp) (by rw [HZ4.out, HG2.out]; simp)
          obtain ⟨r5, q5, rfl, _, hr5⟩ := own_rd rfl ho6
          clear ho5 hgr5 hat5 ho6
          refine hK.out _ _ (⟨HC1.out _ HB5, HB5⟩) (fun hHeld => ?_)
          clear hK K
          try simp only [Act.put, sa, s0, s1]
          refine wpAnyH_ready (rs := [8]) (by kernel_rfl) (by simp) ?_
          refine (AllReadyH.cons (o := qb34_117_4_8) rfl (fun K hK => ?_) AllReadyH.nil)
          · go_simp
            refine Calls.mono (implPutText_R r5 _ q5 z4 p.fVal wE5 rfl (by omega) hr5 (by omega)) ?_
            rintro e wE8 ⟨v8, rfl, ho8, hop8⟩
            have HB8 := hHeld.2.trans (hop8.mono hHeld.2.size)
            have HO8 := Hid.mk (own_base ho8 (Nat.le_trans hbq.size hHeld.2.size))
            clear ho8
            go_wp2_with fail
            refine hK.out _ _ (⟨HC1.out _ HB8, HB8⟩) (fun hHeld => ?_)
            clear hK K
            try simp only [Act.put, sa, s0, s1]
            refine tk 9 qb34_117_4_9 (some 6) (v := ?v7) rfl rfl (by kernel_rfl) hHeld (by rfl) (fun _ _ _ x => x) (fun w h => ?y7) ?_; (case y7 => (try dsimp only at h); go_simp; try (with_reducible rfl)); try simp only [Act.put, sa, s0, s1]
            refine wpAnyH_done (by kernel_rfl) ?_ _
            go_wp2_with fail
            go_ret
            exact ⟨v8, rfl, by have h := HO8.out; rw [HZ4.out, HZ2.out] at h; exact h, hbq.trans (HB8.mono hbq.size)⟩
  · rw [hgo] at HWQ
    go_wp2_with fail
    rw [← HWQ.out]
    have HG2 : Hid (goneI p = 1) := by unfold Hid; rw [HG.out, hgo]; rfl
    rw [hgo] at k2
    go_wp2_with fail
    refine wp_region_held_drew (S := fun W => W.cell? ⟨w.heap.size, 1, none⟩ = some (.string p.fVal) ∧ Below wq.heap.size wq W) (by kernel_rfl) (⟨k1, Below.drew (Below.refl _ _)⟩) (fun hHeld => ?_)
    obtain ⟨wS, hwS⟩ : ∃ wS, wS = wq.drew := ⟨_, rfl⟩
    rw [← hwS] at hHeld ⊢
    clear hwS
    refine tk 0 qb34_117_4_0 (some 10) (v := ?v8) rfl rfl (by kernel_rfl) hHeld (by rfl) (fun _ _ _ x => x) (fun w h => ?y8) ?_; (case y8 => (try dsimp only at h); go_simp; try (with_reducible rfl)); try simp only [Act.put, sa, s0, s1]
    refine tk 1 qb34_117_4_1 (some 11) (v := ?v9) rfl rfl (by kernel_rfl) hHeld (by rfl) (fun _ _ _ x => x) (fun w h => ?y9) ?_; (case y9 => (try dsimp only at h); go_simp; try (with_reducible rfl)); try simp only [Act.put, sa, s0, s1]
    refine tk 3 qb34_117_4_3 (some 13) (v := ?v10) rfl rfl (by kernel_rfl) hHeld (by rfl) (fun _ _ _ x => x) (fun w h => ?y10) ?_; (case y10 => (try dsimp only at h); go_simp; try (with_reducible rfl)); try simp only [Act.put, sa, s0, s1]
    refine tk 6 qb34_117_4_6 (some 16) (v := ?v11) rfl rfl (by kernel_rfl) hHeld (by rfl) (fun _ _ _ x => x) (fun w h => ?y11) ?_; (case y11 => (try dsimp only at h); go_simp; try (with_reducible rfl)); try simp only [Act.put, sa, s0, s1]
    refine tk 7 qb34_117_4_7 (some 17) (v := ?v12) rfl rfl (by kernel_rfl) hHeld (by rfl) (fun _ _ _ x => x) (fun w h => ?y12) ?_; (case y12 => (try dsimp only at h); go_simp; try (with_reducible rfl)); try simp only [Act.put, sa, s0, s1]
    refine wpAnyH_ready (rs := [2, 4]) (by kernel_rfl) (by simp) ?_
    refine (AllReadyH.cons (o := qb34_117_4_2) rfl (fun K hK => ?_) (AllReadyH.cons (o := qb34_117_4_4) rfl (fun K hK => ?_) AllReadyH.nil))
    · go_simp
      refine Calls.mono (implPutText_R a n cap zs s wS HX.out (by omega) ((HR.out.below hHeld.2).mono hHeld.2.size) (by omega)) ?_
      rintro e wE2 ⟨v2, rfl, ho2, hop2⟩
      rw [← HZ2.out] at ho2
      have HB2 := hHeld.2.trans (hop2.mono hHeld.2.size)
      have ho2' := own_base ho2 hHeld.2.size
      obtain ⟨r2, q2, rfl, _, _⟩ := own_rd rfl ho2'
      have HO2 := Hid.mk ho2'
      clear ho2 ho2'
      go_wp2_with fail
      refine hK.out _ _ (⟨HC1.out _ HB2, HB2⟩) (fun hHeld => ?_)
      clear hK K
      try simp only [Act.put, sa, s0, s1]
      refine wpAnyH_ready (rs := [4]) (by kernel_rfl) (by simp) ?_
      refine (AllReadyH.cons (o := qb34_117_4_4) rfl (fun K hK => ?_) AllReadyH.nil)
      · go_simp
        obtain ⟨wE4, hq4⟩ : ∃ x, x = wE2.alloc (.cells #[.int .u8 1] 5) := ⟨_, rfl⟩
        have hop4 : Below wE2.heap.size wE2 wE4 := by rw [hq4]; exact (Below.refl _ _).alloc (Nat.le_refl _) _
        have HB4 := hHeld.2.trans (hop4.mono hHeld.2.size)
        obtain ⟨g4, HG4⟩ : ∃ g, Hid (g = wE2.heap.size) := ⟨_, rfl⟩
        have HR4 : Hid (Rd .u8 wE4.heap.size wE4 (some ⟨g4, 0, none⟩) [1]) := by unfold Hid; rw [HG4.out, hq4]; simpa using rd_one .u8 wE2 1 5
        rw [← HG4.out]
        rw [← hq4]
        clear hq4
        refine hK.out _ _ (⟨HC1.out _ HB4, HB4⟩) (fun hHeld => ?_)
        clear hK K
        try simp only [Act.put, sa, s0, s1]
        refine wpAnyH_ready (rs := [5]) (by kernel_rfl) (by simp) ?_
        refine (AllReadyH.cons (o := qb34_117_4_5) rfl (fun K hK => ?_) AllReadyH.nil)
        · skip
          have HO5 := Hid.mk (own_below HO2.out (show Below wE2.heap.size wE2 wE4 from bthen (Below.refl _ _) hop4))
          refine step_append_src wE4 rfl _ _ 27 27 rfl wq.heap.size 5 i0 (.int .u8 0) 1 1 Tryd.underlying27 HI.out.1 HI.out.2.1 HI.out.2.2.1 HI.out.2.2.2 rfl (.slice r2 z2.length q2) z2.length (z2.map (Value.int .u8)) rfl HO5.out (.slice (some ⟨g4, 0, none⟩) 1 1) rfl 1 ([1].map (Value.int .u8)) (Src.rd Tryd.underlying27 rfl (HR4.out.below (show Below wE4.heap.size wE4 wE4 from Below.refl _ _))) (by unfold maxLen; omega) (by omega) hHeld.2.size ?_
          intro v5 wE5 ho5 hgr5 hat5
          have HB5 : Below wq.heap.size wq wE5 := hHeld.2.grown hgr5 hHeld.2.size (fun k h => (HO5.out.lt k h).1)
          have ho6 : wE5.ownsRow wq.heap.size 5 1 v5 z4.length (z4.map (Value.int .u8)) := own_congr ho5 (by rw [HZ4.out, HG2.out]; simp) (by rw [HZ4.out, HG2.out]; simp)
          obtain ⟨r5, q5, rfl, _, hr5⟩ := own_rd rfl ho6
          clear ho5 hgr5 hat5 ho6
          refine hK.out _ _ (⟨HC1.out _ HB5, HB5⟩) (fun hHeld => ?_)
          clear hK K
          try simp only [Act.put, sa, s0, s1]
          refine wpAnyH_ready (rs := [8]) (by kernel_rfl) (by simp) ?_
          refine (AllReadyH.cons (o := qb34_117_4_8) rfl (fun K hK => ?_) AllReadyH.nil)
          · go_simp
            refine Calls.mono (implPutText_R r5 _ q5 z4 p.fVal wE5 rfl (by omega) hr5 (by omega)) ?_
            rintro e wE8 ⟨v8, rfl, ho8, hop8⟩
            have HB8 := hHeld.2.trans (hop8.mono hHeld.2.size)
            have HO8 := Hid.mk (own_base ho8 (Nat.le_trans hbq.size hHeld.2.size))
            clear ho8
            go_wp2_with fail
            refine hK.out _ _ (⟨HC1.out _ HB8, HB8⟩) (fun hHeld => ?_)
            clear hK K
            try simp only [Act.put, sa, s0, s1]
            refine tk 9 qb34_117_4_9 (some 6) (v := ?v13) rfl rfl (by kernel_rfl) hHeld (by rfl) (fun _ _ _ x => x) (fun w h => ?y13) ?_; (case y13 => (try dsimp only at h); go_simp; try (with_reducible rfl)); try simp only [Act.put, sa, s0, s1]
            refine wpAnyH_done (by kernel_rfl) ?_ _
            go_wp2_with fail
            go_ret
            exact ⟨v8, rfl, by have h := HO8.out; rw [HZ4.out, HZ2.out] at h; exact h, hbq.trans (HB8.mono hbq.size)⟩
    · go_simp
      obtain ⟨wE4, hq4⟩ : ∃ x, x = wS.alloc (.cells #[.int .u8 1] 5) := ⟨_, rfl⟩
      have hop4 : Below wS.heap.size wS wE4 := by rw [hq4]; exact (Below.refl _ _).alloc (Nat.le_refl _) _
      have HB4 := hHeld.2.trans (hop4.mono hHeld.2.size)
      obtain ⟨g4, HG4⟩ : ∃ g, Hid (g = wS.heap.size) := ⟨_, rfl⟩
      have HR4 : Hid (Rd .u8 wE4.heap.size wE4 (some ⟨g4, 0, none⟩) [1]) := by unfold Hid; rw [HG4.out, hq4]; simpa using rd_one .u8 wS 1 5
      rw [← HG4.out]
      rw [← hq4]
      clear hq4
      refine hK.out _ _ (⟨HC1.out _ HB4, HB4⟩) (fun hHeld => ?_)
      clear hK K
      try simp only [Act.put, sa, s0, s1]
      refine wpAnyH_ready (rs := [2]) (by kernel_rfl) (by simp) ?_
      refine (AllReadyH.cons (o := qb34_117_4_2) rfl (fun K hK => ?_) AllReadyH.nil)
      · go_simp
        refine Calls.mono (implPutText_R a n cap zs s wE4 HX.out (by omega) ((HR.out.below hHeld.2).mono hHeld.2.size) (by omega)) ?_
        rintro e wE2 ⟨v2, rfl, ho2, hop2⟩
        rw [← HZ2.out] at ho2
        have HB2 := hHeld.2.trans (hop2.mono hHeld.2.size)
        have ho2' := own_base ho2 hHeld.2.size
        obtain ⟨r2, q2, rfl, _, _⟩ := own_rd rfl ho2'
        have HO2 := Hid.mk ho2'
        clear ho2 ho2'
        go_wp2_with fail
        refine hK.out _ _ (⟨HC1.out _ HB2, HB2⟩) (fun hHeld => ?_)
        clear hK K
        try simp only [Act.put, sa, s0, s1]
        refine wpAnyH_ready (rs := [5]) (by kernel_rfl) (by simp) ?_
        refine (AllReadyH.cons (o := qb34_117_4_5) rfl (fun K hK => ?_) AllReadyH.nil)
        · skip
          have HO5 := Hid.mk (own_below HO2.out (show Below wE2.heap.size wE2 wE2 from Below.refl _ _))
          refine step_append_src wE2 rfl _ _ 27 27 rfl wq.heap.size 5 i0 (.int .u8 0) 1 1 Tryd.underlying27 HI.out.1 HI.out.2.1 HI.out.2.2.1 HI.out.2.2.2 rfl (.slice r2 z2.length q2) z2.length (z2.map (Value.int .u8)) rfl HO5.out (.slice (some ⟨g4, 0, none⟩) 1 1) rfl 1 ([1].map (Value.int .u8)) (Src.rd Tryd.underlying27 rfl (HR4.out.below (show Below wE4.heap.size wE4 wE2 from bthen (Below.refl _ _) hop2))) (by unfold maxLen; omega) (by omega) hHeld.2.size ?_
          intro v5 wE5 ho5 hgr5 hat5
          have HB5 : Below wq.heap.size wq wE5 := hHeld.2.grown hgr5 hHeld.2.size (fun k h => (HO5.out.lt k h).1)
          have ho6 : wE5.ownsRow wq.heap.size 5 1 v5 z4.length (z4.map (Value.int .u8)) := own_congr ho5 (by rw [HZ4.out, HG2.out]; simp) (by rw [HZ4.out, HG2.out]; simp)
          obtain ⟨r5, q5, rfl, _, hr5⟩ := own_rd rfl ho6
          clear ho5 hgr5 hat5 ho6
          refine hK.out _ _ (⟨HC1.out _ HB5, HB5⟩) (fun hHeld => ?_)
          clear hK K
          try simp only [Act.put, sa, s0, s1]
          refine wpAnyH_ready (rs := [8]) (by kernel_rfl) (by simp) ?_
          refine (AllReadyH.cons (o := qb34_117_4_8) rfl (fun K hK => ?_) AllReadyH.nil)
          · go_simp
            refine Calls.mono (implPutText_R r5 _ q5 z4 p.fVal wE5 rfl (by omega) hr5 (by omega)) ?_
            rintro e wE8 ⟨v8, rfl, ho8, hop8⟩
            have HB8 := hHeld.2.trans (hop8.mono hHeld.2.size)
            have HO8 := Hid.mk (own_base ho8 (Nat.le_trans hbq.size hHeld.2.size))
            clear ho8
            go_wp2_with fail
            refine hK.out _ _ (⟨HC1.out _ HB8, HB8⟩) (fun hHeld => ?_)
            clear hK K
            try simp only [Act.put, sa, s0, s1]
            refine tk 9 qb34_117_4_9 (some 6) (v := ?v14) rfl rfl (by kernel_rfl) hHeld (by rfl) (fun _ _ _ x => x) (fun w h => ?y14) ?_; (case y14 => (try dsimp only at h); go_simp; try (with_reducible rfl)); try simp only [Act.put, sa, s0, s1]
            refine wpAnyH_done (by kernel_rfl) ?_ _
            go_wp2_with fail
            go_ret
            exact ⟨v8, rfl, by have h := HO8.out; rw [HZ4.out, HZ2.out] at h; exact h, hbq.trans (HB8.mono hbq.size)⟩

end Go.Proofs.YtjaaaopbidmknaaDoor
