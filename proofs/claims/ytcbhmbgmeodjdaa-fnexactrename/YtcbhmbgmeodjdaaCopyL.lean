/-
  The specification's copy of a disk.
-/
import Derived.Test.YtcbhmbgmeodjdaaCopy
import Derived.Test.YtcbhmbgmeodjdaaDatY
namespace Go.Proofs.Ytcbhmbgmeodjdaa
open Go.RowKit
set_option linter.unusedVariables false
set_option linter.unusedSimpArgs false
set_option maxRecDepth 10000

theorem nodup_opt (o : Option Nat) : o.toList.Nodup := by cases o <;> simp

theorem own_lit0 (w : World) (base e size : Nat) (h : base ≤ w.heap.size) : (w.alloc (.cells #[] e)).ownsRow base e size (.slice (some ⟨w.heap.size, 0, none⟩) 0 0) 0 [] :=
  ⟨by simp, .inr ⟨w.heap.size, 0, #[], rfl, h, by rw [al_heap, if_pos rfl], by omega, by simp [maxLen], by simp, by simp⟩⟩

set_option maxHeartbeats 4000000 in
theorem l2Copy_any (cs : List Value) (m : MDisk) (w : World) (hr : rDisk w.heap.size w cs m) (hw : wDisk m ≤ 1048576) :
    Calls Try.prog 51 #[.agg cs.toArray] w fun e w' => ∃ (cs' : List Value) (F : List Nat), e = .returned (.agg cs'.toArray) ∧ oDisk w' cs' m F ∧ F.Nodup ∧ (∀ b, b ∈ F → w.heap.size ≤ b) ∧ Below w.heap.size w w' := by
  have hq := hr
  obtain ⟨a0, c0, a1, c1, a2, c2, rfl, hI, hNm, hSf, hnx, _⟩ := hq
  have hw2 : m.fInodes.length + sumW wInode m.fInodes + (m.fNames.length + sumW wEntry m.fNames) + (m.fSafe.length + sumW wEntry m.fSafe) ≤ 1048576 := hw
  obtain ⟨iI, hiI, hzI0, hzI1, hzI2⟩ := info_parts Try.infoOfInode
  obtain ⟨iE, hiE, hzE0, hzE1, hzE2⟩ := info_parts Try.infoOfEntry
  obtain ⟨iB, hiB, hzB0, hzB1, hzB2⟩ := info_parts Try.info5
  go_enter Try.func51, Try.ntmps51
  go_wp2_with fail
  obtain ⟨wq, hwq⟩ : ∃ wq, wq = (w.alloc (.cells #[.slice a0 m.fInodes.length c0, .slice a1 m.fNames.length c1, .slice a2 m.fSafe.length c2, .int .i64 m.fNext] 27)).alloc (.cells #[.slice none 0 0, .slice none 0 0, .slice none 0 0, .int .i64 0] 27) := ⟨_, rfl⟩
  have hbW : Below w.heap.size w wq := by rw [hwq]; exact ((Below.refl _ _).alloc (Nat.le_refl _) _).alloc (by simp) _
  have hbx : Bx wq w.heap.size [.slice a0 m.fInodes.length c0, .slice a1 m.fNames.length c1, .slice a2 m.fSafe.length c2, .int .i64 m.fNext] := by rw [hwq]; exact (Bx.new _ _ _).alloc _
  have hres : wq.heap[w.heap.size + 1]? = some (.cells #[.slice none 0 0, .slice none 0 0, .slice none 0 0, .int .i64 0] 27 (0, 0)) := by rw [hwq, al_heap, if_pos (by simp)]
  have HRES := Hid.mk hres
  clear hres
  rw [← hwq]
  clear hwq
  have p1 : ∀ W, Below wq.heap.size wq W → W.cell? ⟨w.heap.size, 1, none⟩ = some (.slice a1 m.fNames.length c1) := fun W hb => (hbx.under hb).2 1 _ rfl
  have p2 : ∀ W, Below wq.heap.size wq W → W.cell? ⟨w.heap.size, 2, none⟩ = some (.slice a2 m.fSafe.length c2) := fun W hb => (hbx.under hb).2 2 _ rfl
  have p3 : ∀ W, Below wq.heap.size wq W → W.cell? ⟨w.heap.size, 3, none⟩ = some (.int .i64 m.fNext) := fun W hb => (hbx.under hb).2 3 _ rfl
  have HN := Hid.mk hNm
  have HS := Hid.mk hSf
  have HI := Hid.mk hI
  have HBW := Hid.mk hbW
  clear hNm hSf hI hr hw hbW
  refine Code.wp_mono (Q := fun e a' w' => e = .normal ∧ ∃ (x6 x7 x9 x10 x11 x13 x14 : Value) (gb : Nat) (F1 F2 : List Nat), a' = { tmps := #[.agg #[.slice a0 m.fInodes.length c0, .slice a1 m.fNames.length c1, .slice a2 m.fSafe.length c2, .int .i64 m.fNext], .pointer (some ⟨w.heap.size, 0, none⟩), .pointer (some ⟨w.heap.size + 1, 0, none⟩), .pointer (some ⟨gb, 0, none⟩), undef, undef, x6, x7, .slice a1 m.fNames.length c1, x9, x10, x11, .slice a2 m.fSafe.length c2, x13, x14, .int .i64 m.fNext, .agg #[.slice none 0 0, x9, x13, .int .i64 m.fNext], undef, undef, undef, undef, undef, undef, undef, undef, undef, undef, undef, undef, undef, undef, undef, undef, undef, undef, undef, undef, undef, undef, undef, undef, undef, undef, undef], defers := [] } ∧ wq.heap.size ≤ gb ∧
      w'.heap[gb]? = some (.cells #[.slice none 0 0, x9, x13, .int .i64 m.fNext] 27 (0, 0)) ∧ ownS 2 91 oEntry w' x9 m.fNames F1 ∧ ownS 2 91 oEntry w' x13 m.fSafe F2 ∧ (F1 ++ F2).Nodup ∧ (∀ b, b ∈ F1 ++ F2 → wq.heap.size ≤ b ∧ b ≠ gb) ∧ Below wq.heap.size wq w') ?mono ?reg
  case reg =>
    refine wp_region_held_drew (S := fun W => Below wq.heap.size wq W) (by kernel_rfl) (Below.drew (Below.refl _ _)) (fun hHeld => ?_)
    obtain ⟨wS, hwS⟩ : ∃ wS, wS = wq.drew := ⟨_, rfl⟩
    have HZS : Hid (wS.heap.size = wq.heap.size) := by show _ = _; rw [hwS]; rfl
    rw [← hwS] at hHeld ⊢
    clear hwS
    refine wpAnyH_take (i := 1) (oi := ⟨some 7, .fieldAddr 27 (.tmp 1) 1, 0, "l02_files.go:68", #[], none⟩) (v := ?v1) rfl (by kernel_rfl) (by kernel_rfl) (by kernel_rfl) (fun _ _ _ h => by cases h.1) (Or.inl ⟨by rfl, ?hy1⟩) (by assumption) ?rest1
    case hy1 => (intro w hSw; (try dsimp only at hSw); go_simp; try (with_reducible rfl))
    try simp only [Act.put, List.setIfInBounds_toArray, List.set_cons_zero, List.set_cons_succ]
    refine wpAnyH_take (i := 2) (oi := ⟨some 8, .load 25 (.tmp 7), 25, "l02_files.go:68", #[⟨1, .data⟩], none⟩) (v := ?v2) rfl (by kernel_rfl) (by kernel_rfl) (by kernel_rfl) (fun _ _ _ h => by cases h.1) (Or.inl ⟨by rfl, ?hy2⟩) (by assumption) ?rest2
    case hy2 => (intro w hSw; (try dsimp only at hSw); go_simp; try (with_reducible rfl))
    try simp only [Act.put, List.setIfInBounds_toArray, List.set_cons_zero, List.set_cons_succ]
    refine wpAnyH_take (i := 5) (oi := ⟨some 11, .fieldAddr 27 (.tmp 1) 2, 0, "l02_files.go:68", #[], none⟩) (v := ?v3) rfl (by kernel_rfl) (by kernel_rfl) (by kernel_rfl) (fun _ _ _ h => by cases h.1) (Or.inl ⟨by rfl, ?hy3⟩) (by assumption) ?rest3
    case hy3 => (intro w hSw; (try dsimp only at hSw); go_simp; try (with_reducible rfl))
    try simp only [Act.put, List.setIfInBounds_toArray, List.set_cons_zero, List.set_cons_succ]
    refine wpAnyH_take (i := 6) (oi := ⟨some 12, .load 25 (.tmp 11), 25, "l02_files.go:68", #[⟨5, .data⟩], none⟩) (v := ?v4) rfl (by kernel_rfl) (by kernel_rfl) (by kernel_rfl) (fun _ _ _ h => by cases h.1) (Or.inl ⟨by rfl, ?hy4⟩) (by assumption) ?rest4
    case hy4 => (intro w hSw; (try dsimp only at hSw); go_simp; try (with_reducible rfl))
    try simp only [Act.put, List.setIfInBounds_toArray, List.set_cons_zero, List.set_cons_succ]
    refine wpAnyH_take (i := 8) (oi := ⟨some 14, .fieldAddr 27 (.tmp 1) 3, 0, "l02_files.go:68", #[], none⟩) (v := ?v5) rfl (by kernel_rfl) (by kernel_rfl) (by kernel_rfl) (fun _ _ _ h => by cases h.1) (Or.inl ⟨by rfl, ?hy5⟩) (by assumption) ?rest5
    case hy5 => (intro w hSw; (try dsimp only at hSw); go_simp; try (with_reducible rfl))
    try simp only [Act.put, List.setIfInBounds_toArray, List.set_cons_zero, List.set_cons_succ]
    refine wpAnyH_take (i := 9) (oi := ⟨some 15, .load 3 (.tmp 14), 3, "l02_files.go:68", #[⟨8, .data⟩], none⟩) (v := ?v6) rfl (by kernel_rfl) (by kernel_rfl) (by kernel_rfl) (fun _ _ _ h => by cases h.1) (Or.inl ⟨by rfl, ?hy6⟩) (by assumption) ?rest6
    case hy6 => (intro w hSw; (try dsimp only at hSw); go_simp; try (with_reducible rfl))
    try simp only [Act.put, List.setIfInBounds_toArray, List.set_cons_zero, List.set_cons_succ]
    refine wpAnyH_ready (rs := [0, 4, 11]) (by kernel_rfl) (by simp) ?_
    refine (AllReadyH.cons (o := ⟨some 6, .buildSlice 25 0 #[], 25, "l02_files.go:68", #[], none⟩) rfl (fun K hK => ?_) (AllReadyH.cons (o := ⟨some 10, .buildSlice 25 0 #[], 25, "l02_files.go:68", #[], none⟩) rfl (fun K hK => ?_) (AllReadyH.cons (o := ⟨some 3, .alloc 27, 0, "l02_files.go:68", #[], none⟩) rfl (fun K hK => ?_) AllReadyH.nil)))
    · go_simp
      obtain ⟨wE0, hq0⟩ : ∃ x, x = wS.alloc (.cells #[] 91) := ⟨_, rfl⟩
      have hop0 : Below wS.heap.size wS wE0 := by rw [hq0]; exact (Below.refl _ _).alloc (Nat.le_refl _) _
      have hob0 : wE0.ownsRow wq.heap.size 91 2 (.slice (some ⟨wS.heap.size, 0, none⟩) 0 0) 0 [] := by rw [hq0]; exact own_lit0 _ _ _ _ hHeld.size
      obtain ⟨g6, HGg6⟩ : ∃ g, Hid (g = wS.heap.size) := ⟨_, rfl⟩
      have HLg6 : Hid (g6 < wE0.heap.size) := by show _ < _; rw [HGg6.out, hq0]; simp
      have HWg6 : Hid (wq.heap.size ≤ g6) := by show _ ≤ _; rw [HGg6.out]; exact hHeld.size
      rw [← HGg6.out] at hob0 ⊢
      rw [← hq0]
      clear hq0
      refine hK.out _ _ (bthen hHeld hop0) (fun hHeld => ?_)
      clear hK K
      try simp only [Act.put, List.setIfInBounds_toArray, List.set_cons_zero, List.set_cons_succ]
      refine wpAnyH_ready (rs := [3, 4, 11]) (by kernel_rfl) (by simp) ?_
      refine (AllReadyH.cons (o := ⟨some 9, .call { callee := .builtin .append, args := #[.tmp 6, .tmp 8], argTypes := #[25, 25] }, 25, "l02_files.go:68", #[⟨0, .data⟩, ⟨2, .data⟩], none⟩) rfl (fun K hK => ?_) (AllReadyH.cons (o := ⟨some 10, .buildSlice 25 0 #[], 25, "l02_files.go:68", #[], none⟩) rfl (fun K hK => ?_) (AllReadyH.cons (o := ⟨some 3, .alloc 27, 0, "l02_files.go:68", #[], none⟩) rfl (fun K hK => ?_) AllReadyH.nil)))
      · skip
        obtain ⟨css3, s3a, s3b, s3c, s3d⟩ := Src.ents (P := Try.prog) (c := c1) (n := m.fNames.length) Try.underlying25 rfl (HN.out.2.2.below rEntry_good (HBW.out.trans (hHeld.mono HBW.out.size)))
        refine step_append_lit _ rfl _ _ 25 25 rfl wq.heap.size 91 iE _ 2 24 Try.underlying25 hiE hzE0 hzE1 hzE2 rfl g6 rfl (own_below hob0 (show Below wE0.heap.size wE0 wE0 from Below.refl _ _)) (.slice a1 m.fNames.length c1) rfl m.fNames.length css3.flatten s3d (by unfold maxLen; omega) (by omega) hHeld.size ?_
        intro v3 wE3 hw3 hop3 hat3
        obtain ⟨r3, q3, rfl⟩ := own_slice hw3
        have hos3 := ownS_row rfl s3a s3b s3c hw3
        have hat3 : ∀ j, j ∈ (Value.ownBlock (.slice r3 m.fNames.length q3)).toList → (j = g6 ∨ j = wE0.heap.size) ∧ j < wE3.heap.size := fun j hj => by have h1 := (hw3.lt j (by simpa using hj)).2; rcases hat3 with h | h <;> (rw [h] at hj; simp at hj; subst hj; exact ⟨by simp, h1⟩)
        have HAT3 := Hid.mk hat3
        have HP3 : Hid (wq.heap.size ≤ wE0.heap.size) := hHeld.size
        have HOS3 := Hid.mk hos3
        clear s3a s3b s3c s3d hw3 hos3 hat3
        refine hK.out _ _ (bthen hHeld hop3) (fun hHeld => ?_)
        clear hK K
        try simp only [Act.put, List.setIfInBounds_toArray, List.set_cons_zero, List.set_cons_succ]
        refine wpAnyH_ready (rs := [4, 11]) (by kernel_rfl) (by simp) ?_
        refine (AllReadyH.cons (o := ⟨some 10, .buildSlice 25 0 #[], 25, "l02_files.go:68", #[], none⟩) rfl (fun K hK => ?_) (AllReadyH.cons (o := ⟨some 3, .alloc 27, 0, "l02_files.go:68", #[], none⟩) rfl (fun K hK => ?_) AllReadyH.nil))
        · go_simp
          obtain ⟨wE4, hq4⟩ : ∃ x, x = wE3.alloc (.cells #[] 91) := ⟨_, rfl⟩
          have hop4 : Below wE3.heap.size wE3 wE4 := by rw [hq4]; exact (Below.refl _ _).alloc (Nat.le_refl _) _
          have hob4 : wE4.ownsRow wq.heap.size 91 2 (.slice (some ⟨wE3.heap.size, 0, none⟩) 0 0) 0 [] := by rw [hq4]; exact own_lit0 _ _ _ _ hHeld.size
          obtain ⟨g10, HGg10⟩ : ∃ g, Hid (g = wE3.heap.size) := ⟨_, rfl⟩
          have HLg10 : Hid (g10 < wE4.heap.size) := by show _ < _; rw [HGg10.out, hq4]; simp
          have HWg10 : Hid (wq.heap.size ≤ g10) := by show _ ≤ _; rw [HGg10.out]; exact hHeld.size
          rw [← HGg10.out] at hob4 ⊢
          rw [← hq4]
          clear hq4
          refine hK.out _ _ (bthen hHeld hop4) (fun hHeld => ?_)
          clear hK K
          try simp only [Act.put, List.setIfInBounds_toArray, List.set_cons_zero, List.set_cons_succ]
          refine wpAnyH_ready (rs := [7, 11]) (by kernel_rfl) (by simp) ?_
          refine (AllReadyH.cons (o := ⟨some 13, .call { callee := .builtin .append, args := #[.tmp 10, .tmp 12], argTypes := #[25, 25] }, 25, "l02_files.go:68", #[⟨4, .data⟩, ⟨6, .data⟩, ⟨3, .chain⟩], none⟩) rfl (fun K hK => ?_) (AllReadyH.cons (o := ⟨some 3, .alloc 27, 0, "l02_files.go:68", #[], none⟩) rfl (fun K hK => ?_) AllReadyH.nil))
          · skip
            obtain ⟨css7, s7a, s7b, s7c, s7d⟩ := Src.ents (P := Try.prog) (c := c2) (n := m.fSafe.length) Try.underlying25 rfl (HS.out.2.2.below rEntry_good (HBW.out.trans (hHeld.mono HBW.out.size)))
            refine step_append_lit _ rfl _ _ 25 25 rfl wq.heap.size 91 iE _ 2 24 Try.underlying25 hiE hzE0 hzE1 hzE2 rfl g10 rfl (own_below hob4 (show Below wE4.heap.size wE4 wE4 from Below.refl _ _)) (.slice a2 m.fSafe.length c2) rfl m.fSafe.length css7.flatten s7d (by unfold maxLen; omega) (by omega) hHeld.size ?_
            intro v7 wE7 hw7 hop7 hat7
            obtain ⟨r7, q7, rfl⟩ := own_slice hw7
            have hos7 := ownS_row rfl s7a s7b s7c hw7
            have hat7 : ∀ j, j ∈ (Value.ownBlock (.slice r7 m.fSafe.length q7)).toList → (j = g10 ∨ j = wE4.heap.size) ∧ j < wE7.heap.size := fun j hj => by have h1 := (hw7.lt j (by simpa using hj)).2; rcases hat7 with h | h <;> (rw [h] at hj; simp at hj; subst hj; exact ⟨by simp, h1⟩)
            have HAT7 := Hid.mk hat7
            have HP7 : Hid (wq.heap.size ≤ wE4.heap.size) := hHeld.size
            have HOS7 := Hid.mk hos7
            clear s7a s7b s7c s7d hw7 hos7 hat7
            refine hK.out _ _ (bthen hHeld hop7) (fun hHeld => ?_)
            clear hK K
            try simp only [Act.put, List.setIfInBounds_toArray, List.set_cons_zero, List.set_cons_succ]
            refine wpAnyH_take (i := 10) (oi := ⟨some 16, .build 27 #[(1, .tmp 9), (2, .tmp 13), (3, .tmp 15)], 27, "l02_files.go:68", #[⟨3, .data⟩, ⟨7, .data⟩, ⟨9, .data⟩], none⟩) (v := ?v7) rfl (by kernel_rfl) (by kernel_rfl) (by kernel_rfl) (fun _ _ _ h => by cases h.1) (Or.inl ⟨by rfl, ?hy7⟩) (by assumption) ?rest7
            case hy7 => (intro w hSw; (try dsimp only at hSw); go_simp; try (with_reducible rfl))
            try simp only [Act.put, List.setIfInBounds_toArray, List.set_cons_zero, List.set_cons_succ]
            refine wpAnyH_ready (rs := [11]) (by kernel_rfl) (by simp) ?_
            refine (AllReadyH.cons (o := ⟨some 3, .alloc 27, 0, "l02_files.go:68", #[], none⟩) rfl (fun K hK => ?_) AllReadyH.nil)
            · go_simp
              obtain ⟨wE11, hq11⟩ : ∃ x, x = wE7.alloc (.cells #[.slice none 0 0, .slice none 0 0, .slice none 0 0, .int .i64 0] 27) := ⟨_, rfl⟩
              have hop11 : Below wE7.heap.size wE7 wE11 := by rw [hq11]; exact (Below.refl _ _).alloc (Nat.le_refl _) _
              have HB11 : Hid (wE11.heap[wE7.heap.size]? = some (.cells #[.slice none 0 0, .slice none 0 0, .slice none 0 0, .int .i64 0] 27 (0, 0))) := by show _ = _; rw [hq11, al_heap, if_pos rfl]
              obtain ⟨gb, HGb⟩ : ∃ g, Hid (g = wE7.heap.size) := ⟨_, rfl⟩
              rw [← HGb.out] at HB11 ⊢
              have HLb : Hid (gb < wE11.heap.size) := (Array.getElem?_eq_some_iff.1 HB11.out).1
              have HGW : Hid (wq.heap.size ≤ gb) := by show _ ≤ _; rw [HGb.out]; exact hHeld.size
              rw [← hq11]
              clear hq11
              refine hK.out _ _ (bthen hHeld hop11) (fun hHeld => ?_)
              clear hK K
              try simp only [Act.put, List.setIfInBounds_toArray, List.set_cons_zero, List.set_cons_succ]
              refine wpAnyH_ready (rs := [12]) (by kernel_rfl) (by simp) ?_
              refine (AllReadyH.cons (o := ⟨none, .store 27 (.tmp 3) (.tmp 16), 0, "l02_files.go:68", #[⟨11, .data⟩, ⟨10, .data⟩, ⟨7, .chain⟩, ⟨0, .phase⟩, ⟨1, .phase⟩, ⟨2, .phase⟩, ⟨3, .phase⟩, ⟨4, .phase⟩, ⟨5, .phase⟩, ⟨6, .phase⟩, ⟨7, .phase⟩, ⟨8, .phase⟩, ⟨9, .phase⟩, ⟨10, .phase⟩, ⟨11, .phase⟩], none⟩) rfl (fun K hK => ?_) AllReadyH.nil)
              · go_simp
                have hb12 : wE11.heap[gb]? = some (.cells #[.slice none 0 0, .slice none 0 0, .slice none 0 0, .int .i64 0] 27 (0, 0)) := (((show Below wE11.heap.size wE11 wE11 from Below.refl _ _)).block gb HLb.out).trans HB11.out
                have cb0 : wE11.cell? ⟨gb, 0, none⟩ = some (.slice none 0 0) := by rw [cell_of_row _ _ _ _ _ (0, 0) hb12]; rfl
                have fb0 := frozen_of_row wE11 gb 0 _ _ hb12
                have cb1 : wE11.cell? ⟨gb, 1, none⟩ = some (.slice none 0 0) := by rw [cell_of_row _ _ _ _ _ (0, 0) hb12]; rfl
                have fb1 := frozen_of_row wE11 gb 1 _ _ hb12
                have cb2 : wE11.cell? ⟨gb, 2, none⟩ = some (.slice none 0 0) := by rw [cell_of_row _ _ _ _ _ (0, 0) hb12]; rfl
                have fb2 := frozen_of_row wE11 gb 2 _ _ hb12
                have cb3 : wE11.cell? ⟨gb, 3, none⟩ = some (.int .i64 0) := by rw [cell_of_row _ _ _ _ _ (0, 0) hb12]; rfl
                have fb3 := frozen_of_row wE11 gb 3 _ _ hb12
                go_simp
                obtain ⟨wE12, hq12⟩ : ∃ x, x = ((((wE11.setCell ⟨gb, 0, none⟩ (.slice none 0 0)).setCell ⟨gb, 1, none⟩ (.slice r3 m.fNames.length q3)).setCell ⟨gb, 2, none⟩ (.slice r7 m.fSafe.length q7)).setCell ⟨gb, 3, none⟩ (.int .i64 m.fNext)) := ⟨_, rfl⟩
                rw [← hq12]
                have hgb12 : wE12.heap[gb]? = some (.cells #[.slice none 0 0, .slice r3 m.fNames.length q3, .slice r7 m.fSafe.length q7, .int .i64 m.fNext] 27 (0, 0)) := by rw [hq12]; exact heap_setCell_same _ gb 3 _ _ _ (heap_setCell_same _ gb 2 _ _ _ (heap_setCell_same _ gb 1 _ _ _ (heap_setCell_same _ gb 0 _ _ _ hb12)))
                have hT12 : Turn [gb] wE11 wE12 := by rw [hq12]; exact Turn.setCell (Turn.setCell (Turn.setCell (Turn.setCell (Turn.refl _ _) (by simp) _) (by simp) _) (by simp) _) (by simp) _
                clear hq12 cb0 cb1 cb2 cb3 fb0 fb1 fb2 fb3
                refine hK.out _ _ (hHeld.trans (hT12.below (fun k hk => by simp at hk; subst hk; exact HGW.out) hHeld.size)) (fun hHeld => ?_)
                clear hK K
                try simp only [Act.put, List.setIfInBounds_toArray, List.set_cons_zero, List.set_cons_succ]
                refine wpAnyH_done (by kernel_rfl) ?_ _
                have z0 := hop0.size
                have z3 := hop3.size
                have z4 := hop4.size
                have z7 := hop7.size
                have z11 := hop11.size
                have b6 := HGg6.out
                have b10 := HGg10.out
                have bb := HGb.out
                have l6 := HLg6.out
                have l10 := HLg10.out
                have lb := HLb.out
                have w6 := HWg6.out
                have w10 := HWg10.out
                have wb := HGW.out
                have wp3 := HP3.out
                have wp7 := HP7.out
                have t3 := HAT3.out
                have t7 := HAT7.out
                have u3 := ((show Below wE3.heap.size wE3 wE11 from bthen (bthen (bthen (Below.refl _ _) hop4) hop7) hop11)).size
                have u7 := ((show Below wE7.heap.size wE7 wE11 from bthen (Below.refl _ _) hop11)).size
                refine ⟨rfl, _, _, _, _, _, _, _, gb, (Value.ownBlock (.slice r3 m.fNames.length q3)).toList, (Value.ownBlock (.slice r7 m.fSafe.length q7)).toList, rfl, wb, hgb12, ?_, ?_, ?_, ?_, hHeld⟩
                · exact ownS.frame oEntry_good HOS3.out (fun b hb => (hT12.block b (by have := (t3 b hb).2; omega) (by have := t3 b hb; simp; omega)).trans (((show Below wE3.heap.size wE3 wE11 from bthen (bthen (bthen (Below.refl _ _) hop4) hop7) hop11)).block b (t3 b hb).2))
                · exact ownS.frame oEntry_good HOS7.out (fun b hb => (hT12.block b (by have := (t7 b hb).2; omega) (by have := t7 b hb; simp; omega)).trans (((show Below wE7.heap.size wE7 wE11 from bthen (Below.refl _ _) hop11)).block b (t7 b hb).2))
                · refine List.nodup_append.2 ⟨nodup_opt _, nodup_opt _, fun x hx y hy hxy => ?_⟩; have := t3 x hx; have := t7 y hy; omega
                · intro b hb; rcases List.mem_append.1 hb with hb | hb; (have := t3 b hb; omega); (have := t7 b hb; omega)
          · go_simp
            obtain ⟨wE11, hq11⟩ : ∃ x, x = wE4.alloc (.cells #[.slice none 0 0, .slice none 0 0, .slice none 0 0, .int .i64 0] 27) := ⟨_, rfl⟩
            have hop11 : Below wE4.heap.size wE4 wE11 := by rw [hq11]; exact (Below.refl _ _).alloc (Nat.le_refl _) _
            have HB11 : Hid (wE11.heap[wE4.heap.size]? = some (.cells #[.slice none 0 0, .slice none 0 0, .slice none 0 0, .int .i64 0] 27 (0, 0))) := by show _ = _; rw [hq11, al_heap, if_pos rfl]
            obtain ⟨gb, HGb⟩ : ∃ g, Hid (g = wE4.heap.size) := ⟨_, rfl⟩
            rw [← HGb.out] at HB11 ⊢
            have HLb : Hid (gb < wE11.heap.size) := (Array.getElem?_eq_some_iff.1 HB11.out).1
            have HGW : Hid (wq.heap.size ≤ gb) := by show _ ≤ _; rw [HGb.out]; exact hHeld.size
            rw [← hq11]
            clear hq11
            refine hK.out _ _ (bthen hHeld hop11) (fun hHeld => ?_)
            clear hK K
            try simp only [Act.put, List.setIfInBounds_toArray, List.set_cons_zero, List.set_cons_succ]
            refine wpAnyH_ready (rs := [7]) (by kernel_rfl) (by simp) ?_
            refine (AllReadyH.cons (o := ⟨some 13, .call { callee := .builtin .append, args := #[.tmp 10, .tmp 12], argTypes := #[25, 25] }, 25, "l02_files.go:68", #[⟨4, .data⟩, ⟨6, .data⟩, ⟨3, .chain⟩], none⟩) rfl (fun K hK => ?_) AllReadyH.nil)
            · skip
              obtain ⟨css7, s7a, s7b, s7c, s7d⟩ := Src.ents (P := Try.prog) (c := c2) (n := m.fSafe.length) Try.underlying25 rfl (HS.out.2.2.below rEntry_good (HBW.out.trans (hHeld.mono HBW.out.size)))
              refine step_append_lit _ rfl _ _ 25 25 rfl wq.heap.size 91 iE _ 2 24 Try.underlying25 hiE hzE0 hzE1 hzE2 rfl g10 rfl (own_below hob4 (show Below wE4.heap.size wE4 wE11 from bthen (Below.refl _ _) hop11)) (.slice a2 m.fSafe.length c2) rfl m.fSafe.length css7.flatten s7d (by unfold maxLen; omega) (by omega) hHeld.size ?_
              intro v7 wE7 hw7 hop7 hat7
              obtain ⟨r7, q7, rfl⟩ := own_slice hw7
              have hos7 := ownS_row rfl s7a s7b s7c hw7
              have hat7 : ∀ j, j ∈ (Value.ownBlock (.slice r7 m.fSafe.length q7)).toList → (j = g10 ∨ j = wE11.heap.size) ∧ j < wE7.heap.size := fun j hj => by have h1 := (hw7.lt j (by simpa using hj)).2; rcases hat7 with h | h <;> (rw [h] at hj; simp at hj; subst hj; exact ⟨by simp, h1⟩)
              have HAT7 := Hid.mk hat7
              have HP7 : Hid (wq.heap.size ≤ wE11.heap.size) := hHeld.size
              have HOS7 := Hid.mk hos7
              clear s7a s7b s7c s7d hw7 hos7 hat7
              refine hK.out _ _ (bthen hHeld hop7) (fun hHeld => ?_)
              clear hK K
              try simp only [Act.put, List.setIfInBounds_toArray, List.set_cons_zero, List.set_cons_succ]
              refine wpAnyH_take (i := 10) (oi := ⟨some 16, .build 27 #[(1, .tmp 9), (2, .tmp 13), (3, .tmp 15)], 27, "l02_files.go:68", #[⟨3, .data⟩, ⟨7, .data⟩, ⟨9, .data⟩], none⟩) (v := ?v8) rfl (by kernel_rfl) (by kernel_rfl) (by kernel_rfl) (fun _ _ _ h => by cases h.1) (Or.inl ⟨by rfl, ?hy8⟩) (by assumption) ?rest8
              case hy8 => (intro w hSw; (try dsimp only at hSw); go_simp; try (with_reducible rfl))
              try simp only [Act.put, List.setIfInBounds_toArray, List.set_cons_zero, List.set_cons_succ]
              refine wpAnyH_ready (rs := [12]) (by kernel_rfl) (by simp) ?_
              refine (AllReadyH.cons (o := ⟨none, .store 27 (.tmp 3) (.tmp 16), 0, "l02_files.go:68", #[⟨11, .data⟩, ⟨10, .data⟩, ⟨7, .chain⟩, ⟨0, .phase⟩, ⟨1, .phase⟩, ⟨2, .phase⟩, ⟨3, .phase⟩, ⟨4, .phase⟩, ⟨5, .phase⟩, ⟨6, .phase⟩, ⟨7, .phase⟩, ⟨8, .phase⟩, ⟨9, .phase⟩, ⟨10, .phase⟩, ⟨11, .phase⟩], none⟩) rfl (fun K hK => ?_) AllReadyH.nil)
              · go_simp
                have hb12 : wE7.heap[gb]? = some (.cells #[.slice none 0 0, .slice none 0 0, .slice none 0 0, .int .i64 0] 27 (0, 0)) := (((show Below wE11.heap.size wE11 wE7 from bthen (Below.refl _ _) hop7)).block gb HLb.out).trans HB11.out
                have cb0 : wE7.cell? ⟨gb, 0, none⟩ = some (.slice none 0 0) := by rw [cell_of_row _ _ _ _ _ (0, 0) hb12]; rfl
                have fb0 := frozen_of_row wE7 gb 0 _ _ hb12
                have cb1 : wE7.cell? ⟨gb, 1, none⟩ = some (.slice none 0 0) := by rw [cell_of_row _ _ _ _ _ (0, 0) hb12]; rfl
                have fb1 := frozen_of_row wE7 gb 1 _ _ hb12
                have cb2 : wE7.cell? ⟨gb, 2, none⟩ = some (.slice none 0 0) := by rw [cell_of_row _ _ _ _ _ (0, 0) hb12]; rfl
                have fb2 := frozen_of_row wE7 gb 2 _ _ hb12
                have cb3 : wE7.cell? ⟨gb, 3, none⟩ = some (.int .i64 0) := by rw [cell_of_row _ _ _ _ _ (0, 0) hb12]; rfl
                have fb3 := frozen_of_row wE7 gb 3 _ _ hb12
                go_simp
                obtain ⟨wE12, hq12⟩ : ∃ x, x = ((((wE7.setCell ⟨gb, 0, none⟩ (.slice none 0 0)).setCell ⟨gb, 1, none⟩ (.slice r3 m.fNames.length q3)).setCell ⟨gb, 2, none⟩ (.slice r7 m.fSafe.length q7)).setCell ⟨gb, 3, none⟩ (.int .i64 m.fNext)) := ⟨_, rfl⟩
                rw [← hq12]
                have hgb12 : wE12.heap[gb]? = some (.cells #[.slice none 0 0, .slice r3 m.fNames.length q3, .slice r7 m.fSafe.length q7, .int .i64 m.fNext] 27 (0, 0)) := by rw [hq12]; exact heap_setCell_same _ gb 3 _ _ _ (heap_setCell_same _ gb 2 _ _ _ (heap_setCell_same _ gb 1 _ _ _ (heap_setCell_same _ gb 0 _ _ _ hb12)))
                have hT12 : Turn [gb] wE7 wE12 := by rw [hq12]; exact Turn.setCell (Turn.setCell (Turn.setCell (Turn.setCell (Turn.refl _ _) (by simp) _) (by simp) _) (by simp) _) (by simp) _
                clear hq12 cb0 cb1 cb2 cb3 fb0 fb1 fb2 fb3
                refine hK.out _ _ (hHeld.trans (hT12.below (fun k hk => by simp at hk; subst hk; exact HGW.out) hHeld.size)) (fun hHeld => ?_)
                clear hK K
                try simp only [Act.put, List.setIfInBounds_toArray, List.set_cons_zero, List.set_cons_succ]
                refine wpAnyH_done (by kernel_rfl) ?_ _
                have z0 := hop0.size
                have z3 := hop3.size
                have z4 := hop4.size
                have z7 := hop7.size
                have z11 := hop11.size
                have b6 := HGg6.out
                have b10 := HGg10.out
                have bb := HGb.out
                have l6 := HLg6.out
                have l10 := HLg10.out
                have lb := HLb.out
                have w6 := HWg6.out
                have w10 := HWg10.out
                have wb := HGW.out
                have wp3 := HP3.out
                have wp7 := HP7.out
                have t3 := HAT3.out
                have t7 := HAT7.out
                have u3 := ((show Below wE3.heap.size wE3 wE7 from bthen (bthen (bthen (Below.refl _ _) hop4) hop11) hop7)).size
                have u7 := ((show Below wE7.heap.size wE7 wE7 from Below.refl _ _)).size
                refine ⟨rfl, _, _, _, _, _, _, _, gb, (Value.ownBlock (.slice r3 m.fNames.length q3)).toList, (Value.ownBlock (.slice r7 m.fSafe.length q7)).toList, rfl, wb, hgb12, ?_, ?_, ?_, ?_, hHeld⟩
                · exact ownS.frame oEntry_good HOS3.out (fun b hb => (hT12.block b (by have := (t3 b hb).2; omega) (by have := t3 b hb; simp; omega)).trans (((show Below wE3.heap.size wE3 wE7 from bthen (bthen (bthen (Below.refl _ _) hop4) hop11) hop7)).block b (t3 b hb).2))
                · exact ownS.frame oEntry_good HOS7.out (fun b hb => (hT12.block b (by have := (t7 b hb).2; omega) (by have := t7 b hb; simp; omega)).trans (((show Below wE7.heap.size wE7 wE7 from Below.refl _ _)).block b (t7 b hb).2))
                · refine List.nodup_append.2 ⟨nodup_opt _, nodup_opt _, fun x hx y hy hxy => ?_⟩; have := t3 x hx; have := t7 y hy; omega
                · intro b hb; rcases List.mem_append.1 hb with hb | hb; (have := t3 b hb; omega); (have := t7 b hb; omega)
        · go_simp
          obtain ⟨wE11, hq11⟩ : ∃ x, x = wE3.alloc (.cells #[.slice none 0 0, .slice none 0 0, .slice none 0 0, .int .i64 0] 27) := ⟨_, rfl⟩
          have hop11 : Below wE3.heap.size wE3 wE11 := by rw [hq11]; exact (Below.refl _ _).alloc (Nat.le_refl _) _
          have HB11 : Hid (wE11.heap[wE3.heap.size]? = some (.cells #[.slice none 0 0, .slice none 0 0, .slice none 0 0, .int .i64 0] 27 (0, 0))) := by show _ = _; rw [hq11, al_heap, if_pos rfl]
          obtain ⟨gb, HGb⟩ : ∃ g, Hid (g = wE3.heap.size) := ⟨_, rfl⟩
          rw [← HGb.out] at HB11 ⊢
          have HLb : Hid (gb < wE11.heap.size) := (Array.getElem?_eq_some_iff.1 HB11.out).1
          have HGW : Hid (wq.heap.size ≤ gb) := by show _ ≤ _; rw [HGb.out]; exact hHeld.size
          rw [← hq11]
          clear hq11
          refine hK.out _ _ (bthen hHeld hop11) (fun hHeld => ?_)
          clear hK K
          try simp only [Act.put, List.setIfInBounds_toArray, List.set_cons_zero, List.set_cons_succ]
          refine wpAnyH_ready (rs := [4]) (by kernel_rfl) (by simp) ?_
          refine (AllReadyH.cons (o := ⟨some 10, .buildSlice 25 0 #[], 25, "l02_files.go:68", #[], none⟩) rfl (fun K hK => ?_) AllReadyH.nil)
          · go_simp
            obtain ⟨wE4, hq4⟩ : ∃ x, x = wE11.alloc (.cells #[] 91) := ⟨_, rfl⟩
            have hop4 : Below wE11.heap.size wE11 wE4 := by rw [hq4]; exact (Below.refl _ _).alloc (Nat.le_refl _) _
            have hob4 : wE4.ownsRow wq.heap.size 91 2 (.slice (some ⟨wE11.heap.size, 0, none⟩) 0 0) 0 [] := by rw [hq4]; exact own_lit0 _ _ _ _ hHeld.size
            obtain ⟨g10, HGg10⟩ : ∃ g, Hid (g = wE11.heap.size) := ⟨_, rfl⟩
            have HLg10 : Hid (g10 < wE4.heap.size) := by show _ < _; rw [HGg10.out, hq4]; simp
            have HWg10 : Hid (wq.heap.size ≤ g10) := by show _ ≤ _; rw [HGg10.out]; exact hHeld.size
            rw [← HGg10.out] at hob4 ⊢
            rw [← hq4]
            clear hq4
            refine hK.out _ _ (bthen hHeld hop4) (fun hHeld => ?_)
            clear hK K
            try simp only [Act.put, List.setIfInBounds_toArray, List.set_cons_zero, List.set_cons_succ]
            refine wpAnyH_ready (rs := [7]) (by kernel_rfl) (by simp) ?_
            refine (AllReadyH.cons (o := ⟨some 13, .call { callee := .builtin .append, args := #[.tmp 10, .tmp 12], argTypes := #[25, 25] }, 25, "l02_files.go:68", #[⟨4, .data⟩, ⟨6, .data⟩, ⟨3, .chain⟩], none⟩) rfl (fun K hK => ?_) AllReadyH.nil)
            · skip
              obtain ⟨css7, s7a, s7b, s7c, s7d⟩ := Src.ents (P := Try.prog) (c := c2) (n := m.fSafe.length) Try.underlying25 rfl (HS.out.2.2.below rEntry_good (HBW.out.trans (hHeld.mono HBW.out.size)))
              refine step_append_lit _ rfl _ _ 25 25 rfl wq.heap.size 91 iE _ 2 24 Try.underlying25 hiE hzE0 hzE1 hzE2 rfl g10 rfl (own_below hob4 (show Below wE4.heap.size wE4 wE4 from Below.refl _ _)) (.slice a2 m.fSafe.length c2) rfl m.fSafe.length css7.flatten s7d (by unfold maxLen; omega) (by omega) hHeld.size ?_
              intro v7 wE7 hw7 hop7 hat7
              obtain ⟨r7, q7, rfl⟩ := own_slice hw7
              have hos7 := ownS_row rfl s7a s7b s7c hw7
              have hat7 : ∀ j, j ∈ (Value.ownBlock (.slice r7 m.fSafe.length q7)).toList → (j = g10 ∨ j = wE4.heap.size) ∧ j < wE7.heap.size := fun j hj => by have h1 := (hw7.lt j (by simpa using hj)).2; rcases hat7 with h | h <;> (rw [h] at hj; simp at hj; subst hj; exact ⟨by simp, h1⟩)
              have HAT7 := Hid.mk hat7
              have HP7 : Hid (wq.heap.size ≤ wE4.heap.size) := hHeld.size
              have HOS7 := Hid.mk hos7
              clear s7a s7b s7c s7d hw7 hos7 hat7
              refine hK.out _ _ (bthen hHeld hop7) (fun hHeld => ?_)
              clear hK K
              try simp only [Act.put, List.setIfInBounds_toArray, List.set_cons_zero, List.set_cons_succ]
              refine wpAnyH_take (i := 10) (oi := ⟨some 16, .build 27 #[(1, .tmp 9), (2, .tmp 13), (3, .tmp 15)], 27, "l02_files.go:68", #[⟨3, .data⟩, ⟨7, .data⟩, ⟨9, .data⟩], none⟩) (v := ?v9) rfl (by kernel_rfl) (by kernel_rfl) (by kernel_rfl) (fun _ _ _ h => by cases h.1) (Or.inl ⟨by rfl, ?hy9⟩) (by assumption) ?rest9
              case hy9 => (intro w hSw; (try dsimp only at hSw); go_simp; try (with_reducible rfl))
              try simp only [Act.put, List.setIfInBounds_toArray, List.set_cons_zero, List.set_cons_succ]
              refine wpAnyH_ready (rs := [12]) (by kernel_rfl) (by simp) ?_
              refine (AllReadyH.cons (o := ⟨none, .store 27 (.tmp 3) (.tmp 16), 0, "l02_files.go:68", #[⟨11, .data⟩, ⟨10, .data⟩, ⟨7, .chain⟩, ⟨0, .phase⟩, ⟨1, .phase⟩, ⟨2, .phase⟩, ⟨3, .phase⟩, ⟨4, .phase⟩, ⟨5, .phase⟩, ⟨6, .phase⟩, ⟨7, .phase⟩, ⟨8, .phase⟩, ⟨9, .phase⟩, ⟨10, .phase⟩, ⟨11, .phase⟩], none⟩) rfl (fun K hK => ?_) AllReadyH.nil)
              · go_simp
                have hb12 : wE7.heap[gb]? = some (.cells #[.slice none 0 0, .slice none 0 0, .slice none 0 0, .int .i64 0] 27 (0, 0)) := (((show Below wE11.heap.size wE11 wE7 from bthen (bthen (Below.refl _ _) hop4) hop7)).block gb HLb.out).trans HB11.out
                have cb0 : wE7.cell? ⟨gb, 0, none⟩ = some (.slice none 0 0) := by rw [cell_of_row _ _ _ _ _ (0, 0) hb12]; rfl
                have fb0 := frozen_of_row wE7 gb 0 _ _ hb12
                have cb1 : wE7.cell? ⟨gb, 1, none⟩ = some (.slice none 0 0) := by rw [cell_of_row _ _ _ _ _ (0, 0) hb12]; rfl
                have fb1 := frozen_of_row wE7 gb 1 _ _ hb12
                have cb2 : wE7.cell? ⟨gb, 2, none⟩ = some (.slice none 0 0) := by rw [cell_of_row _ _ _ _ _ (0, 0) hb12]; rfl
                have fb2 := frozen_of_row wE7 gb 2 _ _ hb12
                have cb3 : wE7.cell? ⟨gb, 3, none⟩ = some (.int .i64 0) := by rw [cell_of_row _ _ _ _ _ (0, 0) hb12]; rfl
                have fb3 := frozen_of_row wE7 gb 3 _ _ hb12
                go_simp
                obtain ⟨wE12, hq12⟩ : ∃ x, x = ((((wE7.setCell ⟨gb, 0, none⟩ (.slice none 0 0)).setCell ⟨gb, 1, none⟩ (.slice r3 m.fNames.length q3)).setCell ⟨gb, 2, none⟩ (.slice r7 m.fSafe.length q7)).setCell ⟨gb, 3, none⟩ (.int .i64 m.fNext)) := ⟨_, rfl⟩
                rw [← hq12]
                have hgb12 : wE12.heap[gb]? = some (.cells #[.slice none 0 0, .slice r3 m.fNames.length q3, .slice r7 m.fSafe.length q7, .int .i64 m.fNext] 27 (0, 0)) := by rw [hq12]; exact heap_setCell_same _ gb 3 _ _ _ (heap_setCell_same _ gb 2 _ _ _ (heap_setCell_same _ gb 1 _ _ _ (heap_setCell_same _ gb 0 _ _ _ hb12)))
                have hT12 : Turn [gb] wE7 wE12 := by rw [hq12]; exact Turn.setCell (Turn.setCell (Turn.setCell (Turn.setCell (Turn.refl _ _) (by simp) _) (by simp) _) (by simp) _) (by simp) _
                clear hq12 cb0 cb1 cb2 cb3 fb0 fb1 fb2 fb3
                refine hK.out _ _ (hHeld.trans (hT12.below (fun k hk => by simp at hk; subst hk; exact HGW.out) hHeld.size)) (fun hHeld => ?_)
                clear hK K
                try simp only [Act.put, List.setIfInBounds_toArray, List.set_cons_zero, List.set_cons_succ]
                refine wpAnyH_done (by kernel_rfl) ?_ _
                have z0 := hop0.size
                have z3 := hop3.size
                have z4 := hop4.size
                have z7 := hop7.size
                have z11 := hop11.size
                have b6 := HGg6.out
                have b10 := HGg10.out
                have bb := HGb.out
                have l6 := HLg6.out
                have l10 := HLg10.out
                have lb := HLb.out
                have w6 := HWg6.out
                have w10 := HWg10.out
                have wb := HGW.out
                have wp3 := HP3.out
                have wp7 := HP7.out
                have t3 := HAT3.out
                have t7 := HAT7.out
                have u3 := ((show Below wE3.heap.size wE3 wE7 from bthen (bthen (bthen (Below.refl _ _) hop11) hop4) hop7)).size
                have u7 := ((show Below wE7.heap.size wE7 wE7 from Below.refl _ _)).size
                refine ⟨rfl, _, _, _, _, _, _, _, gb, (Value.ownBlock (.slice r3 m.fNames.length q3)).toList, (Value.ownBlock (.slice r7 m.fSafe.length q7)).toList, rfl, wb, hgb12, ?_, ?_, ?_, ?_, hHeld⟩
                · exact ownS.frame oEntry_good HOS3.out (fun b hb => (hT12.block b (by have := (t3 b hb).2; omega) (by have := t3 b hb; simp; omega)).trans (((show Below wE3.heap.size wE3 wE7 from bthen (bthen (bthen (Below.refl _ _) hop11) hop4) hop7)).block b (t3 b hb).2))
                · exact ownS.frame oEntry_good HOS7.out (fun b hb => (hT12.block b (by have := (t7 b hb).2; omega) (by have := t7 b hb; simp; omega)).trans (((show Below wE7.heap.size wE7 wE7 from Below.refl _ _)).block b (t7 b hb).2))
                · refine List.nodup_append.2 ⟨nodup_opt _, nodup_opt _, fun x hx y hy hxy => ?_⟩; have := t3 x hx; have := t7 y hy; omega
                · intro b hb; rcases List.mem_append.1 hb with hb | hb; (have := t3 b hb; omega); (have := t7 b hb; omega)
      · go_simp
        obtain ⟨wE4, hq4⟩ : ∃ x, x = wE0.alloc (.cells #[] 91) := ⟨_, rfl⟩
        have hop4 : Below wE0.heap.size wE0 wE4 := by rw [hq4]; exact (Below.refl _ _).alloc (Nat.le_refl _) _
        have hob4 : wE4.ownsRow wq.heap.size 91 2 (.slice (some ⟨wE0.heap.size, 0, none⟩) 0 0) 0 [] := by rw [hq4]; exact own_lit0 _ _ _ _ hHeld.size
        obtain ⟨g10, HGg10⟩ : ∃ g, Hid (g = wE0.heap.size) := ⟨_, rfl⟩
        have HLg10 : Hid (g10 < wE4.heap.size) := by show _ < _; rw [HGg10.out, hq4]; simp
        have HWg10 : Hid (wq.heap.size ≤ g10) := by show _ ≤ _; rw [HGg10.out]; exact hHeld.size
        rw [← HGg10.out] at hob4 ⊢
        rw [← hq4]
        clear hq4
        refine hK.out _ _ (bthen hHeld hop4) (fun hHeld => ?_)
        clear hK K
        try simp only [Act.put, List.setIfInBounds_toArray, List.set_cons_zero, List.set_cons_succ]
        refine wpAnyH_ready (rs := [3, 11]) (by kernel_rfl) (by simp) ?_
        refine (AllReadyH.cons (o := ⟨some 9, .call { callee := .builtin .append, args := #[.tmp 6, .tmp 8], argTypes := #[25, 25] }, 25, "l02_files.go:68", #[⟨0, .data⟩, ⟨2, .data⟩], none⟩) rfl (fun K hK => ?_) (AllReadyH.cons (o := ⟨some 3, .alloc 27, 0, "l02_files.go:68", #[], none⟩) rfl (fun K hK => ?_) AllReadyH.nil))
        · skip
          obtain ⟨css3, s3a, s3b, s3c, s3d⟩ := Src.ents (P := Try.prog) (c := c1) (n := m.fNames.length) Try.underlying25 rfl (HN.out.2.2.below rEntry_good (HBW.out.trans (hHeld.mono HBW.out.size)))
          refine step_append_lit _ rfl _ _ 25 25 rfl wq.heap.size 91 iE _ 2 24 Try.underlying25 hiE hzE0 hzE1 hzE2 rfl g6 rfl (own_below hob0 (show Below wE0.heap.size wE0 wE4 from bthen (Below.refl _ _) hop4)) (.slice a1 m.fNames.length c1) rfl m.fNames.length css3.flatten s3d (by unfold maxLen; omega) (by omega) hHeld.size ?_
          intro v3 wE3 hw3 hop3 hat3
          obtain ⟨r3, q3, rfl⟩ := own_slice hw3
          have hos3 := ownS_row rfl s3a s3b s3c hw3
          have hat3 : ∀ j, j ∈ (Value.ownBlock (.slice r3 m.fNames.length q3)).toList → (j = g6 ∨ j = wE4.heap.size) ∧ j < wE3.heap.size := fun j hj => by have h1 := (hw3.lt j (by simpa using hj)).2; rcases hat3 with h | h <;> (rw [h] at hj; simp at hj; subst hj; exact ⟨by simp, h1⟩)
          have HAT3 := Hid.mk hat3
          have HP3 : Hid (wq.heap.size ≤ wE4.heap.size) := hHeld.size
          have HOS3 := Hid.mk hos3
          clear s3a s3b s3c s3d hw3 hos3 hat3
          refine hK.out _ _ (bthen hHeld hop3) (fun hHeld => ?_)
          clear hK K
          try simp only [Act.put, List.setIfInBounds_toArray, List.set_cons_zero, List.set_cons_succ]
          refine wpAnyH_ready (rs := [7, 11]) (by kernel_rfl) (by simp) ?_
          refine (AllReadyH.cons (o := ⟨some 13, .call { callee := .builtin .append, args := #[.tmp 10, .tmp 12], argTypes := #[25, 25] }, 25, "l02_files.go:68", #[⟨4, .data⟩, ⟨6, .data⟩, ⟨3, .chain⟩], none⟩) rfl (fun K hK => ?_) (AllReadyH.cons (o := ⟨some 3, .alloc 27, 0, "l02_files.go:68", #[], none⟩) rfl (fun K hK => ?_) AllReadyH.nil))
          · skip
            obtain ⟨css7, s7a, s7b, s7c, s7d⟩ := Src.ents (P := Try.prog) (c := c2) (n := m.fSafe.length) Try.underlying25 rfl (HS.out.2.2.below rEntry_good (HBW.out.trans (hHeld.mono HBW.out.size)))
            refine step_append_lit _ rfl _ _ 25 25 rfl wq.heap.size 91 iE _ 2 24 Try.underlying25 hiE hzE0 hzE1 hzE2 rfl g10 rfl (own_below hob4 (show Below wE4.heap.size wE4 wE3 from bthen (Below.refl _ _) hop3)) (.slice a2 m.fSafe.length c2) rfl m.fSafe.length css7.flatten s7d (by unfold maxLen; omega) (by omega) hHeld.size ?_
            intro v7 wE7 hw7 hop7 hat7
            obtain ⟨r7, q7, rfl⟩ := own_slice hw7
            have hos7 := ownS_row rfl s7a s7b s7c hw7
            have hat7 : ∀ j, j ∈ (Value.ownBlock (.slice r7 m.fSafe.length q7)).toList → (j = g10 ∨ j = wE3.heap.size) ∧ j < wE7.heap.size := fun j hj => by have h1 := (hw7.lt j (by simpa using hj)).2; rcases hat7 with h | h <;> (rw [h] at hj; simp at hj; subst hj; exact ⟨by simp, h1⟩)
            have HAT7 := Hid.mk hat7
            have HP7 : Hid (wq.heap.size ≤ wE3.heap.size) := hHeld.size
            have HOS7 := Hid.mk hos7
            clear s7a s7b s7c s7d hw7 hos7 hat7
            refine hK.out _ _ (bthen hHeld hop7) (fun hHeld => ?_)
            clear hK K
            try simp only [Act.put, List.setIfInBounds_toArray, List.set_cons_zero, List.set_cons_succ]
            refine wpAnyH_take (i := 10) (oi := ⟨some 16, .build 27 #[(1, .tmp 9), (2, .tmp 13), (3, .tmp 15)], 27, "l02_files.go:68", #[⟨3, .data⟩, ⟨7, .data⟩, ⟨9, .data⟩], none⟩) (v := ?v10) rfl (by kernel_rfl) (by kernel_rfl) (by kernel_rfl) (fun _ _ _ h => by cases h.1) (Or.inl ⟨by rfl, ?hy10⟩) (by assumption) ?rest10
            case hy10 => (intro w hSw; (try dsimp only at hSw); go_simp; try (with_reducible rfl))
            try simp only [Act.put, List.setIfInBounds_toArray, List.set_cons_zero, List.set_cons_succ]
            refine wpAnyH_ready (rs := [11]) (by kernel_rfl) (by simp) ?_
            refine (AllReadyH.cons (o := ⟨some 3, .alloc 27, 0, "l02_files.go:68", #[], none⟩) rfl (fun K hK => ?_) AllReadyH.nil)
            · go_simp
              obtain ⟨wE11, hq11⟩ : ∃ x, x = wE7.alloc (.cells #[.slice none 0 0, .slice none 0 0, .slice none 0 0, .int .i64 0] 27) := ⟨_, rfl⟩
              have hop11 : Below wE7.heap.size wE7 wE11 := by rw [hq11]; exact (Below.refl _ _).alloc (Nat.le_refl _) _
              have HB11 : Hid (wE11.heap[wE7.heap.size]? = some (.cells #[.slice none 0 0, .slice none 0 0, .slice none 0 0, .int .i64 0] 27 (0, 0))) := by show _ = _; rw [hq11, al_heap, if_pos rfl]
              obtain ⟨gb, HGb⟩ : ∃ g, Hid (g = wE7.heap.size) := ⟨_, rfl⟩
              rw [← HGb.out] at HB11 ⊢
              have HLb : Hid (gb < wE11.heap.size) := (Array.getElem?_eq_some_iff.1 HB11.out).1
              have HGW : Hid (wq.heap.size ≤ gb) := by show _ ≤ _; rw [HGb.out]; exact hHeld.size
              rw [← hq11]
              clear hq11
              refine hK.out _ _ (bthen hHeld hop11) (fun hHeld => ?_)
              clear hK K
              try simp only [Act.put, List.setIfInBounds_toArray, List.set_cons_zero, List.set_cons_succ]
              refine wpAnyH_ready (rs := [12]) (by kernel_rfl) (by simp) ?_
              refine (AllReadyH.cons (o := ⟨none, .store 27 (.tmp 3) (.tmp 16), 0, "l02_files.go:68", #[⟨11, .data⟩, ⟨10, .data⟩, ⟨7, .chain⟩, ⟨0, .phase⟩, ⟨1, .phase⟩, ⟨2, .phase⟩, ⟨3, .phase⟩, ⟨4, .phase⟩, ⟨5, .phase⟩, ⟨6, .phase⟩, ⟨7, .phase⟩, ⟨8, .phase⟩, ⟨9, .phase⟩, ⟨10, .phase⟩, ⟨11, .phase⟩], none⟩) rfl (fun K hK => ?_) AllReadyH.nil)
              · go_simp
                have hb12 : wE11.heap[gb]? = some (.cells #[.slice none 0 0, .slice none 0 0, .slice none 0 0, .int .i64 0] 27 (0, 0)) := (((show Below wE11.heap.size wE11 wE11 from Below.refl _ _)).block gb HLb.out).trans HB11.out
                have cb0 : wE11.cell? ⟨gb, 0, none⟩ = some (.slice none 0 0) := by rw [cell_of_row _ _ _ _ _ (0, 0) hb12]; rfl
                have fb0 := frozen_of_row wE11 gb 0 _ _ hb12
                have cb1 : wE11.cell? ⟨gb, 1, none⟩ = some (.slice none 0 0) := by rw [cell_of_row _ _ _ _ _ (0, 0) hb12]; rfl
                have fb1 := frozen_of_row wE11 gb 1 _ _ hb12
                have cb2 : wE11.cell? ⟨gb, 2, none⟩ = some (.slice none 0 0) := by rw [cell_of_row _ _ _ _ _ (0, 0) hb12]; rfl
                have fb2 := frozen_of_row wE11 gb 2 _ _ hb12
                have cb3 : wE11.cell? ⟨gb, 3, none⟩ = some (.int .i64 0) := by rw [cell_of_row _ _ _ _ _ (0, 0) hb12]; rfl
                have fb3 := frozen_of_row wE11 gb 3 _ _ hb12
                go_simp
                obtain ⟨wE12, hq12⟩ : ∃ x, x = ((((wE11.setCell ⟨gb, 0, none⟩ (.slice none 0 0)).setCell ⟨gb, 1, none⟩ (.slice r3 m.fNames.length q3)).setCell ⟨gb, 2, none⟩ (.slice r7 m.fSafe.length q7)).setCell ⟨gb, 3, none⟩ (.int .i64 m.fNext)) := ⟨_, rfl⟩
                rw [← hq12]
                have hgb12 : wE12.heap[gb]? = some (.cells #[.slice none 0 0, .slice r3 m.fNames.length q3, .slice r7 m.fSafe.length q7, .int .i64 m.fNext] 27 (0, 0)) := by rw [hq12]; exact heap_setCell_same _ gb 3 _ _ _ (heap_setCell_same _ gb 2 _ _ _ (heap_setCell_same _ gb 1 _ _ _ (heap_setCell_same _ gb 0 _ _ _ hb12)))
                have hT12 : Turn [gb] wE11 wE12 := by rw [hq12]; exact Turn.setCell (Turn.setCell (Turn.setCell (Turn.setCell (Turn.refl _ _) (by simp) _) (by simp) _) (by simp) _) (by simp) _
                clear hq12 cb0 cb1 cb2 cb3 fb0 fb1 fb2 fb3
                refine hK.out _ _ (hHeld.trans (hT12.below (fun k hk => by simp at hk; subst hk; exact HGW.out) hHeld.size)) (fun hHeld => ?_)
                clear hK K
                try simp only [Act.put, List.setIfInBounds_toArray, List.set_cons_zero, List.set_cons_succ]
                refine wpAnyH_done (by kernel_rfl) ?_ _
                have z0 := hop0.size
                have z3 := hop3.size
                have z4 := hop4.size
                have z7 := hop7.size
                have z11 := hop11.size
                have b6 := HGg6.out
                have b10 := HGg10.out
                have bb := HGb.out
                have l6 := HLg6.out
                have l10 := HLg10.out
                have lb := HLb.out
                have w6 := HWg6.out
                have w10 := HWg10.out
                have wb := HGW.out
                have wp3 := HP3.out
                have wp7 := HP7.out
                have t3 := HAT3.out
                have t7 := HAT7.out
                have u3 := ((show Below wE3.heap.size wE3 wE11 from bthen (bthen (Below.refl _ _) hop7) hop11)).size
                have u7 := ((show Below wE7.heap.size wE7 wE11 from bthen (Below.refl _ _) hop11)).size
                refine ⟨rfl, _, _, _, _, _, _, _, gb, (Value.ownBlock (.slice r3 m.fNames.length q3)).toList, (Value.ownBlock (.slice r7 m.fSafe.length q7)).toList, rfl, wb, hgb12, ?_, ?_, ?_, ?_, hHeld⟩
                · exact ownS.frame oEntry_good HOS3.out (fun b hb => (hT12.block b (by have := (t3 b hb).2; omega) (by have := t3 b hb; simp; omega)).trans (((show Below wE3.heap.size wE3 wE11 from bthen (bthen (Below.refl _ _) hop7) hop11)).block b (t3 b hb).2))
                · exact ownS.frame oEntry_good HOS7.out (fun b hb => (hT12.block b (by have := (t7 b hb).2; omega) (by have := t7 b hb; simp; omega)).trans (((show Below wE7.heap.size wE7 wE11 from bthen (Below.refl _ _) hop11)).block b (t7 b hb).2))
                · refine List.nodup_append.2 ⟨nodup_opt _, nodup_opt _, fun x hx y hy hxy => ?_⟩; have := t3 x hx; have := t7 y hy; omega
                · intro b hb; rcases List.mem_append.1 hb with hb | hb; (have := t3 b hb; omega); (have := t7 b hb; omega)
          · go_simp
            obtain ⟨wE11, hq11⟩ : ∃ x, x = wE3.alloc (.cells #[.slice none 0 0, .slice none 0 0, .slice none 0 0, .int .i64 0] 27) := ⟨_, rfl⟩
            have hop11 : Below wE3.heap.size wE3 wE11 := by rw [hq11]; exact (Below.refl _ _).alloc (Nat.le_refl _) _
            have HB11 : Hid (wE11.heap[wE3.heap.size]? = some (.cells #[.slice none 0 0, .slice none 0 0, .slice none 0 0, .int .i64 0] 27 (0, 0))) := by show _ = _; rw [hq11, al_heap, if_pos rfl]
            obtain ⟨gb, HGb⟩ : ∃ g, Hid (g = wE3.heap.size) := ⟨_, rfl⟩
            rw [← HGb.out] at HB11 ⊢
            have HLb : Hid (gb < wE11.heap.size) := (Array.getElem?_eq_some_iff.1 HB11.out).1
            have HGW : Hid (wq.heap.size ≤ gb) := by show _ ≤ _; rw [HGb.out]; exact hHeld.size
            rw [← hq11]
            clear hq11
            refine hK.out _ _ (bthen hHeld hop11) (fun hHeld => ?_)
            clear hK K
            try simp only [Act.put, List.setIfInBounds_toArray, List.set_cons_zero, List.set_cons_succ]
            refine wpAnyH_ready (rs := [7]) (by kernel_rfl) (by simp) ?_
            refine (AllReadyH.cons (o := ⟨some 13, .call { callee := .builtin .append, args := #[.tmp 10, .tmp 12], argTypes := #[25, 25] }, 25, "l02_files.go:68", #[⟨4, .data⟩, ⟨6, .data⟩, ⟨3, .chain⟩], none⟩) rfl (fun K hK => ?_) AllReadyH.nil)
            · skip
              obtain ⟨css7, s7a, s7b, s7c, s7d⟩ := Src.ents (P := Try.prog) (c := c2) (n := m.fSafe.length) Try.underlying25 rfl (HS.out.2.2.below rEntry_good (HBW.out.trans (hHeld.mono HBW.out.size)))
              refine step_append_lit _ rfl _ _ 25 25 rfl wq.heap.size 91 iE _ 2 24 Try.underlying25 hiE hzE0 hzE1 hzE2 rfl g10 rfl (own_below hob4 (show Below wE4.heap.size wE4 wE11 from bthen (bthen (Below.refl _ _) hop3) hop11)) (.slice a2 m.fSafe.length c2) rfl m.fSafe.length css7.flatten s7d (by unfold maxLen; omega) (by omega) hHeld.size ?_
              intro v7 wE7 hw7 hop7 hat7
              obtain ⟨r7, q7, rfl⟩ := own_slice hw7
              have hos7 := ownS_row rfl s7a s7b s7c hw7
              have hat7 : ∀ j, j ∈ (Value.ownBlock (.slice r7 m.fSafe.length q7)).toList → (j = g10 ∨ j = wE11.heap.size) ∧ j < wE7.heap.size := fun j hj => by have h1 := (hw7.lt j (by simpa using hj)).2; rcases hat7 with h | h <;> (rw [h] at hj; simp at hj; subst hj; exact ⟨by simp, h1⟩)
              have HAT7 := Hid.mk hat7
              have HP7 : Hid (wq.heap.size ≤ wE11.heap.size) := hHeld.size
              have HOS7 := Hid.mk hos7
              clear s7a s7b s7c s7d hw7 hos7 hat7
              refine hK.out _ _ (bthen hHeld hop7) (fun hHeld => ?_)
              clear hK K
              try simp only [Act.put, List.setIfInBounds_toArray, List.set_cons_zero, List.set_cons_succ]
              refine wpAnyH_take (i := 10) (oi := ⟨some 16, .build 27 #[(1, .tmp 9), (2, .tmp 13), (3, .tmp 15)], 27, "l02_files.go:68", #[⟨3, .data⟩, ⟨7, .data⟩, ⟨9, .data⟩], none⟩) (v := ?v11) rfl (by kernel_rfl) (by kernel_rfl) (by kernel_rfl) (fun _ _ _ h => by cases h.1) (Or.inl ⟨by rfl, ?hy11⟩) (by assumption) ?rest11
              case hy11 => (intro w hSw; (try dsimp only at hSw); go_simp; try (with_reducible rfl))
              try simp only [Act.put, List.setIfInBounds_toArray, List.set_cons_zero, List.set_cons_succ]
              refine wpAnyH_ready (rs := [12]) (by kernel_rfl) (by simp) ?_
              refine (AllReadyH.cons (o := ⟨none, .store 27 (.tmp 3) (.tmp 16), 0, "l02_files.go:68", #[⟨11, .data⟩, ⟨10, .data⟩, ⟨7, .chain⟩, ⟨0, .phase⟩, ⟨1, .phase⟩, ⟨2, .phase⟩, ⟨3, .phase⟩, ⟨4, .phase⟩, ⟨5, .phase⟩, ⟨6, .phase⟩, ⟨7, .phase⟩, ⟨8, .phase⟩, ⟨9, .phase⟩, ⟨10, .phase⟩, ⟨11, .phase⟩], none⟩) rfl (fun K hK => ?_) AllReadyH.nil)
              · go_simp
                have hb12 : wE7.heap[gb]? = some (.cells #[.slice none 0 0, .slice none 0 0, .slice none 0 0, .int .i64 0] 27 (0, 0)) := (((show Below wE11.heap.size wE11 wE7 from bthen (Below.refl _ _) hop7)).block gb HLb.out).trans HB11.out
                have cb0 : wE7.cell? ⟨gb, 0, none⟩ = some (.slice none 0 0) := by rw [cell_of_row _ _ _ _ _ (0, 0) hb12]; rfl
                have fb0 := frozen_of_row wE7 gb 0 _ _ hb12
                have cb1 : wE7.cell? ⟨gb, 1, none⟩ = some (.slice none 0 0) := by rw [cell_of_row _ _ _ _ _ (0, 0) hb12]; rfl
                have fb1 := frozen_of_row wE7 gb 1 _ _ hb12
                have cb2 : wE7.cell? ⟨gb, 2, none⟩ = some (.slice none 0 0) := by rw [cell_of_row _ _ _ _ _ (0, 0) hb12]; rfl
                have fb2 := frozen_of_row wE7 gb 2 _ _ hb12
                have cb3 : wE7.cell? ⟨gb, 3, none⟩ = some (.int .i64 0) := by rw [cell_of_row _ _ _ _ _ (0, 0) hb12]; rfl
                have fb3 := frozen_of_row wE7 gb 3 _ _ hb12
                go_simp
                obtain ⟨wE12, hq12⟩ : ∃ x, x = ((((wE7.setCell ⟨gb, 0, none⟩ (.slice none 0 0)).setCell ⟨gb, 1, none⟩ (.slice r3 m.fNames.length q3)).setCell ⟨gb, 2, none⟩ (.slice r7 m.fSafe.length q7)).setCell ⟨gb, 3, none⟩ (.int .i64 m.fNext)) := ⟨_, rfl⟩
                rw [← hq12]
                have hgb12 : wE12.heap[gb]? = some (.cells #[.slice none 0 0, .slice r3 m.fNames.length q3, .slice r7 m.fSafe.length q7, .int .i64 m.fNext] 27 (0, 0)) := by rw [hq12]; exact heap_setCell_same _ gb 3 _ _ _ (heap_setCell_same _ gb 2 _ _ _ (heap_setCell_same _ gb 1 _ _ _ (heap_setCell_same _ gb 0 _ _ _ hb12)))
                have hT12 : Turn [gb] wE7 wE12 := by rw [hq12]; exact Turn.setCell (Turn.setCell (Turn.setCell (Turn.setCell (Turn.refl _ _) (by simp) _) (by simp) _) (by simp) _) (by simp) _
                clear hq12 cb0 cb1 cb2 cb3 fb0 fb1 fb2 fb3
                refine hK.out _ _ (hHeld.trans (hT12.below (fun k hk => by simp at hk; subst hk; exact HGW.out) hHeld.size)) (fun hHeld => ?_)
                clear hK K
                try simp only [Act.put, List.setIfInBounds_toArray, List.set_cons_zero, List.set_cons_succ]
                refine wpAnyH_done (by kernel_rfl) ?_ _
                have z0 := hop0.size
                have z3 := hop3.size
                have z4 := hop4.size
                have z7 := hop7.size
                have z11 := hop11.size
                have b6 := HGg6.out
                have b10 := HGg10.out
                have bb := HGb.out
                have l6 := HLg6.out
                have l10 := HLg10.out
                have lb := HLb.out
                have w6 := HWg6.out
                have w10 := HWg10.out
                have wb := HGW.out
                have wp3 := HP3.out
                have wp7 := HP7.out
                have t3 := HAT3.out
                have t7 := HAT7.out
                have u3 := ((show Below wE3.heap.size wE3 wE7 from bthen (bthen (Below.refl _ _) hop11) hop7)).size
                have u7 := ((show Below wE7.heap.size wE7 wE7 from Below.refl _ _)).size
                refine ⟨rfl, _, _, _, _, _, _, _, gb, (Value.ownBlock (.slice r3 m.fNames.length q3)).toList, (Value.ownBlock (.slice r7 m.fSafe.length q7)).toList, rfl, wb, hgb12, ?_, ?_, ?_, ?_, hHeld⟩
                · exact ownS.frame oEntry_good HOS3.out (fun b hb => (hT12.block b (by have := (t3 b hb).2; omega) (by have := t3 b hb; simp; omega)).trans (((show Below wE3.heap.size wE3 wE7 from bthen (bthen (Below.refl _ _) hop11) hop7)).block b (t3 b hb).2))
                · exact ownS.frame oEntry_good HOS7.out (fun b hb => (hT12.block b (by have := (t7 b hb).2; omega) (by have := t7 b hb; simp; omega)).trans (((show Below wE7.heap.size wE7 wE7 from Below.refl _ _)).block b (t7 b hb).2))
                · refine List.nodup_append.2 ⟨nodup_opt _, nodup_opt _, fun x hx y hy hxy => ?_⟩; have := t3 x hx; have := t7 y hy; omega
                · intro b hb; rcases List.mem_append.1 hb with hb | hb; (have := t3 b hb; omega); (have := t7 b hb; omega)
        · go_simp
          obtain ⟨wE11, hq11⟩ : ∃ x, x = wE4.alloc (.cells #[.slice none 0 0, .slice none 0 0, .slice none 0 0, .int .i64 0] 27) := ⟨_, rfl⟩
          have hop11 : Below wE4.heap.size wE4 wE11 := by rw [hq11]; exact (Below.refl _ _).alloc (Nat.le_refl _) _
          have HB11 : Hid (wE11.heap[wE4.heap.size]? = some (.cells #[.slice none 0 0, .slice none 0 0, .slice none 0 0, .int .i64 0] 27 (0, 0))) := by show _ = _; rw [hq11, al_heap, if_pos rfl]
          obtain ⟨gb, HGb⟩ : ∃ g, Hid (g = wE4.heap.size) := ⟨_, rfl⟩
          rw [← HGb.out] at HB11 ⊢
          have HLb : Hid (gb < wE11.heap.size) := (Array.getElem?_eq_some_iff.1 HB11.out).1
          have HGW : Hid (wq.heap.size ≤ gb) := by show _ ≤ _; rw [HGb.out]; exact hHeld.size
          rw [← hq11]
          clear hq11
          refine hK.out _ _ (bthen hHeld hop11) (fun hHeld => ?_)
          clear hK K
          try simp only [Act.put, List.setIfInBounds_toArray, List.set_cons_zero, List.set_cons_succ]
          refine wpAnyH_ready (rs := [3]) (by kernel_rfl) (by simp) ?_
          refine (AllReadyH.cons (o := ⟨some 9, .call { callee := .builtin .append, args := #[.tmp 6, .tmp 8], argTypes := #[25, 25] }, 25, "l02_files.go:68", #[⟨0, .data⟩, ⟨2, .data⟩], none⟩) rfl (fun K hK => ?_) AllReadyH.nil)
          · skip
            obtain ⟨css3, s3a, s3b, s3c, s3d⟩ := Src.ents (P := Try.prog) (c := c1) (n := m.fNames.length) Try.underlying25 rfl (HN.out.2.2.below rEntry_good (HBW.out.trans (hHeld.mono HBW.out.size)))
            refine step_append_lit _ rfl _ _ 25 25 rfl wq.heap.size 91 iE _ 2 24 Try.underlying25 hiE hzE0 hzE1 hzE2 rfl g6 rfl (own_below hob0 (show Below wE0.heap.size wE0 wE11 from bthen (bthen (Below.refl _ _) hop4) hop11)) (.slice a1 m.fNames.length c1) rfl m.fNames.length css3.flatten s3d (by unfold maxLen; omega) (by omega) hHeld.size ?_
            intro v3 wE3 hw3 hop3 hat3
            obtain ⟨r3, q3, rfl⟩ := own_slice hw3
            have hos3 := ownS_row rfl s3a s3b s3c hw3
            have hat3 : ∀ j, j ∈ (Value.ownBlock (.slice r3 m.fNames.length q3)).toList → (j = g6 ∨ j = wE11.heap.size) ∧ j < wE3.heap.size := fun j hj => by have h1 := (hw3.lt j (by simpa using hj)).2; rcases hat3 with h | h <;> (rw [h] at hj; simp at hj; subst hj; exact ⟨by simp, h1⟩)
            have HAT3 := Hid.mk hat3
            have HP3 : Hid (wq.heap.size ≤ wE11.heap.size) := hHeld.size
            have HOS3 := Hid.mk hos3
            clear s3a s3b s3c s3d hw3 hos3 hat3
            refine hK.out _ _ (bthen hHeld hop3) (fun hHeld => ?_)
            clear hK K
            try simp only [Act.put, List.setIfInBounds_toArray, List.set_cons_zero, List.set_cons_succ]
            refine wpAnyH_ready (rs := [7]) (by kernel_rfl) (by simp) ?_
            refine (AllReadyH.cons (o := ⟨some 13, .call { callee := .builtin .append, args := #[.tmp 10, .tmp 12], argTypes := #[25, 25] }, 25, "l02_files.go:68", #[⟨4, .data⟩, ⟨6, .data⟩, ⟨3, .chain⟩], none⟩) rfl (fun K hK => ?_) AllReadyH.nil)
            · skip
              obtain ⟨css7, s7a, s7b, s7c, s7d⟩ := Src.ents (P := Try.prog) (c := c2) (n := m.fSafe.length) Try.underlying25 rfl (HS.out.2.2.below rEntry_good (HBW.out.trans (hHeld.mono HBW.out.size)))
              refine step_append_lit _ rfl _ _ 25 25 rfl wq.heap.size 91 iE _ 2 24 Try.underlying25 hiE hzE0 hzE1 hzE2 rfl g10 rfl (own_below hob4 (show Below wE4.heap.size wE4 wE3 from bthen (bthen (Below.refl _ _) hop11) hop3)) (.slice a2 m.fSafe.length c2) rfl m.fSafe.length css7.flatten s7d (by unfold maxLen; omega) (by omega) hHeld.size ?_
              intro v7 wE7 hw7 hop7 hat7
              obtain ⟨r7, q7, rfl⟩ := own_slice hw7
              have hos7 := ownS_row rfl s7a s7b s7c hw7
              have hat7 : ∀ j, j ∈ (Value.ownBlock (.slice r7 m.fSafe.length q7)).toList → (j = g10 ∨ j = wE3.heap.size) ∧ j < wE7.heap.size := fun j hj => by have h1 := (hw7.lt j (by simpa using hj)).2; rcases hat7 with h | h <;> (rw [h] at hj; simp at hj; subst hj; exact ⟨by simp, h1⟩)
              have HAT7 := Hid.mk hat7
              have HP7 : Hid (wq.heap.size ≤ wE3.heap.size) := hHeld.size
              have HOS7 := Hid.mk hos7
              clear s7a s7b s7c s7d hw7 hos7 hat7
              refine hK.out _ _ (bthen hHeld hop7) (fun hHeld => ?_)
              clear hK K
              try simp only [Act.put, List.setIfInBounds_toArray, List.set_cons_zero, List.set_cons_succ]
              refine wpAnyH_take (i := 10) (oi := ⟨some 16, .build 27 #[(1, .tmp 9), (2, .tmp 13), (3, .tmp 15)], 27, "l02_files.go:68", #[⟨3, .data⟩, ⟨7, .data⟩, ⟨9, .data⟩], none⟩) (v := ?v12) rfl (by kernel_rfl) (by kernel_rfl) (by kernel_rfl) (fun _ _ _ h => by cases h.1) (Or.inl ⟨by rfl, ?hy12⟩) (by assumption) ?rest12
              case hy12 => (intro w hSw; (try dsimp only at hSw); go_simp; try (with_reducible rfl))
              try simp only [Act.put, List.setIfInBounds_toArray, List.set_cons_zero, List.set_cons_succ]
              refine wpAnyH_ready (rs := [12]) (by kernel_rfl) (by simp) ?_
              refine (AllReadyH.cons (o := ⟨none, .store 27 (.tmp 3) (.tmp 16), 0, "l02_files.go:68", #[⟨11, .data⟩, ⟨10, .data⟩, ⟨7, .chain⟩, ⟨0, .phase⟩, ⟨1, .phase⟩, ⟨2, .phase⟩, ⟨3, .phase⟩, ⟨4, .phase⟩, ⟨5, .phase⟩, ⟨6, .phase⟩, ⟨7, .phase⟩, ⟨8, .phase⟩, ⟨9, .phase⟩, ⟨10, .phase⟩, ⟨11, .phase⟩], none⟩) rfl (fun K hK => ?_) AllReadyH.nil)
              · go_simp
                have hb12 : wE7.heap[gb]? = some (.cells #[.slice none 0 0, .slice none 0 0, .slice none 0 0, .int .i64 0] 27 (0, 0)) := (((show Below wE11.heap.size wE11 wE7 from bthen (bthen (Below.refl _ _) hop3) hop7)).block gb HLb.out).trans HB11.out
                have cb0 : wE7.cell? ⟨gb, 0, none⟩ = some (.slice none 0 0) := by rw [cell_of_row _ _ _ _ _ (0, 0) hb12]; rfl
                have fb0 := frozen_of_row wE7 gb 0 _ _ hb12
                have cb1 : wE7.cell? ⟨gb, 1, none⟩ = some (.slice none 0 0) := by rw [cell_of_row _ _ _ _ _ (0, 0) hb12]; rfl
                have fb1 := frozen_of_row wE7 gb 1 _ _ hb12
                have cb2 : wE7.cell? ⟨gb, 2, none⟩ = some (.slice none 0 0) := by rw [cell_of_row _ _ _ _ _ (0, 0) hb12]; rfl
                have fb2 := frozen_of_row wE7 gb 2 _ _ hb12
                have cb3 : wE7.cell? ⟨gb, 3, none⟩ = some (.int .i64 0) := by rw [cell_of_row _ _ _ _ _ (0, 0) hb12]; rfl
                have fb3 := frozen_of_row wE7 gb 3 _ _ hb12
                go_simp
                obtain ⟨wE12, hq12⟩ : ∃ x, x = ((((wE7.setCell ⟨gb, 0, none⟩ (.slice none 0 0)).setCell ⟨gb, 1, none⟩ (.slice r3 m.fNames.length q3)).setCell ⟨gb, 2, none⟩ (.slice r7 m.fSafe.length q7)).setCell ⟨gb, 3, none⟩ (.int .i64 m.fNext)) := ⟨_, rfl⟩
                rw [← hq12]
                have hgb12 : wE12.heap[gb]? = some (.cells #[.slice none 0 0, .slice r3 m.fNames.length q3, .slice r7 m.fSafe.length q7, .int .i64 m.fNext] 27 (0, 0)) := by rw [hq12]; exact heap_setCell_same _ gb 3 _ _ _ (heap_setCell_same _ gb 2 _ _ _ (heap_setCell_same _ gb 1 _ _ _ (heap_setCell_same _ gb 0 _ _ _ hb12)))
                have hT12 : Turn [gb] wE7 wE12 := by rw [hq12]; exact Turn.setCell (Turn.setCell (Turn.setCell (Turn.setCell (Turn.refl _ _) (by simp) _) (by simp) _) (by simp) _) (by simp) _
                clear hq12 cb0 cb1 cb2 cb3 fb0 fb1 fb2 fb3
                refine hK.out _ _ (hHeld.trans (hT12.below (fun k hk => by simp at hk; subst hk; exact HGW.out) hHeld.size)) (fun hHeld => ?_)
                clear hK K
                try simp only [Act.put, List.setIfInBounds_toArray, List.set_cons_zero, List.set_cons_succ]
                refine wpAnyH_done (by kernel_rfl) ?_ _
                have z0 := hop0.size
                have z3 := hop3.size
                have z4 := hop4.size
                have z7 := hop7.size
                have z11 := hop11.size
                have b6 := HGg6.out
                have b10 := HGg10.out
                have bb := HGb.out
                have l6 := HLg6.out
                have l10 := HLg10.out
                have lb := HLb.out
                have w6 := HWg6.out
                have w10 := HWg10.out
                have wb := HGW.out
                have wp3 := HP3.out
                have wp7 := HP7.out
                have t3 := HAT3.out
                have t7 := HAT7.out
                have u3 := ((show Below wE3.heap.size wE3 wE7 from bthen (Below.refl _ _) hop7)).size
                have u7 := ((show Below wE7.heap.size wE7 wE7 from Below.refl _ _)).size
                refine ⟨rfl, _, _, _, _, _, _, _, gb, (Value.ownBlock (.slice r3 m.fNames.length q3)).toList, (Value.ownBlock (.slice r7 m.fSafe.length q7)).toList, rfl, wb, hgb12, ?_, ?_, ?_, ?_, hHeld⟩
                · exact ownS.frame oEntry_good HOS3.out (fun b hb => (hT12.block b (by have := (t3 b hb).2; omega) (by have := t3 b hb; simp; omega)).trans (((show Below wE3.heap.size wE3 wE7 from bthen (Below.refl _ _) hop7)).block b (t3 b hb).2))
                · exact ownS.frame oEntry_good HOS7.out (fun b hb => (hT12.block b (by have := (t7 b hb).2; omega) (by have := t7 b hb; simp; omega)).trans (((show Below wE7.heap.size wE7 wE7 from Below.refl _ _)).block b (t7 b hb).2))
                · refine List.nodup_append.2 ⟨nodup_opt _, nodup_opt _, fun x hx y hy hxy => ?_⟩; have := t3 x hx; have := t7 y hy; omega
                · intro b hb; rcases List.mem_append.1 hb with hb | hb; (have := t3 b hb; omega); (have := t7 b hb; omega)
      · go_simp
        obtain ⟨wE11, hq11⟩ : ∃ x, x = wE0.alloc (.cells #[.slice none 0 0, .slice none 0 0, .slice none 0 0, .int .i64 0] 27) := ⟨_, rfl⟩
        have hop11 : Below wE0.heap.size wE0 wE11 := by rw [hq11]; exact (Below.refl _ _).alloc (Nat.le_refl _) _
        have HB11 : Hid (wE11.heap[wE0.heap.size]? = some (.cells #[.slice none 0 0, .slice none 0 0, .slice none 0 0, .int .i64 0] 27 (0, 0))) := by show _ = _; rw [hq11, al_heap, if_pos rfl]
        obtain ⟨gb, HGb⟩ : ∃ g, Hid (g = wE0.heap.size) := ⟨_, rfl⟩
        rw [← HGb.out] at HB11 ⊢
        have HLb : Hid (gb < wE11.heap.size) := (Array.getElem?_eq_some_iff.1 HB11.out).1
        have HGW : Hid (wq.heap.size ≤ gb) := by show _ ≤ _; rw [HGb.out]; exact hHeld.size
        rw [← hq11]
        clear hq11
        refine hK.out _ _ (bthen hHeld hop11) (fun hHeld => ?_)
        clear hK K
        try simp only [Act.put, List.setIfInBounds_toArray, List.set_cons_zero, List.set_cons_succ]
        refine wpAnyH_ready (rs := [3, 4]) (by kernel_rfl) (by simp) ?_
        refine (AllReadyH.cons (o := ⟨some 9, .call { callee := .builtin .append, args := #[.tmp 6, .tmp 8], argTypes := #[25, 25] }, 25, "l02_files.go:68", #[⟨0, .data⟩, ⟨2, .data⟩], none⟩) rfl (fun K hK => ?_) (AllReadyH.cons (o := ⟨some 10, .buildSlice 25 0 #[], 25, "l02_files.go:68", #[], none⟩) rfl (fun K hK => ?_) AllReadyH.nil))
        · skip
          obtain ⟨css3, s3a, s3b, s3c, s3d⟩ := Src.ents (P := Try.prog) (c := c1) (n := m.fNames.length) Try.underlying25 rfl (HN.out.2.2.below rEntry_good (HBW.out.trans (hHeld.mono HBW.out.size)))
          refine step_append_lit _ rfl _ _ 25 25 rfl wq.heap.size 91 iE _ 2 24 Try.underlying25 hiE hzE0 hzE1 hzE2 rfl g6 rfl (own_below hob0 (show Below wE0.heap.size wE0 wE11 from bthen (Below.refl _ _) hop11)) (.slice a1 m.fNames.length c1) rfl m.fNames.length css3.flatten s3d (by unfold maxLen; omega) (by omega) hHeld.size ?_
          intro v3 wE3 hw3 hop3 hat3
          obtain ⟨r3, q3, rfl⟩ := own_slice hw3
          have hos3 := ownS_row rfl s3a s3b s3c hw3
          have hat3 : ∀ j, j ∈ (Value.ownBlock (.slice r3 m.fNames.length q3)).toList → (j = g6 ∨ j = wE11.heap.size) ∧ j < wE3.heap.size := fun j hj => by have h1 := (hw3.lt j (by simpa using hj)).2; rcases hat3 with h | h <;> (rw [h] at hj; simp at hj; subst hj; exact ⟨by simp, h1⟩)
          have HAT3 := Hid.mk hat3
          have HP3 : Hid (wq.heap.size ≤ wE11.heap.size) := hHeld.size
          have HOS3 := Hid.mk hos3
          clear s3a s3b s3c s3d hw3 hos3 hat3
          refine hK.out _ _ (bthen hHeld hop3) (fun hHeld => ?_)
          clear hK K
          try simp only [Act.put, List.setIfInBounds_toArray, List.set_cons_zero, List.set_cons_succ]
          refine wpAnyH_ready (rs := [4]) (by kernel_rfl) (by simp) ?_
          refine (AllReadyH.cons (o := ⟨some 10, .buildSlice 25 0 #[], 25, "l02_files.go:68", #[], none⟩) rfl (fun K hK => ?_) AllReadyH.nil)
          · go_simp
            obtain ⟨wE4, hq4⟩ : ∃ x, x = wE3.alloc (.cells #[] 91) := ⟨_, rfl⟩
            have hop4 : Below wE3.heap.size wE3 wE4 := by rw [hq4]; exact (Below.refl _ _).alloc (Nat.le_refl _) _
            have hob4 : wE4.ownsRow wq.heap.size 91 2 (.slice (some ⟨wE3.heap.size, 0, none⟩) 0 0) 0 [] := by rw [hq4]; exact own_lit0 _ _ _ _ hHeld.size
            obtain ⟨g10, HGg10⟩ : ∃ g, Hid (g = wE3.heap.size) := ⟨_, rfl⟩
            have HLg10 : Hid (g10 < wE4.heap.size) := by show _ < _; rw [HGg10.out, hq4]; simp
            have HWg10 : Hid (wq.heap.size ≤ g10) := by show _ ≤ _; rw [HGg10.out]; exact hHeld.size
            rw [← HGg10.out] at hob4 ⊢
            rw [← hq4]
            clear hq4
            refine hK.out _ _ (bthen hHeld hop4) (fun hHeld => ?_)
            clear hK K
            try simp only [Act.put, List.setIfInBounds_toArray, List.set_cons_zero, List.set_cons_succ]
            refine wpAnyH_ready (rs := [7]) (by kernel_rfl) (by simp) ?_
            refine (AllReadyH.cons (o := ⟨some 13, .call { callee := .builtin .append, args := #[.tmp 10, .tmp 12], argTypes := #[25, 25] }, 25, "l02_files.go:68", #[⟨4, .data⟩, ⟨6, .data⟩, ⟨3, .chain⟩], none⟩) rfl (fun K hK => ?_) AllReadyH.nil)
            · skip
              obtain ⟨css7, s7a, s7b, s7c, s7d⟩ := Src.ents (P := Try.prog) (c := c2) (n := m.fSafe.length) Try.underlying25 rfl (HS.out.2.2.below rEntry_good (HBW.out.trans (hHeld.mono HBW.out.size)))
              refine step_append_lit _ rfl _ _ 25 25 rfl wq.heap.size 91 iE _ 2 24 Try.underlying25 hiE hzE0 hzE1 hzE2 rfl g10 rfl (own_below hob4 (show Below wE4.heap.size wE4 wE4 from Below.refl _ _)) (.slice a2 m.fSafe.length c2) rfl m.fSafe.length css7.flatten s7d (by unfold maxLen; omega) (by omega) hHeld.size ?_
              intro v7 wE7 hw7 hop7 hat7
              obtain ⟨r7, q7, rfl⟩ := own_slice hw7
              have hos7 := ownS_row rfl s7a s7b s7c hw7
              have hat7 : ∀ j, j ∈ (Value.ownBlock (.slice r7 m.fSafe.length q7)).toList → (j = g10 ∨ j = wE4.heap.size) ∧ j < wE7.heap.size := fun j hj => by have h1 := (hw7.lt j (by simpa using hj)).2; rcases hat7 with h | h <;> (rw [h] at hj; simp at hj; subst hj; exact ⟨by simp, h1⟩)
              have HAT7 := Hid.mk hat7
              have HP7 : Hid (wq.heap.size ≤ wE4.heap.size) := hHeld.size
              have HOS7 := Hid.mk hos7
              clear s7a s7b s7c s7d hw7 hos7 hat7
              refine hK.out _ _ (bthen hHeld hop7) (fun hHeld => ?_)
              clear hK K
              try simp only [Act.put, List.setIfInBounds_toArray, List.set_cons_zero, List.set_cons_succ]
              refine wpAnyH_take (i := 10) (oi := ⟨some 16, .build 27 #[(1, .tmp 9), (2, .tmp 13), (3, .tmp 15)], 27, "l02_files.go:68", #[⟨3, .data⟩, ⟨7, .data⟩, ⟨9, .data⟩], none⟩) (v := ?v13) rfl (by kernel_rfl) (by kernel_rfl) (by kernel_rfl) (fun _ _ _ h => by cases h.1) (Or.inl ⟨by rfl, ?hy13⟩) (by assumption) ?rest13
              case hy13 => (intro w hSw; (try dsimp only at hSw); go_simp; try (with_reducible rfl))
              try simp only [Act.put, List.setIfInBounds_toArray, List.set_cons_zero, List.set_cons_succ]
              refine wpAnyH_ready (rs := [12]) (by kernel_rfl) (by simp) ?_
              refine (AllReadyH.cons (o := ⟨none, .store 27 (.tmp 3) (.tmp 16), 0, "l02_files.go:68", #[⟨11, .data⟩, ⟨10, .data⟩, ⟨7, .chain⟩, ⟨0, .phase⟩, ⟨1, .phase⟩, ⟨2, .phase⟩, ⟨3, .phase⟩, ⟨4, .phase⟩, ⟨5, .phase⟩, ⟨6, .phase⟩, ⟨7, .phase⟩, ⟨8, .phase⟩, ⟨9, .phase⟩, ⟨10, .phase⟩, ⟨11, .phase⟩], none⟩) rfl (fun K hK => ?_) AllReadyH.nil)
              · go_simp
                have hb12 : wE7.heap[gb]? = some (.cells #[.slice none 0 0, .slice none 0 0, .slice none 0 0, .int .i64 0] 27 (0, 0)) := (((show Below wE11.heap.size wE11 wE7 from bthen (bthen (bthen (Below.refl _ _) hop3) hop4) hop7)).block gb HLb.out).trans HB11.out
                have cb0 : wE7.cell? ⟨gb, 0, none⟩ = some (.slice none 0 0) := by rw [cell_of_row _ _ _ _ _ (0, 0) hb12]; rfl
                have fb0 := frozen_of_row wE7 gb 0 _ _ hb12
                have cb1 : wE7.cell? ⟨gb, 1, none⟩ = some (.slice none 0 0) := by rw [cell_of_row _ _ _ _ _ (0, 0) hb12]; rfl
                have fb1 := frozen_of_row wE7 gb 1 _ _ hb12
                have cb2 : wE7.cell? ⟨gb, 2, none⟩ = some (.slice none 0 0) := by rw [cell_of_row _ _ _ _ _ (0, 0) hb12]; rfl
                have fb2 := frozen_of_row wE7 gb 2 _ _ hb12
                have cb3 : wE7.cell? ⟨gb, 3, none⟩ = some (.int .i64 0) := by rw [cell_of_row _ _ _ _ _ (0, 0) hb12]; rfl
                have fb3 := frozen_of_row wE7 gb 3 _ _ hb12
                go_simp
                obtain ⟨wE12, hq12⟩ : ∃ x, x = ((((wE7.setCell ⟨gb, 0, none⟩ (.slice none 0 0)).setCell ⟨gb, 1, none⟩ (.slice r3 m.fNames.length q3)).setCell ⟨gb, 2, none⟩ (.slice r7 m.fSafe.length q7)).setCell ⟨gb, 3, none⟩ (.int .i64 m.fNext)) := ⟨_, rfl⟩
                rw [← hq12]
                have hgb12 : wE12.heap[gb]? = some (.cells #[.slice none 0 0, .slice r3 m.fNames.length q3, .slice r7 m.fSafe.length q7, .int .i64 m.fNext] 27 (0, 0)) := by rw [hq12]; exact heap_setCell_same _ gb 3 _ _ _ (heap_setCell_same _ gb 2 _ _ _ (heap_setCell_same _ gb 1 _ _ _ (heap_setCell_same _ gb 0 _ _ _ hb12)))
                have hT12 : Turn [gb] wE7 wE12 := by rw [hq12]; exact Turn.setCell (Turn.setCell (Turn.setCell (Turn.setCell (Turn.refl _ _) (by simp) _) (by simp) _) (by simp) _) (by simp) _
                clear hq12 cb0 cb1 cb2 cb3 fb0 fb1 fb2 fb3
                refine hK.out _ _ (hHeld.trans (hT12.below (fun k hk => by simp at hk; subst hk; exact HGW.out) hHeld.size)) (fun hHeld => ?_)
                clear hK K
                try simp only [Act.put, List.setIfInBounds_toArray, List.set_cons_zero, List.set_cons_succ]
                refine wpAnyH_done (by kernel_rfl) ?_ _
                have z0 := hop0.size
                have z3 := hop3.size
                have z4 := hop4.size
                have z7 := hop7.size
                have z11 := hop11.size
                have b6 := HGg6.out
                have b10 := HGg10.out
                have bb := HGb.out
                have l6 := HLg6.out
                have l10 := HLg10.out
                have lb := HLb.out
                have w6 := HWg6.out
                have w10 := HWg10.out
                have wb := HGW.out
                have wp3 := HP3.out
                have wp7 := HP7.out
                have t3 := HAT3.out
                have t7 := HAT7.out
                have u3 := ((show Below wE3.heap.size wE3 wE7 from bthen (bthen (Below.refl _ _) hop4) hop7)).size
                have u7 := ((show Below wE7.heap.size wE7 wE7 from Below.refl _ _)).size
                refine ⟨rfl, _, _, _, _, _, _, _, gb, (Value.ownBlock (.slice r3 m.fNames.length q3)).toList, (Value.ownBlock (.slice r7 m.fSafe.length q7)).toList, rfl, wb, hgb12, ?_, ?_, ?_, ?_, hHeld⟩
                · exact ownS.frame oEntry_good HOS3.out (fun b hb => (hT12.block b (by have := (t3 b hb).2; omega) (by have := t3 b hb; simp; omega)).trans (((show Below wE3.heap.size wE3 wE7 from bthen (bthen (Below.refl _ _) hop4) hop7)).block b (t3 b hb).2))
                · exact ownS.frame oEntry_good HOS7.out (fun b hb => (hT12.block b (by have := (t7 b hb).2; omega) (by have := t7 b hb; simp; omega)).trans (((show Below wE7.heap.size wE7 wE7 from Below.refl _ _)).block b (t7 b hb).2))
                · refine List.nodup_append.2 ⟨nodup_opt _, nodup_opt _, fun x hx y hy hxy => ?_⟩; have := t3 x hx; have := t7 y hy; omega
                · intro b hb; rcases List.mem_append.1 hb with hb | hb; (have := t3 b hb; omega); (have := t7 b hb; omega)
        · go_simp
          obtain ⟨wE4, hq4⟩ : ∃ x, x = wE11.alloc (.cells #[] 91) := ⟨_, rfl⟩
          have hop4 : Below wE11.heap.size wE11 wE4 := by rw [hq4]; exact (Below.refl _ _).alloc (Nat.le_refl _) _
          have hob4 : wE4.ownsRow wq.heap.size 91 2 (.slice (some ⟨wE11.heap.size, 0, none⟩) 0 0) 0 [] := by rw [hq4]; exact own_lit0 _ _ _ _ hHeld.size
          obtain ⟨g10, HGg10⟩ : ∃ g, Hid (g = wE11.heap.size) := ⟨_, rfl⟩
          have HLg10 : Hid (g10 < wE4.heap.size) := by show _ < _; rw [HGg10.out, hq4]; simp
          have HWg10 : Hid (wq.heap.size ≤ g10) := by show _ ≤ _; rw [HGg10.out]; exact hHeld.size
          rw [← HGg10.out] at hob4 ⊢
          rw [← hq4]
          clear hq4
          refine hK.out _ _ (bthen hHeld hop4) (fun hHeld => ?_)
          clear hK K
          try simp only [Act.put, List.setIfInBounds_toArray, List.set_cons_zero, List.set_cons_succ]
          refine wpAnyH_ready (rs := [3]) (by kernel_rfl) (by simp) ?_
          refine (AllReadyH.cons (o := ⟨some 9, .call { callee := .builtin .append, args := #[.tmp 6, .tmp 8], argTypes := #[25, 25] }, 25, "l02_files.go:68", #[⟨0, .data⟩, ⟨2, .data⟩], none⟩) rfl (fun K hK => ?_) AllReadyH.nil)
          · skip
            obtain ⟨css3, s3a, s3b, s3c, s3d⟩ := Src.ents (P := Try.prog) (c := c1) (n := m.fNames.length) Try.underlying25 rfl (HN.out.2.2.below rEntry_good (HBW.out.trans (hHeld.mono HBW.out.size)))
            refine step_append_lit _ rfl _ _ 25 25 rfl wq.heap.size 91 iE _ 2 24 Try.underlying25 hiE hzE0 hzE1 hzE2 rfl g6 rfl (own_below hob0 (show Below wE0.heap.size wE0 wE4 from bthen (bthen (Below.refl _ _) hop11) hop4)) (.slice a1 m.fNames.length c1) rfl m.fNames.length css3.flatten s3d (by unfold maxLen; omega) (by omega) hHeld.size ?_
            intro v3 wE3 hw3 hop3 hat3
            obtain ⟨r3, q3, rfl⟩ := own_slice hw3
            have hos3 := ownS_row rfl s3a s3b s3c hw3
            have hat3 : ∀ j, j ∈ (Value.ownBlock (.slice r3 m.fNames.length q3)).toList → (j = g6 ∨ j = wE4.heap.size) ∧ j < wE3.heap.size := fun j hj => by have h1 := (hw3.lt j (by simpa using hj)).2; rcases hat3 with h | h <;> (rw [h] at hj; simp at hj; subst hj; exact ⟨by simp, h1⟩)
            have HAT3 := Hid.mk hat3
            have HP3 : Hid (wq.heap.size ≤ wE4.heap.size) := hHeld.size
            have HOS3 := Hid.mk hos3
            clear s3a s3b s3c s3d hw3 hos3 hat3
            refine hK.out _ _ (bthen hHeld hop3) (fun hHeld => ?_)
            clear hK K
            try simp only [Act.put, List.setIfInBounds_toArray, List.set_cons_zero, List.set_cons_succ]
            refine wpAnyH_ready (rs := [7]) (by kernel_rfl) (by simp) ?_
            refine (AllReadyH.cons (o := ⟨some 13, .call { callee := .builtin .append, args := #[.tmp 10, .tmp 12], argTypes := #[25, 25] }, 25, "l02_files.go:68", #[⟨4, .data⟩, ⟨6, .data⟩, ⟨3, .chain⟩], none⟩) rfl (fun K hK => ?_) AllReadyH.nil)
            · skip
              obtain ⟨css7, s7a, s7b, s7c, s7d⟩ := Src.ents (P := Try.prog) (c := c2) (n := m.fSafe.length) Try.underlying25 rfl (HS.out.2.2.below rEntry_good (HBW.out.trans (hHeld.mono HBW.out.size)))
              refine step_append_lit _ rfl _ _ 25 25 rfl wq.heap.size 91 iE _ 2 24 Try.underlying25 hiE hzE0 hzE1 hzE2 rfl g10 rfl (own_below hob4 (show Below wE4.heap.size wE4 wE3 from bthen (Below.refl _ _) hop3)) (.slice a2 m.fSafe.length c2) rfl m.fSafe.length css7.flatten s7d (by unfold maxLen; omega) (by omega) hHeld.size ?_
              intro v7 wE7 hw7 hop7 hat7
              obtain ⟨r7, q7, rfl⟩ := own_slice hw7
              have hos7 := ownS_row rfl s7a s7b s7c hw7
              have hat7 : ∀ j, j ∈ (Value.ownBlock (.slice r7 m.fSafe.length q7)).toList → (j = g10 ∨ j = wE3.heap.size) ∧ j < wE7.heap.size := fun j hj => by have h1 := (hw7.lt j (by simpa using hj)).2; rcases hat7 with h | h <;> (rw [h] at hj; simp at hj; subst hj; exact ⟨by simp, h1⟩)
              have HAT7 := Hid.mk hat7
              have HP7 : Hid (wq.heap.size ≤ wE3.heap.size) := hHeld.size
              have HOS7 := Hid.mk hos7
              clear s7a s7b s7c s7d hw7 hos7 hat7
              refine hK.out _ _ (bthen hHeld hop7) (fun hHeld => ?_)
              clear hK K
              try simp only [Act.put, List.setIfInBounds_toArray, List.set_cons_zero, List.set_cons_succ]
              refine wpAnyH_take (i := 10) (oi := ⟨some 16, .build 27 #[(1, .tmp 9), (2, .tmp 13), (3, .tmp 15)], 27, "l02_files.go:68", #[⟨3, .data⟩, ⟨7, .data⟩, ⟨9, .data⟩], none⟩) (v := ?v14) rfl (by kernel_rfl) (by kernel_rfl) (by kernel_rfl) (fun _ _ _ h => by cases h.1) (Or.inl ⟨by rfl, ?hy14⟩) (by assumption) ?rest14
              case hy14 => (intro w hSw; (try dsimp only at hSw); go_simp; try (with_reducible rfl))
              try simp only [Act.put, List.setIfInBounds_toArray, List.set_cons_zero, List.set_cons_succ]
              refine wpAnyH_ready (rs := [12]) (by kernel_rfl) (by simp) ?_
              refine (AllReadyH.cons (o := ⟨none, .store 27 (.tmp 3) (.tmp 16), 0, "l02_files.go:68", #[⟨11, .data⟩, ⟨10, .data⟩, ⟨7, .chain⟩, ⟨0, .phase⟩, ⟨1, .phase⟩, ⟨2, .phase⟩, ⟨3, .phase⟩, ⟨4, .phase⟩, ⟨5, .phase⟩, ⟨6, .phase⟩, ⟨7, .phase⟩, ⟨8, .phase⟩, ⟨9, .phase⟩, ⟨10, .phase⟩, ⟨11, .phase⟩], none⟩) rfl (fun K hK => ?_) AllReadyH.nil)
              · go_simp
                have hb12 : wE7.heap[gb]? = some (.cells #[.slice none 0 0, .slice none 0 0, .slice none 0 0, .int .i64 0] 27 (0, 0)) := (((show Below wE11.heap.size wE11 wE7 from bthen (bthen (bthen (Below.refl _ _) hop4) hop3) hop7)).block gb HLb.out).trans HB11.out
                have cb0 : wE7.cell? ⟨gb, 0, none⟩ = some (.slice none 0 0) := by rw [cell_of_row _ _ _ _ _ (0, 0) hb12]; rfl
                have fb0 := frozen_of_row wE7 gb 0 _ _ hb12
                have cb1 : wE7.cell? ⟨gb, 1, none⟩ = some (.slice none 0 0) := by rw [cell_of_row _ _ _ _ _ (0, 0) hb12]; rfl
                have fb1 := frozen_of_row wE7 gb 1 _ _ hb12
                have cb2 : wE7.cell? ⟨gb, 2, none⟩ = some (.slice none 0 0) := by rw [cell_of_row _ _ _ _ _ (0, 0) hb12]; rfl
                have fb2 := frozen_of_row wE7 gb 2 _ _ hb12
                have cb3 : wE7.cell? ⟨gb, 3, none⟩ = some (.int .i64 0) := by rw [cell_of_row _ _ _ _ _ (0, 0) hb12]; rfl
                have fb3 := frozen_of_row wE7 gb 3 _ _ hb12
                go_simp
                obtain ⟨wE12, hq12⟩ : ∃ x, x = ((((wE7.setCell ⟨gb, 0, none⟩ (.slice none 0 0)).setCell ⟨gb, 1, none⟩ (.slice r3 m.fNames.length q3)).setCell ⟨gb, 2, none⟩ (.slice r7 m.fSafe.length q7)).setCell ⟨gb, 3, none⟩ (.int .i64 m.fNext)) := ⟨_, rfl⟩
                rw [← hq12]
                have hgb12 : wE12.heap[gb]? = some (.cells #[.slice none 0 0, .slice r3 m.fNames.length q3, .slice r7 m.fSafe.length q7, .int .i64 m.fNext] 27 (0, 0)) := by rw [hq12]; exact heap_setCell_same _ gb 3 _ _ _ (heap_setCell_same _ gb 2 _ _ _ (heap_setCell_same _ gb 1 _ _ _ (heap_setCell_same _ gb 0 _ _ _ hb12)))
                have hT12 : Turn [gb] wE7 wE12 := by rw [hq12]; exact Turn.setCell (Turn.setCell (Turn.setCell (Turn.setCell (Turn.refl _ _) (by simp) _) (by simp) _) (by simp) _) (by simp) _
                clear hq12 cb0 cb1 cb2 cb3 fb0 fb1 fb2 fb3
                refine hK.out _ _ (hHeld.trans (hT12.below (fun k hk => by simp at hk; subst hk; exact HGW.out) hHeld.size)) (fun hHeld => ?_)
                clear hK K
                try simp only [Act.put, List.setIfInBounds_toArray, List.set_cons_zero, List.set_cons_succ]
                refine wpAnyH_done (by kernel_rfl) ?_ _
                have z0 := hop0.size
                have z3 := hop3.size
                have z4 := hop4.size
                have z7 := hop7.size
                have z11 := hop11.size
                have b6 := HGg6.out
                have b10 := HGg10.out
                have bb := HGb.out
                have l6 := HLg6.out
                have l10 := HLg10.out
                have lb := HLb.out
                have w6 := HWg6.out
                have w10 := HWg10.out
                have wb := HGW.out
                have wp3 := HP3.out
                have wp7 := HP7.out
                have t3 := HAT3.out
                have t7 := HAT7.out
                have u3 := ((show Below wE3.heap.size wE3 wE7 from bthen (Below.refl _ _) hop7)).size
                have u7 := ((show Below wE7.heap.size wE7 wE7 from Below.refl _ _)).size
                refine ⟨rfl, _, _, _, _, _, _, _, gb, (Value.ownBlock (.slice r3 m.fNames.length q3)).toList, (Value.ownBlock (.slice r7 m.fSafe.length q7)).toList, rfl, wb, hgb12, ?_, ?_, ?_, ?_, hHeld⟩
                · exact ownS.frame oEntry_good HOS3.out (fun b hb => (hT12.block b (by have := (t3 b hb).2; omega) (by have := t3 b hb; simp; omega)).trans (((show Below wE3.heap.size wE3 wE7 from bthen (Below.refl _ _) hop7)).block b (t3 b hb).2))
                · exact ownS.frame oEntry_good HOS7.out (fun b hb => (hT12.block b (by have := (t7 b hb).2; omega) (by have := t7 b hb; simp; omega)).trans (((show Below wE7.heap.size wE7 wE7 from Below.refl _ _)).block b (t7 b hb).2))
                · refine List.nodup_append.2 ⟨nodup_opt _, nodup_opt _, fun x hx y hy hxy => ?_⟩; have := t3 x hx; have := t7 y hy; omega
                · intro b hb; rcases List.mem_append.1 hb with hb | hb; (have := t3 b hb; omega); (have := t7 b hb; omega)
    · go_simp
      obtain ⟨wE4, hq4⟩ : ∃ x, x = wS.alloc (.cells #[] 91) := ⟨_, rfl⟩
      have hop4 : Below wS.heap.size wS wE4 := by rw [hq4]; exact (Below.refl _ _).alloc (Nat.le_refl _) _
      have hob4 : wE4.ownsRow wq.heap.size 91 2 (.slice (some ⟨wS.heap.size, 0, none⟩) 0 0) 0 [] := by rw [hq4]; exact own_lit0 _ _ _ _ hHeld.size
      obtain ⟨g10, HGg10⟩ : ∃ g, Hid (g = wS.heap.size) := ⟨_, rfl⟩
      have HLg10 : Hid (g10 < wE4.heap.size) := by show _ < _; rw [HGg10.out, hq4]; simp
      have HWg10 : Hid (wq.heap.size ≤ g10) := by show _ ≤ _; rw [HGg10.out]; exact hHeld.size
      rw [← HGg10.out] at hob4 ⊢
      rw [← hq4]
      clear hq4
      refine hK.out _ _ (bthen hHeld hop4) (fun hHeld => ?_)
      clear hK K
      try simp only [Act.put, List.setIfInBounds_toArray, List.set_cons_zero, List.set_cons_succ]
      refine wpAnyH_ready (rs := [0, 11]) (by kernel_rfl) (by simp) ?_
      refine (AllReadyH.cons (o := ⟨some 6, .buildSlice 25 0 #[], 25, "l02_files.go:68", #[], none⟩) rfl (fun K hK => ?_) (AllReadyH.cons (o := ⟨some 3, .alloc 27, 0, "l02_files.go:68", #[], none⟩) rfl (fun K hK => ?_) AllReadyH.nil))
      · go_simp
        obtain ⟨wE0, hq0⟩ : ∃ x, x = wE4.alloc (.cells #[] 91) := ⟨_, rfl⟩
        have hop0 : Below wE4.heap.size wE4 wE0 := by rw [hq0]; exact (Below.refl _ _).alloc (Nat.le_refl _) _
        have hob0 : wE0.ownsRow wq.heap.size 91 2 (.slice (some ⟨wE4.heap.size, 0, none⟩) 0 0) 0 [] := by rw [hq0]; exact own_lit0 _ _ _ _ hHeld.size
        obtain ⟨g6, HGg6⟩ : ∃ g, Hid (g = wE4.heap.size) := ⟨_, rfl⟩
        have HLg6 : Hid (g6 < wE0.heap.size) := by show _ < _; rw [HGg6.out, hq0]; simp
        have HWg6 : Hid (wq.heap.size ≤ g6) := by show _ ≤ _; rw [HGg6.out]; exact hHeld.size
        rw [← HGg6.out] at hob0 ⊢
        rw [← hq0]
        clear hq0
        refine hK.out _ _ (bthen hHeld hop0) (fun hHeld => ?_)
        clear hK K
        try simp only [Act.put, List.setIfInBounds_toArray, List.set_cons_zero, List.set_cons_succ]
        refine wpAnyH_ready (rs := [3, 11]) (by kernel_rfl) (by simp) ?_
        refine (AllReadyH.cons (o := ⟨some 9, .call { callee := .builtin .append, args := #[.tmp 6, .tmp 8], argTypes := #[25, 25] }, 25, "l02_files.go:68", #[⟨0, .data⟩, ⟨2, .data⟩], none⟩) rfl (fun K hK => ?_) (AllReadyH.cons (o := ⟨some 3, .alloc 27, 0, "l02_files.go:68", #[], none⟩) rfl (fun K hK => ?_) AllReadyH.nil))
        · skip
          obtain ⟨css3, s3a, s3b, s3c, s3d⟩ := Src.ents (P := Try.prog) (c := c1) (n := m.fNames.length) Try.underlying25 rfl (HN.out.2.2.below rEntry_good (HBW.out.trans (hHeld.mono HBW.out.size)))
          refine step_append_lit _ rfl _ _ 25 25 rfl wq.heap.size 91 iE _ 2 24 Try.underlying25 hiE hzE0 hzE1 hzE2 rfl g6 rfl (own_below hob0 (show Below wE0.heap.size wE0 wE0 from Below.refl _ _)) (.slice a1 m.fNames.length c1) rfl m.fNames.length css3.flatten s3d (by unfold maxLen; omega) (by omega) hHeld.size ?_
          intro v3 wE3 hw3 hop3 hat3
          obtain ⟨r3, q3, rfl⟩ := own_slice hw3
          have hos3 := ownS_row rfl s3a s3b s3c hw3
          have hat3 : ∀ j, j ∈ (Value.ownBlock (.slice r3 m.fNames.length q3)).toList → (j = g6 ∨ j = wE0.heap.size) ∧ j < wE3.heap.size := fun j hj => by have h1 := (hw3.lt j (by simpa using hj)).2; rcases hat3 with h | h <;> (rw [h] at hj; simp at hj; subst hj; exact ⟨by simp, h1⟩)
          have HAT3 := Hid.mk hat3
          have HP3 : Hid (wq.heap.size ≤ wE0.heap.size) := hHeld.size
          have HOS3 := Hid.mk hos3
          clear s3a s3b s3c s3d hw3 hos3 hat3
          refine hK.out _ _ (bthen hHeld hop3) (fun hHeld => ?_)
          clear hK K
          try simp only [Act.put, List.setIfInBounds_toArray, List.set_cons_zero, List.set_cons_succ]
          refine wpAnyH_ready (rs := [7, 11]) (by kernel_rfl) (by simp) ?_
          refine (AllReadyH.cons (o := ⟨some 13, .call { callee := .builtin .append, args := #[.tmp 10, .tmp 12], argTypes := #[25, 25] }, 25, "l02_files.go:68", #[⟨4, .data⟩, ⟨6, .data⟩, ⟨3, .chain⟩], none⟩) rfl (fun K hK => ?_) (AllReadyH.cons (o := ⟨some 3, .alloc 27, 0, "l02_files.go:68", #[], none⟩) rfl (fun K hK => ?_) AllReadyH.nil))
          · skip
            obtain ⟨css7, s7a, s7b, s7c, s7d⟩ := Src.ents (P := Try.prog) (c := c2) (n := m.fSafe.length) Try.underlying25 rfl (HS.out.2.2.below rEntry_good (HBW.out.trans (hHeld.mono HBW.out.size)))
            refine step_append_lit _ rfl _ _ 25 25 rfl wq.heap.size 91 iE _ 2 24 Try.underlying25 hiE hzE0 hzE1 hzE2 rfl g10 rfl (own_below hob4 (show Below wE4.heap.size wE4 wE3 from bthen (bthen (Below.refl _ _) hop0) hop3)) (.slice a2 m.fSafe.length c2) rfl m.fSafe.length css7.flatten s7d (by unfold maxLen; omega) (by omega) hHeld.size ?_
            intro v7 wE7 hw7 hop7 hat7
            obtain ⟨r7, q7, rfl⟩ := own_slice hw7
            have hos7 := ownS_row rfl s7a s7b s7c hw7
            have hat7 : ∀ j, j ∈ (Value.ownBlock (.slice r7 m.fSafe.length q7)).toList → (j = g10 ∨ j = wE3.heap.size) ∧ j < wE7.heap.size := fun j hj => by have h1 := (hw7.lt j (by simpa using hj)).2; rcases hat7 with h | h <;> (rw [h] at hj; simp at hj; subst hj; exact ⟨by simp, h1⟩)
            have HAT7 := Hid.mk hat7
            have HP7 : Hid (wq.heap.size ≤ wE3.heap.size) := hHeld.size
            have HOS7 := Hid.mk hos7
            clear s7a s7b s7c s7d hw7 hos7 hat7
            refine hK.out _ _ (bthen hHeld hop7) (fun hHeld => ?_)
            clear hK K
            try simp only [Act.put, List.setIfInBounds_toArray, List.set_cons_zero, List.set_cons_succ]
            refine wpAnyH_take (i := 10) (oi := ⟨some 16, .build 27 #[(1, .tmp 9), (2, .tmp 13), (3, .tmp 15)], 27, "l02_files.go:68", #[⟨3, .data⟩, ⟨7, .data⟩, ⟨9, .data⟩], none⟩) (v := ?v15) rfl (by kernel_rfl) (by kernel_rfl) (by kernel_rfl) (fun _ _ _ h => by cases h.1) (Or.inl ⟨by rfl, ?hy15⟩) (by assumption) ?rest15
            case hy15 => (intro w hSw; (try dsimp only at hSw); go_simp; try (with_reducible rfl))
            try simp only [Act.put, List.setIfInBounds_toArray, List.set_cons_zero, List.set_cons_succ]
            refine wpAnyH_ready (rs := [11]) (by kernel_rfl) (by simp) ?_
            refine (AllReadyH.cons (o := ⟨some 3, .alloc 27, 0, "l02_files.go:68", #[], none⟩) rfl (fun K hK => ?_) AllReadyH.nil)
            · go_simp
              obtain ⟨wE11, hq11⟩ : ∃ x, x = wE7.alloc (.cells #[.slice none 0 0, .slice none 0 0, .slice none 0 0, .int .i64 0] 27) := ⟨_, rfl⟩
              have hop11 : Below wE7.heap.size wE7 wE11 := by rw [hq11]; exact (Below.refl _ _).alloc (Nat.le_refl _) _
              have HB11 : Hid (wE11.heap[wE7.heap.size]? = some (.cells #[.slice none 0 0, .slice none 0 0, .slice none 0 0, .int .i64 0] 27 (0, 0))) := by show _ = _; rw [hq11, al_heap, if_pos rfl]
              obtain ⟨gb, HGb⟩ : ∃ g, Hid (g = wE7.heap.size) := ⟨_, rfl⟩
              rw [← HGb.out] at HB11 ⊢
              have HLb : Hid (gb < wE11.heap.size) := (Array.getElem?_eq_some_iff.1 HB11.out).1
              have HGW : Hid (wq.heap.size ≤ gb) := by show _ ≤ _; rw [HGb.out]; exact hHeld.size
              rw [← hq11]
              clear hq11
              refine hK.out _ _ (bthen hHeld hop11) (fun hHeld => ?_)
              clear hK K
              try simp only [Act.put, List.setIfInBounds_toArray, List.set_cons_zero, List.set_cons_succ]
              refine wpAnyH_ready (rs := [12]) (by kernel_rfl) (by simp) ?_
              refine (AllReadyH.cons (o := ⟨none, .store 27 (.tmp 3) (.tmp 16), 0, "l02_files.go:68", #[⟨11, .data⟩, ⟨10, .data⟩, ⟨7, .chain⟩, ⟨0, .phase⟩, ⟨1, .phase⟩, ⟨2, .phase⟩, ⟨3, .phase⟩, ⟨4, .phase⟩, ⟨5, .phase⟩, ⟨6, .phase⟩, ⟨7, .phase⟩, ⟨8, .phase⟩, ⟨9, .phase⟩, ⟨10, .phase⟩, ⟨11, .phase⟩], none⟩) rfl (fun K hK => ?_) AllReadyH.nil)
              · go_simp
                have hb12 : wE11.heap[gb]? = some (.cells #[.slice none 0 0, .slice none 0 0, .slice none 0 0, .int .i64 0] 27 (0, 0)) := (((show Below wE11.heap.size wE11 wE11 from Below.refl _ _)).block gb HLb.out).trans HB11.out
                have cb0 : wE11.cell? ⟨gb, 0, none⟩ = some (.slice none 0 0) := by rw [cell_of_row _ _ _ _ _ (0, 0) hb12]; rfl
                have fb0 := frozen_of_row wE11 gb 0 _ _ hb12
                have cb1 : wE11.cell? ⟨gb, 1, none⟩ = some (.slice none 0 0) := by rw [cell_of_row _ _ _ _ _ (0, 0) hb12]; rfl
                have fb1 := frozen_of_row wE11 gb 1 _ _ hb12
                have cb2 : wE11.cell? ⟨gb, 2, none⟩ = some (.slice none 0 0) := by rw [cell_of_row _ _ _ _ _ (0, 0) hb12]; rfl
                have fb2 := frozen_of_row wE11 gb 2 _ _ hb12
                have cb3 : wE11.cell? ⟨gb, 3, none⟩ = some (.int .i64 0) := by rw [cell_of_row _ _ _ _ _ (0, 0) hb12]; rfl
                have fb3 := frozen_of_row wE11 gb 3 _ _ hb12
                go_simp
                obtain ⟨wE12, hq12⟩ : ∃ x, x = ((((wE11.setCell ⟨gb, 0, none⟩ (.slice none 0 0)).setCell ⟨gb, 1, none⟩ (.slice r3 m.fNames.length q3)).setCell ⟨gb, 2, none⟩ (.slice r7 m.fSafe.length q7)).setCell ⟨gb, 3, none⟩ (.int .i64 m.fNext)) := ⟨_, rfl⟩
                rw [← hq12]
                have hgb12 : wE12.heap[gb]? = some (.cells #[.slice none 0 0, .slice r3 m.fNames.length q3, .slice r7 m.fSafe.length q7, .int .i64 m.fNext] 27 (0, 0)) := by rw [hq12]; exact heap_setCell_same _ gb 3 _ _ _ (heap_setCell_same _ gb 2 _ _ _ (heap_setCell_same _ gb 1 _ _ _ (heap_setCell_same _ gb 0 _ _ _ hb12)))
                have hT12 : Turn [gb] wE11 wE12 := by rw [hq12]; exact Turn.setCell (Turn.setCell (Turn.setCell (Turn.setCell (Turn.refl _ _) (by simp) _) (by simp) _) (by simp) _) (by simp) _
                clear hq12 cb0 cb1 cb2 cb3 fb0 fb1 fb2 fb3
                refine hK.out _ _ (hHeld.trans (hT12.below (fun k hk => by simp at hk; subst hk; exact HGW.out) hHeld.size)) (fun hHeld => ?_)
                clear hK K
                try simp only [Act.put, List.setIfInBounds_toArray, List.set_cons_zero, List.set_cons_succ]
                refine wpAnyH_done (by kernel_rfl) ?_ _
                have z0 := hop0.size
                have z3 := hop3.size
                have z4 := hop4.size
                have z7 := hop7.size
                have z11 := hop11.size
                have b6 := HGg6.out
                have b10 := HGg10.out
                have bb := HGb.out
                have l6 := HLg6.out
                have l10 := HLg10.out
                have lb := HLb.out
                have w6 := HWg6.out
                have w10 := HWg10.out
                have wb := HGW.out
                have wp3 := HP3.out
                have wp7 := HP7.out
                have t3 := HAT3.out
                have t7 := HAT7.out
                have u3 := ((show Below wE3.heap.size wE3 wE11 from bthen (bthen (Below.refl _ _) hop7) hop11)).size
                have u7 := ((show Below wE7.heap.size wE7 wE11 from bthen (Below.refl _ _) hop11)).size
                refine ⟨rfl, _, _, _, _, _, _, _, gb, (Value.ownBlock (.slice r3 m.fNames.length q3)).toList, (Value.ownBlock (.slice r7 m.fSafe.length q7)).toList, rfl, wb, hgb12, ?_, ?_, ?_, ?_, hHeld⟩
                · exact ownS.frame oEntry_good HOS3.out (fun b hb => (hT12.block b (by have := (t3 b hb).2; omega) (by have := t3 b hb; simp; omega)).trans (((show Below wE3.heap.size wE3 wE11 from bthen (bthen (Below.refl _ _) hop7) hop11)).block b (t3 b hb).2))
                · exact ownS.frame oEntry_good HOS7.out (fun b hb => (hT12.block b (by have := (t7 b hb).2; omega) (by have := t7 b hb; simp; omega)).trans (((show Below wE7.heap.size wE7 wE11 from bthen (Below.refl _ _) hop11)).block b (t7 b hb).2))
                · refine List.nodup_append.2 ⟨nodup_opt _, nodup_opt _, fun x hx y hy hxy => ?_⟩; have := t3 x hx; have := t7 y hy; omega
                · intro b hb; rcases List.mem_append.1 hb with hb | hb; (have := t3 b hb; omega); (have := t7 b hb; omega)
          · go_simp
            obtain ⟨wE11, hq11⟩ : ∃ x, x = wE3.alloc (.cells #[.slice none 0 0, .slice none 0 0, .slice none 0 0, .int .i64 0] 27) := ⟨_, rfl⟩
            have hop11 : Below wE3.heap.size wE3 wE11 := by rw [hq11]; exact (Below.refl _ _).alloc (Nat.le_refl _) _
            have HB11 : Hid (wE11.heap[wE3.heap.size]? = some (.cells #[.slice none 0 0, .slice none 0 0, .slice none 0 0, .int .i64 0] 27 (0, 0))) := by show _ = _; rw [hq11, al_heap, if_pos rfl]
            obtain ⟨gb, HGb⟩ : ∃ g, Hid (g = wE3.heap.size) := ⟨_, rfl⟩
            rw [← HGb.out] at HB11 ⊢
            have HLb : Hid (gb < wE11.heap.size) := (Array.getElem?_eq_some_iff.1 HB11.out).1
            have HGW : Hid (wq.heap.size ≤ gb) := by show _ ≤ _; rw [HGb.out]; exact hHeld.size
            rw [← hq11]
            clear hq11
            refine hK.out _ _ (bthen hHeld hop11) (fun hHeld => ?_)
            clear hK K
            try simp only [Act.put, List.setIfInBounds_toArray, List.set_cons_zero, List.set_cons_succ]
            refine wpAnyH_ready (rs := [7]) (by kernel_rfl) (by simp) ?_
            refine (AllReadyH.cons (o := ⟨some 13, .call { callee := .builtin .append, args := #[.tmp 10, .tmp 12], argTypes := #[25, 25] }, 25, "l02_files.go:68", #[⟨4, .data⟩, ⟨6, .data⟩, ⟨3, .chain⟩], none⟩) rfl (fun K hK => ?_) AllReadyH.nil)
            · skip
              obtain ⟨css7, s7a, s7b, s7c, s7d⟩ := Src.ents (P := Try.prog) (c := c2) (n := m.fSafe.length) Try.underlying25 rfl (HS.out.2.2.below rEntry_good (HBW.out.trans (hHeld.mono HBW.out.size)))
              refine step_append_lit _ rfl _ _ 25 25 rfl wq.heap.size 91 iE _ 2 24 Try.underlying25 hiE hzE0 hzE1 hzE2 rfl g10 rfl (own_below hob4 (show Below wE4.heap.size wE4 wE11 from bthen (bthen (bthen (Below.refl _ _) hop0) hop3) hop11)) (.slice a2 m.fSafe.length c2) rfl m.fSafe.length css7.flatten s7d (by unfold maxLen; omega) (by omega) hHeld.size ?_
              intro v7 wE7 hw7 hop7 hat7
              obtain ⟨r7, q7, rfl⟩ := own_slice hw7
              have hos7 := ownS_row rfl s7a s7b s7c hw7
              have hat7 : ∀ j, j ∈ (Value.ownBlock (.slice r7 m.fSafe.length q7)).toList → (j = g10 ∨ j = wE11.heap.size) ∧ j < wE7.heap.size := fun j hj => by have h1 := (hw7.lt j (by simpa using hj)).2; rcases hat7 with h | h <;> (rw [h] at hj; simp at hj; subst hj; exact ⟨by simp, h1⟩)
              have HAT7 := Hid.mk hat7
              have HP7 : Hid (wq.heap.size ≤ wE11.heap.size) := hHeld.size
              have HOS7 := Hid.mk hos7
              clear s7a s7b s7c s7d hw7 hos7 hat7
              refine hK.out _ _ (bthen hHeld hop7) (fun hHeld => ?_)
              clear hK K
              try simp only [Act.put, List.setIfInBounds_toArray, List.set_cons_zero, List.set_cons_succ]
              refine wpAnyH_take (i := 10) (oi := ⟨some 16, .build 27 #[(1, .tmp 9), (2, .tmp 13), (3, .tmp 15)], 27, "l02_files.go:68", #[⟨3, .data⟩, ⟨7, .data⟩, ⟨9, .data⟩], none⟩) (v := ?v16) rfl (by kernel_rfl) (by kernel_rfl) (by kernel_rfl) (fun _ _ _ h => by cases h.1) (Or.inl ⟨by rfl, ?hy16⟩) (by assumption) ?rest16
              case hy16 => (intro w hSw; (try dsimp only at hSw); go_simp; try (with_reducible rfl))
              try simp only [Act.put, List.setIfInBounds_toArray, List.set_cons_zero, List.set_cons_succ]
              refine wpAnyH_ready (rs := [12]) (by kernel_rfl) (by simp) ?_
              refine (AllReadyH.cons (o := ⟨none, .store 27 (.tmp 3) (.tmp 16), 0, "l02_files.go:68", #[⟨11, .data⟩, ⟨10, .data⟩, ⟨7, .chain⟩, ⟨0, .phase⟩, ⟨1, .phase⟩, ⟨2, .phase⟩, ⟨3, .phase⟩, ⟨4, .phase⟩, ⟨5, .phase⟩, ⟨6, .phase⟩, ⟨7, .phase⟩, ⟨8, .phase⟩, ⟨9, .phase⟩, ⟨10, .phase⟩, ⟨11, .phase⟩], none⟩) rfl (fun K hK => ?_) AllReadyH.nil)
              · go_simp
                have hb12 : wE7.heap[gb]? = some (.cells #[.slice none 0 0, .slice none 0 0, .slice none 0 0, .int .i64 0] 27 (0, 0)) := (((show Below wE11.heap.size wE11 wE7 from bthen (Below.refl _ _) hop7)).block gb HLb.out).trans HB11.out
                have cb0 : wE7.cell? ⟨gb, 0, none⟩ = some (.slice none 0 0) := by rw [cell_of_row _ _ _ _ _ (0, 0) hb12]; rfl
                have fb0 := frozen_of_row wE7 gb 0 _ _ hb12
                have cb1 : wE7.cell? ⟨gb, 1, none⟩ = some (.slice none 0 0) := by rw [cell_of_row _ _ _ _ _ (0, 0) hb12]; rfl
                have fb1 := frozen_of_row wE7 gb 1 _ _ hb12
                have cb2 : wE7.cell? ⟨gb, 2, none⟩ = some (.slice none 0 0) := by rw [cell_of_row _ _ _ _ _ (0, 0) hb12]; rfl
                have fb2 := frozen_of_row wE7 gb 2 _ _ hb12
                have cb3 : wE7.cell? ⟨gb, 3, none⟩ = some (.int .i64 0) := by rw [cell_of_row _ _ _ _ _ (0, 0) hb12]; rfl
                have fb3 := frozen_of_row wE7 gb 3 _ _ hb12
                go_simp
                obtain ⟨wE12, hq12⟩ : ∃ x, x = ((((wE7.setCell ⟨gb, 0, none⟩ (.slice none 0 0)).setCell ⟨gb, 1, none⟩ (.slice r3 m.fNames.length q3)).setCell ⟨gb, 2, none⟩ (.slice r7 m.fSafe.length q7)).setCell ⟨gb, 3, none⟩ (.int .i64 m.fNext)) := ⟨_, rfl⟩
                rw [← hq12]
                have hgb12 : wE12.heap[gb]? = some (.cells #[.slice none 0 0, .slice r3 m.fNames.length q3, .slice r7 m.fSafe.length q7, .int .i64 m.fNext] 27 (0, 0)) := by rw [hq12]; exact heap_setCell_same _ gb 3 _ _ _ (heap_setCell_same _ gb 2 _ _ _ (heap_setCell_same _ gb 1 _ _ _ (heap_setCell_same _ gb 0 _ _ _ hb12)))
                have hT12 : Turn [gb] wE7 wE12 := by rw [hq12]; exact Turn.setCell (Turn.setCell (Turn.setCell (Turn.setCell (Turn.refl _ _) (by simp) _) (by simp) _) (by simp) _) (by simp) _
                clear hq12 cb0 cb1 cb2 cb3 fb0 fb1 fb2 fb3
                refine hK.out _ _ (hHeld.trans (hT12.below (fun k hk => by simp at hk; subst hk; exact HGW.out) hHeld.size)) (fun hHeld => ?_)
                clear hK K
                try simp only [Act.put, List.setIfInBounds_toArray, List.set_cons_zero, List.set_cons_succ]
                refine wpAnyH_done (by kernel_rfl) ?_ _
                have z0 := hop0.size
                have z3 := hop3.size
                have z4 := hop4.size
                have z7 := hop7.size
                have z11 := hop11.size
                have b6 := HGg6.out
                have b10 := HGg10.out
                have bb := HGb.out
                have l6 := HLg6.out
                have l10 := HLg10.out
                have lb := HLb.out
                have w6 := HWg6.out
                have w10 := HWg10.out
                have wb := HGW.out
                have wp3 := HP3.out
                have wp7 := HP7.out
                have t3 := HAT3.out
                have t7 := HAT7.out
                have u3 := ((show Below wE3.heap.size wE3 wE7 from bthen (bthen (Below.refl _ _) hop11) hop7)).size
                have u7 := ((show Below wE7.heap.size wE7 wE7 from Below.refl _ _)).size
                refine ⟨rfl, _, _, _, _, _, _, _, gb, (Value.ownBlock (.slice r3 m.fNames.length q3)).toList, (Value.ownBlock (.slice r7 m.fSafe.length q7)).toList, rfl, wb, hgb12, ?_, ?_, ?_, ?_, hHeld⟩
                · exact ownS.frame oEntry_good HOS3.out (fun b hb => (hT12.block b (by have := (t3 b hb).2; omega) (by have := t3 b hb; simp; omega)).trans (((show Below wE3.heap.size wE3 wE7 from bthen (bthen (Below.refl _ _) hop11) hop7)).block b (t3 b hb).2))
                · exact ownS.frame oEntry_good HOS7.out (fun b hb => (hT12.block b (by have := (t7 b hb).2; omega) (by have := t7 b hb; simp; omega)).trans (((show Below wE7.heap.size wE7 wE7 from Below.refl _ _)).block b (t7 b hb).2))
                · refine List.nodup_append.2 ⟨nodup_opt _, nodup_opt _, fun x hx y hy hxy => ?_⟩; have := t3 x hx; have := t7 y hy; omega
                · intro b hb; rcases List.mem_append.1 hb with hb | hb; (have := t3 b hb; omega); (have := t7 b hb; omega)
        · go_simp
          obtain ⟨wE11, hq11⟩ : ∃ x, x = wE0.alloc (.cells #[.slice none 0 0, .slice none 0 0, .slice none 0 0, .int .i64 0] 27) := ⟨_, rfl⟩
          have hop11 : Below wE0.heap.size wE0 wE11 := by rw [hq11]; exact (Below.refl _ _).alloc (Nat.le_refl _) _
          have HB11 : Hid (wE11.heap[wE0.heap.size]? = some (.cells #[.slice none 0 0, .slice none 0 0, .slice none 0 0, .int .i64 0] 27 (0, 0))) := by show _ = _; rw [hq11, al_heap, if_pos rfl]
          obtain ⟨gb, HGb⟩ : ∃ g, Hid (g = wE0.heap.size) := ⟨_, rfl⟩
          rw [← HGb.out] at HB11 ⊢
          have HLb : Hid (gb < wE11.heap.size) := (Array.getElem?_eq_some_iff.1 HB11.out).1
          have HGW : Hid (wq.heap.size ≤ gb) := by show _ ≤ _; rw [HGb.out]; exact hHeld.size
          rw [← hq11]
          clear hq11
          refine hK.out _ _ (bthen hHeld hop11) (fun hHeld => ?_)
          clear hK K
          try simp only [Act.put, List.setIfInBounds_toArray, List.set_cons_zero, List.set_cons_succ]
          refine wpAnyH_ready (rs := [3]) (by kernel_rfl) (by simp) ?_
          refine (AllReadyH.cons (o := ⟨some 9, .call { callee := .builtin .append, args := #[.tmp 6, .tmp 8], argTypes := #[25, 25] }, 25, "l02_files.go:68", #[⟨0, .data⟩, ⟨2, .data⟩], none⟩) rfl (fun K hK => ?_) AllReadyH.nil)
          · skip
            obtain ⟨css3, s3a, s3b, s3c, s3d⟩ := Src.ents (P := Try.prog) (c := c1) (n := m.fNames.length) Try.underlying25 rfl (HN.out.2.2.below rEntry_good (HBW.out.trans (hHeld.mono HBW.out.size)))
            refine step_append_lit _ rfl _ _ 25 25 rfl wq.heap.size 91 iE _ 2 24 Try.underlying25 hiE hzE0 hzE1 hzE2 rfl g6 rfl (own_below hob0 (show Below wE0.heap.size wE0 wE11 from bthen (Below.refl _ _) hop11)) (.slice a1 m.fNames.length c1) rfl m.fNames.length css3.flatten s3d (by unfold maxLen; omega) (by omega) hHeld.size ?_
            intro v3 wE3 hw3 hop3 hat3
            obtain ⟨r3, q3, rfl⟩ := own_slice hw3
            have hos3 := ownS_row rfl s3a s3b s3c hw3
            have hat3 : ∀ j, j ∈ (Value.ownBlock (.slice r3 m.fNames.length q3)).toList → (j = g6 ∨ j = wE11.heap.size) ∧ j < wE3.heap.size := fun j hj => by have h1 := (hw3.lt j (by simpa using hj)).2; rcases hat3 with h | h <;> (rw [h] at hj; simp at hj; subst hj; exact ⟨by simp, h1⟩)
            have HAT3 := Hid.mk hat3
            have HP3 : Hid (wq.heap.size ≤ wE11.heap.size) := hHeld.size
            have HOS3 := Hid.mk hos3
            clear s3a s3b s3c s3d hw3 hos3 hat3
            refine hK.out _ _ (bthen hHeld hop3) (fun hHeld => ?_)
            clear hK K
            try simp only [Act.put, List.setIfInBounds_toArray, List.set_cons_zero, List.set_cons_succ]
            refine wpAnyH_ready (rs := [7]) (by kernel_rfl) (by simp) ?_
            refine (AllReadyH.cons (o := ⟨some 13, .call { callee := .builtin .append, args := #[.tmp 10, .tmp 12], argTypes := #[25, 25] }, 25, "l02_files.go:68", #[⟨4, .data⟩, ⟨6, .data⟩, ⟨3, .chain⟩], none⟩) rfl (fun K hK => ?_) AllReadyH.nil)
            · skip
              obtain ⟨css7, s7a, s7b, s7c, s7d⟩ := Src.ents (P := Try.prog) (c := c2) (n := m.fSafe.length) Try.underlying25 rfl (HS.out.2.2.below rEntry_good (HBW.out.trans (hHeld.mono HBW.out.size)))
              refine step_append_lit _ rfl _ _ 25 25 rfl wq.heap.size 91 iE _ 2 24 Try.underlying25 hiE hzE0 hzE1 hzE2 rfl g10 rfl (own_below hob4 (show Below wE4.heap.size wE4 wE3 from bthen (bthen (bthen (Below.refl _ _) hop0) hop11) hop3)) (.slice a2 m.fSafe.length c2) rfl m.fSafe.length css7.flatten s7d (by unfold maxLen; omega) (by omega) hHeld.size ?_
              intro v7 wE7 hw7 hop7 hat7
              obtain ⟨r7, q7, rfl⟩ := own_slice hw7
              have hos7 := ownS_row rfl s7a s7b s7c hw7
              have hat7 : ∀ j, j ∈ (Value.ownBlock (.slice r7 m.fSafe.length q7)).toList → (j = g10 ∨ j = wE3.heap.size) ∧ j < wE7.heap.size := fun j hj => by have h1 := (hw7.lt j (by simpa using hj)).2; rcases hat7 with h | h <;> (rw [h] at hj; simp at hj; subst hj; exact ⟨by simp, h1⟩)
              have HAT7 := Hid.mk hat7
              have HP7 : Hid (wq.heap.size ≤ wE3.heap.size) := hHeld.size
              have HOS7 := Hid.mk hos7
              clear s7a s7b s7c s7d hw7 hos7 hat7
              refine hK.out _ _ (bthen hHeld hop7) (fun hHeld => ?_)
              clear hK K
              try simp only [Act.put, List.setIfInBounds_toArray, List.set_cons_zero, List.set_cons_succ]
              refine wpAnyH_take (i := 10) (oi := ⟨some 16, .build 27 #[(1, .tmp 9), (2, .tmp 13), (3, .tmp 15)], 27, "l02_files.go:68", #[⟨3, .data⟩, ⟨7, .data⟩, ⟨9, .data⟩], none⟩) (v := ?v17) rfl (by kernel_rfl) (by kernel_rfl) (by kernel_rfl) (fun _ _ _ h => by cases h.1) (Or.inl ⟨by rfl, ?hy17⟩) (by assumption) ?rest17
              case hy17 => (intro w hSw; (try dsimp only at hSw); go_simp; try (with_reducible rfl))
              try simp only [Act.put, List.setIfInBounds_toArray, List.set_cons_zero, List.set_cons_succ]
              refine wpAnyH_ready (rs := [12]) (by kernel_rfl) (by simp) ?_
              refine (AllReadyH.cons (o := ⟨none, .store 27 (.tmp 3) (.tmp 16), 0, "l02_files.go:68", #[⟨11, .data⟩, ⟨10, .data⟩, ⟨7, .chain⟩, ⟨0, .phase⟩, ⟨1, .phase⟩, ⟨2, .phase⟩, ⟨3, .phase⟩, ⟨4, .phase⟩, ⟨5, .phase⟩, ⟨6, .phase⟩, ⟨7, .phase⟩, ⟨8, .phase⟩, ⟨9, .phase⟩, ⟨10, .phase⟩, ⟨11, .phase⟩], none⟩) rfl (fun K hK => ?_) AllReadyH.nil)
              · go_simp
                have hb12 : wE7.heap[gb]? = some (.cells #[.slice none 0 0, .slice none 0 0, .slice none 0 0, .int .i64 0] 27 (0, 0)) := (((show Below wE11.heap.size wE11 wE7 from bthen (bthen (Below.refl _ _) hop3) hop7)).block gb HLb.out).trans HB11.out
                have cb0 : wE7.cell? ⟨gb, 0, none⟩ = some (.slice none 0 0) := by rw [cell_of_row _ _ _ _ _ (0, 0) hb12]; rfl
                have fb0 := frozen_of_row wE7 gb 0 _ _ hb12
                have cb1 : wE7.cell? ⟨gb, 1, none⟩ = some (.slice none 0 0) := by rw [cell_of_row _ _ _ _ _ (0, 0) hb12]; rfl
                have fb1 := frozen_of_row wE7 gb 1 _ _ hb12
                have cb2 : wE7.cell? ⟨gb, 2, none⟩ = some (.slice none 0 0) := by rw [cell_of_row _ _ _ _ _ (0, 0) hb12]; rfl
                have fb2 := frozen_of_row wE7 gb 2 _ _ hb12
                have cb3 : wE7.cell? ⟨gb, 3, none⟩ = some (.int .i64 0) := by rw [cell_of_row _ _ _ _ _ (0, 0) hb12]; rfl
                have fb3 := frozen_of_row wE7 gb 3 _ _ hb12
                go_simp
                obtain ⟨wE12, hq12⟩ : ∃ x, x = ((((wE7.setCell ⟨gb, 0, none⟩ (.slice none 0 0)).setCell ⟨gb, 1, none⟩ (.slice r3 m.fNames.length q3)).setCell ⟨gb, 2, none⟩ (.slice r7 m.fSafe.length q7)).setCell ⟨gb, 3, none⟩ (.int .i64 m.fNext)) := ⟨_, rfl⟩
                rw [← hq12]
                have hgb12 : wE12.heap[gb]? = some (.cells #[.slice none 0 0, .slice r3 m.fNames.length q3, .slice r7 m.fSafe.length q7, .int .i64 m.fNext] 27 (0, 0)) := by rw [hq12]; exact heap_setCell_same _ gb 3 _ _ _ (heap_setCell_same _ gb 2 _ _ _ (heap_setCell_same _ gb 1 _ _ _ (heap_setCell_same _ gb 0 _ _ _ hb12)))
                have hT12 : Turn [gb] wE7 wE12 := by rw [hq12]; exact Turn.setCell (Turn.setCell (Turn.setCell (Turn.setCell (Turn.refl _ _) (by simp) _) (by simp) _) (by simp) _) (by simp) _
                clear hq12 cb0 cb1 cb2 cb3 fb0 fb1 fb2 fb3
                refine hK.out _ _ (hHeld.trans (hT12.below (fun k hk => by simp at hk; subst hk; exact HGW.out) hHeld.size)) (fun hHeld => ?_)
                clear hK K
                try simp only [Act.put, List.setIfInBounds_toArray, List.set_cons_zero, List.set_cons_succ]
                refine wpAnyH_done (by kernel_rfl) ?_ _
                have z0 := hop0.size
                have z3 := hop3.size
                have z4 := hop4.size
                have z7 := hop7.size
                have z11 := hop11.size
                have b6 := HGg6.out
                have b10 := HGg10.out
                have bb := HGb.out
                have l6 := HLg6.out
                have l10 := HLg10.out
                have lb := HLb.out
                have w6 := HWg6.out
                have w10 := HWg10.out
                have wb := HGW.out
                have wp3 := HP3.out
                have wp7 := HP7.out
                have t3 := HAT3.out
                have t7 := HAT7.out
                have u3 := ((show Below wE3.heap.size wE3 wE7 from bthen (Below.refl _ _) hop7)).size
                have u7 := ((show Below wE7.heap.size wE7 wE7 from Below.refl _ _)).size
                refine ⟨rfl, _, _, _, _, _, _, _, gb, (Value.ownBlock (.slice r3 m.fNames.length q3)).toList, (Value.ownBlock (.slice r7 m.fSafe.length q7)).toList, rfl, wb, hgb12, ?_, ?_, ?_, ?_, hHeld⟩
                · exact ownS.frame oEntry_good HOS3.out (fun b hb => (hT12.block b (by have := (t3 b hb).2; omega) (by have := t3 b hb; simp; omega)).trans (((show Below wE3.heap.size wE3 wE7 from bthen (Below.refl _ _) hop7)).block b (t3 b hb).2))
                · exact ownS.frame oEntry_good HOS7.out (fun b hb => (hT12.block b (by have := (t7 b hb).2; omega) (by have := t7 b hb; simp; omega)).trans (((show Below wE7.heap.size wE7 wE7 from Below.refl _ _)).block b (t7 b hb).2))
                · refine List.nodup_append.2 ⟨nodup_opt _, nodup_opt _, fun x hx y hy hxy => ?_⟩; have := t3 x hx; have := t7 y hy; omega
                · intro b hb; rcases List.mem_append.1 hb with hb | hb; (have := t3 b hb; omega); (have := t7 b hb; omega)
      · go_simp
        obtain ⟨wE11, hq11⟩ : ∃ x, x = wE4.alloc (.cells #[.slice none 0 0, .slice none 0 0, .slice none 0 0, .int .i64 0] 27) := ⟨_, rfl⟩
        have hop11 : Below wE4.heap.size wE4 wE11 := by rw [hq11]; exact (Below.refl _ _).alloc (Nat.le_refl _) _
        have HB11 : Hid (wE11.heap[wE4.heap.size]? = some (.cells #[.slice none 0 0, .slice none 0 0, .slice none 0 0, .int .i64 0] 27 (0, 0))) := by show _ = _; rw [hq11, al_heap, if_pos rfl]
        obtain ⟨gb, HGb⟩ : ∃ g, Hid (g = wE4.heap.size) := ⟨_, rfl⟩
        rw [← HGb.out] at HB11 ⊢
        have HLb : Hid (gb < wE11.heap.size) := (Array.getElem?_eq_some_iff.1 HB11.out).1
        have HGW : Hid (wq.heap.size ≤ gb) := by show _ ≤ _; rw [HGb.out]; exact hHeld.size
        rw [← hq11]
        clear hq11
        refine hK.out _ _ (bthen hHeld hop11) (fun hHeld => ?_)
        clear hK K
        try simp only [Act.put, List.setIfInBounds_toArray, List.set_cons_zero, List.set_cons_succ]
        refine wpAnyH_ready (rs := [0]) (by kernel_rfl) (by simp) ?_
        refine (AllReadyH.cons (o := ⟨some 6, .buildSlice 25 0 #[], 25, "l02_files.go:68", #[], none⟩) rfl (fun K hK => ?_) AllReadyH.nil)
        · go_simp
          obtain ⟨wE0, hq0⟩ : ∃ x, x = wE11.alloc (.cells #[] 91) := ⟨_, rfl⟩
          have hop0 : Below wE11.heap.size wE11 wE0 := by rw [hq0]; exact (Below.refl _ _).alloc (Nat.le_refl _) _
          have hob0 : wE0.ownsRow wq.heap.size 91 2 (.slice (some ⟨wE11.heap.size, 0, none⟩) 0 0) 0 [] := by rw [hq0]; exact own_lit0 _ _ _ _ hHeld.size
          obtain ⟨g6, HGg6⟩ : ∃ g, Hid (g = wE11.heap.size) := ⟨_, rfl⟩
          have HLg6 : Hid (g6 < wE0.heap.size) := by show _ < _; rw [HGg6.out, hq0]; simp
          have HWg6 : Hid (wq.heap.size ≤ g6) := by show _ ≤ _; rw [HGg6.out]; exact hHeld.size
          rw [← HGg6.out] at hob0 ⊢
          rw [← hq0]
          clear hq0
          refine hK.out _ _ (bthen hHeld hop0) (fun hHeld => ?_)
          clear hK K
          try simp only [Act.put, List.setIfInBounds_toArray, List.set_cons_zero, List.set_cons_succ]
          refine wpAnyH_ready (rs := [3]) (by kernel_rfl) (by simp) ?_
          refine (AllReadyH.cons (o := ⟨some 9, .call { callee := .builtin .append, args := #[.tmp 6, .tmp 8], argTypes := #[25, 25] }, 25, "l02_files.go:68", #[⟨0, .data⟩, ⟨2, .data⟩], none⟩) rfl (fun K hK => ?_) AllReadyH.nil)
          · skip
            obtain ⟨css3, s3a, s3b, s3c, s3d⟩ := Src.ents (P := Try.prog) (c := c1) (n := m.fNames.length) Try.underlying25 rfl (HN.out.2.2.below rEntry_good (HBW.out.trans (hHeld.mono HBW.out.size)))
            refine step_append_lit _ rfl _ _ 25 25 rfl wq.heap.size 91 iE _ 2 24 Try.underlying25 hiE hzE0 hzE1 hzE2 rfl g6 rfl (own_below hob0 (show Below wE0.heap.size wE0 wE0 from Below.refl _ _)) (.slice a1 m.fNames.length c1) rfl m.fNames.length css3.flatten s3d (by unfold maxLen; omega) (by omega) hHeld.size ?_
            intro v3 wE3 hw3 hop3 hat3
            obtain ⟨r3, q3, rfl⟩ := own_slice hw3
            have hos3 := ownS_row rfl s3a s3b s3c hw3
            have hat3 : ∀ j, j ∈ (Value.ownBlock (.slice r3 m.fNames.length q3)).toList → (j = g6 ∨ j = wE0.heap.size) ∧ j < wE3.heap.size := fun j hj => by have h1 := (hw3.lt j (by simpa using hj)).2; rcases hat3 with h | h <;> (rw [h] at hj; simp at hj; subst hj; exact ⟨by simp, h1⟩)
            have HAT3 := Hid.mk hat3
            have HP3 : Hid (wq.heap.size ≤ wE0.heap.size) := hHeld.size
            have HOS3 := Hid.mk hos3
            clear s3a s3b s3c s3d hw3 hos3 hat3
            refine hK.out _ _ (bthen hHeld hop3) (fun hHeld => ?_)
            clear hK K
            try simp only [Act.put, List.setIfInBounds_toArray, List.set_cons_zero, List.set_cons_succ]
            refine wpAnyH_ready (rs := [7]) (by kernel_rfl) (by simp) ?_
            refine (AllReadyH.cons (o := ⟨some 13, .call { callee := .builtin .append, args := #[.tmp 10, .tmp 12], argTypes := #[25, 25] }, 25, "l02_files.go:68", #[⟨4, .data⟩, ⟨6, .data⟩, ⟨3, .chain⟩], none⟩) rfl (fun K hK => ?_) AllReadyH.nil)
            · skip
              obtain ⟨css7, s7a, s7b, s7c, s7d⟩ := Src.ents (P := Try.prog) (c := c2) (n := m.fSafe.length) Try.underlying25 rfl (HS.out.2.2.below rEntry_good (HBW.out.trans (hHeld.mono HBW.out.size)))
              refine step_append_lit _ rfl _ _ 25 25 rfl wq.heap.size 91 iE _ 2 24 Try.underlying25 hiE hzE0 hzE1 hzE2 rfl g10 rfl (own_below hob4 (show Below wE4.heap.size wE4 wE3 from bthen (bthen (bthen (Below.refl _ _) hop11) hop0) hop3)) (.slice a2 m.fSafe.length c2) rfl m.fSafe.length css7.flatten s7d (by unfold maxLen; omega) (by omega) hHeld.size ?_
              intro v7 wE7 hw7 hop7 hat7
              obtain ⟨r7, q7, rfl⟩ := own_slice hw7
              have hos7 := ownS_row rfl s7a s7b s7c hw7
              have hat7 : ∀ j, j ∈ (Value.ownBlock (.slice r7 m.fSafe.length q7)).toList → (j = g10 ∨ j = wE3.heap.size) ∧ j < wE7.heap.size := fun j hj => by have h1 := (hw7.lt j (by simpa using hj)).2; rcases hat7 with h | h <;> (rw [h] at hj; simp at hj; subst hj; exact ⟨by simp, h1⟩)
              have HAT7 := Hid.mk hat7
              have HP7 : Hid (wq.heap.size ≤ wE3.heap.size) := hHeld.size
              have HOS7 := Hid.mk hos7
              clear s7a s7b s7c s7d hw7 hos7 hat7
              refine hK.out _ _ (bthen hHeld hop7) (fun hHeld => ?_)
              clear hK K
              try simp only [Act.put, List.setIfInBounds_toArray, List.set_cons_zero, List.set_cons_succ]
              refine wpAnyH_take (i := 10) (oi := ⟨some 16, .build 27 #[(1, .tmp 9), (2, .tmp 13), (3, .tmp 15)], 27, "l02_files.go:68", #[⟨3, .data⟩, ⟨7, .data⟩, ⟨9, .data⟩], none⟩) (v := ?v18) rfl (by kernel_rfl) (by kernel_rfl) (by kernel_rfl) (fun _ _ _ h => by cases h.1) (Or.inl ⟨by rfl, ?hy18⟩) (by assumption) ?rest18
              case hy18 => (intro w hSw; (try dsimp only at hSw); go_simp; try (with_reducible rfl))
              try simp only [Act.put, List.setIfInBounds_toArray, List.set_cons_zero, List.set_cons_succ]
              refine wpAnyH_ready (rs := [12]) (by kernel_rfl) (by simp) ?_
              refine (AllReadyH.cons (o := ⟨none, .store 27 (.tmp 3) (.tmp 16), 0, "l02_files.go:68", #[⟨11, .data⟩, ⟨10, .data⟩, ⟨7, .chain⟩, ⟨0, .phase⟩, ⟨1, .phase⟩, ⟨2, .phase⟩, ⟨3, .phase⟩, ⟨4, .phase⟩, ⟨5, .phase⟩, ⟨6, .phase⟩, ⟨7, .phase⟩, ⟨8, .phase⟩, ⟨9, .phase⟩, ⟨10, .phase⟩, ⟨11, .phase⟩], none⟩) rfl (fun K hK => ?_) AllReadyH.nil)
              · go_simp
                have hb12 : wE7.heap[gb]? = some (.cells #[.slice none 0 0, .slice none 0 0, .slice none 0 0, .int .i64 0] 27 (0, 0)) := (((show Below wE11.heap.size wE11 wE7 from bthen (bthen (bthen (Below.refl _ _) hop0) hop3) hop7)).block gb HLb.out).trans HB11.out
                have cb0 : wE7.cell? ⟨gb, 0, none⟩ = some (.slice none 0 0) := by rw [cell_of_row _ _ _ _ _ (0, 0) hb12]; rfl
                have fb0 := frozen_of_row wE7 gb 0 _ _ hb12
                have cb1 : wE7.cell? ⟨gb, 1, none⟩ = some (.slice none 0 0) := by rw [cell_of_row _ _ _ _ _ (0, 0) hb12]; rfl
                have fb1 := frozen_of_row wE7 gb 1 _ _ hb12
                have cb2 : wE7.cell? ⟨gb, 2, none⟩ = some (.slice none 0 0) := by rw [cell_of_row _ _ _ _ _ (0, 0) hb12]; rfl
                have fb2 := frozen_of_row wE7 gb 2 _ _ hb12
                have cb3 : wE7.cell? ⟨gb, 3, none⟩ = some (.int .i64 0) := by rw [cell_of_row _ _ _ _ _ (0, 0) hb12]; rfl
                have fb3 := frozen_of_row wE7 gb 3 _ _ hb12
                go_simp
                obtain ⟨wE12, hq12⟩ : ∃ x, x = ((((wE7.setCell ⟨gb, 0, none⟩ (.slice none 0 0)).setCell ⟨gb, 1, none⟩ (.slice r3 m.fNames.length q3)).setCell ⟨gb, 2, none⟩ (.slice r7 m.fSafe.length q7)).setCell ⟨gb, 3, none⟩ (.int .i64 m.fNext)) := ⟨_, rfl⟩
                rw [← hq12]
                have hgb12 : wE12.heap[gb]? = some (.cells #[.slice none 0 0, .slice r3 m.fNames.length q3, .slice r7 m.fSafe.length q7, .int .i64 m.fNext] 27 (0, 0)) := by rw [hq12]; exact heap_setCell_same _ gb 3 _ _ _ (heap_setCell_same _ gb 2 _ _ _ (heap_setCell_same _ gb 1 _ _ _ (heap_setCell_same _ gb 0 _ _ _ hb12)))
                have hT12 : Turn [gb] wE7 wE12 := by rw [hq12]; exact Turn.setCell (Turn.setCell (Turn.setCell (Turn.setCell (Turn.refl _ _) (by simp) _) (by simp) _) (by simp) _) (by simp) _
                clear hq12 cb0 cb1 cb2 cb3 fb0 fb1 fb2 fb3
                refine hK.out _ _ (hHeld.trans (hT12.below (fun k hk => by simp at hk; subst hk; exact HGW.out) hHeld.size)) (fun hHeld => ?_)
                clear hK K
                try simp only [Act.put, List.setIfInBounds_toArray, List.set_cons_zero, List.set_cons_succ]
                refine wpAnyH_done (by kernel_rfl) ?_ _
                have z0 := hop0.size
                have z3 := hop3.size
                have z4 := hop4.size
                have z7 := hop7.size
                have z11 := hop11.size
                have b6 := HGg6.out
                have b10 := HGg10.out
                have bb := HGb.out
                have l6 := HLg6.out
                have l10 := HLg10.out
                have lb := HLb.out
                have w6 := HWg6.out
                have w10 := HWg10.out
                have wb := HGW.out
                have wp3 := HP3.out
                have wp7 := HP7.out
                have t3 := HAT3.out
                have t7 := HAT7.out
                have u3 := ((show Below wE3.heap.size wE3 wE7 from bthen (Below.refl _ _) hop7)).size
                have u7 := ((show Below wE7.heap.size wE7 wE7 from Below.refl _ _)).size
                refine ⟨rfl, _, _, _, _, _, _, _, gb, (Value.ownBlock (.slice r3 m.fNames.length q3)).toList, (Value.ownBlock (.slice r7 m.fSafe.length q7)).toList, rfl, wb, hgb12, ?_, ?_, ?_, ?_, hHeld⟩
                · exact ownS.frame oEntry_good HOS3.out (fun b hb => (hT12.block b (by have := (t3 b hb).2; omega) (by have := t3 b hb; simp; omega)).trans (((show Below wE3.heap.size wE3 wE7 from bthen (Below.refl _ _) hop7)).block b (t3 b hb).2))
                · exact ownS.frame oEntry_good HOS7.out (fun b hb => (hT12.block b (by have := (t7 b hb).2; omega) (by have := t7 b hb; simp; omega)).trans (((show Below wE7.heap.size wE7 wE7 from Below.refl _ _)).block b (t7 b hb).2))
                · refine List.nodup_append.2 ⟨nodup_opt _, nodup_opt _, fun x hx y hy hxy => ?_⟩; have := t3 x hx; have := t7 y hy; omega
                · intro b hb; rcases List.mem_append.1 hb with hb | hb; (have := t3 b hb; omega); (have := t7 b hb; omega)
    · go_simp
      obtain ⟨wE11, hq11⟩ : ∃ x, x = wS.alloc (.cells #[.slice none 0 0, .slice none 0 0, .slice none 0 0, .int .i64 0] 27) := ⟨_, rfl⟩
      have hop11 : Below wS.heap.size wS wE11 := by rw [hq11]; exact (Below.refl _ _).alloc (Nat.le_refl _) _
      have HB11 : Hid (wE11.heap[wS.heap.size]? = some (.cells #[.slice none 0 0, .slice none 0 0, .slice none 0 0, .int .i64 0] 27 (0, 0))) := by show _ = _; rw [hq11, al_heap, if_pos rfl]
      obtain ⟨gb, HGb⟩ : ∃ g, Hid (g = wS.heap.size) := ⟨_, rfl⟩
      rw [← HGb.out] at HB11 ⊢
      have HLb : Hid (gb < wE11.heap.size) := (Array.getElem?_eq_some_iff.1 HB11.out).1
      have HGW : Hid (wq.heap.size ≤ gb) := by show _ ≤ _; rw [HGb.out]; exact hHeld.size
      rw [← hq11]
      clear hq11
      refine hK.out _ _ (bthen hHeld hop11) (fun hHeld => ?_)
      clear hK K
      try simp only [Act.put, List.setIfInBounds_toArray, List.set_cons_zero, List.set_cons_succ]
      refine wpAnyH_ready (rs := [0, 4]) (by kernel_rfl) (by simp) ?_
      refine (AllReadyH.cons (o := ⟨some 6, .buildSlice 25 0 #[], 25, "l02_files.go:68", #[], none⟩) rfl (fun K hK => ?_) (AllReadyH.cons (o := ⟨some 10, .buildSlice 25 0 #[], 25, "l02_files.go:68", #[], none⟩) rfl (fun K hK => ?_) AllReadyH.nil))
      · go_simp
        obtain ⟨wE0, hq0⟩ : ∃ x, x = wE11.alloc (.cells #[] 91) := ⟨_, rfl⟩
        have hop0 : Below wE11.heap.size wE11 wE0 := by rw [hq0]; exact (Below.refl _ _).alloc (Nat.le_refl _) _
        have hob0 : wE0.ownsRow wq.heap.size 91 2 (.slice (some ⟨wE11.heap.size, 0, none⟩) 0 0) 0 [] := by rw [hq0]; exact own_lit0 _ _ _ _ hHeld.size
        obtain ⟨g6, HGg6⟩ : ∃ g, Hid (g = wE11.heap.size) := ⟨_, rfl⟩
        have HLg6 : Hid (g6 < wE0.heap.size) := by show _ < _; rw [HGg6.out, hq0]; simp
        have HWg6 : Hid (wq.heap.size ≤ g6) := by show _ ≤ _; rw [HGg6.out]; exact hHeld.size
        rw [← HGg6.out] at hob0 ⊢
        rw [← hq0]
        clear hq0
        refine hK.out _ _ (bthen hHeld hop0) (fun hHeld => ?_)
        clear hK K
        try simp only [Act.put, List.setIfInBounds_toArray, List.set_cons_zero, List.set_cons_succ]
        refine wpAnyH_ready (rs := [3, 4]) (by kernel_rfl) (by simp) ?_
        refine (AllReadyH.cons (o := ⟨some 9, .call { callee := .builtin .append, args := #[.tmp 6, .tmp 8], argTypes := #[25, 25] }, 25, "l02_files.go:68", #[⟨0, .data⟩, ⟨2, .data⟩], none⟩) rfl (fun K hK => ?_) (AllReadyH.cons (o := ⟨some 10, .buildSlice 25 0 #[], 25, "l02_files.go:68", #[], none⟩) rfl (fun K hK => ?_) AllReadyH.nil))
        · skip
          obtain ⟨css3, s3a, s3b, s3c, s3d⟩ := Src.ents (P := Try.prog) (c := c1) (n := m.fNames.length) Try.underlying25 rfl (HN.out.2.2.below rEntry_good (HBW.out.trans (hHeld.mono HBW.out.size)))
          refine step_append_lit _ rfl _ _ 25 25 rfl wq.heap.size 91 iE _ 2 24 Try.underlying25 hiE hzE0 hzE1 hzE2 rfl g6 rfl (own_below hob0 (show Below wE0.heap.size wE0 wE0 from Below.refl _ _)) (.slice a1 m.fNames.length c1) rfl m.fNames.length css3.flatten s3d (by unfold maxLen; omega) (by omega) hHeld.size ?_
          intro v3 wE3 hw3 hop3 hat3
          obtain ⟨r3, q3, rfl⟩ := own_slice hw3
          have hos3 := ownS_row rfl s3a s3b s3c hw3
          have hat3 : ∀ j, j ∈ (Value.ownBlock (.slice r3 m.fNames.length q3)).toList → (j = g6 ∨ j = wE0.heap.size) ∧ j < wE3.heap.size := fun j hj => by have h1 := (hw3.lt j (by simpa using hj)).2; rcases hat3 with h | h <;> (rw [h] at hj; simp at hj; subst hj; exact ⟨by simp, h1⟩)
          have HAT3 := Hid.mk hat3
          have HP3 : Hid (wq.heap.size ≤ wE0.heap.size) := hHeld.size
          have HOS3 := Hid.mk hos3
          clear s3a s3b s3c s3d hw3 hos3 hat3
          refine hK.out _ _ (bthen hHeld hop3) (fun hHeld => ?_)
          clear hK K
          try simp only [Act.put, List.setIfInBounds_toArray, List.set_cons_zero, List.set_cons_succ]
          refine wpAnyH_ready (rs := [4]) (by kernel_rfl) (by simp) ?_
          refine (AllReadyH.cons (o := ⟨some 10, .buildSlice 25 0 #[], 25, "l02_files.go:68", #[], none⟩) rfl (fun K hK => ?_) AllReadyH.nil)
          · go_simp
            obtain ⟨wE4, hq4⟩ : ∃ x, x = wE3.alloc (.cells #[] 91) := ⟨_, rfl⟩
            have hop4 : Below wE3.heap.size wE3 wE4 := by rw [hq4]; exact (Below.refl _ _).alloc (Nat.le_refl _) _
            have hob4 : wE4.ownsRow wq.heap.size 91 2 (.slice (some ⟨wE3.heap.size, 0, none⟩) 0 0) 0 [] := by rw [hq4]; exact own_lit0 _ _ _ _ hHeld.size
            obtain ⟨g10, HGg10⟩ : ∃ g, Hid (g = wE3.heap.size) := ⟨_, rfl⟩
            have HLg10 : Hid (g10 < wE4.heap.size) := by show _ < _; rw [HGg10.out, hq4]; simp
            have HWg10 : Hid (wq.heap.size ≤ g10) := by show _ ≤ _; rw [HGg10.out]; exact hHeld.size
            rw [← HGg10.out] at hob4 ⊢
            rw [← hq4]
            clear hq4
            refine hK.out _ _ (bthen hHeld hop4) (fun hHeld => ?_)
            clear hK K
            try simp only [Act.put, List.setIfInBounds_toArray, List.set_cons_zero, List.set_cons_succ]
            refine wpAnyH_ready (rs := [7]) (by kernel_rfl) (by simp) ?_
            refine (AllReadyH.cons (o := ⟨some 13, .call { callee := .builtin .append, args := #[.tmp 10, .tmp 12], argTypes := #[25, 25] }, 25, "l02_files.go:68", #[⟨4, .data⟩, ⟨6, .data⟩, ⟨3, .chain⟩], none⟩) rfl (fun K hK => ?_) AllReadyH.nil)
            · skip
              obtain ⟨css7, s7a, s7b, s7c, s7d⟩ := Src.ents (P := Try.prog) (c := c2) (n := m.fSafe.length) Try.underlying25 rfl (HS.out.2.2.below rEntry_good (HBW.out.trans (hHeld.mono HBW.out.size)))
              refine step_append_lit _ rfl _ _ 25 25 rfl wq.heap.size 91 iE _ 2 24 Try.underlying25 hiE hzE0 hzE1 hzE2 rfl g10 rfl (own_below hob4 (show Below wE4.heap.size wE4 wE4 from Below.refl _ _)) (.slice a2 m.fSafe.length c2) rfl m.fSafe.length css7.flatten s7d (by unfold maxLen; omega) (by omega) hHeld.size ?_
              intro v7 wE7 hw7 hop7 hat7
              obtain ⟨r7, q7, rfl⟩ := own_slice hw7
              have hos7 := ownS_row rfl s7a s7b s7c hw7
              have hat7 : ∀ j, j ∈ (Value.ownBlock (.slice r7 m.fSafe.length q7)).toList → (j = g10 ∨ j = wE4.heap.size) ∧ j < wE7.heap.size := fun j hj => by have h1 := (hw7.lt j (by simpa using hj)).2; rcases hat7 with h | h <;> (rw [h] at hj; simp at hj; subst hj; exact ⟨by simp, h1⟩)
              have HAT7 := Hid.mk hat7
              have HP7 : Hid (wq.heap.size ≤ wE4.heap.size) := hHeld.size
              have HOS7 := Hid.mk hos7
              clear s7a s7b s7c s7d hw7 hos7 hat7
              refine hK.out _ _ (bthen hHeld hop7) (fun hHeld => ?_)
              clear hK K
              try simp only [Act.put, List.setIfInBounds_toArray, List.set_cons_zero, List.set_cons_succ]
              refine wpAnyH_take (i := 10) (oi := ⟨some 16, .build 27 #[(1, .tmp 9), (2, .tmp 13), (3, .tmp 15)], 27, "l02_files.go:68", #[⟨3, .data⟩, ⟨7, .data⟩, ⟨9, .data⟩], none⟩) (v := ?v19) rfl (by kernel_rfl) (by kernel_rfl) (by kernel_rfl) (fun _ _ _ h => by cases h.1) (Or.inl ⟨by rfl, ?hy19⟩) (by assumption) ?rest19
              case hy19 => (intro w hSw; (try dsimp only at hSw); go_simp; try (with_reducible rfl))
              try simp only [Act.put, List.setIfInBounds_toArray, List.set_cons_zero, List.set_cons_succ]
              refine wpAnyH_ready (rs := [12]) (by kernel_rfl) (by simp) ?_
              refine (AllReadyH.cons (o := ⟨none, .store 27 (.tmp 3) (.tmp 16), 0, "l02_files.go:68", #[⟨11, .data⟩, ⟨10, .data⟩, ⟨7, .chain⟩, ⟨0, .phase⟩, ⟨1, .phase⟩, ⟨2, .phase⟩, ⟨3, .phase⟩, ⟨4, .phase⟩, ⟨5, .phase⟩, ⟨6, .phase⟩, ⟨7, .phase⟩, ⟨8, .phase⟩, ⟨9, .phase⟩, ⟨10, .phase⟩, ⟨11, .phase⟩], none⟩) rfl (fun K hK => ?_) AllReadyH.nil)
              · go_simp
                have hb12 : wE7.heap[gb]? = some (.cells #[.slice none 0 0, .slice none 0 0, .slice none 0 0, .int .i64 0] 27 (0, 0)) := (((show Below wE11.heap.size wE11 wE7 from bthen (bthen (bthen (bthen (Below.refl _ _) hop0) hop3) hop4) hop7)).block gb HLb.out).trans HB11.out
                have cb0 : wE7.cell? ⟨gb, 0, none⟩ = some (.slice none 0 0) := by rw [cell_of_row _ _ _ _ _ (0, 0) hb12]; rfl
                have fb0 := frozen_of_row wE7 gb 0 _ _ hb12
                have cb1 : wE7.cell? ⟨gb, 1, none⟩ = some (.slice none 0 0) := by rw [cell_of_row _ _ _ _ _ (0, 0) hb12]; rfl
                have fb1 := frozen_of_row wE7 gb 1 _ _ hb12
                have cb2 : wE7.cell? ⟨gb, 2, none⟩ = some (.slice none 0 0) := by rw [cell_of_row _ _ _ _ _ (0, 0) hb12]; rfl
                have fb2 := frozen_of_row wE7 gb 2 _ _ hb12
                have cb3 : wE7.cell? ⟨gb, 3, none⟩ = some (.int .i64 0) := by rw [cell_of_row _ _ _ _ _ (0, 0) hb12]; rfl
                have fb3 := frozen_of_row wE7 gb 3 _ _ hb12
                go_simp
                obtain ⟨wE12, hq12⟩ : ∃ x, x = ((((wE7.setCell ⟨gb, 0, none⟩ (.slice none 0 0)).setCell ⟨gb, 1, none⟩ (.slice r3 m.fNames.length q3)).setCell ⟨gb, 2, none⟩ (.slice r7 m.fSafe.length q7)).setCell ⟨gb, 3, none⟩ (.int .i64 m.fNext)) := ⟨_, rfl⟩
                rw [← hq12]
                have hgb12 : wE12.heap[gb]? = some (.cells #[.slice none 0 0, .slice r3 m.fNames.length q3, .slice r7 m.fSafe.length q7, .int .i64 m.fNext] 27 (0, 0)) := by rw [hq12]; exact heap_setCell_same _ gb 3 _ _ _ (heap_setCell_same _ gb 2 _ _ _ (heap_setCell_same _ gb 1 _ _ _ (heap_setCell_same _ gb 0 _ _ _ hb12)))
                have hT12 : Turn [gb] wE7 wE12 := by rw [hq12]; exact Turn.setCell (Turn.setCell (Turn.setCell (Turn.setCell (Turn.refl _ _) (by simp) _) (by simp) _) (by simp) _) (by simp) _
                clear hq12 cb0 cb1 cb2 cb3 fb0 fb1 fb2 fb3
                refine hK.out _ _ (hHeld.trans (hT12.below (fun k hk => by simp at hk; subst hk; exact HGW.out) hHeld.size)) (fun hHeld => ?_)
                clear hK K
                try simp only [Act.put, List.setIfInBounds_toArray, List.set_cons_zero, List.set_cons_succ]
                refine wpAnyH_done (by kernel_rfl) ?_ _
                have z0 := hop0.size
                have z3 := hop3.size
                have z4 := hop4.size
                have z7 := hop7.size
                have z11 := hop11.size
                have b6 := HGg6.out
                have b10 := HGg10.out
                have bb := HGb.out
                have l6 := HLg6.out
                have l10 := HLg10.out
                have lb := HLb.out
                have w6 := HWg6.out
                have w10 := HWg10.out
                have wb := HGW.out
                have wp3 := HP3.out
                have wp7 := HP7.out
                have t3 := HAT3.out
                have t7 := HAT7.out
                have u3 := ((show Below wE3.heap.size wE3 wE7 from bthen (bthen (Below.refl _ _) hop4) hop7)).size
                have u7 := ((show Below wE7.heap.size wE7 wE7 from Below.refl _ _)).size
                refine ⟨rfl, _, _, _, _, _, _, _, gb, (Value.ownBlock (.slice r3 m.fNames.length q3)).toList, (Value.ownBlock (.slice r7 m.fSafe.length q7)).toList, rfl, wb, hgb12, ?_, ?_, ?_, ?_, hHeld⟩
                · exact ownS.frame oEntry_good HOS3.out (fun b hb => (hT12.block b (by have := (t3 b hb).2; omega) (by have := t3 b hb; simp; omega)).trans (((show Below wE3.heap.size wE3 wE7 from bthen (bthen (Below.refl _ _) hop4) hop7)).block b (t3 b hb).2))
                · exact ownS.frame oEntry_good HOS7.out (fun b hb => (hT12.block b (by have := (t7 b hb).2; omega) (by have := t7 b hb; simp; omega)).trans (((show Below wE7.heap.size wE7 wE7 from Below.refl _ _)).block b (t7 b hb).2))
                · refine List.nodup_append.2 ⟨nodup_opt _, nodup_opt _, fun x hx y hy hxy => ?_⟩; have := t3 x hx; have := t7 y hy; omega
                · intro b hb; rcases List.mem_append.1 hb with hb | hb; (have := t3 b hb; omega); (have := t7 b hb; omega)
        · go_simp
          obtain ⟨wE4, hq4⟩ : ∃ x, x = wE0.alloc (.cells #[] 91) := ⟨_, rfl⟩
          have hop4 : Below wE0.heap.size wE0 wE4 := by rw [hq4]; exact (Below.refl _ _).alloc (Nat.le_refl _) _
          have hob4 : wE4.ownsRow wq.heap.size 91 2 (.slice (some ⟨wE0.heap.size, 0, none⟩) 0 0) 0 [] := by rw [hq4]; exact own_lit0 _ _ _ _ hHeld.size
          obtain ⟨g10, HGg10⟩ : ∃ g, Hid (g = wE0.heap.size) := ⟨_, rfl⟩
          have HLg10 : Hid (g10 < wE4.heap.size) := by show _ < _; rw [HGg10.out, hq4]; simp
          have HWg10 : Hid (wq.heap.size ≤ g10) := by show _ ≤ _; rw [HGg10.out]; exact hHeld.size
          rw [← HGg10.out] at hob4 ⊢
          rw [← hq4]
          clear hq4
          refine hK.out _ _ (bthen hHeld hop4) (fun hHeld => ?_)
          clear hK K
          try simp only [Act.put, List.setIfInBounds_toArray, List.set_cons_zero, List.set_cons_succ]
          refine wpAnyH_ready (rs := [3]) (by kernel_rfl) (by simp) ?_
          refine (AllReadyH.cons (o := ⟨some 9, .call { callee := .builtin .append, args := #[.tmp 6, .tmp 8], argTypes := #[25, 25] }, 25, "l02_files.go:68", #[⟨0, .data⟩, ⟨2, .data⟩], none⟩) rfl (fun K hK => ?_) AllReadyH.nil)
          · skip
            obtain ⟨css3, s3a, s3b, s3c, s3d⟩ := Src.ents (P := Try.prog) (c := c1) (n := m.fNames.length) Try.underlying25 rfl (HN.out.2.2.below rEntry_good (HBW.out.trans (hHeld.mono HBW.out.size)))
            refine step_append_lit _ rfl _ _ 25 25 rfl wq.heap.size 91 iE _ 2 24 Try.underlying25 hiE hzE0 hzE1 hzE2 rfl g6 rfl (own_below hob0 (show Below wE0.heap.size wE0 wE4 from bthen (Below.refl _ _) hop4)) (.slice a1 m.fNames.length c1) rfl m.fNames.length css3.flatten s3d (by unfold maxLen; omega) (by omega) hHeld.size ?_
            intro v3 wE3 hw3 hop3 hat3
            obtain ⟨r3, q3, rfl⟩ := own_slice hw3
            have hos3 := ownS_row rfl s3a s3b s3c hw3
            have hat3 : ∀ j, j ∈ (Value.ownBlock (.slice r3 m.fNames.length q3)).toList → (j = g6 ∨ j = wE4.heap.size) ∧ j < wE3.heap.size := fun j hj => by have h1 := (hw3.lt j (by simpa using hj)).2; rcases hat3 with h | h <;> (rw [h] at hj; simp at hj; subst hj; exact ⟨by simp, h1⟩)
            have HAT3 := Hid.mk hat3
            have HP3 : Hid (wq.heap.size ≤ wE4.heap.size) := hHeld.size
            have HOS3 := Hid.mk hos3
            clear s3a s3b s3c s3d hw3 hos3 hat3
            refine hK.out _ _ (bthen hHeld hop3) (fun hHeld => ?_)
            clear hK K
            try simp only [Act.put, List.setIfInBounds_toArray, List.set_cons_zero, List.set_cons_succ]
            refine wpAnyH_ready (rs := [7]) (by kernel_rfl) (by simp) ?_
            refine (AllReadyH.cons (o := ⟨some 13, .call { callee := .builtin .append, args := #[.tmp 10, .tmp 12], argTypes := #[25, 25] }, 25, "l02_files.go:68", #[⟨4, .data⟩, ⟨6, .data⟩, ⟨3, .chain⟩], none⟩) rfl (fun K hK => ?_) AllReadyH.nil)
            · skip
              obtain ⟨css7, s7a, s7b, s7c, s7d⟩ := Src.ents (P := Try.prog) (c := c2) (n := m.fSafe.length) Try.underlying25 rfl (HS.out.2.2.below rEntry_good (HBW.out.trans (hHeld.mono HBW.out.size)))
              refine step_append_lit _ rfl _ _ 25 25 rfl wq.heap.size 91 iE _ 2 24 Try.underlying25 hiE hzE0 hzE1 hzE2 rfl g10 rfl (own_below hob4 (show Below wE4.heap.size wE4 wE3 from bthen (Below.refl _ _) hop3)) (.slice a2 m.fSafe.length c2) rfl m.fSafe.length css7.flatten s7d (by unfold maxLen; omega) (by omega) hHeld.size ?_
              intro v7 wE7 hw7 hop7 hat7
              obtain ⟨r7, q7, rfl⟩ := own_slice hw7
              have hos7 := ownS_row rfl s7a s7b s7c hw7
              have hat7 : ∀ j, j ∈ (Value.ownBlock (.slice r7 m.fSafe.length q7)).toList → (j = g10 ∨ j = wE3.heap.size) ∧ j < wE7.heap.size := fun j hj => by have h1 := (hw7.lt j (by simpa using hj)).2; rcases hat7 with h | h <;> (rw [h] at hj; simp at hj; subst hj; exact ⟨by simp, h1⟩)
              have HAT7 := Hid.mk hat7
              have HP7 : Hid (wq.heap.size ≤ wE3.heap.size) := hHeld.size
              have HOS7 := Hid.mk hos7
              clear s7a s7b s7c s7d hw7 hos7 hat7
              refine hK.out _ _ (bthen hHeld hop7) (fun hHeld => ?_)
              clear hK K
              try simp only [Act.put, List.setIfInBounds_toArray, List.set_cons_zero, List.set_cons_succ]
              refine wpAnyH_take (i := 10) (oi := ⟨some 16, .build 27 #[(1, .tmp 9), (2, .tmp 13), (3, .tmp 15)], 27, "l02_files.go:68", #[⟨3, .data⟩, ⟨7, .data⟩, ⟨9, .data⟩], none⟩) (v := ?v20) rfl (by kernel_rfl) (by kernel_rfl) (by kernel_rfl) (fun _ _ _ h => by cases h.1) (Or.inl ⟨by rfl, ?hy20⟩) (by assumption) ?rest20
              case hy20 => (intro w hSw; (try dsimp only at hSw); go_simp; try (with_reducible rfl))
              try simp only [Act.put, List.setIfInBounds_toArray, List.set_cons_zero, List.set_cons_succ]
              refine wpAnyH_ready (rs := [12]) (by kernel_rfl) (by simp) ?_
              refine (AllReadyH.cons (o := ⟨none, .store 27 (.tmp 3) (.tmp 16), 0, "l02_files.go:68", #[⟨11, .data⟩, ⟨10, .data⟩, ⟨7, .chain⟩, ⟨0, .phase⟩, ⟨1, .phase⟩, ⟨2, .phase⟩, ⟨3, .phase⟩, ⟨4, .phase⟩, ⟨5, .phase⟩, ⟨6, .phase⟩, ⟨7, .phase⟩, ⟨8, .phase⟩, ⟨9, .phase⟩, ⟨10, .phase⟩, ⟨11, .phase⟩], none⟩) rfl (fun K hK => ?_) AllReadyH.nil)
              · go_simp
                have hb12 : wE7.heap[gb]? = some (.cells #[.slice none 0 0, .slice none 0 0, .slice none 0 0, .int .i64 0] 27 (0, 0)) := (((show Below wE11.heap.size wE11 wE7 from bthen (bthen (bthen (bthen (Below.refl _ _) hop0) hop4) hop3) hop7)).block gb HLb.out).trans HB11.out
                have cb0 : wE7.cell? ⟨gb, 0, none⟩ = some (.slice none 0 0) := by rw [cell_of_row _ _ _ _ _ (0, 0) hb12]; rfl
                have fb0 := frozen_of_row wE7 gb 0 _ _ hb12
                have cb1 : wE7.cell? ⟨gb, 1, none⟩ = some (.slice none 0 0) := by rw [cell_of_row _ _ _ _ _ (0, 0) hb12]; rfl
                have fb1 := frozen_of_row wE7 gb 1 _ _ hb12
                have cb2 : wE7.cell? ⟨gb, 2, none⟩ = some (.slice none 0 0) := by rw [cell_of_row _ _ _ _ _ (0, 0) hb12]; rfl
                have fb2 := frozen_of_row wE7 gb 2 _ _ hb12
                have cb3 : wE7.cell? ⟨gb, 3, none⟩ = some (.int .i64 0) := by rw [cell_of_row _ _ _ _ _ (0, 0) hb12]; rfl
                have fb3 := frozen_of_row wE7 gb 3 _ _ hb12
                go_simp
                obtain ⟨wE12, hq12⟩ : ∃ x, x = ((((wE7.setCell ⟨gb, 0, none⟩ (.slice none 0 0)).setCell ⟨gb, 1, none⟩ (.slice r3 m.fNames.length q3)).setCell ⟨gb, 2, none⟩ (.slice r7 m.fSafe.length q7)).setCell ⟨gb, 3, none⟩ (.int .i64 m.fNext)) := ⟨_, rfl⟩
                rw [← hq12]
                have hgb12 : wE12.heap[gb]? = some (.cells #[.slice none 0 0, .slice r3 m.fNames.length q3, .slice r7 m.fSafe.length q7, .int .i64 m.fNext] 27 (0, 0)) := by rw [hq12]; exact heap_setCell_same _ gb 3 _ _ _ (heap_setCell_same _ gb 2 _ _ _ (heap_setCell_same _ gb 1 _ _ _ (heap_setCell_same _ gb 0 _ _ _ hb12)))
                have hT12 : Turn [gb] wE7 wE12 := by rw [hq12]; exact Turn.setCell (Turn.setCell (Turn.setCell (Turn.setCell (Turn.refl _ _) (by simp) _) (by simp) _) (by simp) _) (by simp) _
                clear hq12 cb0 cb1 cb2 cb3 fb0 fb1 fb2 fb3
                refine hK.out _ _ (hHeld.trans (hT12.below (fun k hk => by simp at hk; subst hk; exact HGW.out) hHeld.size)) (fun hHeld => ?_)
                clear hK K
                try simp only [Act.put, List.setIfInBounds_toArray, List.set_cons_zero, List.set_cons_succ]
                refine wpAnyH_done (by kernel_rfl) ?_ _
                have z0 := hop0.size
                have z3 := hop3.size
                have z4 := hop4.size
                have z7 := hop7.size
                have z11 := hop11.size
                have b6 := HGg6.out
                have b10 := HGg10.out
                have bb := HGb.out
                have l6 := HLg6.out
                have l10 := HLg10.out
                have lb := HLb.out
                have w6 := HWg6.out
                have w10 := HWg10.out
                have wb := HGW.out
                have wp3 := HP3.out
                have wp7 := HP7.out
                have t3 := HAT3.out
                have t7 := HAT7.out
                have u3 := ((show Below wE3.heap.size wE3 wE7 from bthen (Below.refl _ _) hop7)).size
                have u7 := ((show Below wE7.heap.size wE7 wE7 from Below.refl _ _)).size
                refine ⟨rfl, _, _, _, _, _, _, _, gb, (Value.ownBlock (.slice r3 m.fNames.length q3)).toList, (Value.ownBlock (.slice r7 m.fSafe.length q7)).toList, rfl, wb, hgb12, ?_, ?_, ?_, ?_, hHeld⟩
                · exact ownS.frame oEntry_good HOS3.out (fun b hb => (hT12.block b (by have := (t3 b hb).2; omega) (by have := t3 b hb; simp; omega)).trans (((show Below wE3.heap.size wE3 wE7 from bthen (Below.refl _ _) hop7)).block b (t3 b hb).2))
                · exact ownS.frame oEntry_good HOS7.out (fun b hb => (hT12.block b (by have := (t7 b hb).2; omega) (by have := t7 b hb; simp; omega)).trans (((show Below wE7.heap.size wE7 wE7 from Below.refl _ _)).block b (t7 b hb).2))
                · refine List.nodup_append.2 ⟨nodup_opt _, nodup_opt _, fun x hx y hy hxy => ?_⟩; have := t3 x hx; have := t7 y hy; omega
                · intro b hb; rcases List.mem_append.1 hb with hb | hb; (have := t3 b hb; omega); (have := t7 b hb; omega)
      · go_simp
        obtain ⟨wE4, hq4⟩ : ∃ x, x = wE11.alloc (.cells #[] 91) := ⟨_, rfl⟩
        have hop4 : Below wE11.heap.size wE11 wE4 := by rw [hq4]; exact (Below.refl _ _).alloc (Nat.le_refl _) _
        have hob4 : wE4.ownsRow wq.heap.size 91 2 (.slice (some ⟨wE11.heap.size, 0, none⟩) 0 0) 0 [] := by rw [hq4]; exact own_lit0 _ _ _ _ hHeld.size
        obtain ⟨g10, HGg10⟩ : ∃ g, Hid (g = wE11.heap.size) := ⟨_, rfl⟩
        have HLg10 : Hid (g10 < wE4.heap.size) := by show _ < _; rw [HGg10.out, hq4]; simp
        have HWg10 : Hid (wq.heap.size ≤ g10) := by show _ ≤ _; rw [HGg10.out]; exact hHeld.size
        rw [← HGg10.out] at hob4 ⊢
        rw [← hq4]
        clear hq4
        refine hK.out _ _ (bthen hHeld hop4) (fun hHeld => ?_)
        clear hK K
        try simp only [Act.put, List.setIfInBounds_toArray, List.set_cons_zero, List.set_cons_succ]
        refine wpAnyH_ready (rs := [0]) (by kernel_rfl) (by simp) ?_
        refine (AllReadyH.cons (o := ⟨some 6, .buildSlice 25 0 #[], 25, "l02_files.go:68", #[], none⟩) rfl (fun K hK => ?_) AllReadyH.nil)
        · go_simp
          obtain ⟨wE0, hq0⟩ : ∃ x, x = wE4.alloc (.cells #[] 91) := ⟨_, rfl⟩
          have hop0 : Below wE4.heap.size wE4 wE0 := by rw [hq0]; exact (Below.refl _ _).alloc (Nat.le_refl _) _
          have hob0 : wE0.ownsRow wq.heap.size 91 2 (.slice (some ⟨wE4.heap.size, 0, none⟩) 0 0) 0 [] := by rw [hq0]; exact own_lit0 _ _ _ _ hHeld.size
          obtain ⟨g6, HGg6⟩ : ∃ g, Hid (g = wE4.heap.size) := ⟨_, rfl⟩
          have HLg6 : Hid (g6 < wE0.heap.size) := by show _ < _; rw [HGg6.out, hq0]; simp
          have HWg6 : Hid (wq.heap.size ≤ g6) := by show _ ≤ _; rw [HGg6.out]; exact hHeld.size
          rw [← HGg6.out] at hob0 ⊢
          rw [← hq0]
          clear hq0
          refine hK.out _ _ (bthen hHeld hop0) (fun hHeld => ?_)
          clear hK K
          try simp only [Act.put, List.setIfInBounds_toArray, List.set_cons_zero, List.set_cons_succ]
          refine wpAnyH_ready (rs := [3]) (by kernel_rfl) (by simp) ?_
          refine (AllReadyH.cons (o := ⟨some 9, .call { callee := .builtin .append, args := #[.tmp 6, .tmp 8], argTypes := #[25, 25] }, 25, "l02_files.go:68", #[⟨0, .data⟩, ⟨2, .data⟩], none⟩) rfl (fun K hK => ?_) AllReadyH.nil)
          · skip
            obtain ⟨css3, s3a, s3b, s3c, s3d⟩ := Src.ents (P := Try.prog) (c := c1) (n := m.fNames.length) Try.underlying25 rfl (HN.out.2.2.below rEntry_good (HBW.out.trans (hHeld.mono HBW.out.size)))
            refine step_append_lit _ rfl _ _ 25 25 rfl wq.heap.size 91 iE _ 2 24 Try.underlying25 hiE hzE0 hzE1 hzE2 rfl g6 rfl (own_below hob0 (show Below wE0.heap.size wE0 wE0 from Below.refl _ _)) (.slice a1 m.fNames.length c1) rfl m.fNames.length css3.flatten s3d (by unfold maxLen; omega) (by omega) hHeld.size ?_
            intro v3 wE3 hw3 hop3 hat3
            obtain ⟨r3, q3, rfl⟩ := own_slice hw3
            have hos3 := ownS_row rfl s3a s3b s3c hw3
            have hat3 : ∀ j, j ∈ (Value.ownBlock (.slice r3 m.fNames.length q3)).toList → (j = g6 ∨ j = wE0.heap.size) ∧ j < wE3.heap.size := fun j hj => by have h1 := (hw3.lt j (by simpa using hj)).2; rcases hat3 with h | h <;> (rw [h] at hj; simp at hj; subst hj; exact ⟨by simp, h1⟩)
            have HAT3 := Hid.mk hat3
            have HP3 : Hid (wq.heap.size ≤ wE0.heap.size) := hHeld.size
            have HOS3 := Hid.mk hos3
            clear s3a s3b s3c s3d hw3 hos3 hat3
            refine hK.out _ _ (bthen hHeld hop3) (fun hHeld => ?_)
            clear hK K
            try simp only [Act.put, List.setIfInBounds_toArray, List.set_cons_zero, List.set_cons_succ]
            refine wpAnyH_ready (rs := [7]) (by kernel_rfl) (by simp) ?_
            refine (AllReadyH.cons (o := ⟨some 13, .call { callee := .builtin .append, args := #[.tmp 10, .tmp 12], argTypes := #[25, 25] }, 25, "l02_files.go:68", #[⟨4, .data⟩, ⟨6, .data⟩, ⟨3, .chain⟩], none⟩) rfl (fun K hK => ?_) AllReadyH.nil)
            · skip
              obtain ⟨css7, s7a, s7b, s7c, s7d⟩ := Src.ents (P := Try.prog) (c := c2) (n := m.fSafe.length) Try.underlying25 rfl (HS.out.2.2.below rEntry_good (HBW.out.trans (hHeld.mono HBW.out.size)))
              refine step_append_lit _ rfl _ _ 25 25 rfl wq.heap.size 91 iE _ 2 24 Try.underlying25 hiE hzE0 hzE1 hzE2 rfl g10 rfl (own_below hob4 (show Below wE4.heap.size wE4 wE3 from bthen (bthen (Below.refl _ _) hop0) hop3)) (.slice a2 m.fSafe.length c2) rfl m.fSafe.length css7.flatten s7d (by unfold maxLen; omega) (by omega) hHeld.size ?_
              intro v7 wE7 hw7 hop7 hat7
              obtain ⟨r7, q7, rfl⟩ := own_slice hw7
              have hos7 := ownS_row rfl s7a s7b s7c hw7
              have hat7 : ∀ j, j ∈ (Value.ownBlock (.slice r7 m.fSafe.length q7)).toList → (j = g10 ∨ j = wE3.heap.size) ∧ j < wE7.heap.size := fun j hj => by have h1 := (hw7.lt j (by simpa using hj)).2; rcases hat7 with h | h <;> (rw [h] at hj; simp at hj; subst hj; exact ⟨by simp, h1⟩)
              have HAT7 := Hid.mk hat7
              have HP7 : Hid (wq.heap.size ≤ wE3.heap.size) := hHeld.size
              have HOS7 := Hid.mk hos7
              clear s7a s7b s7c s7d hw7 hos7 hat7
              refine hK.out _ _ (bthen hHeld hop7) (fun hHeld => ?_)
              clear hK K
              try simp only [Act.put, List.setIfInBounds_toArray, List.set_cons_zero, List.set_cons_succ]
              refine wpAnyH_take (i := 10) (oi := ⟨some 16, .build 27 #[(1, .tmp 9), (2, .tmp 13), (3, .tmp 15)], 27, "l02_files.go:68", #[⟨3, .data⟩, ⟨7, .data⟩, ⟨9, .data⟩], none⟩) (v := ?v21) rfl (by kernel_rfl) (by kernel_rfl) (by kernel_rfl) (fun _ _ _ h => by cases h.1) (Or.inl ⟨by rfl, ?hy21⟩) (by assumption) ?rest21
              case hy21 => (intro w hSw; (try dsimp only at hSw); go_simp; try (with_reducible rfl))
              try simp only [Act.put, List.setIfInBounds_toArray, List.set_cons_zero, List.set_cons_succ]
              refine wpAnyH_ready (rs := [12]) (by kernel_rfl) (by simp) ?_
              refine (AllReadyH.cons (o := ⟨none, .store 27 (.tmp 3) (.tmp 16), 0, "l02_files.go:68", #[⟨11, .data⟩, ⟨10, .data⟩, ⟨7, .chain⟩, ⟨0, .phase⟩, ⟨1, .phase⟩, ⟨2, .phase⟩, ⟨3, .phase⟩, ⟨4, .phase⟩, ⟨5, .phase⟩, ⟨6, .phase⟩, ⟨7, .phase⟩, ⟨8, .phase⟩, ⟨9, .phase⟩, ⟨10, .phase⟩, ⟨11, .phase⟩], none⟩) rfl (fun K hK => ?_) AllReadyH.nil)
              · go_simp
                have hb12 : wE7.heap[gb]? = some (.cells #[.slice none 0 0, .slice none 0 0, .slice none 0 0, .int .i64 0] 27 (0, 0)) := (((show Below wE11.heap.size wE11 wE7 from bthen (bthen (bthen (bthen (Below.refl _ _) hop4) hop0) hop3) hop7)).block gb HLb.out).trans HB11.out
                have cb0 : wE7.cell? ⟨gb, 0, none⟩ = some (.slice none 0 0) := by rw [cell_of_row _ _ _ _ _ (0, 0) hb12]; rfl
                have fb0 := frozen_of_row wE7 gb 0 _ _ hb12
                have cb1 : wE7.cell? ⟨gb, 1, none⟩ = some (.slice none 0 0) := by rw [cell_of_row _ _ _ _ _ (0, 0) hb12]; rfl
                have fb1 := frozen_of_row wE7 gb 1 _ _ hb12
                have cb2 : wE7.cell? ⟨gb, 2, none⟩ = some (.slice none 0 0) := by rw [cell_of_row _ _ _ _ _ (0, 0) hb12]; rfl
                have fb2 := frozen_of_row wE7 gb 2 _ _ hb12
                have cb3 : wE7.cell? ⟨gb, 3, none⟩ = some (.int .i64 0) := by rw [cell_of_row _ _ _ _ _ (0, 0) hb12]; rfl
                have fb3 := frozen_of_row wE7 gb 3 _ _ hb12
                go_simp
                obtain ⟨wE12, hq12⟩ : ∃ x, x = ((((wE7.setCell ⟨gb, 0, none⟩ (.slice none 0 0)).setCell ⟨gb, 1, none⟩ (.slice r3 m.fNames.length q3)).setCell ⟨gb, 2, none⟩ (.slice r7 m.fSafe.length q7)).setCell ⟨gb, 3, none⟩ (.int .i64 m.fNext)) := ⟨_, rfl⟩
                rw [← hq12]
                have hgb12 : wE12.heap[gb]? = some (.cells #[.slice none 0 0, .slice r3 m.fNames.length q3, .slice r7 m.fSafe.length q7, .int .i64 m.fNext] 27 (0, 0)) := by rw [hq12]; exact heap_setCell_same _ gb 3 _ _ _ (heap_setCell_same _ gb 2 _ _ _ (heap_setCell_same _ gb 1 _ _ _ (heap_setCell_same _ gb 0 _ _ _ hb12)))
                have hT12 : Turn [gb] wE7 wE12 := by rw [hq12]; exact Turn.setCell (Turn.setCell (Turn.setCell (Turn.setCell (Turn.refl _ _) (by simp) _) (by simp) _) (by simp) _) (by simp) _
                clear hq12 cb0 cb1 cb2 cb3 fb0 fb1 fb2 fb3
                refine hK.out _ _ (hHeld.trans (hT12.below (fun k hk => by simp at hk; subst hk; exact HGW.out) hHeld.size)) (fun hHeld => ?_)
                clear hK K
                try simp only [Act.put, List.setIfInBounds_toArray, List.set_cons_zero, List.set_cons_succ]
                refine wpAnyH_done (by kernel_rfl) ?_ _
                have z0 := hop0.size
                have z3 := hop3.size
                have z4 := hop4.size
                have z7 := hop7.size
                have z11 := hop11.size
                have b6 := HGg6.out
                have b10 := HGg10.out
                have bb := HGb.out
                have l6 := HLg6.out
                have l10 := HLg10.out
                have lb := HLb.out
                have w6 := HWg6.out
                have w10 := HWg10.out
                have wb := HGW.out
                have wp3 := HP3.out
                have wp7 := HP7.out
                have t3 := HAT3.out
                have t7 := HAT7.out
                have u3 := ((show Below wE3.heap.size wE3 wE7 from bthen (Below.refl _ _) hop7)).size
                have u7 := ((show Below wE7.heap.size wE7 wE7 from Below.refl _ _)).size
                refine ⟨rfl, _, _, _, _, _, _, _, gb, (Value.ownBlock (.slice r3 m.fNames.length q3)).toList, (Value.ownBlock (.slice r7 m.fSafe.length q7)).toList, rfl, wb, hgb12, ?_, ?_, ?_, ?_, hHeld⟩
                · exact ownS.frame oEntry_good HOS3.out (fun b hb => (hT12.block b (by have := (t3 b hb).2; omega) (by have := t3 b hb; simp; omega)).trans (((show Below wE3.heap.size wE3 wE7 from bthen (Below.refl _ _) hop7)).block b (t3 b hb).2))
                · exact ownS.frame oEntry_good HOS7.out (fun b hb => (hT12.block b (by have := (t7 b hb).2; omega) (by have := t7 b hb; simp; omega)).trans (((show Below wE7.heap.size wE7 wE7 from Below.refl _ _)).block b (t7 b hb).2))
                · refine List.nodup_append.2 ⟨nodup_opt _, nodup_opt _, fun x hx y hy hxy => ?_⟩; have := t3 x hx; have := t7 y hy; omega
                · intro b hb; rcases List.mem_append.1 hb with hb | hb; (have := t3 b hb; omega); (have := t7 b hb; omega)
  case mono =>
    rintro e a' w1 ⟨rfl, x6, x7, x9, x10, x11, x13, x14, gb, F1, F2, rfl, hgb0, hgb, hoN, hoS, hFN, hFge, hb1⟩
    obtain ⟨r9, q9, rfl, _⟩ := ownS.read oEntry_good hoN
    obtain ⟨r13, q13, rfl, _⟩ := ownS.read oEntry_good hoS
    have hlb : gb < w1.heap.size := (Array.getElem?_eq_some_iff.1 hgb).1
    have hbA := bthen HBW.out hb1
    have hq1 := hb1.size
    have hq0 := HBW.out.size
    have hlx := hbx.1
    have hQ2 : w.heap.size + 1 < wq.heap.size := (Array.getElem?_eq_some_iff.1 HRES.out).1
    have HX := Hid.mk (hbx.under hb1)
    have HGB := Hid.mk hgb
    have HON := Hid.mk hoN
    have HOS := Hid.mk hoS
    have HFN := Hid.mk hFN
    have HFG := Hid.mk hFge
    have HBA := Hid.mk hbA
    have HB1 := Hid.mk hb1
    clear p1 p2 p3 hgb hoN hoS hFN hFge hbA hbx hb1
    go_wp2_with fail
    go_loopw [4] (fun i wr => ∃ (k : Nat) (v0 : Value) (F0 : List Nat), k ≤ m.fInodes.length ∧ i = .int .i64 k ∧ wr.heap[gb]? = some (.cells #[v0, .slice r9 m.fNames.length q9, .slice r13 m.fSafe.length q13, .int .i64 m.fNext] 27 (0, 0)) ∧ ownS 3 86 oInode wr v0 (m.fInodes.take k) F0 ∧ F0.Nodup ∧ (∀ b, b ∈ F0 → w1.heap.size ≤ b) ∧ Turn [gb] w1 wr) (fun i _ => m.fInodes.length - (intOf i).toNat)
    case atStart => exact ⟨0, .slice none 0 0, [], Nat.zero_le _, rfl, HGB.out, .inl ⟨rfl, rfl, rfl⟩, List.nodup_nil, (fun b hb => by cases hb), Turn.refl _ _⟩
    case round =>
      obtain ⟨k, v0, F0, hk, rfl, hgk, hok, hnk, hge, hTk⟩ := hrel
      have hsz := hTk.size
      have HGK := Hid.mk hgk
      have HO0 := Hid.mk hok
      have HN0 := Hid.mk hnk
      have HGE0 := Hid.mk hge
      have HTK := Hid.mk hTk
      have HXR := Hid.mk (HX.out.turn hTk (by simp; omega))
      have x0 := HXR.out.2 0 _ rfl
      obtain ⟨m_k, hmk⟩ : ∃ m_k, m_k = (m.fInodes.take k).length := ⟨_, rfl⟩
      have HMK := Hid.mk hmk
      have hmk2 : m_k ≤ k := by rw [hmk]; simp; omega
      have hmk3 : k ≤ m_k := by rw [hmk]; simp; omega
      obtain ⟨ra, qa, rfl, _⟩ := ownS.read oInode_good hok
      rw [← hmk] at HGK HO0
      have HLT0 : Hid (∀ b, b ∈ F0 → b < wr.heap.size) := ownS.lt oInode_good HO0.out
      have HIN : Hid (∀ j, Value.ownBlock (.slice ra m_k qa) = some j → j ∈ F0) := by
        intro j hj
        rcases HO0.out with ⟨h1, _, _⟩ | ⟨g, cap, cur, Fs, h1, _, _, _, _, _, _, rfl⟩
        · rw [h1] at hj; cases hj
        · rw [h1] at hj; simp [Value.ownBlock] at hj; simp [hj]
      clear hgk hok hnk hge hmk
      by_cases hlt : k < m.fInodes.length
      · have hbR := Turn.under HBA.out hTk (fun k hk => by simp at hk; omega)
        have hwk := sumW_le (f := wInode) hlt
        obtain ⟨b1, o1, rfl, hB, cs, hcl, hcell, hrT⟩ := (HI.out.2.2.below rInode_good hbR) k hlt
        obtain ⟨n, hn⟩ : ∃ n, m.fInodes[k] = n := ⟨_, rfl⟩
        rw [hn] at hrT hwk
        have HNd : Hid (m.fInodes[k] = n) := hn
        clear hn
        obtain ⟨ad, cd, rfl, hid, hda, hsu, _⟩ := hrT
        have k0 := hcell 0 _ rfl
        have k1 := hcell 1 _ rfl
        have k2 := hcell 2 _ rfl
        rw [Nat.add_zero] at k0
        have hdl : n.fData.length ≤ 1048576 := by have : wInode n = n.fData.length := rfl; omega
        have HDA := Hid.mk hda
        have HBR := Hid.mk hbR
        clear hcell hcl hwk hda hbR hTk
        go_wp2_with fail
        obtain ⟨wi, hwi⟩ : ∃ wi, wi = wr.alloc (.cells #[.int .i64 n.fId, .slice ad n.fData.length cd, .int .i64 n.fSure] 86) := ⟨_, rfl⟩
        have hbi : Below wr.heap.size wr wi := by rw [hwi]; exact (Below.refl _ _).alloc (Nat.le_refl _) _
        have hbn : Bx wi wr.heap.size [.int .i64 n.fId, .slice ad n.fData.length cd, .int .i64 n.fSure] := by rw [hwi]; exact Bx.new _ _ _
        have hzi : wr.heap.size + 1 ≤ wi.heap.size := by rw [hwi]; simp
        rw [← hwi]
        clear hwi k0 k1 k2
        have HGI : Hid (wi.heap[gb]? = some (.cells #[.slice ra m_k qa, .slice r9 m.fNames.length q9, .slice r13 m.fSafe.length q13, .int .i64 m.fNext] 27 (0, 0))) := (hbi.block gb (by omega)).trans HGK.out
        have HO : Hid (ownS 3 86 oInode wi (.slice ra m_k qa) (m.fInodes.take k) F0) := ownS.frame oInode_good HO0.out (fun b hb => hbi.block b (HLT0.out b hb))
        have HLT : Hid (∀ b, b ∈ F0 → b < wi.heap.size) := fun b hb => by have := HLT0.out b hb; omega
        have HBI : Hid (Below w.heap.size wr wi) := hbi.mono HBR.out.size
        have HZI : Hid (w.heap.size ≤ wi.heap.size) := by show _ ≤ _; have := HBR.out.size; omega
        have HTI : Hid (Turn [gb] w1 wi) := HTK.out.trans (Turn.ofBelow hbi)
        have hng : gb ∉ F0 := fun h => by have := HGE0.out gb h; omega
        have hnw : wr.heap.size ∉ gb :: F0 := by
          intro h
          rcases List.mem_cons.1 h with h | h
          · omega
          · have := HLT0.out _ h; omega
        have n0 : ∀ W, Turn (gb :: F0) wi W → W.cell? ⟨wr.heap.size, 0, none⟩ = some (.int .i64 n.fId) := fun W hT => (hbn.turn hT hnw).2 0 _ rfl
        have n1 : ∀ W, Turn (gb :: F0) wi W → W.cell? ⟨wr.heap.size, 1, none⟩ = some (.slice ad n.fData.length cd) := fun W hT => (hbn.turn hT hnw).2 1 _ rfl
        have n2 : ∀ W, Turn (gb :: F0) wi W → W.cell? ⟨wr.heap.size, 2, none⟩ = some (.int .i64 n.fSure) := fun W hT => (hbn.turn hT hnw).2 2 _ rfl
        clear hbn hbi
        refine wp_region_held_drew (S := fun W => Turn (gb :: F0) wi W) (by kernel_rfl) (Turn.ofBelow (Below.drew (Below.refl _ _))) (fun hHeld => ?_)
        obtain ⟨wS, hwS⟩ : ∃ wS, wS = wi.drew := ⟨_, rfl⟩
        have HSB : Hid (Below wi.heap.size wi wS) := by rw [hwS]; exact Below.drew (Below.refl _ _)
        have hszS : wi.heap.size ≤ wS.heap.size := by rw [hwS]; exact Nat.le_refl _
        rw [← hwS] at hHeld ⊢
        clear hwS
        obtain ⟨zS, hzS⟩ : ∃ z, z = wS.heap.size := ⟨_, rfl⟩
        have hzS1 : zS ≤ wS.heap.size := by omega
        have hzS2 : wS.heap.size ≤ zS := by omega
        clear hzS
        have cgS : wS.cell? ⟨gb, 0, none⟩ = some (.slice ra m_k qa) := (HSB.out.cell (p := ⟨gb, 0, none⟩) (by simp; omega)).trans (by rw [cell_of_row _ _ _ _ _ (0, 0) HGI.out]; rfl)
        have HGS : Hid (wS.heap[gb]? = some (.cells #[.slice ra m_k qa, .slice r9 m.fNames.length q9, .slice r13 m.fSafe.length q13, .int .i64 m.fNext] 27 (0, 0))) := (HSB.out.block gb (by omega)).trans HGI.out
        refine wpAnyH_take (i := 0) (oi := ⟨some 29, .fieldAddr 27 (.tmp 3) 0, 0, "l02_files.go:71", #[], none⟩) (v := ?v22) rfl (by kernel_rfl) (by kernel_rfl) (by kernel_rfl) (fun _ _ _ h => h) (Or.inl ⟨by rfl, ?hy22⟩) (by assumption) ?rest22
        case hy22 => (intro w hSw; (try dsimp only at hSw); go_simp; try (with_reducible rfl))
        try simp only [Act.put, List.setIfInBounds_toArray, List.set_cons_zero, List.set_cons_succ]
        refine wpAnyH_take (i := 2) (oi := ⟨some 31, .fieldAddr 86 (.tmp 5) 0, 0, "l02_files.go:71", #[], none⟩) (v := ?v23) rfl (by kernel_rfl) (by kernel_rfl) (by kernel_rfl) (fun _ _ _ h => h) (Or.inl ⟨by rfl, ?hy23⟩) (by assumption) ?rest23
        case hy23 => (intro w hSw; (try dsimp only at hSw); go_simp; try (with_reducible rfl))
        try simp only [Act.put, List.setIfInBounds_toArray, List.set_cons_zero, List.set_cons_succ]
        refine wpAnyH_take (i := 3) (oi := ⟨some 32, .load 3 (.tmp 31), 3, "l02_files.go:71", #[⟨2, .data⟩], none⟩) (v := ?v24) rfl (by kernel_rfl) (by kernel_rfl) (by kernel_rfl) (fun _ _ _ h => h) (Or.inl ⟨by rfl, ?hy24⟩) (by assumption) ?rest24
        case hy24 => (intro w hSw; (try dsimp only at hSw); go_simp; try (with_reducible rfl))
        try simp only [Act.put, List.setIfInBounds_toArray, List.set_cons_zero, List.set_cons_succ]
        refine wpAnyH_take (i := 5) (oi := ⟨some 34, .fieldAddr 86 (.tmp 5) 1, 0, "l02_files.go:71", #[], none⟩) (v := ?v25) rfl (by kernel_rfl) (by kernel_rfl) (by kernel_rfl) (fun _ _ _ h => h) (Or.inl ⟨by rfl, ?hy25⟩) (by assumption) ?rest25
        case hy25 => (intro w hSw; (try dsimp only at hSw); go_simp; try (with_reducible rfl))
        try simp only [Act.put, List.setIfInBounds_toArray, List.set_cons_zero, List.set_cons_succ]
        refine wpAnyH_take (i := 6) (oi := ⟨some 35, .load 22 (.tmp 34), 22, "l02_files.go:71", #[⟨5, .data⟩], none⟩) (v := ?v26) rfl (by kernel_rfl) (by kernel_rfl) (by kernel_rfl) (fun _ _ _ h => h) (Or.inl ⟨by rfl, ?hy26⟩) (by assumption) ?rest26
        case hy26 => (intro w hSw; (try dsimp only at hSw); go_simp; try (with_reducible rfl))
        try simp only [Act.put, List.setIfInBounds_toArray, List.set_cons_zero, List.set_cons_succ]
        refine wpAnyH_take (i := 8) (oi := ⟨some 37, .fieldAddr 86 (.tmp 5) 2, 0, "l02_files.go:71", #[], none⟩) (v := ?v27) rfl (by kernel_rfl) (by kernel_rfl) (by kernel_rfl) (fun _ _ _ h => h) (Or.inl ⟨by rfl, ?hy27⟩) (by assumption) ?rest27
        case hy27 => (intro w hSw; (try dsimp only at hSw); go_simp; try (with_reducible rfl))
        try simp only [Act.put, List.setIfInBounds_toArray, List.set_cons_zero, List.set_cons_succ]
        refine wpAnyH_take (i := 9) (oi := ⟨some 38, .load 3 (.tmp 37), 3, "l02_files.go:71", #[⟨8, .data⟩], none⟩) (v := ?v28) rfl (by kernel_rfl) (by kernel_rfl) (by kernel_rfl) (fun _ _ _ h => h) (Or.inl ⟨by rfl, ?hy28⟩) (by assumption) ?rest28
        case hy28 => (intro w hSw; (try dsimp only at hSw); go_simp; try (with_reducible rfl))
        try simp only [Act.put, List.setIfInBounds_toArray, List.set_cons_zero, List.set_cons_succ]
        refine wpAnyH_ready (rs := [1, 4]) (by kernel_rfl) (by simp) ?_
        refine (AllReadyH.cons (o := ⟨some 30, .load 24 (.tmp 29), 24, "l02_files.go:71", #[⟨0, .data⟩], none⟩) rfl (fun K hK => ?_) (AllReadyH.cons (o := ⟨some 33, .buildSlice 22 0 #[], 22, "l02_files.go:71", #[], none⟩) rfl (fun K hK => ?_) AllReadyH.nil))
        · go_simp
          have cl1 : wS.cell? ⟨gb, 0, none⟩ = some (.slice ra m_k qa) := (((show Below wS.heap.size wS wS from Below.refl _ _)).cell (p := ⟨gb, 0, none⟩) (by simp; omega)).trans cgS
          go_simp
          obtain ⟨wE1, hq1⟩ : ∃ x, x = wS := ⟨_, rfl⟩
          have hop1 : Below wS.heap.size wS wE1 := by rw [hq1]; exact Below.refl _ _
          rw [← hq1]
          clear hq1 cl1
          refine hK.out _ _ (hHeld.trans (Turn.ofBelow hop1)) (fun hHeld => ?_)
          clear hK K
          try simp only [Act.put, List.setIfInBounds_toArray, List.set_cons_zero, List.set_cons_succ]
          refine wpAnyH_ready (rs := [4]) (by kernel_rfl) (by simp) ?_
          refine (AllReadyH.cons (o := ⟨some 33, .buildSlice 22 0 #[], 22, "l02_files.go:71", #[], none⟩) rfl (fun K hK => ?_) AllReadyH.nil)
          · go_simp
            obtain ⟨wE4, hq4⟩ : ∃ x, x = wE1.alloc (.cells #[] 5) := ⟨_, rfl⟩
            have hop4 : Below wE1.heap.size wE1 wE4 := by rw [hq4]; exact (Below.refl _ _).alloc (Nat.le_refl _) _
            have hzz := ((show Below wS.heap.size wS wE1 from bthen (Below.refl _ _) hop1)).size
            have hob4 : wE4.ownsRow zS 5 1 (.slice (some ⟨wE1.heap.size, 0, none⟩) 0 0) 0 [] := by rw [hq4]; exact own_lit0 _ _ _ _ (Nat.le_trans hzS1 hzz)
            obtain ⟨g4, HG4⟩ : ∃ g, Hid (g = wE1.heap.size) := ⟨_, rfl⟩
            rw [← HG4.out] at hob4 ⊢
            rw [← hq4]
            clear hq4 hzz
            refine hK.out _ _ (hHeld.trans (Turn.ofBelow hop4)) (fun hHeld => ?_)
            clear hK K
            try simp only [Act.put, List.setIfInBounds_toArray, List.set_cons_zero, List.set_cons_succ]
            refine wpAnyH_ready (rs := [7]) (by kernel_rfl) (by simp) ?_
            refine (AllReadyH.cons (o := ⟨some 36, .call { callee := .builtin .append, args := #[.tmp 33, .tmp 35], argTypes := #[22, 22] }, 22, "l02_files.go:71", #[⟨4, .data⟩, ⟨6, .data⟩], none⟩) rfl (fun K hK => ?_) AllReadyH.nil)
            · skip
              have hrd7 := ((HDA.out.below (HBI.out.trans ((bthen HSB.out (bthen ((show Below wS.heap.size wS wE4 from bthen (bthen (Below.refl _ _) hop1) hop4)) (Below.refl _ _))).mono HZI.out))).2.2.1)
              refine step_append_lit _ rfl _ _ 22 22 rfl zS 5 iB (.int .u8 0) 1 1 Try.underlying22 hiB hzB0 hzB1 hzB2 rfl g4 rfl (own_below hob4 (show Below wE4.heap.size wE4 wE4 from Below.refl _ _)) (.slice ad n.fData.length cd) rfl n.fData.length (n.fData.map (Value.int .u8)) (Src.rd Try.underlying22 rfl hrd7) (by unfold maxLen; omega) (by omega) (Nat.le_trans hzS1 ((show Below wS.heap.size wS wE4 from bthen (bthen (Below.refl _ _) hop1) hop4)).size) ?_
              intro v7 wE7 hw7 hop7 hat7
              obtain ⟨r7, q7, rfl⟩ := own_slice hw7
              have HW7 := Hid.mk hw7
              clear hw7 hrd7 hat7
              refine hK.out _ _ (hHeld.trans (Turn.ofBelow hop7)) (fun hHeld => ?_)
              clear hK K
              try simp only [Act.put, List.setIfInBounds_toArray, List.set_cons_zero, List.set_cons_succ]
              refine wpAnyH_take (i := 10) (oi := ⟨some 39, .build 86 #[(0, .tmp 32), (1, .tmp 36), (2, .tmp 38)], 86, "l02_files.go:71", #[⟨3, .data⟩, ⟨7, .data⟩, ⟨9, .data⟩], none⟩) (v := ?v29) rfl (by kernel_rfl) (by kernel_rfl) (by kernel_rfl) (fun _ _ _ h => h) (Or.inl ⟨by rfl, ?hy29⟩) (by assumption) ?rest29
              case hy29 => (intro w hSw; (try dsimp only at hSw); go_simp; try (with_reducible rfl))
              try simp only [Act.put, List.setIfInBounds_toArray, List.set_cons_zero, List.set_cons_succ]
              refine wpAnyH_ready (rs := [11]) (by kernel_rfl) (by simp) ?_
              refine (AllReadyH.cons (o := ⟨some 40, .buildSlice 24 1 #[(0, .tmp 39)], 24, "l02_files.go:71", #[⟨10, .data⟩], none⟩) rfl (fun K hK => ?_) AllReadyH.nil)
              · go_simp
                obtain ⟨wE11, hq11⟩ : ∃ x, x = wE7.alloc (.cells #[.int .i64 n.fId, .slice r7 n.fData.length q7, .int .i64 n.fSure] 86) := ⟨_, rfl⟩
                have hop11 : Below wE7.heap.size wE7 wE11 := by rw [hq11]; exact (Below.refl _ _).alloc (Nat.le_refl _) _
                have HB11 : Hid (Bx wE11 wE7.heap.size [.int .i64 n.fId, .slice r7 n.fData.length q7, .int .i64 n.fSure]) := by show Bx _ _ _; rw [hq11]; exact Bx.new _ _ _
                obtain ⟨g11, HG11⟩ : ∃ g, Hid (g = wE7.heap.size) := ⟨_, rfl⟩
                rw [← HG11.out] at HB11 ⊢
                rw [← hq11]
                clear hq11
                refine hK.out _ _ (hHeld.trans (Turn.ofBelow hop11)) (fun hHeld => ?_)
                clear hK K
                try simp only [Act.put, List.setIfInBounds_toArray, List.set_cons_zero, List.set_cons_succ]
                refine wpAnyH_ready (rs := [12]) (by kernel_rfl) (by simp) ?_
                refine (AllReadyH.cons (o := ⟨some 41, .call { callee := .builtin .append, args := #[.tmp 30, .tmp 40], argTypes := #[24, 24] }, 24, "l02_files.go:71", #[⟨1, .data⟩, ⟨11, .data⟩, ⟨7, .chain⟩], none⟩) rfl (fun K hK => ?_) AllReadyH.nil)
                · skip
                  have hP := (show Below wS.heap.size wS wE11 from bthen (bthen (bthen (bthen (Below.refl _ _) hop1) hop4) hop7) hop11)
                  have ho12 := ownS.frame (w' := wE11) oInode_good HO.out (fun b hb => (bthen HSB.out hP).block b (by have := HLT.out b hb; omega))
                  obtain ⟨xs12, hx12, hpush⟩ := ownS.push oInode_good ho12 HN0.out
                  have HPUSH := Hid.mk hpush
                  clear hpush
                  have hB12 : Bx wE11 g11 [.int .i64 n.fId, .slice r7 n.fData.length q7, .int .i64 n.fSure] := HB11.out.under ((show Below wE11.heap.size wE11 wE11 from Below.refl _ _))
                  refine step_append_src _ rfl _ _ 24 24 rfl 0 86 iI (.agg #[.int .i64 0, .slice none 0 0, .int .i64 0]) 3 40 Try.underlying24 hiI hzI0 hzI1 hzI2 rfl (.slice ra m_k qa) m_k xs12 rfl (own_congr hx12 HMK.out.symm rfl) (.slice (some ⟨g11, 0, none⟩) 1 1) rfl 1 [.int .i64 n.fId, .slice r7 n.fData.length q7, .int .i64 n.fSure] (Src.ofSlice wE11 Try.underlying24 ⟨g11, 0, none⟩ 1 1 _ rfl (bx_news hB12) (by intro u hu; simp at hu; rcases hu with rfl | rfl | rfl <;> rfl)) (by unfold maxLen; omega) (by omega) (Nat.zero_le _) ?_
                  intro v12 wE12 hw12 hgr12 hat12
                  obtain ⟨r12, q12, rfl⟩ := own_slice hw12
                  have hT12 : Turn F0 wE11 wE12 := Turn.ofGrown hgr12 (fun j hj => HIN.out j hj)
                  have HT12 := Hid.mk hT12
                  have HB7 : Hid (ownB 5 wE11 (.slice r7 n.fData.length q7) n.fData (Value.ownBlock (.slice r7 n.fData.length q7)).toList) := ⟨own_base (own_below HW7.out ((show Below wE7.heap.size wE7 wE11 from bthen (Below.refl _ _) hop11))) (Nat.zero_le _), HDA.out.2.2.2, rfl⟩
                  have HGE7 : Hid (∀ b, b ∈ (Value.ownBlock (.slice r7 n.fData.length q7)).toList → zS ≤ b) := fun b hb => (HW7.out.lt b (by simpa using hb)).1
                  obtain ⟨F12, o12, n12, f12⟩ := HPUSH.out wE12 _ _ n _ (own_congr hw12 (by rw [HMK.out]) rfl) hgr12 hat12 ⟨_, _, rfl, hid, HB7.out, hsu, rfl⟩ (by rw [List.append_nil]; exact nodup_opt _) (fun b hb => by rw [List.append_nil] at hb; have h1 := HGE7.out b hb; intro hb0; have := HLT.out b hb0; omega)
                  have HO12 := Hid.mk o12
                  have HN12 := Hid.mk n12
                  have HF12 : Hid (∀ b, b ∈ F12 → b ∈ F0 ∨ zS ≤ b) := fun b hb => (by rcases f12 b hb with h | h | h; exact .inl h; (exact .inr (HGE7.out b (by simpa using h))); (exact .inr (by rw [h]; exact Nat.le_trans hzS1 hP.size)))
                  have HP12 := Hid.mk hP
                  clear o12 n12 f12 hT12 hw12 hgr12 hat12 hx12 ho12 hB12 hP
                  refine hK.out _ _ (hHeld.trans (HT12.out.mono (fun k hk => List.mem_cons_of_mem _ hk))) (fun hHeld => ?_)
                  clear hK K
                  try simp only [Act.put, List.setIfInBounds_toArray, List.set_cons_zero, List.set_cons_succ]
                  refine wpAnyH_take (i := 13) (oi := ⟨some 42, .fieldAddr 27 (.tmp 3) 0, 0, "l02_files.go:71", #[⟨0, .phase⟩, ⟨1, .phase⟩, ⟨2, .phase⟩, ⟨3, .phase⟩, ⟨4, .phase⟩, ⟨5, .phase⟩, ⟨6, .phase⟩, ⟨7, .phase⟩, ⟨8, .phase⟩, ⟨9, .phase⟩, ⟨10, .phase⟩, ⟨11, .phase⟩, ⟨12, .phase⟩], none⟩) (v := ?v30) rfl (by kernel_rfl) (by kernel_rfl) (by kernel_rfl) (fun _ _ _ h => h) (Or.inl ⟨by rfl, ?hy30⟩) (by assumption) ?rest30
                  case hy30 => (intro w hSw; (try dsimp only at hSw); go_simp; try (with_reducible rfl))
                  try simp only [Act.put, List.setIfInBounds_toArray, List.set_cons_zero, List.set_cons_succ]
                  refine wpAnyH_ready (rs := [14]) (by kernel_rfl) (by simp) ?_
                  refine (AllReadyH.cons (o := ⟨none, .store 24 (.tmp 42) (.tmp 41), 0, "l02_files.go:71", #[⟨13, .data⟩, ⟨12, .data⟩, ⟨12, .chain⟩, ⟨0, .phase⟩, ⟨1, .phase⟩, ⟨2, .phase⟩, ⟨3, .phase⟩, ⟨4, .phase⟩, ⟨5, .phase⟩, ⟨6, .phase⟩, ⟨7, .phase⟩, ⟨8, .phase⟩, ⟨9, .phase⟩, ⟨10, .phase⟩, ⟨11, .phase⟩, ⟨12, .phase⟩], none⟩) rfl (fun K hK => ?_) AllReadyH.nil)
                  · go_simp
                    have hb14 : wE12.heap[gb]? = some (.cells #[.slice ra m_k qa, .slice r9 m.fNames.length q9, .slice r13 m.fSafe.length q13, .int .i64 m.fNext] 27 (0, 0)) := by rw [HT12.out.block gb (by have := HP12.out.size; omega) (fun h => by have := HGE0.out gb h; omega), HP12.out.block gb (by omega)]; exact HGS.out
                    have cb0 : wE12.cell? ⟨gb, 0, none⟩ = some (.slice ra m_k qa) := by rw [cell_of_row _ _ _ _ _ (0, 0) hb14]; rfl
                    have fb0 := frozen_of_row wE12 gb 0 _ _ hb14
                    go_simp
                    obtain ⟨wE14, hq14⟩ : ∃ x, x = wE12.setCell ⟨gb, 0, none⟩ (.slice r12 (m_k + 1) q12) := ⟨_, rfl⟩
                    rw [← hq14]
                    have hgb14 : wE14.heap[gb]? = some (.cells #[.slice r12 (m_k + 1) q12, .slice r9 m.fNames.length q9, .slice r13 m.fSafe.length q13, .int .i64 m.fNext] 27 (0, 0)) := by rw [hq14]; exact heap_setCell_same _ gb 0 _ _ _ hb14
                    have hT14 : Turn [gb] wE12 wE14 := by rw [hq14]; exact Turn.setCell (Turn.refl _ _) (by simp) _
                    have HGB14 := Hid.mk hgb14
                    have HT14 := Hid.mk hT14
                    clear hq14 cb0 fb0 hb14 hgb14 hT14
                    refine hK.out _ _ (hHeld.trans (HT14.out.mono (fun k hk => by simp at hk; simp [hk]))) (fun hHeld => ?_)
                    clear hK K
                    try simp only [Act.put, List.setIfInBounds_toArray, List.set_cons_zero, List.set_cons_succ]
                    refine wpAnyH_done (by kernel_rfl) ?_ _
                    have hTe : Turn [gb] w1 wE14 := HTI.out.join hHeld (fun x hx => by rcases List.mem_cons.1 hx with h | h; (exact .inl (by simp [h])); (exact .inr (HGE0.out x h)))
                    have hgn : gb ∉ F12 := fun h => by rcases HF12.out gb h with h1 | h1; (exact hng h1); omega
                    have hoe := ownS.frame (w' := wE14) oInode_good HO12.out (fun b hb => HT14.out.block b (ownS.lt oInode_good HO12.out b hb) (by intro h; simp at h; subst h; exact hgn hb))
                    have hge12 : ∀ b, b ∈ F12 → w1.heap.size ≤ b := fun b hb => by rcases HF12.out b hb with h1 | h1; (exact HGE0.out b h1); omega
                    have htk : m.fInodes.take (k + 1) = m.fInodes.take k ++ [n] := by rw [List.take_succ_eq_append_getElem hlt, HNd.out]
                    have HTKS := Hid.mk htk
                    clear htk hHeld n0 n1 n2
                    go_wp2_with fail
                    go_roundw
                    case rel => exact ⟨k + 1, _, F12, by omega, by go_num, HGB14.out, by rw [HTKS.out]; exact hoe, HN12.out, hge12, hTe⟩
                    case measure => simp [intOf]; omega
        · go_simp
          obtain ⟨wE4, hq4⟩ : ∃ x, x = wS.alloc (.cells #[] 5) := ⟨_, rfl⟩
          have hop4 : Below wS.heap.size wS wE4 := by rw [hq4]; exact (Below.refl _ _).alloc (Nat.le_refl _) _
          have hzz := ((show Below wS.heap.size wS wS from Below.refl _ _)).size
          have hob4 : wE4.ownsRow zS 5 1 (.slice (some ⟨wS.heap.size, 0, none⟩) 0 0) 0 [] := by rw [hq4]; exact own_lit0 _ _ _ _ (Nat.le_trans hzS1 hzz)
          obtain ⟨g4, HG4⟩ : ∃ g, Hid (g = wS.heap.size) := ⟨_, rfl⟩
          rw [← HG4.out] at hob4 ⊢
          rw [← hq4]
          clear hq4 hzz
          refine hK.out _ _ (hHeld.trans (Turn.ofBelow hop4)) (fun hHeld => ?_)
          clear hK K
          try simp only [Act.put, List.setIfInBounds_toArray, List.set_cons_zero, List.set_cons_succ]
          refine wpAnyH_ready (rs := [1, 7]) (by kernel_rfl) (by simp) ?_
          refine (AllReadyH.cons (o := ⟨some 30, .load 24 (.tmp 29), 24, "l02_files.go:71", #[⟨0, .data⟩], none⟩) rfl (fun K hK => ?_) (AllReadyH.cons (o := ⟨some 36, .call { callee := .builtin .append, args := #[.tmp 33, .tmp 35], argTypes := #[22, 22] }, 22, "l02_files.go:71", #[⟨4, .data⟩, ⟨6, .data⟩], none⟩) rfl (fun K hK => ?_) AllReadyH.nil))
          · go_simp
            have cl1 : wE4.cell? ⟨gb, 0, none⟩ = some (.slice ra m_k qa) := (((show Below wS.heap.size wS wE4 from bthen (Below.refl _ _) hop4)).cell (p := ⟨gb, 0, none⟩) (by simp; omega)).trans cgS
            go_simp
            obtain ⟨wE1, hq1⟩ : ∃ x, x = wE4 := ⟨_, rfl⟩
            have hop1 : Below wE4.heap.size wE4 wE1 := by rw [hq1]; exact Below.refl _ _
            rw [← hq1]
            clear hq1 cl1
            refine hK.out _ _ (hHeld.trans (Turn.ofBelow hop1)) (fun hHeld => ?_)
            clear hK K
            try simp only [Act.put, List.setIfInBounds_toArray, List.set_cons_zero, List.set_cons_succ]
            refine wpAnyH_ready (rs := [7]) (by kernel_rfl) (by simp) ?_
            refine (AllReadyH.cons (o := ⟨some 36, .call { callee := .builtin .append, args := #[.tmp 33, .tmp 35], argTypes := #[22, 22] }, 22, "l02_files.go:71", #[⟨4, .data⟩, ⟨6, .data⟩], none⟩) rfl (fun K hK => ?_) AllReadyH.nil)
            · skip
              have hrd7 := ((HDA.out.below (HBI.out.trans ((bthen HSB.out (bthen ((show Below wS.heap.size wS wE1 from bthen (bthen (Below.refl _ _) hop4) hop1)) (Below.refl _ _))).mono HZI.out))).2.2.1)
              refine step_append_lit _ rfl _ _ 22 22 rfl zS 5 iB (.int .u8 0) 1 1 Try.underlying22 hiB hzB0 hzB1 hzB2 rfl g4 rfl (own_below hob4 (show Below wE4.heap.size wE4 wE1 from bthen (Below.refl _ _) hop1)) (.slice ad n.fData.length cd) rfl n.fData.length (n.fData.map (Value.int .u8)) (Src.rd Try.underlying22 rfl hrd7) (by unfold maxLen; omega) (by omega) (Nat.le_trans hzS1 ((show Below wS.heap.size wS wE1 from bthen (bthen (Below.refl _ _) hop4) hop1)).size) ?_
              intro v7 wE7 hw7 hop7 hat7
              obtain ⟨r7, q7, rfl⟩ := own_slice hw7
              have HW7 := Hid.mk hw7
              clear hw7 hrd7 hat7
              refine hK.out _ _ (hHeld.trans (Turn.ofBelow hop7)) (fun hHeld => ?_)
              clear hK K
              try simp only [Act.put, List.setIfInBounds_toArray, List.set_cons_zero, List.set_cons_succ]
              refine wpAnyH_take (i := 10) (oi := ⟨some 39, .build 86 #[(0, .tmp 32), (1, .tmp 36), (2, .tmp 38)], 86, "l02_files.go:71", #[⟨3, .data⟩, ⟨7, .data⟩, ⟨9, .data⟩], none⟩) (v := ?v31) rfl (by kernel_rfl) (by kernel_rfl) (by kernel_rfl) (fun _ _ _ h => h) (Or.inl ⟨by rfl, ?hy31⟩) (by assumption) ?rest31
              case hy31 => (intro w hSw; (try dsimp only at hSw); go_simp; try (with_reducible rfl))
              try simp only [Act.put, List.setIfInBounds_toArray, List.set_cons_zero, List.set_cons_succ]
              refine wpAnyH_ready (rs := [11]) (by kernel_rfl) (by simp) ?_
              refine (AllReadyH.cons (o := ⟨some 40, .buildSlice 24 1 #[(0, .tmp 39)], 24, "l02_files.go:71", #[⟨10, .data⟩], none⟩) rfl (fun K hK => ?_) AllReadyH.nil)
              · go_simp
                obtain ⟨wE11, hq11⟩ : ∃ x, x = wE7.alloc (.cells #[.int .i64 n.fId, .slice r7 n.fData.length q7, .int .i64 n.fSure] 86) := ⟨_, rfl⟩
                have hop11 : Below wE7.heap.size wE7 wE11 := by rw [hq11]; exact (Below.refl _ _).alloc (Nat.le_refl _) _
                have HB11 : Hid (Bx wE11 wE7.heap.size [.int .i64 n.fId, .slice r7 n.fData.length q7, .int .i64 n.fSure]) := by show Bx _ _ _; rw [hq11]; exact Bx.new _ _ _
                obtain ⟨g11, HG11⟩ : ∃ g, Hid (g = wE7.heap.size) := ⟨_, rfl⟩
                rw [← HG11.out] at HB11 ⊢
                rw [← hq11]
                clear hq11
                refine hK.out _ _ (hHeld.trans (Turn.ofBelow hop11)) (fun hHeld => ?_)
                clear hK K
                try simp only [Act.put, List.setIfInBounds_toArray, List.set_cons_zero, List.set_cons_succ]
                refine wpAnyH_ready (rs := [12]) (by kernel_rfl) (by simp) ?_
                refine (AllReadyH.cons (o := ⟨some 41, .call { callee := .builtin .append, args := #[.tmp 30, .tmp 40], argTypes := #[24, 24] }, 24, "l02_files.go:71", #[⟨1, .data⟩, ⟨11, .data⟩, ⟨7, .chain⟩], none⟩) rfl (fun K hK => ?_) AllReadyH.nil)
                · skip
                  have hP := (show Below wS.heap.size wS wE11 from bthen (bthen (bthen (bthen (Below.refl _ _) hop4) hop1) hop7) hop11)
                  have ho12 := ownS.frame (w' := wE11) oInode_good HO.out (fun b hb => (bthen HSB.out hP).block b (by have := HLT.out b hb; omega))
                  obtain ⟨xs12, hx12, hpush⟩ := ownS.push oInode_good ho12 HN0.out
                  have HPUSH := Hid.mk hpush
                  clear hpush
                  have hB12 : Bx wE11 g11 [.int .i64 n.fId, .slice r7 n.fData.length q7, .int .i64 n.fSure] := HB11.out.under ((show Below wE11.heap.size wE11 wE11 from Below.refl _ _))
                  refine step_append_src _ rfl _ _ 24 24 rfl 0 86 iI (.agg #[.int .i64 0, .slice none 0 0, .int .i64 0]) 3 40 Try.underlying24 hiI hzI0 hzI1 hzI2 rfl (.slice ra m_k qa) m_k xs12 rfl (own_congr hx12 HMK.out.symm rfl) (.slice (some ⟨g11, 0, none⟩) 1 1) rfl 1 [.int .i64 n.fId, .slice r7 n.fData.length q7, .int .i64 n.fSure] (Src.ofSlice wE11 Try.underlying24 ⟨g11, 0, none⟩ 1 1 _ rfl (bx_news hB12) (by intro u hu; simp at hu; rcases hu with rfl | rfl | rfl <;> rfl)) (by unfold maxLen; omega) (by omega) (Nat.zero_le _) ?_
                  intro v12 wE12 hw12 hgr12 hat12
                  obtain ⟨r12, q12, rfl⟩ := own_slice hw12
                  have hT12 : Turn F0 wE11 wE12 := Turn.ofGrown hgr12 (fun j hj => HIN.out j hj)
                  have HT12 := Hid.mk hT12
                  have HB7 : Hid (ownB 5 wE11 (.slice r7 n.fData.length q7) n.fData (Value.ownBlock (.slice r7 n.fData.length q7)).toList) := ⟨own_base (own_below HW7.out ((show Below wE7.heap.size wE7 wE11 from bthen (Below.refl _ _) hop11))) (Nat.zero_le _), HDA.out.2.2.2, rfl⟩
                  have HGE7 : Hid (∀ b, b ∈ (Value.ownBlock (.slice r7 n.fData.length q7)).toList → zS ≤ b) := fun b hb => (HW7.out.lt b (by simpa using hb)).1
                  obtain ⟨F12, o12, n12, f12⟩ := HPUSH.out wE12 _ _ n _ (own_congr hw12 (by rw [HMK.out]) rfl) hgr12 hat12 ⟨_, _, rfl, hid, HB7.out, hsu, rfl⟩ (by rw [List.append_nil]; exact nodup_opt _) (fun b hb => by rw [List.append_nil] at hb; have h1 := HGE7.out b hb; intro hb0; have := HLT.out b hb0; omega)
                  have HO12 := Hid.mk o12
                  have HN12 := Hid.mk n12
                  have HF12 : Hid (∀ b, b ∈ F12 → b ∈ F0 ∨ zS ≤ b) := fun b hb => (by rcases f12 b hb with h | h | h; exact .inl h; (exact .inr (HGE7.out b (by simpa using h))); (exact .inr (by rw [h]; exact Nat.le_trans hzS1 hP.size)))
                  have HP12 := Hid.mk hP
                  clear o12 n12 f12 hT12 hw12 hgr12 hat12 hx12 ho12 hB12 hP
                  refine hK.out _ _ (hHeld.trans (HT12.out.mono (fun k hk => List.mem_cons_of_mem _ hk))) (fun hHeld => ?_)
                  clear hK K
                  try simp only [Act.put, List.setIfInBounds_toArray, List.set_cons_zero, List.set_cons_succ]
                  refine wpAnyH_take (i := 13) (oi := ⟨some 42, .fieldAddr 27 (.tmp 3) 0, 0, "l02_files.go:71", #[⟨0, .phase⟩, ⟨1, .phase⟩, ⟨2, .phase⟩, ⟨3, .phase⟩, ⟨4, .phase⟩, ⟨5, .phase⟩, ⟨6, .phase⟩, ⟨7, .phase⟩, ⟨8, .phase⟩, ⟨9, .phase⟩, ⟨10, .phase⟩, ⟨11, .phase⟩, ⟨12, .phase⟩], none⟩) (v := ?v32) rfl (by kernel_rfl) (by kernel_rfl) (by kernel_rfl) (fun _ _ _ h => h) (Or.inl ⟨by rfl, ?hy32⟩) (by assumption) ?rest32
                  case hy32 => (intro w hSw; (try dsimp only at hSw); go_simp; try (with_reducible rfl))
                  try simp only [Act.put, List.setIfInBounds_toArray, List.set_cons_zero, List.set_cons_succ]
                  refine wpAnyH_ready (rs := [14]) (by kernel_rfl) (by simp) ?_
                  refine (AllReadyH.cons (o := ⟨none, .store 24 (.tmp 42) (.tmp 41), 0, "l02_files.go:71", #[⟨13, .data⟩, ⟨12, .data⟩, ⟨12, .chain⟩, ⟨0, .phase⟩, ⟨1, .phase⟩, ⟨2, .phase⟩, ⟨3, .phase⟩, ⟨4, .phase⟩, ⟨5, .phase⟩, ⟨6, .phase⟩, ⟨7, .phase⟩, ⟨8, .phase⟩, ⟨9, .phase⟩, ⟨10, .phase⟩, ⟨11, .phase⟩, ⟨12, .phase⟩], none⟩) rfl (fun K hK => ?_) AllReadyH.nil)
                  · go_simp
                    have hb14 : wE12.heap[gb]? = some (.cells #[.slice ra m_k qa, .slice r9 m.fNames.length q9, .slice r13 m.fSafe.length q13, .int .i64 m.fNext] 27 (0, 0)) := by rw [HT12.out.block gb (by have := HP12.out.size; omega) (fun h => by have := HGE0.out gb h; omega), HP12.out.block gb (by omega)]; exact HGS.out
                    have cb0 : wE12.cell? ⟨gb, 0, none⟩ = some (.slice ra m_k qa) := by rw [cell_of_row _ _ _ _ _ (0, 0) hb14]; rfl
                    have fb0 := frozen_of_row wE12 gb 0 _ _ hb14
                    go_simp
                    obtain ⟨wE14, hq14⟩ : ∃ x, x = wE12.setCell ⟨gb, 0, none⟩ (.slice r12 (m_k + 1) q12) := ⟨_, rfl⟩
                    rw [← hq14]
                    have hgb14 : wE14.heap[gb]? = some (.cells #[.slice r12 (m_k + 1) q12, .slice r9 m.fNames.length q9, .slice r13 m.fSafe.length q13, .int .i64 m.fNext] 27 (0, 0)) := by rw [hq14]; exact heap_setCell_same _ gb 0 _ _ _ hb14
                    have hT14 : Turn [gb] wE12 wE14 := by rw [hq14]; exact Turn.setCell (Turn.refl _ _) (by simp) _
                    have HGB14 := Hid.mk hgb14
                    have HT14 := Hid.mk hT14
                    clear hq14 cb0 fb0 hb14 hgb14 hT14
                    refine hK.out _ _ (hHeld.trans (HT14.out.mono (fun k hk => by simp at hk; simp [hk]))) (fun hHeld => ?_)
                    clear hK K
                    try simp only [Act.put, List.setIfInBounds_toArray, List.set_cons_zero, List.set_cons_succ]
                    refine wpAnyH_done (by kernel_rfl) ?_ _
                    have hTe : Turn [gb] w1 wE14 := HTI.out.join hHeld (fun x hx => by rcases List.mem_cons.1 hx with h | h; (exact .inl (by simp [h])); (exact .inr (HGE0.out x h)))
                    have hgn : gb ∉ F12 := fun h => by rcases HF12.out gb h with h1 | h1; (exact hng h1); omega
                    have hoe := ownS.frame (w' := wE14) oInode_good HO12.out (fun b hb => HT14.out.block b (ownS.lt oInode_good HO12.out b hb) (by intro h; simp at h; subst h; exact hgn hb))
                    have hge12 : ∀ b, b ∈ F12 → w1.heap.size ≤ b := fun b hb => by rcases HF12.out b hb with h1 | h1; (exact HGE0.out b h1); omega
                    have htk : m.fInodes.take (k + 1) = m.fInodes.take k ++ [n] := by rw [List.take_succ_eq_append_getElem hlt, HNd.out]
                    have HTKS := Hid.mk htk
                    clear htk hHeld n0 n1 n2
                    go_wp2_with fail
                    go_roundw
                    case rel => exact ⟨k + 1, _, F12, by omega, by go_num, HGB14.out, by rw [HTKS.out]; exact hoe, HN12.out, hge12, hTe⟩
                    case measure => simp [intOf]; omega
          · skip
            have hrd7 := ((HDA.out.below (HBI.out.trans ((bthen HSB.out (bthen ((show Below wS.heap.size wS wE4 from bthen (Below.refl _ _) hop4)) (Below.refl _ _))).mono HZI.out))).2.2.1)
            refine step_append_lit _ rfl _ _ 22 22 rfl zS 5 iB (.int .u8 0) 1 1 Try.underlying22 hiB hzB0 hzB1 hzB2 rfl g4 rfl (own_below hob4 (show Below wE4.heap.size wE4 wE4 from Below.refl _ _)) (.slice ad n.fData.length cd) rfl n.fData.length (n.fData.map (Value.int .u8)) (Src.rd Try.underlying22 rfl hrd7) (by unfold maxLen; omega) (by omega) (Nat.le_trans hzS1 ((show Below wS.heap.size wS wE4 from bthen (Below.refl _ _) hop4)).size) ?_
            intro v7 wE7 hw7 hop7 hat7
            obtain ⟨r7, q7, rfl⟩ := own_slice hw7
            have HW7 := Hid.mk hw7
            clear hw7 hrd7 hat7
            refine hK.out _ _ (hHeld.trans (Turn.ofBelow hop7)) (fun hHeld => ?_)
            clear hK K
            try simp only [Act.put, List.setIfInBounds_toArray, List.set_cons_zero, List.set_cons_succ]
            refine wpAnyH_take (i := 10) (oi := ⟨some 39, .build 86 #[(0, .tmp 32), (1, .tmp 36), (2, .tmp 38)], 86, "l02_files.go:71", #[⟨3, .data⟩, ⟨7, .data⟩, ⟨9, .data⟩], none⟩) (v := ?v33) rfl (by kernel_rfl) (by kernel_rfl) (by kernel_rfl) (fun _ _ _ h => h) (Or.inl ⟨by rfl, ?hy33⟩) (by assumption) ?rest33
            case hy33 => (intro w hSw; (try dsimp only at hSw); go_simp; try (with_reducible rfl))
            try simp only [Act.put, List.setIfInBounds_toArray, List.set_cons_zero, List.set_cons_succ]
            refine wpAnyH_ready (rs := [1, 11]) (by kernel_rfl) (by simp) ?_
            refine (AllReadyH.cons (o := ⟨some 30, .load 24 (.tmp 29), 24, "l02_files.go:71", #[⟨0, .data⟩], none⟩) rfl (fun K hK => ?_) (AllReadyH.cons (o := ⟨some 40, .buildSlice 24 1 #[(0, .tmp 39)], 24, "l02_files.go:71", #[⟨10, .data⟩], none⟩) rfl (fun K hK => ?_) AllReadyH.nil))
            · go_simp
              have cl1 : wE7.cell? ⟨gb, 0, none⟩ = some (.slice ra m_k qa) := (((show Below wS.heap.size wS wE7 from bthen (bthen (Below.refl _ _) hop4) hop7)).cell (p := ⟨gb, 0, none⟩) (by simp; omega)).trans cgS
              go_simp
              obtain ⟨wE1, hq1⟩ : ∃ x, x = wE7 := ⟨_, rfl⟩
              have hop1 : Below wE7.heap.size wE7 wE1 := by rw [hq1]; exact Below.refl _ _
              rw [← hq1]
              clear hq1 cl1
              refine hK.out _ _ (hHeld.trans (Turn.ofBelow hop1)) (fun hHeld => ?_)
              clear hK K
              try simp only [Act.put, List.setIfInBounds_toArray, List.set_cons_zero, List.set_cons_succ]
              refine wpAnyH_ready (rs := [11]) (by kernel_rfl) (by simp) ?_
              refine (AllReadyH.cons (o := ⟨some 40, .buildSlice 24 1 #[(0, .tmp 39)], 24, "l02_files.go:71", #[⟨10, .data⟩], none⟩) rfl (fun K hK => ?_) AllReadyH.nil)
              · go_simp
                obtain ⟨wE11, hq11⟩ : ∃ x, x = wE1.alloc (.cells #[.int .i64 n.fId, .slice r7 n.fData.length q7, .int .i64 n.fSure] 86) := ⟨_, rfl⟩
                have hop11 : Below wE1.heap.size wE1 wE11 := by rw [hq11]; exact (Below.refl _ _).alloc (Nat.le_refl _) _
                have HB11 : Hid (Bx wE11 wE1.heap.size [.int .i64 n.fId, .slice r7 n.fData.length q7, .int .i64 n.fSure]) := by show Bx _ _ _; rw [hq11]; exact Bx.new _ _ _
                obtain ⟨g11, HG11⟩ : ∃ g, Hid (g = wE1.heap.size) := ⟨_, rfl⟩
                rw [← HG11.out] at HB11 ⊢
                rw [← hq11]
                clear hq11
                refine hK.out _ _ (hHeld.trans (Turn.ofBelow hop11)) (fun hHeld => ?_)
                clear hK K
                try simp only [Act.put, List.setIfInBounds_toArray, List.set_cons_zero, List.set_cons_succ]
                refine wpAnyH_ready (rs := [12]) (by kernel_rfl) (by simp) ?_
                refine (AllReadyH.cons (o := ⟨some 41, .call { callee := .builtin .append, args := #[.tmp 30, .tmp 40], argTypes := #[24, 24] }, 24, "l02_files.go:71", #[⟨1, .data⟩, ⟨11, .data⟩, ⟨7, .chain⟩], none⟩) rfl (fun K hK => ?_) AllReadyH.nil)
                · skip
                  have hP := (show Below wS.heap.size wS wE11 from bthen (bthen (bthen (bthen (Below.refl _ _) hop4) hop7) hop1) hop11)
                  have ho12 := ownS.frame (w' := wE11) oInode_good HO.out (fun b hb => (bthen HSB.out hP).block b (by have := HLT.out b hb; omega))
                  obtain ⟨xs12, hx12, hpush⟩ := ownS.push oInode_good ho12 HN0.out
                  have HPUSH := Hid.mk hpush
                  clear hpush
                  have hB12 : Bx wE11 g11 [.int .i64 n.fId, .slice r7 n.fData.length q7, .int .i64 n.fSure] := HB11.out.under ((show Below wE11.heap.size wE11 wE11 from Below.refl _ _))
                  refine step_append_src _ rfl _ _ 24 24 rfl 0 86 iI (.agg #[.int .i64 0, .slice none 0 0, .int .i64 0]) 3 40 Try.underlying24 hiI hzI0 hzI1 hzI2 rfl (.slice ra m_k qa) m_k xs12 rfl (own_congr hx12 HMK.out.symm rfl) (.slice (some ⟨g11, 0, none⟩) 1 1) rfl 1 [.int .i64 n.fId, .slice r7 n.fData.length q7, .int .i64 n.fSure] (Src.ofSlice wE11 Try.underlying24 ⟨g11, 0, none⟩ 1 1 _ rfl (bx_news hB12) (by intro u hu; simp at hu; rcases hu with rfl | rfl | rfl <;> rfl)) (by unfold maxLen; omega) (by omega) (Nat.zero_le _) ?_
                  intro v12 wE12 hw12 hgr12 hat12
                  obtain ⟨r12, q12, rfl⟩ := own_slice hw12
                  have hT12 : Turn F0 wE11 wE12 := Turn.ofGrown hgr12 (fun j hj => HIN.out j hj)
                  have HT12 := Hid.mk hT12
                  have HB7 : Hid (ownB 5 wE11 (.slice r7 n.fData.length q7) n.fData (Value.ownBlock (.slice r7 n.fData.length q7)).toList) := ⟨own_base (own_below HW7.out ((show Below wE7.heap.size wE7 wE11 from bthen (bthen (Below.refl _ _) hop1) hop11))) (Nat.zero_le _), HDA.out.2.2.2, rfl⟩
                  have HGE7 : Hid (∀ b, b ∈ (Value.ownBlock (.slice r7 n.fData.length q7)).toList → zS ≤ b) := fun b hb => (HW7.out.lt b (by simpa using hb)).1
                  obtain ⟨F12, o12, n12, f12⟩ := HPUSH.out wE12 _ _ n _ (own_congr hw12 (by rw [HMK.out]) rfl) hgr12 hat12 ⟨_, _, rfl, hid, HB7.out, hsu, rfl⟩ (by rw [List.append_nil]; exact nodup_opt _) (fun b hb => by rw [List.append_nil] at hb; have h1 := HGE7.out b hb; intro hb0; have := HLT.out b hb0; omega)
                  have HO12 := Hid.mk o12
                  have HN12 := Hid.mk n12
                  have HF12 : Hid (∀ b, b ∈ F12 → b ∈ F0 ∨ zS ≤ b) := fun b hb => (by rcases f12 b hb with h | h | h; exact .inl h; (exact .inr (HGE7.out b (by simpa using h))); (exact .inr (by rw [h]; exact Nat.le_trans hzS1 hP.size)))
                  have HP12 := Hid.mk hP
                  clear o12 n12 f12 hT12 hw12 hgr12 hat12 hx12 ho12 hB12 hP
                  refine hK.out _ _ (hHeld.trans (HT12.out.mono (fun k hk => List.mem_cons_of_mem _ hk))) (fun hHeld => ?_)
                  clear hK K
                  try simp only [Act.put, List.setIfInBounds_toArray, List.set_cons_zero, List.set_cons_succ]
                  refine wpAnyH_take (i := 13) (oi := ⟨some 42, .fieldAddr 27 (.tmp 3) 0, 0, "l02_files.go:71", #[⟨0, .phase⟩, ⟨1, .phase⟩, ⟨2, .phase⟩, ⟨3, .phase⟩, ⟨4, .phase⟩, ⟨5, .phase⟩, ⟨6, .phase⟩, ⟨7, .phase⟩, ⟨8, .phase⟩, ⟨9, .phase⟩, ⟨10, .phase⟩, ⟨11, .phase⟩, ⟨12, .phase⟩], none⟩) (v := ?v34) rfl (by kernel_rfl) (by kernel_rfl) (by kernel_rfl) (fun _ _ _ h => h) (Or.inl ⟨by rfl, ?hy34⟩) (by assumption) ?rest34
                  case hy34 => (intro w hSw; (try dsimp only at hSw); go_simp; try (with_reducible rfl))
                  try simp only [Act.put, List.setIfInBounds_toArray, List.set_cons_zero, List.set_cons_succ]
                  refine wpAnyH_ready (rs := [14]) (by kernel_rfl) (by simp) ?_
                  refine (AllReadyH.cons (o := ⟨none, .store 24 (.tmp 42) (.tmp 41), 0, "l02_files.go:71", #[⟨13, .data⟩, ⟨12, .data⟩, ⟨12, .chain⟩, ⟨0, .phase⟩, ⟨1, .phase⟩, ⟨2, .phase⟩, ⟨3, .phase⟩, ⟨4, .phase⟩, ⟨5, .phase⟩, ⟨6, .phase⟩, ⟨7, .phase⟩, ⟨8, .phase⟩, ⟨9, .phase⟩, ⟨10, .phase⟩, ⟨11, .phase⟩, ⟨12, .phase⟩], none⟩) rfl (fun K hK => ?_) AllReadyH.nil)
                  · go_simp
                    have hb14 : wE12.heap[gb]? = some (.cells #[.slice ra m_k qa, .slice r9 m.fNames.length q9, .slice r13 m.fSafe.length q13, .int .i64 m.fNext] 27 (0, 0)) := by rw [HT12.out.block gb (by have := HP12.out.size; omega) (fun h => by have := HGE0.out gb h; omega), HP12.out.block gb (by omega)]; exact HGS.out
                    have cb0 : wE12.cell? ⟨gb, 0, none⟩ = some (.slice ra m_k qa) := by rw [cell_of_row _ _ _ _ _ (0, 0) hb14]; rfl
                    have fb0 := frozen_of_row wE12 gb 0 _ _ hb14
                    go_simp
                    obtain ⟨wE14, hq14⟩ : ∃ x, x = wE12.setCell ⟨gb, 0, none⟩ (.slice r12 (m_k + 1) q12) := ⟨_, rfl⟩
                    rw [← hq14]
                    have hgb14 : wE14.heap[gb]? = some (.cells #[.slice r12 (m_k + 1) q12, .slice r9 m.fNames.length q9, .slice r13 m.fSafe.length q13, .int .i64 m.fNext] 27 (0, 0)) := by rw [hq14]; exact heap_setCell_same _ gb 0 _ _ _ hb14
                    have hT14 : Turn [gb] wE12 wE14 := by rw [hq14]; exact Turn.setCell (Turn.refl _ _) (by simp) _
                    have HGB14 := Hid.mk hgb14
                    have HT14 := Hid.mk hT14
                    clear hq14 cb0 fb0 hb14 hgb14 hT14
                    refine hK.out _ _ (hHeld.trans (HT14.out.mono (fun k hk => by simp at hk; simp [hk]))) (fun hHeld => ?_)
                    clear hK K
                    try simp only [Act.put, List.setIfInBounds_toArray, List.set_cons_zero, List.set_cons_succ]
                    refine wpAnyH_done (by kernel_rfl) ?_ _
                    have hTe : Turn [gb] w1 wE14 := HTI.out.join hHeld (fun x hx => by rcases List.mem_cons.1 hx with h | h; (exact .inl (by simp [h])); (exact .inr (HGE0.out x h)))
                    have hgn : gb ∉ F12 := fun h => by rcases HF12.out gb h with h1 | h1; (exact hng h1); omega
                    have hoe := ownS.frame (w' := wE14) oInode_good HO12.out (fun b hb => HT14.out.block b (ownS.lt oInode_good HO12.out b hb) (by intro h; simp at h; subst h; exact hgn hb))
                    have hge12 : ∀ b, b ∈ F12 → w1.heap.size ≤ b := fun b hb => by rcases HF12.out b hb with h1 | h1; (exact HGE0.out b h1); omega
                    have htk : m.fInodes.take (k + 1) = m.fInodes.take k ++ [n] := by rw [List.take_succ_eq_append_getElem hlt, HNd.out]
                    have HTKS := Hid.mk htk
                    clear htk hHeld n0 n1 n2
                    go_wp2_with fail
                    go_roundw
                    case rel => exact ⟨k + 1, _, F12, by omega, by go_num, HGB14.out, by rw [HTKS.out]; exact hoe, HN12.out, hge12, hTe⟩
                    case measure => simp [intOf]; omega
            · go_simp
              obtain ⟨wE11, hq11⟩ : ∃ x, x = wE7.alloc (.cells #[.int .i64 n.fId, .slice r7 n.fData.length q7, .int .i64 n.fSure] 86) := ⟨_, rfl⟩
              have hop11 : Below wE7.heap.size wE7 wE11 := by rw [hq11]; exact (Below.refl _ _).alloc (Nat.le_refl _) _
              have HB11 : Hid (Bx wE11 wE7.heap.size [.int .i64 n.fId, .slice r7 n.fData.length q7, .int .i64 n.fSure]) := by show Bx _ _ _; rw [hq11]; exact Bx.new _ _ _
              obtain ⟨g11, HG11⟩ : ∃ g, Hid (g = wE7.heap.size) := ⟨_, rfl⟩
              rw [← HG11.out] at HB11 ⊢
              rw [← hq11]
              clear hq11
              refine hK.out _ _ (hHeld.trans (Turn.ofBelow hop11)) (fun hHeld => ?_)
              clear hK K
              try simp only [Act.put, List.setIfInBounds_toArray, List.set_cons_zero, List.set_cons_succ]
              refine wpAnyH_ready (rs := [1]) (by kernel_rfl) (by simp) ?_
              refine (AllReadyH.cons (o := ⟨some 30, .load 24 (.tmp 29), 24, "l02_files.go:71", #[⟨0, .data⟩], none⟩) rfl (fun K hK => ?_) AllReadyH.nil)
              · go_simp
                have cl1 : wE11.cell? ⟨gb, 0, none⟩ = some (.slice ra m_k qa) := (((show Below wS.heap.size wS wE11 from bthen (bthen (bthen (Below.refl _ _) hop4) hop7) hop11)).cell (p := ⟨gb, 0, none⟩) (by simp; omega)).trans cgS
                go_simp
                obtain ⟨wE1, hq1⟩ : ∃ x, x = wE11 := ⟨_, rfl⟩
                have hop1 : Below wE11.heap.size wE11 wE1 := by rw [hq1]; exact Below.refl _ _
                rw [← hq1]
                clear hq1 cl1
                refine hK.out _ _ (hHeld.trans (Turn.ofBelow hop1)) (fun hHeld => ?_)
                clear hK K
                try simp only [Act.put, List.setIfInBounds_toArray, List.set_cons_zero, List.set_cons_succ]
                refine wpAnyH_ready (rs := [12]) (by kernel_rfl) (by simp) ?_
                refine (AllReadyH.cons (o := ⟨some 41, .call { callee := .builtin .append, args := #[.tmp 30, .tmp 40], argTypes := #[24, 24] }, 24, "l02_files.go:71", #[⟨1, .data⟩, ⟨11, .data⟩, ⟨7, .chain⟩], none⟩) rfl (fun K hK => ?_) AllReadyH.nil)
                · skip
                  have hP := (show Below wS.heap.size wS wE1 from bthen (bthen (bthen (bthen (Below.refl _ _) hop4) hop7) hop11) hop1)
                  have ho12 := ownS.frame (w' := wE1) oInode_good HO.out (fun b hb => (bthen HSB.out hP).block b (by have := HLT.out b hb; omega))
                  obtain ⟨xs12, hx12, hpush⟩ := ownS.push oInode_good ho12 HN0.out
                  have HPUSH := Hid.mk hpush
                  clear hpush
                  have hB12 : Bx wE1 g11 [.int .i64 n.fId, .slice r7 n.fData.length q7, .int .i64 n.fSure] := HB11.out.under ((show Below wE11.heap.size wE11 wE1 from bthen (Below.refl _ _) hop1))
                  refine step_append_src _ rfl _ _ 24 24 rfl 0 86 iI (.agg #[.int .i64 0, .slice none 0 0, .int .i64 0]) 3 40 Try.underlying24 hiI hzI0 hzI1 hzI2 rfl (.slice ra m_k qa) m_k xs12 rfl (own_congr hx12 HMK.out.symm rfl) (.slice (some ⟨g11, 0, none⟩) 1 1) rfl 1 [.int .i64 n.fId, .slice r7 n.fData.length q7, .int .i64 n.fSure] (Src.ofSlice wE1 Try.underlying24 ⟨g11, 0, none⟩ 1 1 _ rfl (bx_news hB12) (by intro u hu; simp at hu; rcases hu with rfl | rfl | rfl <;> rfl)) (by unfold maxLen; omega) (by omega) (Nat.zero_le _) ?_
                  intro v12 wE12 hw12 hgr12 hat12
                  obtain ⟨r12, q12, rfl⟩ := own_slice hw12
                  have hT12 : Turn F0 wE1 wE12 := Turn.ofGrown hgr12 (fun j hj => HIN.out j hj)
                  have HT12 := Hid.mk hT12
                  have HB7 : Hid (ownB 5 wE1 (.slice r7 n.fData.length q7) n.fData (Value.ownBlock (.slice r7 n.fData.length q7)).toList) := ⟨own_base (own_below HW7.out ((show Below wE7.heap.size wE7 wE1 from bthen (bthen (Below.refl _ _) hop11) hop1))) (Nat.zero_le _), HDA.out.2.2.2, rfl⟩
                  have HGE7 : Hid (∀ b, b ∈ (Value.ownBlock (.slice r7 n.fData.length q7)).toList → zS ≤ b) := fun b hb => (HW7.out.lt b (by simpa using hb)).1
                  obtain ⟨F12, o12, n12, f12⟩ := HPUSH.out wE12 _ _ n _ (own_congr hw12 (by rw [HMK.out]) rfl) hgr12 hat12 ⟨_, _, rfl, hid, HB7.out, hsu, rfl⟩ (by rw [List.append_nil]; exact nodup_opt _) (fun b hb => by rw [List.append_nil] at hb; have h1 := HGE7.out b hb; intro hb0; have := HLT.out b hb0; omega)
                  have HO12 := Hid.mk o12
                  have HN12 := Hid.mk n12
                  have HF12 : Hid (∀ b, b ∈ F12 → b ∈ F0 ∨ zS ≤ b) := fun b hb => (by rcases f12 b hb with h | h | h; exact .inl h; (exact .inr (HGE7.out b (by simpa using h))); (exact .inr (by rw [h]; exact Nat.le_trans hzS1 hP.size)))
                  have HP12 := Hid.mk hP
                  clear o12 n12 f12 hT12 hw12 hgr12 hat12 hx12 ho12 hB12 hP
                  refine hK.out _ _ (hHeld.trans (HT12.out.mono (fun k hk => List.mem_cons_of_mem _ hk))) (fun hHeld => ?_)
                  clear hK K
                  try simp only [Act.put, List.setIfInBounds_toArray, List.set_cons_zero, List.set_cons_succ]
                  refine wpAnyH_take (i := 13) (oi := ⟨some 42, .fieldAddr 27 (.tmp 3) 0, 0, "l02_files.go:71", #[⟨0, .phase⟩, ⟨1, .phase⟩, ⟨2, .phase⟩, ⟨3, .phase⟩, ⟨4, .phase⟩, ⟨5, .phase⟩, ⟨6, .phase⟩, ⟨7, .phase⟩, ⟨8, .phase⟩, ⟨9, .phase⟩, ⟨10, .phase⟩, ⟨11, .phase⟩, ⟨12, .phase⟩], none⟩) (v := ?v35) rfl (by kernel_rfl) (by kernel_rfl) (by kernel_rfl) (fun _ _ _ h => h) (Or.inl ⟨by rfl, ?hy35⟩) (by assumption) ?rest35
                  case hy35 => (intro w hSw; (try dsimp only at hSw); go_simp; try (with_reducible rfl))
                  try simp only [Act.put, List.setIfInBounds_toArray, List.set_cons_zero, List.set_cons_succ]
                  refine wpAnyH_ready (rs := [14]) (by kernel_rfl) (by simp) ?_
                  refine (AllReadyH.cons (o := ⟨none, .store 24 (.tmp 42) (.tmp 41), 0, "l02_files.go:71", #[⟨13, .data⟩, ⟨12, .data⟩, ⟨12, .chain⟩, ⟨0, .phase⟩, ⟨1, .phase⟩, ⟨2, .phase⟩, ⟨3, .phase⟩, ⟨4, .phase⟩, ⟨5, .phase⟩, ⟨6, .phase⟩, ⟨7, .phase⟩, ⟨8, .phase⟩, ⟨9, .phase⟩, ⟨10, .phase⟩, ⟨11, .phase⟩, ⟨12, .phase⟩], none⟩) rfl (fun K hK => ?_) AllReadyH.nil)
                  · go_simp
                    have hb14 : wE12.heap[gb]? = some (.cells #[.slice ra m_k qa, .slice r9 m.fNames.length q9, .slice r13 m.fSafe.length q13, .int .i64 m.fNext] 27 (0, 0)) := by rw [HT12.out.block gb (by have := HP12.out.size; omega) (fun h => by have := HGE0.out gb h; omega), HP12.out.block gb (by omega)]; exact HGS.out
                    have cb0 : wE12.cell? ⟨gb, 0, none⟩ = some (.slice ra m_k qa) := by rw [cell_of_row _ _ _ _ _ (0, 0) hb14]; rfl
                    have fb0 := frozen_of_row wE12 gb 0 _ _ hb14
                    go_simp
                    obtain ⟨wE14, hq14⟩ : ∃ x, x = wE12.setCell ⟨gb, 0, none⟩ (.slice r12 (m_k + 1) q12) := ⟨_, rfl⟩
                    rw [← hq14]
                    have hgb14 : wE14.heap[gb]? = some (.cells #[.slice r12 (m_k + 1) q12, .slice r9 m.fNames.length q9, .slice r13 m.fSafe.length q13, .int .i64 m.fNext] 27 (0, 0)) := by rw [hq14]; exact heap_setCell_same _ gb 0 _ _ _ hb14
                    have hT14 : Turn [gb] wE12 wE14 := by rw [hq14]; exact Turn.setCell (Turn.refl _ _) (by simp) _
                    have HGB14 := Hid.mk hgb14
                    have HT14 := Hid.mk hT14
                    clear hq14 cb0 fb0 hb14 hgb14 hT14
                    refine hK.out _ _ (hHeld.trans (HT14.out.mono (fun k hk => by simp at hk; simp [hk]))) (fun hHeld => ?_)
                    clear hK K
                    try simp only [Act.put, List.setIfInBounds_toArray, List.set_cons_zero, List.set_cons_succ]
                    refine wpAnyH_done (by kernel_rfl) ?_ _
                    have hTe : Turn [gb] w1 wE14 := HTI.out.join hHeld (fun x hx => by rcases List.mem_cons.1 hx with h | h; (exact .inl (by simp [h])); (exact .inr (HGE0.out x h)))
                    have hgn : gb ∉ F12 := fun h => by rcases HF12.out gb h with h1 | h1; (exact hng h1); omega
                    have hoe := ownS.frame (w' := wE14) oInode_good HO12.out (fun b hb => HT14.out.block b (ownS.lt oInode_good HO12.out b hb) (by intro h; simp at h; subst h; exact hgn hb))
                    have hge12 : ∀ b, b ∈ F12 → w1.heap.size ≤ b := fun b hb => by rcases HF12.out b hb with h1 | h1; (exact HGE0.out b h1); omega
                    have htk : m.fInodes.take (k + 1) = m.fInodes.take k ++ [n] := by rw [List.take_succ_eq_append_getElem hlt, HNd.out]
                    have HTKS := Hid.mk htk
                    clear htk hHeld n0 n1 n2
                    go_wp2_with fail
                    go_roundw
                    case rel => exact ⟨k + 1, _, F12, by omega, by go_num, HGB14.out, by rw [HTKS.out]; exact hoe, HN12.out, hge12, hTe⟩
                    case measure => simp [intOf]; omega
      · have hkn : k = m.fInodes.length := by omega
        subst hkn
        have hr2 : wr.heap[w.heap.size + 1]? = some (.cells #[.slice none 0 0, .slice none 0 0, .slice none 0 0, .int .i64 0] 27 (0, 0)) := by
          rw [HTK.out.block _ (by omega) (by simp; omega), HB1.out.block _ hQ2]
          exact HRES.out
        have e0 : wr.cell? ⟨w.heap.size + 1, 0, none⟩ = some (.slice none 0 0) := by rw [cell_of_row _ _ _ _ _ (0, 0) hr2]; rfl
        have f0 := frozen_of_row wr (w.heap.size + 1) 0 _ _ hr2
        have z0 : wr.cell? ⟨gb, 0, none⟩ = some (.slice ra m_k qa) := by rw [cell_of_row _ _ _ _ _ (0, 0) HGK.out]; rfl
        have e1 : wr.cell? ⟨w.heap.size + 1, 1, none⟩ = some (.slice none 0 0) := by rw [cell_of_row _ _ _ _ _ (0, 0) hr2]; rfl
        have f1 := frozen_of_row wr (w.heap.size + 1) 1 _ _ hr2
        have z1 : wr.cell? ⟨gb, 1, none⟩ = some (.slice r9 m.fNames.length q9) := by rw [cell_of_row _ _ _ _ _ (0, 0) HGK.out]; rfl
        have e2 : wr.cell? ⟨w.heap.size + 1, 2, none⟩ = some (.slice none 0 0) := by rw [cell_of_row _ _ _ _ _ (0, 0) hr2]; rfl
        have f2 := frozen_of_row wr (w.heap.size + 1) 2 _ _ hr2
        have z2 : wr.cell? ⟨gb, 2, none⟩ = some (.slice r13 m.fSafe.length q13) := by rw [cell_of_row _ _ _ _ _ (0, 0) HGK.out]; rfl
        have e3 : wr.cell? ⟨w.heap.size + 1, 3, none⟩ = some (.int .i64 0) := by rw [cell_of_row _ _ _ _ _ (0, 0) hr2]; rfl
        have f3 := frozen_of_row wr (w.heap.size + 1) 3 _ _ hr2
        have z3 : wr.cell? ⟨gb, 3, none⟩ = some (.int .i64 m.fNext) := by rw [cell_of_row _ _ _ _ _ (0, 0) HGK.out]; rfl
        have hAbv : Above (w.heap.size + 2) wr ((((wr.setCell ⟨w.heap.size + 1, 0, none⟩ (.slice ra m_k qa)).setCell ⟨w.heap.size + 1, 1, none⟩ (.slice r9 m.fNames.length q9)).setCell ⟨w.heap.size + 1, 2, none⟩ (.slice r13 m.fSafe.length q13)).setCell ⟨w.heap.size + 1, 3, none⟩ (.int .i64 m.fNext)) := (((((Above.refl _ _).setCell (by simp) _).setCell (by simp) _).setCell (by simp) _).setCell (by simp) _)
        have hbR := Turn.under HBA.out hTk (fun k hk => by simp at hk; omega)
        have htl : m.fInodes.take m.fInodes.length = m.fInodes := List.take_length
        rw [htl] at HO0
        have HAB := Hid.mk hAbv
        clear hr2 hAbv htl
        go_wp2_with fail
        have hAbv := HAB.out
        refine bodyPost_ret (v := .agg #[.slice ra m_k qa, .slice r9 m.fNames.length q9, .slice r13 m.fSafe.length q13, .int .i64 m.fNext]) (by simp [results, Try.results51, go_sem, *]) rfl ⟨[.slice ra m_k qa, .slice r9 m.fNames.length q9, .slice r13 m.fSafe.length q13, .int .i64 m.fNext], F0 ++ F1 ++ F2 ++ [], rfl, ?_, ?_, ?_, ?_⟩
        · refine ⟨_, F0, _, F1, _, F2, rfl, ?_, ?_, ?_, hnx, rfl⟩
          · exact ownS.frame oInode_good HO0.out (fun b hb => hAbv.block b (by have := HGE0.out b hb; omega) (HLT0.out b hb))
          · refine ownS.frame oEntry_good HON.out (fun b hb => ?_)
            have h1 := HFG.out b (List.mem_append_left _ hb)
            have h2 := ownS.lt oEntry_good HON.out b hb
            rw [hAbv.block b (by omega) (by omega), HTK.out.block b h2 (by simp; omega)]
          · refine ownS.frame oEntry_good HOS.out (fun b hb => ?_)
            have h1 := HFG.out b (List.mem_append_right _ hb)
            have h2 := ownS.lt oEntry_good HOS.out b hb
            rw [hAbv.block b (by omega) (by omega), HTK.out.block b h2 (by simp; omega)]
        · rw [List.append_nil, List.append_assoc]
          refine List.nodup_append.2 ⟨HN0.out, HFN.out, fun x hx y hy hxy => ?_⟩
          subst hxy
          have h1 := HGE0.out x hx
          have h2 : x < w1.heap.size := by
            rcases List.mem_append.1 hy with h | h
            · exact ownS.lt oEntry_good HON.out x h
            · exact ownS.lt oEntry_good HOS.out x h
          omega
        · intro b hb
          rw [List.append_nil, List.append_assoc, List.mem_append] at hb
          rcases hb with hb | hb
          · have := HGE0.out b hb; omega
          · have := HFG.out b hb; omega
        · repeat (first | with_reducible exact hbR | refine Below.setCell ?_ (by simp) _)

end Go.Proofs.Ytcbhmbgmeodjdaa
