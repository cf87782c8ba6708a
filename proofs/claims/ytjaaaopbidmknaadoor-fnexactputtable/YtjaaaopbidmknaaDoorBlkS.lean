/-
  The specification's block of a table.
-/
import Derived.Test.YtjaaaopbidmknaaDoorRegK
import Derived.Test.YtjaaaopbidmknaaDoorComm
import Derived.Test.YtjaaaopbidmknaaDoorPutS
import Derived.Test.YtjaaaopbidmknaaDoorRowG
namespace Go.Proofs.YtjaaaopbidmknaaDoor
open Go.RowKit
set_option linter.unusedVariables false
set_option linter.unusedSimpArgs false
set_option maxRecDepth 10000
abbrev qf52_77_7_0 : Oper := ⟨some 22, .move (.tmp 3), 27, "l05_table.go:41", #[], none⟩
abbrev qf52_77_7_1 : Oper := ⟨some 23, .move (.tmp 6), 3, "l05_table.go:41", #[], none⟩
abbrev qf52_77_7_3 : Oper := ⟨some 25, .move (.tmp 0), 39, "l05_table.go:41", #[], none⟩
abbrev qf52_77_7_4 : Oper := ⟨some 26, .move (.tmp 5), 3, "l05_table.go:41", #[], none⟩
abbrev qf52_77_7_5 : Oper := ⟨some 27, .indexAddr 39 (.tmp 25) (.tmp 26), 0, "l05_table.go:41", #[⟨3, .data⟩, ⟨4, .data⟩], none⟩
abbrev qf52_77_7_6 : Oper := ⟨some 28, .fieldAddr 45 (.tmp 27) 0, 0, "l05_table.go:41", #[⟨5, .data⟩], none⟩
abbrev qf52_77_7_7 : Oper := ⟨some 29, .load 9 (.tmp 28), 9, "l05_table.go:41", #[⟨6, .data⟩], none⟩
abbrev qf52_77_7_8 : Oper := ⟨some 30, .move (.tmp 6), 3, "l05_table.go:41", #[], none⟩
abbrev qf52_77_7_9 : Oper := ⟨some 31, .slice 9 (.tmp 29) (some (.tmp 30)) none none, 9, "l05_table.go:41", #[⟨7, .data⟩, ⟨8, .data⟩], none⟩
abbrev qf52_77_7_2 : Oper := ⟨some 24, .call { callee := .value (.func 75), args := #[.tmp 22, .tmp 23], argTypes := #[27, 3] }, 27, "l05_table.go:41", #[⟨0, .data⟩, ⟨1, .data⟩], none⟩
abbrev qf52_77_7_10 : Oper := ⟨some 32, .call { callee := .value (.func 76), args := #[.tmp 24, .tmp 31], argTypes := #[27, 9] }, 27, "l05_table.go:41", #[⟨2, .data⟩, ⟨9, .data⟩, ⟨2, .chain⟩], none⟩
abbrev qf52_77_7_11 : Oper := ⟨some 3, .assign (.tmp 32), 27, "l05_table.go:41", #[⟨10, .data⟩, ⟨10, .chain⟩, ⟨0, .phase⟩, ⟨1, .phase⟩, ⟨2, .phase⟩, ⟨3, .phase⟩, ⟨4, .phase⟩, ⟨5, .phase⟩, ⟨6, .phase⟩, ⟨7, .phase⟩, ⟨8, .phase⟩, ⟨9, .phase⟩, ⟨10, .phase⟩], none⟩
abbrev qf52_77_11_0 : Oper := ⟨some 38, .move (.tmp 3), 27, "l05_table.go:46", #[], none⟩
abbrev qf52_77_11_1 : Oper := ⟨some 39, .move (.tmp 7), 5, "l05_table.go:46", #[], none⟩
abbrev qf52_77_11_4 : Oper := ⟨some 42, .move (.tmp 0), 39, "l05_table.go:46", #[], none⟩
abbrev qf52_77_11_5 : Oper := ⟨some 43, .move (.tmp 5), 3, "l05_table.go:46", #[], none⟩
abbrev qf52_77_11_6 : Oper := ⟨some 44, .indexAddr 39 (.tmp 42) (.tmp 43), 0, "l05_table.go:46", #[⟨4, .data⟩, ⟨5, .data⟩], none⟩
abbrev qf52_77_11_7 : Oper := ⟨some 45, .fieldAddr 45 (.tmp 44) 1, 0, "l05_table.go:46", #[⟨6, .data⟩], none⟩
abbrev qf52_77_11_8 : Oper := ⟨some 46, .load 9 (.tmp 45), 9, "l05_table.go:46", #[⟨7, .data⟩], none⟩
abbrev qf52_77_11_2 : Oper := ⟨some 40, .buildSlice 27 1 #[(0, .tmp 39)], 27, "l05_table.go:46", #[⟨1, .data⟩], none⟩
abbrev qf52_77_11_3 : Oper := ⟨some 41, .call { callee := .builtin .append, args := #[.tmp 38, .tmp 40], argTypes := #[27, 27] }, 27, "l05_table.go:46", #[⟨0, .data⟩, ⟨2, .data⟩], none⟩
abbrev qf52_77_11_9 : Oper := ⟨some 47, .call { callee := .value (.func 76), args := #[.tmp 41, .tmp 46], argTypes := #[27, 9] }, 27, "l05_table.go:46", #[⟨3, .data⟩, ⟨8, .data⟩, ⟨3, .chain⟩], none⟩
abbrev qf52_77_11_10 : Oper := ⟨some 3, .assign (.tmp 47), 27, "l05_table.go:46", #[⟨9, .data⟩, ⟨9, .chain⟩, ⟨0, .phase⟩, ⟨1, .phase⟩, ⟨2, .phase⟩, ⟨3, .phase⟩, ⟨4, .phase⟩, ⟨5, .phase⟩, ⟨6, .phase⟩, ⟨7, .phase⟩, ⟨8, .phase⟩, ⟨9, .phase⟩], none⟩

theorem blockB_bd {l : List MPair} {B : Nat} (h : 16 * l.length + sumW wPair l ≤ B) (k : Nat) : (blockB ByteArray.empty (l.take k)).length ≤ B := by
  have h1 := blockB_len ByteArray.empty (l.take k)
  have h2 := sumW_take_le wPair l k
  have h3 : (l.take k).length ≤ l.length := by simp; omega
  omega
theorem blockB_step {l : List MPair} {k : Nat} (h : k < l.length) : blockB ByteArray.empty (l.take (k + 1)) = blockB ByteArray.empty (l.take k) ++ pairB (lastK ByteArray.empty (l.take k)) l[k] := by
  rw [List.take_succ_eq_append_getElem h, blockB_snoc]
theorem lastK_step {l : List MPair} {k : Nat} (h : k < l.length) : lastK ByteArray.empty (l.take (k + 1)) = l[k].fKey := by
  rw [List.take_succ_eq_append_getElem h, lastK_snoc]
theorem lastK_small {l : List MPair} {B : Nat} (h : sumW wPair l ≤ B) (k : Nat) : (lastK ByteArray.empty (l.take k)).size ≤ B := by
  cases k with
  | zero => exact Nat.zero_le _
  | succ k =>
    by_cases hk : k < l.length
    · rw [lastK_step hk]
      have h1 := sumW_le (f := wPair) hk
      have h2 : wPair l[k] = l[k].fKey.size + l[k].fVal.size := rfl
      omega
    · rw [List.take_of_length_le (by omega)]
      rcases List.eq_nil_or_concat l with rfl | ⟨l', p, rfl⟩
      · exact Nat.zero_le _
      · rw [List.concat_eq_append] at h ⊢
        rw [lastK_snoc]
        have h1 := sumW_le (f := wPair) (l := l' ++ [p]) (k := l'.length) (by simp)
        have h2 : wPair ((l' ++ [p])[l'.length]) = p.fKey.size + p.fVal.size := by simp; rfl
        omega
/-- A pair put behind what is there. -/
theorem pair_put (zs : List Int) (k : ByteArray) (p : MPair) : putText (putText (zs ++ putNum (clampN (com k p.fKey))) (p.fKey.extract (com k p.fKey) p.fKey.size) ++ [goneI p]) p.fVal = zs ++ pairB k p := by
  simp only [pairB, putText, List.append_assoc]

set_option maxHeartbeats 4000000 in
theorem l5Block_any (a : Option Addr) (n c : Nat) (l : List MPair) (w : World) (hx : l.length = n) (hn : n ≤ 1048576) (hL : LeafL 3 rPair w.heap.size w a c l) (hw : sumW wPair l ≤ 1048576) (ht : TabAt w) :
    Calls Tryd.prog 77 #[.slice a n c] w fun e w' => ∃ v, e = .returned v ∧
      w'.ownsRow w.heap.size 5 1 v (frame (blockB ByteArray.empty l)).length ((frame (blockB ByteArray.empty l)).map (Value.int .u8)) ∧ Below w.heap.size w w' := by
  obtain ⟨i0, hi, hz0, hz1, hz2⟩ := info_parts Tryd.info5
  have HX := Hid.mk hx
  have HI := Hid.mk (show _ ∧ _ ∧ _ ∧ _ from ⟨hi, hz0, hz1, hz2⟩)
  have HL := Hid.mk hL
  have HT := Hid.mk ht
  have hbd := fun k => blockB_bd (l := l) (B := 33554432) (by omega) k
  clear hx hi hz0 hz1 hz2 hL ht
  go_enter Tryd.func77, Tryd.ntmps77
  go_wp2_with fail
  go_loopw [3, 4, 5] (fun b last i wr => ∃ k : Nat, k ≤ n ∧ i = .int .i64 k ∧ last = .string (lastK ByteArray.empty (l.take k)) ∧ wr.ownsRow w.heap.size 5 1 b (blockB ByteArray.empty (l.take k)).length ((blockB ByteArray.empty (l.take k)).map (Value.int .u8)) ∧ Below w.heap.size w wr) (fun _ _ i _ => n - (intOf i).toNat)
  case atStart => exact ⟨0, Nat.zero_le _, rfl, rfl, own_lit1 w _ _ 1 (Nat.le_refl _), (Below.refl _ _).alloc (Nat.le_refl _) _⟩
  case round =>
    obtain ⟨k, hk, rfl, rfl, hownk, hbk⟩ := hrel
    by_cases hlt : k < n
    · have hkl : k < l.length := by rw [HX.out]; exact hlt
      have HS := Hid.mk (blockB_step hkl)
      have HK := Hid.mk (lastK_step hkl)
      have hlk := lastK_small hw k
      have hzl := hbd k
      have hwk := sumW_le (f := wPair) hkl
      obtain ⟨b1, o1, rfl, hbB, cs, hcl, hcell, hrT⟩ := HL.out.2.2 k hkl
      have HSP : Hid (wPair l[k] = l[k].fKey.size + l[k].fVal.size) := rfl
      have HPP := Hid.mk (pair_put (blockB ByteArray.empty (l.take k)) (lastK ByteArray.empty (l.take k)) l[k])
      have HG : Hid (goneI l[k] = if l[k].fGone then 1 else 0) := rfl
      generalize l[k] = p at *
      obtain ⟨rfl, h0, h1, h2, _⟩ := hrT
      have hsk : p.fKey.size ≤ 1048576 := by have := HSP.out; omega
      have hsv : p.fVal.size ≤ 1048576 := by have := HSP.out; omega
      have HC0 : Hid (∀ W, Below w.heap.size w W → W.cell? ⟨b1, o1 + k * 3, none⟩ = some (.string p.fKey)) := fun W hW => (hW.cell (p := ⟨b1, o1 + k * 3, none⟩) hbB).trans (by simpa using hcell 0 _ rfl)
      have HC1 : Hid (∀ W, Below w.heap.size w W → W.cell? ⟨b1, o1 + k * 3 + 1, none⟩ = some (.string p.fVal)) := fun W hW => (hW.cell (p := ⟨b1, o1 + k * 3 + 1, none⟩) hbB).trans (hcell 1 _ rfl)
      have HC2 : Hid (∀ W, Below w.heap.size w W → W.cell? ⟨b1, o1 + k * 3 + 2, none⟩ = some (.bool p.fGone)) := fun W hW => (hW.cell (p := ⟨b1, o1 + k * 3 + 2, none⟩) hbB).trans (hcell 2 _ rfl)
      clear hcell hcl
      generalize blockB ByteArray.empty (l.take k) = zs at *
      generalize lastK ByteArray.empty (l.take k) = lk at *
      obtain ⟨ra, qa, rfl, _, hrd⟩ := own_rd rfl hownk
      have HOK := Hid.mk hownk
      have HRD := Hid.mk hrd
      clear hownk hrd
      have k0 := HC0.out _ hbk
      go_wp2_with fail
      refine (specCom_any lk p.fKey _ (by omega) (by omega)).mono ?_
      rintro e w1 ⟨rfl, hb1⟩
      have hB1 := hbk.trans (hb1.mono hbk.size)
      have hcm := com_le lk p.fKey
      generalize com lk p.fKey = q at *
      have hR1 := (HRD.out.below hb1).mono hb1.size
      have k1 := HC0.out _ hB1
      clear k0
      obtain ⟨y, HY⟩ : ∃ y, Hid (y = p.fKey.extract q p.fKey.size) := ⟨_, rfl⟩
      have hys : y.size ≤ 1048576 := by rw [HY.out]; have := ext_size p.fKey q; omega
      have hpl := putNum_length (clampN q)
      obtain ⟨z2, HZ2⟩ : ∃ z, Hid (z = zs ++ putNum (clampN q)) := ⟨_, rfl⟩
      have hl2 : z2.length ≤ 33554437 := by rw [HZ2.out, List.length_append]; omega
      obtain ⟨z3, HZ3⟩ : ∃ z, Hid (z = putText z2 y) := ⟨_, rfl⟩
      have hl3 : z3.length ≤ 37000000 := by rw [HZ3.out]; have := putText_len z2 y; omega
      obtain ⟨z4, HZ4⟩ : ∃ z, Hid (z = z3 ++ [goneI p]) := ⟨_, rfl⟩
      have hl4 : z4.length ≤ 37000001 := by rw [HZ4.out, List.length_append]; simp; omega
      go_wp2_with fail
      refine wp_region_held_drew (S := fun W => W.cell? ⟨b1, o1 + k * 3, none⟩ = some (.string p.fKey) ∧ Below w.heap.size w W) (by kernel_rfl) (⟨k1, Below.drew hB1⟩) (fun hHeld => ?_)
      refine tk 0 qf52_77_7_0 (some 22) (v := ?v1) rfl rfl (by kernel_rfl) hHeld (by rfl) (fun _ _ _ x => x) (fun w h => ?y1) ?_; (case y1 => (try dsimp only at h); go_simp; try (with_reducible rfl)); try simp only [Act.put, sa, s0, s1]
      refine tk 1 qf52_77_7_1 (some 23) (v := ?v2) rfl rfl (by kernel_rfl) hHeld (by rfl) (fun _ _ _ x => x) (fun w h => ?y2) ?_; (case y2 => (try dsimp only at h); go_simp; try (with_reducible rfl)); try simp only [Act.put, sa, s0, s1]
      refine tk 3 qf52_77_7_3 (some 25) (v := ?v3) rfl rfl (by kernel_rfl) hHeld (by rfl) (fun _ _ _ x => x) (fun w h => ?y3) ?_; (case y3 => (try dsimp only at h); go_simp; try (with_reducible rfl)); try simp only [Act.put, sa, s0, s1]
      refine tk 4 qf52_77_7_4 (some 26) (v := ?v4) rfl rfl (by kernel_rfl) hHeld (by rfl) (fun _ _ _ x => x) (fun w h => ?y4) ?_; (case y4 => (try dsimp only at h); go_simp; try (with_reducible rfl)); try simp only [Act.put, sa, s0, s1]
      refine tk 5 qf52_77_7_5 (some 27) (v := ?v5) rfl rfl (by kernel_rfl) hHeld (by rfl) (fun _ _ _ x => x) (fun w h => ?y5) ?_; (case y5 => (try dsimp only at h); go_simp; try (with_reducible rfl)); try simp only [Act.put, sa, s0, s1]
      refine tk 6 qf52_77_7_6 (some 28) (v := ?v6) rfl rfl (by kernel_rfl) hHeld (by rfl) (fun _ _ _ x => x) (fun w h => ?y6) ?_; (case y6 => (try dsimp only at h); go_simp; try (with_reducible rfl)); try simp only [Act.put, sa, s0, s1]
      refine tk 7 qf52_77_7_7 (some 29) (v := ?v7) rfl rfl (by kernel_rfl) hHeld (by rfl) (fun _ _ _ x => x) (fun w h => ?y7) ?_; (case y7 => (try dsimp only at h); go_simp; try (with_reducible rfl)); try simp only [Act.put, sa, s0, s1]
      refine tk 8 qf52_77_7_8 (some 30) (v := ?v8) rfl rfl (by kernel_rfl) hHeld (by rfl) (fun _ _ _ x => x) (fun w h => ?y8) ?_; (case y8 => (try dsimp only at h); go_simp; try (with_reducible rfl)); try simp only [Act.put, sa, s0, s1]
      refine tk 9 qf52_77_7_9 (some 31) (v := ?v9) rfl rfl (by kernel_rfl) hHeld (by rfl) (fun _ _ _ x => x) (fun w h => ?y9) ?_; (case y9 => (try dsimp only at h); go_simp; try (with_reducible rfl)); try simp only [Act.put, sa, s0, s1]
      refine wpAnyH_ready (rs := [2]) (by kernel_rfl) (by simp) ?_
      refine AllReadyH.cons (o := qf52_77_7_2) rfl (fun K hK => ?_) AllReadyH.nil
      go_simp
      refine Calls.mono (specPutNum_R ra zs.length qa zs q w1.drew rfl (by omega) (by exact hR1)) ?_
      rintro e w2 ⟨v2, rfl, ho2, hx1⟩
      rw [← HZ2.out] at ho2
      obtain ⟨r2, q2, rfl, _, hr2⟩ := own_rd rfl ho2
      clear ho2
      go_wp2_with fail
      refine hK.out _ _ (⟨HC0.out _ (hHeld.2.trans (hx1.mono hHeld.2.size)), hHeld.2.trans (hx1.mono hHeld.2.size)⟩) (fun hHeld => ?_)
      clear hK K
      try simp only [Act.put, sa, s0, s1]
      refine wpAnyH_ready (rs := [10]) (by kernel_rfl) (by simp) ?_
      refine AllReadyH.cons (o := qf52_77_7_10) rfl (fun K hK => ?_) AllReadyH.nil
      go_simp
      rw [← HY.out]
      refine Calls.mono (specPutText_R r2 _ q2 z2 y w2 rfl (by omega) hr2 (by omega)) ?_
      rintro e w3 ⟨v3, rfl, ho3, hx2⟩
      rw [← HZ3.out] at ho3
      have hB3 : Below w.heap.size w w3 := hHeld.2.trans (hx2.mono hHeld.2.size)
      have ho3' := own_base ho3 hHeld.2.size
      obtain ⟨r3, q3, rfl, _, hr3⟩ := own_rd rfl ho3'
      have HO3 := Hid.mk ho3'
      clear ho3 ho3' hr3
      go_wp2_with fail
      refine hK.out _ _ (⟨HC0.out _ (hHeld.2.trans (hx2.mono hHeld.2.size)), hHeld.2.trans (hx2.mono hHeld.2.size)⟩) (fun hHeld => ?_)
      clear hK K
      try simp only [Act.put, sa, s0, s1]
      refine tk 11 qf52_77_7_11 (some 3) (v := ?v10) rfl rfl (by kernel_rfl) hHeld (by rfl) (fun _ _ _ x => x) (fun w h => ?y10) ?_; (case y10 => (try dsimp only at h); go_simp; try (with_reducible rfl)); try simp only [Act.put, sa, s0, s1]
      refine wpAnyH_done (by kernel_rfl) ?_ _
      have k3 := HC2.out _ hB3
      clear k1
      rcases hgo : p.fGone with _ | _
      · rw [hgo] at k3
        go_wp2_with fail
        have HG2 : Hid (goneI p = 0) := by unfold Hid; rw [HG.out, hgo]; rfl
        have k4 := HC1.out _ hB3
        refine wp_region_held_drew (S := fun W => W.cell? ⟨b1, o1 + k * 3 + 1, none⟩ = some (.string p.fVal) ∧ Below w.heap.size w W) (by kernel_rfl) (⟨k4, Below.drew hB3⟩) (fun hHeld => ?_)
        refine tk 0 qf52_77_11_0 (some 38) (v := ?v11) rfl rfl (by kernel_rfl) hHeld (by rfl) (fun _ _ _ x => x) (fun w h => ?y11) ?_; (case y11 => (try dsimp only at h); go_simp; try (with_reducible rfl)); try simp only [Act.put, sa, s0, s1]
        refine tk 1 qf52_77_11_1 (some 39) (v := ?v12) rfl rfl (by kernel_rfl) hHeld (by rfl) (fun _ _ _ x => x) (fun w h => ?y12) ?_; (case y12 => (try dsimp only at h); go_simp; try (with_reducible rfl)); try simp only [Act.put, sa, s0, s1]
        refine tk 4 qf52_77_11_4 (some 42) (v := ?v13) rfl rfl (by kernel_rfl) hHeld (by rfl) (fun _ _ _ x => x) (fun w h => ?y13) ?_; (case y13 => (try dsimp only at h); go_simp; try (with_reducible rfl)); try simp only [Act.put, sa, s0, s1]
        refine tk 5 qf52_77_11_5 (some 43) (v := ?v14) rfl rfl (by kernel_rfl) hHeld (by rfl) (fun _ _ _ x => x) (fun w h => ?y14) ?_; (case y14 => (try dsimp only at h); go_simp; try (with_reducible rfl)); try simp only [Act.put, sa, s0, s1]
        refine tk 6 qf52_77_11_6 (some 44) (v := ?v15) rfl rfl (by kernel_rfl) hHeld (by rfl) (fun _ _ _ x => x) (fun w h => ?y15) ?_; (case y15 => (try dsimp only at h); go_simp; try (with_reducible rfl)); try simp only [Act.put, sa, s0, s1]
        refine tk 7 qf52_77_11_7 (some 45) (v := ?v16) rfl rfl (by kernel_rfl) hHeld (by rfl) (fun _ _ _ x => x) (fun w h => ?y16) ?_; (case y16 => (try dsimp only at h); go_simp; try (with_reducible rfl)); try simp only [Act.put, sa, s0, s1]
        refine tk 8 qf52_77_11_8 (some 46) (v := ?v17) rfl rfl (by kernel_rfl) hHeld (by rfl) (fun _ _ _ x => x) (fun w h => ?y17) ?_; (case y17 => (try dsimp only at h); go_simp; try (with_reducible rfl)); try simp only [Act.put, sa, s0, s1]
        refine wpAnyH_ready (rs := [2]) (by kernel_rfl) (by simp) ?_
        refine AllReadyH.cons (o := qf52_77_11_2) rfl (fun K hK => ?_) AllReadyH.nil
        go_simp
        obtain ⟨w5, hq5⟩ : ∃ x, x = (w3.alloc (.cells (List.toArray [Value.int .u8 0]) 5)).drew := ⟨_, rfl⟩
        have hx1 : Below w3.heap.size w3 w5 := by rw [hq5]; exact Below.drew ((Below.refl _ _).alloc (Nat.le_refl _) _)
        have hop1 : Below w.heap.size w w5 := hB3.trans (hx1.mono hB3.size)
        have HR5 : Hid (Rd .u8 (w3.heap.size + 1) w5 (some ⟨w3.heap.size, 0, none⟩) [0]) := by rw [hq5]; exact rd_one .u8 w3 0 5
        have HO5 := Hid.mk (own_below HO3.out hx1)
        rw [← hq5]
        clear hq5
        refine hK.out _ _ (⟨HC1.out _ hop1, hop1⟩) (fun hHeld => ?_)
        clear hK K
        try simp only [Act.put, sa, s0, s1]
        refine wpAnyH_ready (rs := [3]) (by kernel_rfl) (by simp) ?_
        refine AllReadyH.cons (o := qf52_77_11_3) rfl (fun K hK => ?_) AllReadyH.nil
        refine step_append_src w5 rfl _ _ 27 27 rfl w.heap.size 5 i0 (.int .u8 0) 1 1 Tryd.underlying27 HI.out.1 HI.out.2.1 HI.out.2.2.1 HI.out.2.2.2 rfl (.slice r3 z3.length q3) z3.length (z3.map (Value.int .u8)) rfl HO5.out (.slice (some ⟨w3.heap.size, 0, none⟩) 1 1) rfl 1 ([0].map (Value.int .u8)) (Src.rd Tryd.underlying27 rfl HR5.out) (by unfold maxLen; omega) (by omega) hop1.size ?_
        intro v6 w6 ho6 hgr6 hat6
        have hop2 : Below w.heap.size w w6 := hop1.grown hgr6 hop1.size (fun k h => (HO5.out.lt k h).1)
        have ho7 : w6.ownsRow w.heap.size 5 1 v6 z4.length (z4.map (Value.int .u8)) := own_congr ho6 (by rw [HZ4.out, HG2.out]; simp) (by rw [HZ4.out, HG2.out]; simp)
        obtain ⟨r6, q6, rfl, _, hr6⟩ := own_rd rfl ho7
        clear ho6 hgr6 hat6 ho7
        refine hK.out _ _ (⟨HC1.out _ hop2, hop2⟩) (fun hHeld => ?_)
        clear hK K
        try simp only [Act.put, sa, s0, s1]
        refine wpAnyH_ready (rs := [9]) (by kernel_rfl) (by simp) ?_
        refine AllReadyH.cons (o := qf52_77_11_9) rfl (fun K hK => ?_) AllReadyH.nil
        go_simp
        refine Calls.mono (specPutText_R r6 _ q6 z4 p.fVal w6 rfl (by omega) hr6 (by omega)) ?_
        rintro e w7 ⟨v7, rfl, ho7, hx3⟩
        have hop3 : Below w.heap.size w w7 := hHeld.2.trans (hx3.mono hHeld.2.size)
        have HO7 : Hid (w7.ownsRow w.heap.size 5 1 v7 (zs ++ pairB lk p).length ((zs ++ pairB lk p).map (Value.int .u8))) := by have h := own_base ho7 hHeld.2.size; rw [HZ4.out, HZ3.out, HZ2.out, HY.out, HPP.out] at h; exact h
        clear ho7
        go_wp2_with fail
        refine hK.out _ _ (⟨HC1.out _ hop3, hop3⟩) (fun hHeld => ?_)
        clear hK K
        try simp only [Act.put, sa, s0, s1]
        refine tk 10 qf52_77_11_10 (some 3) (v := ?v18) rfl rfl (by kernel_rfl) hHeld (by rfl) (fun _ _ _ x => x) (fun w h => ?y18) ?_; (case y18 => (try dsimp only at h); go_simp; try (with_reducible rfl)); try simp only [Act.put, sa, s0, s1]
        refine wpAnyH_done (by kernel_rfl) ?_ _
        have k7 := HC0.out _ hop3
        go_wp2_with fail
        go_roundw
        case rel => exact ⟨k + 1, by omega, by go_num, by rw [HK.out], by rw [HS.out]; exact HO7.out, hop3⟩
        case measure => simp [intOf]; omega
      · rw [hgo] at k3
        go_wp2_with fail
        have HG2 : Hid (goneI p = 1) := by unfold Hid; rw [HG.out, hgo]; rfl
        have k4 := HC1.out _ hB3
        refine wp_region_held_drew (S := fun W => W.cell? ⟨b1, o1 + k * 3 + 1, none⟩ = some (.string p.fVal) ∧ Below w.heap.size w W) (by kernel_rfl) (⟨k4, Below.drew hB3⟩) (fun hHeld => ?_)
        refine tk 0 qf52_77_11_0 (some 38) (v := ?v19) rfl rfl (by kernel_rfl) hHeld (by rfl) (fun _ _ _ x => x) (fun w h => ?y19) ?_; (case y19 => (try dsimp only at h); go_simp; try (with_reducible rfl)); try simp only [Act.put, sa, s0, s1]
        refine tk 1 qf52_77_11_1 (some 39) (v := ?v20) rfl rfl (by kernel_rfl) hHeld (by rfl) (fun _ _ _ x => x) (fun w h => ?y20) ?_; (case y20 => (try dsimp only at h); go_simp; try (with_reducible rfl)); try simp only [Act.put, sa, s0, s1]
        refine tk 4 qf52_77_11_4 (some 42) (v := ?v21) rfl rfl (by kernel_rfl) hHeld (by rfl) (fun _ _ _ x => x) (fun w h => ?y21) ?_; (case y21 => (try dsimp only at h); go_simp; try (with_reducible rfl)); try simp only [Act.put, sa, s0, s1]
        refine tk 5 qf52_77_11_5 (some 43) (v := ?v22) rfl rfl (by kernel_rfl) hHeld (by rfl) (fun _ _ _ x => x) (fun w h => ?y22) ?_; (case y22 => (try dsimp only at h); go_simp; try (with_reducible rfl)); try simp only [Act.put, sa, s0, s1]
        refine tk 6 qf52_77_11_6 (some 44) (v := ?v23) rfl rfl (by kernel_rfl) hHeld (by rfl) (fun _ _ _ x => x) (fun w h => ?y23) ?_; (case y23 => (try dsimp only at h); go_simp; try (with_reducible rfl)); try simp only [Act.put, sa, s0, s1]
        refine tk 7 qf52_77_11_7 (some 45) (v := ?v24) rfl rfl (by kernel_rfl) hHeld (by rfl) (fun _ _ _ x => x) (fun w h => ?y24) ?_; (case y24 => (try dsimp only at h); go_simp; try (with_reducible rfl)); try simp only [Act.put, sa, s0, s1]
        refine tk 8 qf52_77_11_8 (some 46) (v := ?v25) rfl rfl (by kernel_rfl) hHeld (by rfl) (fun _ _ _ x => x) (fun w h => ?y25) ?_; (case y25 => (try dsimp only at h); go_simp; try (with_reducible rfl)); try simp only [Act.put, sa, s0, s1]
        refine wpAnyH_ready (rs := [2]) (by kernel_rfl) (by simp) ?_
        refine AllReadyH.cons (o := qf52_77_11_2) rfl (fun K hK => ?_) AllReadyH.nil
        go_simp
        obtain ⟨w5, hq5⟩ : ∃ x, x = (w3.alloc (.cells (List.toArray [Value.int .u8 1]) 5)).drew := ⟨_, rfl⟩
        have hx1 : Below w3.heap.size w3 w5 := by rw [hq5]; exact Below.drew ((Below.refl _ _).alloc (Nat.le_refl _) _)
        have hop1 : Below w.heap.size w w5 := hB3.trans (hx1.mono hB3.size)
        have HR5 : Hid (Rd .u8 (w3.heap.size + 1) w5 (some ⟨w3.heap.size, 0, none⟩) [1]) := by rw [hq5]; exact rd_one .u8 w3 1 5
        have HO5 := Hid.mk (own_below HO3.out hx1)
        rw [← hq5]
        clear hq5
        refine hK.out _ _ (⟨HC1.out _ hop1, hop1⟩) (fun hHeld => ?_)
        clear hK K
        try simp only [Act.put, sa, s0, s1]
        refine wpAnyH_ready (rs := [3]) (by kernel_rfl) (by simp) ?_
        refine AllReadyH.cons (o := qf52_77_11_3) rfl (fun K hK => ?_) AllReadyH.nil
        refine step_append_src w5 rfl _ _ 27 27 rfl w.heap.size 5 i0 (.int .u8 0) 1 1 Tryd.underlying27 HI.out.1 HI.out.2.1 HI.out.2.2.1 HI.out.2.2.2 rfl (.slice r3 z3.length q3) z3.length (z3.map (Value.int .u8)) rfl HO5.out (.slice (some ⟨w3.heap.size, 0, none⟩) 1 1) rfl 1 ([1].map (Value.int .u8)) (Src.rd Tryd.underlying27 rfl HR5.out) (by unfold maxLen; omega) (by omega) hop1.size ?_
        intro v6 w6 ho6 hgr6 hat6
        have hop2 : Below w.heap.size w w6 := hop1.grown hgr6 hop1.size (fun k h => (HO5.out.lt k h).1)
        have ho7 : w6.ownsRow w.heap.size 5 1 v6 z4.length (z4.map (Value.int .u8)) := own_congr ho6 (by rw [HZ4.out, HG2.out]; simp) (by rw [HZ4.out, HG2.out]; simp)
        obtain ⟨r6, q6, rfl, _, hr6⟩ := own_rd rfl ho7
        clear ho6 hgr6 hat6 ho7
        refine hK.out _ _ (⟨HC1.out _ hop2, hop2⟩) (fun hHeld => ?_)
        clear hK K
        try simp only [Act.put, sa, s0, s1]
        refine wpAnyH_ready (rs := [9]) (by kernel_rfl) (by simp) ?_
        refine AllReadyH.cons (o := qf52_77_11_9) rfl (fun K hK => ?_) AllReadyH.nil
        go_simp
        refine Calls.mono (specPutText_R r6 _ q6 z4 p.fVal w6 rfl (by omega) hr6 (by omega)) ?_
        rintro e w7 ⟨v7, rfl, ho7, hx3⟩
        have hop3 : Below w.heap.size w w7 := hHeld.2.trans (hx3.mono hHeld.2.size)
        have HO7 : Hid (w7.ownsRow w.heap.size 5 1 v7 (zs ++ pairB lk p).length ((zs ++ pairB lk p).map (Value.int .u8))) := by have h := own_base ho7 hHeld.2.size; rw [HZ4.out, HZ3.out, HZ2.out, HY.out, HPP.out] at h; exact h
        clear ho7
        go_wp2_with fail
        refine hK.out _ _ (⟨HC1.out _ hop3, hop3⟩) (fun hHeld => ?_)
        clear hK K
        try simp only [Act.put, sa, s0, s1]
        refine tk 10 qf52_77_11_10 (some 3) (v := ?v26) rfl rfl (by kernel_rfl) hHeld (by rfl) (fun _ _ _ x => x) (fun w h => ?y26) ?_; (case y26 => (try dsimp only at h); go_simp; try (with_reducible rfl)); try simp only [Act.put, sa, s0, s1]
        refine wpAnyH_done (by kernel_rfl) ?_ _
        have k7 := HC0.out _ hop3
        go_wp2_with fail
        go_roundw
        case rel => exact ⟨k + 1, by omega, by go_num, by rw [HK.out], by rw [HS.out]; exact HO7.out, hop3⟩
        case measure => simp [intOf]; omega
    · have HT1 : Hid (l.take k = l) := List.take_of_length_le (by rw [HX.out]; omega)
      rw [HT1.out] at hownk
      have hzl := hbd k
      rw [HT1.out] at hzl
      have hok := blockB_ok ByteArray.empty l
      obtain ⟨zs, HZ⟩ : ∃ zs, Hid (zs = blockB ByteArray.empty l) := ⟨_, rfl⟩
      rw [← HZ.out] at hownk hzl hok
      obtain ⟨ra, qa, rfl, _, hrd⟩ := own_rd rfl hownk
      go_wp2_with fail
      refine (specFrame_R ra zs.length qa zs _ rfl (by omega) hrd hok (HT.out.below hbk HT.out.size)).mono ?_
      rintro e w9 ⟨v9, rfl, ho9, hx9⟩
      go_wp2_with fail
      go_ret
      rw [HZ.out] at ho9
      exact ⟨v9, rfl, own_base ho9 hbk.size, hbk.trans (hx9.mono hbk.size)⟩

end Go.Proofs.YtjaaaopbidmknaaDoor
