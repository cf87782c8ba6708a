/-
  Part 7 of the texts that the proof leans on.
-/
import Derived.Test.YtocgbeoglgkibaaDoorTbp2
import Derived.Test.YtocgbeoglgkibaaDoorTbp5
import Derived.Test.YtocgbeoglgkibaaDoorTbp3
import Derived.Test.YtocgbeoglgkibaaDoorTbp1
import Derived.Test.YtocgbeoglgkibaaDoorTbp0
import Derived.Test.YtocgbeoglgkibaaDoorChecked
import Derived.Deep.RegionHeld3
set_option linter.unusedVariables false
set_option linter.unusedSimpArgs false
set_option maxRecDepth 10000

namespace Go.Proofs.YtocgbeoglgkibaaDoor
open Go.RowKit
abbrev qf52_30_7_0 : Oper := ⟨some 22, .move (.tmp 3), 22, "l05_table.go:41", #[], none⟩
abbrev qf52_30_7_1 : Oper := ⟨some 23, .move (.tmp 6), 3, "l05_table.go:41", #[], none⟩
abbrev qf52_30_7_3 : Oper := ⟨some 25, .move (.tmp 0), 23, "l05_table.go:41", #[], none⟩
abbrev qf52_30_7_4 : Oper := ⟨some 26, .move (.tmp 5), 3, "l05_table.go:41", #[], none⟩
abbrev qf52_30_7_5 : Oper := ⟨some 27, .indexAddr 23 (.tmp 25) (.tmp 26), 0, "l05_table.go:41", #[⟨3, .data⟩, ⟨4, .data⟩], none⟩
abbrev qf52_30_7_6 : Oper := ⟨some 28, .fieldAddr 45 (.tmp 27) 0, 0, "l05_table.go:41", #[⟨5, .data⟩], none⟩
abbrev qf52_30_7_7 : Oper := ⟨some 29, .load 9 (.tmp 28), 9, "l05_table.go:41", #[⟨6, .data⟩], none⟩
abbrev qf52_30_7_8 : Oper := ⟨some 30, .move (.tmp 6), 3, "l05_table.go:41", #[], none⟩
abbrev qf52_30_7_9 : Oper := ⟨some 31, .slice 9 (.tmp 29) (some (.tmp 30)) none none, 9, "l05_table.go:41", #[⟨7, .data⟩, ⟨8, .data⟩], none⟩
abbrev qf52_30_7_2 : Oper := ⟨some 24, .call { callee := .value (.func 28), args := #[.tmp 22, .tmp 23], argTypes := #[22, 3] }, 22, "l05_table.go:41", #[⟨0, .data⟩, ⟨1, .data⟩], none⟩
abbrev qf52_30_7_10 : Oper := ⟨some 32, .call { callee := .value (.func 29), args := #[.tmp 24, .tmp 31], argTypes := #[22, 9] }, 22, "l05_table.go:41", #[⟨2, .data⟩, ⟨9, .data⟩, ⟨2, .chain⟩], none⟩
abbrev qf52_30_7_11 : Oper := ⟨some 3, .assign (.tmp 32), 22, "l05_table.go:41", #[⟨10, .data⟩, ⟨10, .chain⟩, ⟨0, .phase⟩, ⟨1, .phase⟩, ⟨2, .phase⟩, ⟨3, .phase⟩, ⟨4, .phase⟩, ⟨5, .phase⟩, ⟨6, .phase⟩, ⟨7, .phase⟩, ⟨8, .phase⟩, ⟨9, .phase⟩, ⟨10, .phase⟩], none⟩
abbrev qf52_30_11_0 : Oper := ⟨some 38, .move (.tmp 3), 22, "l05_table.go:46", #[], none⟩
abbrev qf52_30_11_1 : Oper := ⟨some 39, .move (.tmp 7), 5, "l05_table.go:46", #[], none⟩
abbrev qf52_30_11_4 : Oper := ⟨some 42, .move (.tmp 0), 23, "l05_table.go:46", #[], none⟩
abbrev qf52_30_11_5 : Oper := ⟨some 43, .move (.tmp 5), 3, "l05_table.go:46", #[], none⟩
abbrev qf52_30_11_6 : Oper := ⟨some 44, .indexAddr 23 (.tmp 42) (.tmp 43), 0, "l05_table.go:46", #[⟨4, .data⟩, ⟨5, .data⟩], none⟩
abbrev qf52_30_11_7 : Oper := ⟨some 45, .fieldAddr 45 (.tmp 44) 1, 0, "l05_table.go:46", #[⟨6, .data⟩], none⟩
abbrev qf52_30_11_8 : Oper := ⟨some 46, .load 9 (.tmp 45), 9, "l05_table.go:46", #[⟨7, .data⟩], none⟩
abbrev qf52_30_11_2 : Oper := ⟨some 40, .buildSlice 22 1 #[(0, .tmp 39)], 22, "l05_table.go:46", #[⟨1, .data⟩], none⟩
abbrev qf52_30_11_3 : Oper := ⟨some 41, .call { callee := .builtin .append, args := #[.tmp 38, .tmp 40], argTypes := #[22, 22] }, 22, "l05_table.go:46", #[⟨0, .data⟩, ⟨2, .data⟩], none⟩
abbrev qf52_30_11_9 : Oper := ⟨some 47, .call { callee := .value (.func 29), args := #[.tmp 41, .tmp 46], argTypes := #[22, 9] }, 22, "l05_table.go:46", #[⟨3, .data⟩, ⟨8, .data⟩, ⟨3, .chain⟩], none⟩
abbrev qf52_30_11_10 : Oper := ⟨some 3, .assign (.tmp 47), 22, "l05_table.go:46", #[⟨9, .data⟩, ⟨9, .chain⟩, ⟨0, .phase⟩, ⟨1, .phase⟩, ⟨2, .phase⟩, ⟨3, .phase⟩, ⟨4, .phase⟩, ⟨5, .phase⟩, ⟨6, .phase⟩, ⟨7, .phase⟩, ⟨8, .phase⟩, ⟨9, .phase⟩], none⟩

theorem blockB_bd {l : List MPair} {B : Nat} (h : 16 * l.length + sumW wPair l ≤ B) (k : Nat) : (blockB ByteArray.empty (l.take k)).length ≤ B := by
  have h1 := blockB_len ByteArray.empty (l.take k)
  have h2 := sumW_take_le wPair l k
  have h3 : (l.take k).length ≤ l.length := by simp; omega
  omega
theorem blockB_step {l : List MPair} {k : Nat} (h : k < l.length) : blockB ByteArray.empty (l.take (k + 1)) = blockB ByteArray.empty (l.take k) ++ pairB (lastK ByteArray.empty (l.take k)) l[k] := by
  rw [List.take_succ_eq_append_getElem h, blockB_snoc]
theorem lastK_step {l : List MPair} {k : Nat} (h : k < l.length) : lastK ByteArray.empty (l.take (k + 1)) = l[k].fKey := by
  rw [List.take_succ_eq_append_getElem h, lastK_snoc]
theorem lastK_small {l : List MPair} {B : Nat} (h : sumW wPair l ≤ B) (k : Nat) : (lastK ByteArray.empty (l.take k)).size ≤ B := by
  cases k with
  | zero => exact Nat.zero_le _
  | succ k =>
    by_cases hk : k < l.length
    · rw [lastK_step hk]
      have h1 := sumW_le (f := wPair) hk
      have h2 : wPair l[k] = l[k].fKey.size + l[k].fVal.size := rfl
      omega
    · rw [List.take_of_length_le (by omega)]
      rcases List.eq_nil_or_concat l with rfl | ⟨l', p, rfl⟩
      · exact Nat.zero_le _
      · rw [List.concat_eq_append] at h ⊢
        rw [lastK_snoc]
        have h1 := sumW_le (f := wPair) (l := l' ++ [p]) (k := l'.length) (by simp)
        have h2 : wPair ((l' ++ [p])[l'.length]) = p.fKey.size + p.fVal.size := by simp; rfl
        omega
/-- A pair put behind what is there. -/
theorem pair_put (zs : List Int) (k : ByteArray) (p : MPair) : putText (putText (zs ++ putNum (clampN (com k p.fKey))) (p.fKey.extract (com k p.fKey) p.fKey.size) ++ [goneI p]) p.fVal = zs ++ pairB k p := by
  simp only [pairB, putText, List.append_assoc]

set_option maxHeartbeats 4000000 in
theorem l5Block_any (a : Option Addr) (n c : Nat) (l : List MPair) (w : World) (hx : l.length = n) (hn : n ≤ 1048576) (hL : LeafL 3 rPair w.heap.size w a c l) (hw : sumW wPair l ≤ 1048576) (ht : TabAt w) :
    Calls Tryd.prog 30 #[.slice a n c] w fun e w' => ∃ v, e = .returned v ∧
      w'.ownsRow w.heap.size 5 1 v (frame (blockB ByteArray.empty l)).length ((frame (blockB ByteArray.empty l)).map (Value.int .u8)) ∧ Below w.heap.size w w' := by
  obtain ⟨i0, hi, hz0, hz1, hz2⟩ := info_parts Tryd.info5
  have HX := Hid.mk hx
  have HI := Hid.mk (show _ ∧ _ ∧ _ ∧ _ from ⟨hi, hz0, hz1, hz2⟩)
  have HL := Hid.mk hL
  have HT := Hid.mk ht
  have hbd := fun k => blockB_bd (l := l) (B := 33554432) (by omega) k
  clear hx hi hz0 hz1 hz2 hL ht
  go_enter Tryd.func30, Tryd.ntmps30
  go_wp2_with fail
  go_loopw [3, 4, 5] (fun b last i wr => ∃ k : Nat, k ≤ n ∧ i = .int .i64 k ∧ last = .string (lastK ByteArray.empty (l.take k)) ∧ wr.ownsRow w.heap.size 5 1 b (blockB ByteArray.empty (l.take k)).length ((blockB ByteArray.empty (l.take k)).map (Value.int .u8)) ∧ Below w.heap.size w wr) (fun _ _ i _ => n - (intOf i).toNat)
  case atStart => exact ⟨0, Nat.zero_le _, rfl, rfl, own_lit1 w _ _ 1 (Nat.le_refl _), (Below.refl _ _).alloc (Nat.le_refl _) _⟩
  case round =>
    obtain ⟨k, hk, rfl, rfl, hownk, hbk⟩ := hrel
    by_cases hlt : k < n
    · have hkl : k < l.length := by rw [HX.out]; exact hlt
      have HS := Hid.mk (blockB_step hkl)
      have HK := Hid.mk (lastK_step hkl)
      have hlk := lastK_small hw k
      have hzl := hbd k
      have hwk := sumW_le (f := wPair) hkl
      obtain ⟨b1, o1, rfl, hbB, cs, hcl, hcell, hrT⟩ := HL.out.2.2 k hkl
      have HSP : Hid (wPair l[k] = l[k].fKey.size + l[k].fVal.size) := rfl
      have HPP := Hid.mk (pair_put (blockB ByteArray.empty (l.take k)) (lastK ByteArray.empty (l.take k)) l[k])
      have HG : Hid (goneI l[k] = if l[k].fGone then 1 else 0) := rfl
      generalize l[k] = p at *
      obtain ⟨rfl, h0, h1, h2, _⟩ := hrT
      have hsk : p.fKey.size ≤ 1048576 := by have := HSP.out; omega
      have hsv : p.fVal.size ≤ 1048576 := by have := HSP.out; omega
      have HC0 : Hid (∀ W, Below w.heap.size w W → W.cell? ⟨b1, o1 + k * 3, none⟩ = some (.string p.fKey)) := fun W hW => (hW.cell (p := ⟨b1, o1 + k * 3, none⟩) hbB).trans (by simpa using hcell 0 _ rfl)
      have HC1 : Hid (∀ W, Below w.heap.size w W → W.cell? ⟨b1, o1 + k * 3 + 1, none⟩ = some (.string p.fVal)) := fun W hW => (hW.cell (p := ⟨b1, o1 + k * 3 + 1, none⟩) hbB).trans (hcell 1 _ rfl)
      have HC2 : Hid (∀ W, Below w.heap.size w W → W.cell? ⟨b1, o1 + k * 3 + 2, none⟩ = some (.bool p.fGone)) := fun W hW => (hW.cell (p := ⟨b1, o1 + k * 3 + 2, none⟩) hbB).trans (hcell 2 _ rfl)
      clear hcell hcl
      generalize blockB ByteArray.empty (l.take k) = zs at *
      generalize lastK ByteArray.empty (l.take k) = lk at *
      obtain ⟨ra, qa, rfl, _, hrd⟩ := own_rd rfl hownk
      have HOK := Hid.mk hownk
      have HRD := Hid.mk hrd
      clear hownk hrd
      have k0 := HC0.out _ hbk
      go_wp2_with fail
      refine (specCom_any lk p.fKey _ (by omega) (by omega)).mono ?_
      rintro e w1 ⟨rfl, hb1⟩
      have hB1 := hbk.trans (hb1.mono hbk.size)
      have hcm := com_le lk p.fKey
      generalize com lk p.fKey = q at *
      have hR1 := (HRD.out.below hb1).mono hb1.size
      have k1 := HC0.out _ hB1
      clear k0
      obtain ⟨y, HY⟩ : ∃ y, Hid (y = p.fKey.extract q p.fKey.size) := ⟨_, rfl⟩
      have hys : y.size ≤ 1048576 := by rw [HY.out]; have := ext_size p.fKey q; omega
      have hpl := putNum_length (clampN q)
      obtain ⟨z2, HZ2⟩ : ∃ z, Hid (z = zs ++ putNum (clampN q)) := ⟨_, rfl⟩
      have hl2 : z2.length ≤ 33554437 := by rw [HZ2.out, List.length_append]; omega
      obtain ⟨z3, HZ3⟩ : ∃ z, Hid (z = putText z2 y) := ⟨_, rfl⟩
      have hl3 : z3.length ≤ 37000000 := by rw [HZ3.out]; have := putText_len z2 y; omega
      obtain ⟨z4, HZ4⟩ : ∃ z, Hid (z = z3 ++ [goneI p]) := ⟨_, rfl⟩
      have hl4 : z4.length ≤ 37000001 := by rw [HZ4.out, List.length_append]; simp; omega
      go_wp2_with fail
      refine wp_region_held_drew (S := fun W => W.cell? ⟨b1, o1 + k * 3, none⟩ = some (.string p.fKey) ∧ Below w.heap.size w W) (by kernel_rfl) (⟨k1, Below.drew hB1⟩) (fun hHeld => ?_)
      refine tk 0 qf52_30_7_0 (some 22) (v := ?v1) rfl rfl (by kernel_rfl) hHeld (by rfl) (fun _ _ _ x => x) (fun w h => ?y1) ?_; (case y1 => (try dsimp only at h); go_simp; try (with_reducible rfl)); try simp only [Act.put, sa, s0, s1]
      refine tk 1 qf52_30_7_1 (some 23) (v := ?v2) rfl rfl (by kernel_rfl) hHeld (by rfl) (fun _ _ _ x => x) (fun w h => ?y2) ?_; (case y2 => (try dsimp only at h); go_simp; try (with_reducible rfl)); try simp only [Act.put, sa, s0, s1]
      refine tk 3 qf52_30_7_3 (some 25) (v := ?v3) rfl rfl (by kernel_rfl) hHeld (by rfl) (fun _ _ _ x => x) (fun w h => ?y3) ?_; (case y3 => (try dsimp only at h); go_simp; try (with_reducible rfl)); try simp only [Act.put, sa, s0, s1]
      refine tk 4 qf52_30_7_4 (some 26) (v := ?v4) rfl rfl (by kernel_rfl) hHeld (by rfl) (fun _ _ _ x => x) (fun w h => ?y4) ?_; (case y4 => (try dsimp only at h); go_simp; try (with_reducible rfl)); try simp only [Act.put, sa, s0, s1]
      refine tk 5 qf52_30_7_5 (some 27) (v := ?v5) rfl rfl (by kernel_rfl) hHeld (by rfl) (fun _ _ _ x => x) (fun w h => ?y5) ?_; (case y5 => (try dsimp only at h); go_simp; try (with_reducible rfl)); try simp only [Act.put, sa, s0, s1]
      refine tk 6 qf52_30_7_6 (some 28) (v := ?v6) rfl rfl (by kernel_rfl) hHeld (by rfl) (fun _ _ _ x => x) (fun w h => ?y6) ?_; (case y6 => (try dsimp only at h); go_simp; try (with_reducible rfl)); try simp only [Act.put, sa, s0, s1]
      refine tk 7 qf52_30_7_7 (some 29) (v := ?v7) rfl rfl (by kernel_rfl) hHeld (by rfl) (fun _ _ _ x => x) (fun w h => ?y7) ?_; (case y7 => (try dsimp only at h); go_simp; try (with_reducible rfl)); try simp only [Act.put, sa, s0, s1]
      refine tk 8 qf52_30_7_8 (some 30) (v := ?v8) rfl rfl (by kernel_rfl) hHeld (by rfl) (fun _ _ _ x => x) (fun w h => ?y8) ?_; (case y8 => (try dsimp only at h); go_simp; try (with_reducible rfl)); try simp only [Act.put, sa, s0, s1]
      refine tk 9 qf52_30_7_9 (some 31) (v := ?v9) rfl rfl (by kernel_rfl) hHeld (by rfl) (fun _ _ _ x => x) (fun w h => ?y9) ?_; (case y9 => (try dsimp only at h); go_simp; try (with_reducible rfl)); try simp only [Act.put, sa, s0, s1]
      refine wpAnyH_ready (rs := [2]) (by kernel_rfl) (by simp) ?_
      refine AllReadyH.cons (o := qf52_30_7_2) rfl (fun K hK => ?_) AllReadyH.nil
      go_simp
      refine Calls.mono (specPutNum_R ra zs.length qa zs q w1.drew rfl (by omega) (by exact hR1)) ?_
      rintro e w2 ⟨v2, rfl, ho2, hx1⟩
      rw [← HZ2.out] at ho2
      obtain ⟨r2, q2, rfl, _, hr2⟩ := own_rd rfl ho2
      clear ho2
      go_wp2_with fail
      refine hK.out _ _ (⟨HC0.out _ (hHeld.2.trans (hx1.mono hHeld.2.size)), hHeld.2.trans (hx1.mono hHeld.2.size)⟩) (fun hHeld => ?_)
      clear hK K
      try simp only [Act.put, sa, s0, s1]
      refine wpAnyH_ready (rs := [10]) (by kernel_rfl) (by simp) ?_
      refine AllReadyH.cons (o := qf52_30_7_10) rfl (fun K hK => ?_) AllReadyH.nil
      go_simp
      rw [← HY.out]
      refine Calls.mono (specPutText_R r2 _ q2 z2 y w2 rfl (by omega) hr2 (by omega)) ?_
      rintro e w3 ⟨v3, rfl, ho3, hx2⟩
      rw [← HZ3.out] at ho3
      have hB3 : Below w.heap.size w w3 := hHeld.2.trans (hx2.mono hHeld.2.size)
      have ho3' := own_base ho3 hHeld.2.size
      obtain ⟨r3, q3, rfl, _, hr3⟩ := own_rd rfl ho3'
      have HO3 := Hid.mk ho3'
      clear ho3 ho3' hr3
      go_wp2_with fail
      refine hK.out _ _ (⟨HC0.out _ (hHeld.2.trans (hx2.mono hHeld.2.size)), hHeld.2.trans (hx2.mono hHeld.2.size)⟩) (fun hHeld => ?_)
      clear hK K
      try simp only [Act.put, sa, s0, s1]
      refine tk 11 qf52_30_7_11 (some 3) (v := ?v10) rfl rfl (by kernel_rfl) hHeld (by rfl) (fun _ _ _ x => x) (fun w h => ?y10) ?_; (case y10 => (try dsimp only at h); go_simp; try (with_reducible rfl)); try simp only [Act.put, sa, s0, s1]
      refine wpAnyH_done (by kernel_rfl) ?_ _
      have k3 := HC2.out _ hB3
      clear k1
      rcases hgo : p.fGone with _ | _
      · rw [hgo] at k3
        go_wp2_with fail
        have HG2 : Hid (goneI p = 0) := by unfold Hid; rw [HG.out, hgo]; rfl
        have k4 := HC1.out _ hB3
        refine wp_region_held_drew (S := fun W => W.cell? ⟨b1, o1 + k * 3 + 1, none⟩ = some (.string p.fVal) ∧ Below w.heap.size w W) (by kernel_rfl) (⟨k4, Below.drew hB3⟩) (fun hHeld => ?_)
        refine tk 0 qf52_30_11_0 (some 38) (v := ?v11) rfl rfl (by kernel_rfl) hHeld (by rfl) (fun _ _ _ x => x) (fun w h => ?y11) ?_; (case y11 => (try dsimp only at h); go_simp; try (with_reducible rfl)); try simp only [Act.put, sa, s0, s1]
        refine tk 1 qf52_30_11_1 (some 39) (v := ?v12) rfl rfl (by kernel_rfl) hHeld (by rfl) (fun _ _ _ x => x) (fun w h => ?y12) ?_; (case y12 => (try dsimp only at h); go_simp; try (with_reducible rfl)); try simp only [Act.put, sa, s0, s1]
        refine tk 4 qf52_30_11_4 (some 42) (v := ?v13) rfl rfl (by kernel_rfl) hHeld (by rfl) (fun _ _ _ x => x) (fun w h => ?y13) ?_; (case y13 => (try dsimp only at h); go_simp; try (with_reducible rfl)); try simp only [Act.put, sa, s0, s1]
        refine tk 5 qf52_30_11_5 (some 43) (v := ?v14) rfl rfl (by kernel_rfl) hHeld (by rfl) (fun _ _ _ x => x) (fun w h => ?y14) ?_; (case y14 => (try dsimp only at h); go_simp; try (with_reducible rfl)); try simp only [Act.put, sa, s0, s1]
        refine tk 6 qf52_30_11_6 (some 44) (v := ?v15) rfl rfl (by kernel_rfl) hHeld (by rfl) (fun _ _ _ x => x) (fun w h => ?y15) ?_; (case y15 => (try dsimp only at h); go_simp; try (with_reducible rfl)); try simp only [Act.put, sa, s0, s1]
        refine tk 7 qf52_30_11_7 (some 45) (v := ?v16) rfl rfl (by kernel_rfl) hHeld (by rfl) (fun _ _ _ x => x) (fun w h => ?y16) ?_; (case y16 => (try dsimp only at h); go_simp; try (with_reducible rfl)); try simp only [Act.put, sa, s0, s1]
        refine tk 8 qf52_30_11_8 (some 46) (v := ?v17) rfl rfl (by kernel_rfl) hHeld (by rfl) (fun _ _ _ x => x) (fun w h => ?y17) ?_; (case y17 => (try dsimp only at h); go_simp; try (with_reducible rfl)); try simp only [Act.put, sa, s0, s1]
        refine wpAnyH_ready (rs := [2]) (by kernel_rfl) (by simp) ?_
        refine AllReadyH.cons (o := qf52_30_11_2) rfl (fun K hK => ?_) AllReadyH.nil
        go_simp
        obtain ⟨w5, hq5⟩ : ∃ x, x = (w3.alloc (.cells (List.toArray [Value.int .u8 0]) 5)).drew := ⟨_, rfl⟩
        have hx1 : Below w3.heap.size w3 w5 := by rw [hq5]; exact Below.drew ((Below.refl _ _).alloc (Nat.le_refl _) _)
        have hop1 : Below w.heap.size w w5 := hB3.trans (hx1.mono hB3.size)
        have HR5 : Hid (Rd .u8 (w3.heap.size + 1) w5 (some ⟨w3.heap.size, 0, none⟩) [0]) := by rw [hq5]; exact rd_one .u8 w3 0 5
        have HO5 := Hid.mk (own_below HO3.out hx1)
        rw [← hq5]
        clear hq5
        refine hK.out _ _ (⟨HC1.out _ hop1, hop1⟩) (fun hHeld => ?_)
        clear hK K
        try simp only [Act.put, sa, s0, s1]
        refine wpAnyH_ready (rs := [3]) (by kernel_rfl) (by simp) ?_
        refine AllReadyH.cons (o := qf52_30_11_3) rfl (fun K hK => ?_) AllReadyH.nil
        refine step_append_src w5 rfl _ _ 22 22 rfl w.heap.size 5 i0 (.int .u8 0) 1 1 Tryd.underlying22 HI.out.1 HI.out.2.1 HI.out.2.2.1 HI.out.2.2.2 rfl (.slice r3 z3.length q3) z3.length (z3.map (Value.int .u8)) rfl HO5.out (.slice (some ⟨w3.heap.size, 0, none⟩) 1 1) rfl 1 ([0].map (Value.int .u8)) (Src.rd Tryd.underlying22 rfl HR5.out) (by unfold maxLen; omega) (by omega) hop1.size ?_
        intro v6 w6 ho6 hgr6 hat6
        have hop2 : Below w.heap.size w w6 := hop1.grown hgr6 hop1.size (fun k h => (HO5.out.lt k h).1)
        have ho7 : w6.ownsRow w.heap.size 5 1 v6 z4.length (z4.map (Value.int .u8)) := own_congr ho6 (by rw [HZ4.out, HG2.out]; simp) (by rw [HZ4.out, HG2.out]; simp)
        obtain ⟨r6, q6, rfl, _, hr6⟩ := own_rd rfl ho7
        clear ho6 hgr6 hat6 ho7
        refine hK.out _ _ (⟨HC1.out _ hop2, hop2⟩) (fun hHeld => ?_)
        clear hK K
        try simp only [Act.put, sa, s0, s1]
        refine wpAnyH_ready (rs := [9]) (by kernel_rfl) (by simp) ?_
        refine AllReadyH.cons (o := qf52_30_11_9) rfl (fun K hK => ?_) AllReadyH.nil
        go_simp
        refine Calls.mono (specPutText_R r6 _ q6 z4 p.fVal w6 rfl (by omega) hr6 (by omega)) ?_
        rintro e w7 ⟨v7, rfl, ho7, hx3⟩
        have hop3 : Below w.heap.size w w7 := hHeld.2.trans (hx3.mono hHeld.2.size)
        have HO7 : Hid (w7.ownsRow w.heap.size 5 1 v7 (zs ++ pairB lk p).length ((zs ++ pairB lk p).map (Value.int .u8))) := by have h := own_base ho7 hHeld.2.size; rw [HZ4.out, HZ3.out, HZ2.out, HY.out, HPP.out] at h; exact h
        clear ho7
        go_wp2_with fail
        refine hK.out _ _ (⟨HC1.out _ hop3, hop3⟩) (fun hHeld => ?_)
        clear hK K
        try simp only [Act.put, sa, s0, s1]
        refine tk 10 qf52_30_11_10 (some 3) (v := ?v18) rfl rfl (by kernel_rfl) hHeld (by rfl) (fun _ _ _ x => x) (fun w h => ?y18) ?_; (case y18 => (try dsimp only at h); go_simp; try (with_reducible rfl)); try simp only [Act.put, sa, s0, s1]
        refine wpAnyH_done (by kernel_rfl) ?_ _
        have k7 := HC0.out _ hop3
        go_wp2_with fail
        go_roundw
        case rel => exact ⟨k + 1, by omega, by go_num, by rw [HK.out], by rw [HS.out]; exact HO7.out, hop3⟩
        case measure => simp [intOf]; omega
      · rw [hgo] at k3
        go_wp2_with fail
        have HG2 : Hid (goneI p = 1) := by unfold Hid; rw [HG.out, hgo]; rfl
        have k4 := HC1.out _ hB3
        refine wp_region_held_drew (S := fun W => W.cell? ⟨b1, o1 + k * 3 + 1, none⟩ = some (.string p.fVal) ∧ Below w.heap.size w W) (by kernel_rfl) (⟨k4, Below.drew hB3⟩) (fun hHeld => ?_)
        refine tk 0 qf52_30_11_0 (some 38) (v := ?v19) rfl rfl (by kernel_rfl) hHeld (by rfl) (fun _ _ _ x => x) (fun w h => ?y19) ?_; (case y19 => (try dsimp only at h); go_simp; try (with_reducible rfl)); try simp only [Act.put, sa, s0, s1]
        refine tk 1 qf52_30_11_1 (some 39) (v := ?v20) rfl rfl (by kernel_rfl) hHeld (by rfl) (fun _ _ _ x => x) (fun w h => ?y20) ?_; (case y20 => (try dsimp only at h); go_simp; try (with_reducible rfl)); try simp only [Act.put, sa, s0, s1]
        refine tk 4 qf52_30_11_4 (some 42) (v := ?v21) rfl rfl (by kernel_rfl) hHeld (by rfl) (fun _ _ _ x => x) (fun w h => ?y21) ?_; (case y21 => (try dsimp only at h); go_simp; try (with_reducible rfl)); try simp only [Act.put, sa, s0, s1]
        refine tk 5 qf52_30_11_5 (some 43) (v := ?v22) rfl rfl (by kernel_rfl) hHeld (by rfl) (fun _ _ _ x => x) (fun w h => ?y22) ?_; (case y22 => (try dsimp only at h); go_simp; try (with_reducible rfl)); try simp only [Act.put, sa, s0, s1]
        refine tk 6 qf52_30_11_6 (some 44) (v := ?v23) rfl rfl (by kernel_rfl) hHeld (by rfl) (fun _ _ _ x => x) (fun w h => ?y23) ?_; (case y23 => (try dsimp only at h); go_simp; try (with_reducible rfl)); try simp only [Act.put, sa, s0, s1]
        refine tk 7 qf52_30_11_7 (some 45) (v := ?v24) rfl rfl (by kernel_rfl) hHeld (by rfl) (fun _ _ _ x => x) (fun w h => ?y24) ?_; (case y24 => (try dsimp only at h); go_simp; try (with_reducible rfl)); try simp only [Act.put, sa, s0, s1]
        refine tk 8 qf52_30_11_8 (some 46) (v := ?v25) rfl rfl (by kernel_rfl) hHeld (by rfl) (fun _ _ _ x => x) (fun w h => ?y25) ?_; (case y25 => (try dsimp only at h); go_simp; try (with_reducible rfl)); try simp only [Act.put, sa, s0, s1]
        refine wpAnyH_ready (rs := [2]) (by kernel_rfl) (by simp) ?_
        refine AllReadyH.cons (o := qf52_30_11_2) rfl (fun K hK => ?_) AllReadyH.nil
        go_simp
        obtain ⟨w5, hq5⟩ : ∃ x, x = (w3.alloc (.cells (List.toArray [Value.int .u8 1]) 5)).drew := ⟨_, rfl⟩
        have hx1 : Below w3.heap.size w3 w5 := by rw [hq5]; exact Below.drew ((Below.refl _ _).alloc (Nat.le_refl _) _)
        have hop1 : Below w.heap.size w w5 := hB3.trans (hx1.mono hB3.size)
        have HR5 : Hid (Rd .u8 (w3.heap.size + 1) w5 (some ⟨w3.heap.size, 0, none⟩) [1]) := by rw [hq5]; exact rd_one .u8 w3 1 5
        have HO5 := Hid.mk (own_below HO3.out hx1)
        rw [← hq5]
        clear hq5
        refine hK.out _ _ (⟨HC1.out _ hop1, hop1⟩) (fun hHeld => ?_)
        clear hK K
        try simp only [Act.put, sa, s0, s1]
        refine wpAnyH_ready (rs := [3]) (by kernel_rfl) (by simp) ?_
        refine AllReadyH.cons (o := qf52_30_11_3) rfl (fun K hK => ?_) AllReadyH.nil
        refine step_append_src w5 rfl _ _ 22 22 rfl w.heap.size 5 i0 (.int .u8 0) 1 1 Tryd.underlying22 HI.out.1 HI.out.2.1 HI.out.2.2.1 HI.out.2.2.2 rfl (.slice r3 z3.length q3) z3.length (z3.map (Value.int .u8)) rfl HO5.out (.slice (some ⟨w3.heap.size, 0, none⟩) 1 1) rfl 1 ([1].map (Value.int .u8)) (Src.rd Tryd.underlying22 rfl HR5.out) (by unfold maxLen; omega) (by omega) hop1.size ?_
        intro v6 w6 ho6 hgr6 hat6
        have hop2 : Below w.heap.size w w6 := hop1.grown hgr6 hop1.size (fun k h => (HO5.out.lt k h).1)
        have ho7 : w6.ownsRow w.heap.size 5 1 v6 z4.length (z4.map (Value.int .u8)) := own_congr ho6 (by rw [HZ4.out, HG2.out]; simp) (by rw [HZ4.out, HG2.out]; simp)
        obtain ⟨r6, q6, rfl, _, hr6⟩ := own_rd rfl ho7
        clear ho6 hgr6 hat6 ho7
        refine hK.out _ _ (⟨HC1.out _ hop2, hop2⟩) (fun hHeld => ?_)
        clear hK K
        try simp only [Act.put, sa, s0, s1]
        refine wpAnyH_ready (rs := [9]) (by kernel_rfl) (by simp) ?_
        refine AllReadyH.cons (o := qf52_30_11_9) rfl (fun K hK => ?_) AllReadyH.nil
        go_simp
        refine Calls.mono (specPutText_R r6 _ q6 z4 p.fVal w6 rfl (by omega) hr6 (by omega)) ?_
        rintro e w7 ⟨v7, rfl, ho7, hx3⟩
        have hop3 : Below w.heap.size w w7 := hHeld.2.trans (hx3.mono hHeld.2.size)
        have HO7 : Hid (w7.ownsRow w.heap.size 5 1 v7 (zs ++ pairB lk p).length ((zs ++ pairB lk p).map (Value.int .u8))) := by have h := own_base ho7 hHeld.2.size; rw [HZ4.out, HZ3.out, HZ2.out, HY.out, HPP.out] at h; exact h
        clear ho7
        go_wp2_with fail
        refine hK.out _ _ (⟨HC1.out _ hop3, hop3⟩) (fun hHeld => ?_)
        clear hK K
        try simp only [Act.put, sa, s0, s1]
        refine tk 10 qf52_30_11_10 (some 3) (v := ?v26) rfl rfl (by kernel_rfl) hHeld (by rfl) (fun _ _ _ x => x) (fun w h => ?y26) ?_; (case y26 => (try dsimp only at h); go_simp; try (with_reducible rfl)); try simp only [Act.put, sa, s0, s1]
        refine wpAnyH_done (by kernel_rfl) ?_ _
        have k7 := HC0.out _ hop3
        go_wp2_with fail
        go_roundw
        case rel => exact ⟨k + 1, by omega, by go_num, by rw [HK.out], by rw [HS.out]; exact HO7.out, hop3⟩
        case measure => simp [intOf]; omega
    · have HT1 : Hid (l.take k = l) := List.take_of_length_le (by rw [HX.out]; omega)
      rw [HT1.out] at hownk
      have hzl := hbd k
      rw [HT1.out] at hzl
      have hok := blockB_ok ByteArray.empty l
      obtain ⟨zs, HZ⟩ : ∃ zs, Hid (zs = blockB ByteArray.empty l) := ⟨_, rfl⟩
      rw [← HZ.out] at hownk hzl hok
      obtain ⟨ra, qa, rfl, _, hrd⟩ := own_rd rfl hownk
      go_wp2_with fail
      refine (specFrame_R ra zs.length qa zs _ rfl (by omega) hrd hok (HT.out.below hbk HT.out.size)).mono ?_
      rintro e w9 ⟨v9, rfl, ho9, hx9⟩
      go_wp2_with fail
      go_ret
      rw [HZ.out] at ho9
      exact ⟨v9, rfl, own_base ho9 hbk.size, hbk.trans (hx9.mono hbk.size)⟩


/-- The strings that a slice's cells hold. -/
def RdT (B : Nat) (w : World) (a : Option Addr) (l : List ByteArray) : Prop :=
  ∀ j, (h : j < l.length) → ∃ b off, a = some ⟨b, off, none⟩ ∧ b < B ∧ w.cell? ⟨b, off + j, none⟩ = some (.string l[j])
def rdT (B : Nat) (w : World) (v : Value) (l : List ByteArray) : Prop := ∃ a c, v = .slice a l.length c ∧ l.length ≤ c ∧ c ≤ 9223372036854775807 ∧ RdT B w a l
def ownT (e : TypeId) (w : World) (v : Value) (l : List ByteArray) (F : List Nat) : Prop := w.ownsRow 0 e 1 v l.length (l.map Value.string) ∧ F = v.ownBlock.toList

theorem RdT.below {B : Nat} {w w' : World} {a : Option Addr} {l : List ByteArray} (h : RdT B w a l) (hb : Below B w w') : RdT B w' a l := by
  intro j hj
  obtain ⟨b, off, e, hB, hc⟩ := h j hj
  exact ⟨b, off, e, hB, (hb.cell (p := ⟨b, off + j, none⟩) hB).trans hc⟩
theorem rdT.below {B : Nat} {w w' : World} {v : Value} {l : List ByteArray} (h : rdT B w v l) (hb : Below B w w') : rdT B w' v l := by
  obtain ⟨a, c, e, h1, h2, h3⟩ := h
  exact ⟨a, c, e, h1, h2, h3.below hb⟩
theorem rdT.mono {B B' : Nat} {w : World} {v : Value} {l : List ByteArray} (h : rdT B w v l) (hB : B ≤ B') : rdT B' w v l := by
  obtain ⟨a, c, e, h1, h2, h3⟩ := h
  refine ⟨a, c, e, h1, h2, fun j hj => ?_⟩
  obtain ⟨b, off, e, hb, hc⟩ := h3 j hj
  exact ⟨b, off, e, by omega, hc⟩
theorem ownT.frame {e : TypeId} {w w' : World} {v : Value} {l : List ByteArray} {F : List Nat} (h : ownT e w v l F) (hb : ∀ k, k ∈ F → w'.heap[k]? = w.heap[k]?) : ownT e w' v l F := by
  obtain ⟨h1, rfl⟩ := h
  exact ⟨own_of_block h1 (fun k hk => hb k (by simp [hk])), rfl⟩
theorem ownT.lt {e : TypeId} {w : World} {v : Value} {l : List ByteArray} {F : List Nat} (h : ownT e w v l F) : ∀ k, k ∈ F → k < w.heap.size := by
  obtain ⟨h1, rfl⟩ := h
  intro k hk
  exact (h1.lt k (by simpa using hk)).2
theorem rdT_own {e : TypeId} {w : World} {v : Value} {l : List ByteArray} {F : List Nat} (h : ownT e w v l F) : rdT w.heap.size w v l := by
  obtain ⟨h1, rfl⟩ := h
  rcases h1.2 with ⟨rfl, h'⟩ | ⟨g, cap, cur, rfl, hb, hg, hnc, hm, _⟩
  · exact ⟨none, 0, by rw [h'], by omega, by omega, fun j hj => by omega⟩
  · refine ⟨_, cap, rfl, hnc, by simpa [maxLen] using hm, fun j hj => ⟨g, 0, rfl, (h1.lt g rfl).2, ?_⟩⟩
    have := h1.cellAt j (by omega)
    rw [Nat.zero_add, this]
    simp [hj]


theorem Tryd.infoOfStr : (Tryd.prog.info? 9).map (fun i => (i.zero, i.size, i.bytes)) = some (some (.string ByteArray.empty), 1, 16) := by kernel_rfl


theorem shl_byte {k : Nat} (h : k < 8) : IntKind.u8.wrap (1 * 2 ^ k) = 2 ^ k := by
  have := pow8 h
  rw [IntKind.wrap_u8', Int.one_mul]
  omega
theorem shl_byte' {k : Nat} (h : k < 8) : IntKind.u8.wrap (2 ^ k) = 2 ^ k := by
  have := pow8 h
  rw [IntKind.wrap_u8']
  omega
/-- A bit that is set in a row of one's own. -/
theorem bit_own {w : World} {base e g : Nat} {f : List Int} {n : Int} (hf : f.length = 8) (h0 : 0 ≤ n) (h1 : n < 64)
    (h : w.ownsRow base e 1 (.slice (some ⟨g, 0, none⟩) 8 8) 8 (f.map (Value.int .u8))) :
    w.cell? ⟨g, (n / 8).toNat, none⟩ = some (.int .u8 (f.getD (n / 8).toNat 0)) ∧ w.frozen? ⟨g, (n / 8).toNat, none⟩ = false ∧
      (w.setCell ⟨g, (n / 8).toNat, none⟩ (.int .u8 (orB (f.getD (n / 8).toNat 0) (2 ^ (n % 8).toNat)))).ownsRow base e 1 (.slice (some ⟨g, 0, none⟩) 8 8) 8 ((bitOn f n).map (Value.int .u8)) := by
  refine ⟨?_, ?_, ?_⟩
  · have h2 := h.cellAt (n / 8).toNat (by omega)
    rw [h2]
    have : (n / 8).toNat < f.length := by omega
    simp [this]
  · exact h.frozenAt (n / 8).toNat
  · have h2 := (h.stored (n / 8).toNat (.int .u8 (orB (f.getD (n / 8).toNat 0) (2 ^ (n % 8).toNat)))).1
    unfold bitOn
    rw [List.map_set]
    exact h2

set_option maxHeartbeats 800000 in
theorem implFilter_any (a : Option Addr) (n cap : Nat) (l : List ByteArray) (w : World) (hx : l.length = n) (hlen : n ≤ 9223372036854775807) (hs : ∀ s, s ∈ l → s.size ≤ 140737488351232) (hr : RdT w.heap.size w a l) (ht : TabAt w) :
    Calls Tryd.prog 43 #[.slice a n cap] w fun e w' => ∃ v, e = .returned v ∧
      w'.ownsRow w.heap.size 5 1 v 8 ((flt l).map (Value.int .u8)) ∧ Below w.heap.size w w' := by
  obtain ⟨i0, hi, hz0, hz1, hz2⟩ := info_parts Tryd.info5
  have HX := Hid.mk hx
  clear hx
  go_enter Tryd.func43, Tryd.ntmps43
  go_wp2_with (at_make; refine wpList_make_full _ rfl _ _ 22 rfl w.heap.size 5 i0 (.int .u8 0) 1 Tryd.underlying22 hi hz0 hz1 .i64 .i64 _ _ 8 rfl rfl rfl rfl ?c1 ?c2 (Nat.le_refl _) ?_)
  case c1 => rw [hz2]; omega
  case c2 => unfold maxLen; omega
  intro w1 hown hgr
  have hb1 : Below w.heap.size w w1 := (Below.refl _ _).grown hgr (Nat.le_refl _) (fun k h => by cases h)
  rw [toList_madeCells_one] at hown
  clear hgr hi hz0 hz1 hz2
  go_wp2_with fail
  go_loopw [11] (fun i wr => ∃ k : Nat, k ≤ n ∧ i = .int .i64 k ∧ wr.ownsRow w.heap.size 5 1 (.slice (some ⟨w.heap.size, 0, none⟩) 8 8) 8 ((flt (l.take k)).map (Value.int .u8)) ∧ Below w.heap.size w wr) (fun i _ => n - (intOf i).toNat)
  case atStart => exact ⟨0, Nat.zero_le _, rfl, by simpa [flt] using hown, hb1⟩
  case round =>
    obtain ⟨k, hk, rfl, hownk, hbk⟩ := hrel
    clear hown hb1
    by_cases hlt : k < n
    · have hkl : k < l.length := by rw [HX.out]; exact hlt
      have HS := Hid.mk (flt_step hkl)
      have hsk := hs _ (List.getElem_mem hkl)
      obtain ⟨b1, o1, rfl, _, hc1⟩ := (hr.below hbk) k hkl
      have hfl := flt_length (l.take k)
      have hfo := flt_ok (l.take k)
      generalize l[k] = s at *
      generalize flt (l.take k) = f at *
      go_wp2_with fail
      refine (implMark_any s wr hsk (ht.below hbk ht.size)).mono ?_
      rintro e w2 ⟨rfl, hb2⟩
      have hbk2 := hbk.trans (hb2.mono hbk.size)
      have hown2 := own_below hownk hb2
      have g1 := mk1_bd s
      have g2 := mk2_bd s
      have HS2 : Hid (flt (l.take (k + 1)) = bitOn (bitOn f (mk1 s)) (mk2 s)) := HS.out
      generalize mk1 s = x1 at *
      generalize mk2 s = x2 at *
      obtain ⟨q1, q2, q3⟩ := bit_own hfl g1.1 g1.2 hown2
      have e11 : x1.tdiv 8 = x1 / 8 := Int.tdiv_eq_ediv_of_nonneg g1.1
      have e12 : x1.tmod 8 = x1 % 8 := Int.tmod_eq_emod_of_nonneg g1.1
      have e13 := shl_byte (k := (x1 % 8).toNat) (by omega)
      have e14 := shl_byte' (k := (x1 % 8).toNat) (by omega)
      have hp1 := pow8 (k := (x1 % 8).toNat) (by omega)
      have hy1 := getD_byte hfo (x1 / 8).toNat
      have ho1 : bits .or .u8 (f.getD (x1 / 8).toNat 0) (2 ^ (x1 % 8).toNat) = orB (f.getD (x1 / 8).toNat 0) (2 ^ (x1 % 8).toNat) := u8_or _ _ hy1.1 (by omega) hp1.1 (by omega)
      have hfl' : (bitOn f x1).length = 8 := by rw [bitOn_length]; exact hfl
      have hfo' : BytesOk (bitOn f x1) := bitOn_ok hfo
      generalize bitOn f x1 = f1 at *
      generalize f.getD (x1 / 8).toNat 0 = yx1 at *
      generalize orB yx1 (2 ^ (x1 % 8).toNat) = zx1 at *
      clear hown2
      go_wp2_with fail
      go_region
      obtain ⟨w3, hw3⟩ : ∃ W, W = (w2.setCell ⟨w.heap.size, (x1 / 8).toNat, none⟩ (.int .u8 zx1)).drew := ⟨_, rfl⟩
      have hown3 : w3.ownsRow w.heap.size 5 1 (.slice (some ⟨w.heap.size, 0, none⟩) 8 8) 8 (f1.map (Value.int .u8)) := by rw [hw3]; exact q3
      have hbk3 : Below w.heap.size w w3 := by rw [hw3]; exact Below.drew (hbk2.setCell (Nat.le_refl _) _)
      rw [← hw3]
      clear hw3 q1 q2 q3 e11 e12 e13 e14 ho1 hy1 hp1
      obtain ⟨q1, q2, q3⟩ := bit_own hfl' g2.1 g2.2 hown3
      have e11 : x2.tdiv 8 = x2 / 8 := Int.tdiv_eq_ediv_of_nonneg g2.1
      have e12 : x2.tmod 8 = x2 % 8 := Int.tmod_eq_emod_of_nonneg g2.1
      have e13 := shl_byte (k := (x2 % 8).toNat) (by omega)
      have e14 := shl_byte' (k := (x2 % 8).toNat) (by omega)
      have hp1 := pow8 (k := (x2 % 8).toNat) (by omega)
      have hy1 := getD_byte hfo' (x2 / 8).toNat
      have ho1 : bits .or .u8 (f1.getD (x2 / 8).toNat 0) (2 ^ (x2 % 8).toNat) = orB (f1.getD (x2 / 8).toNat 0) (2 ^ (x2 % 8).toNat) := u8_or _ _ hy1.1 (by omega) hp1.1 (by omega)
      have hfl'' : (bitOn f1 x2).length = 8 := by rw [bitOn_length]; exact hfl'
      have hfo'' : BytesOk (bitOn f1 x2) := bitOn_ok hfo'
      generalize bitOn f1 x2 = f2 at *
      generalize f1.getD (x2 / 8).toNat 0 = yx2 at *
      generalize orB yx2 (2 ^ (x2 % 8).toNat) = zx2 at *
      clear hown3
      go_wp2_with fail
      go_region
      obtain ⟨w4, hw4⟩ : ∃ W, W = (w3.setCell ⟨w.heap.size, (x2 / 8).toNat, none⟩ (.int .u8 zx2)).drew := ⟨_, rfl⟩
      have hown4 : w4.ownsRow w.heap.size 5 1 (.slice (some ⟨w.heap.size, 0, none⟩) 8 8) 8 (f2.map (Value.int .u8)) := by rw [hw4]; exact q3
      have hbk4 : Below w.heap.size w w4 := by rw [hw4]; exact Below.drew (hbk3.setCell (Nat.le_refl _) _)
      rw [← hw4]
      clear hw4 q1 q2 q3 e11 e12 e13 e14 ho1 hy1 hp1
      go_wp2_with fail
      go_roundw
      case rel => exact ⟨k + 1, by omega, by go_num, by rw [HS2.out]; exact hown4, hbk4⟩
      case measure => simp [intOf]; omega
    · have HT : Hid (l.take k = l) := List.take_of_length_le (by rw [HX.out]; omega)
      go_wp2_with fail
      go_ret
      exact ⟨_, rfl, by rw [← HT.out]; exact hownk, hbk⟩

set_option maxHeartbeats 800000 in
theorem specFilter_any (a : Option Addr) (n cap : Nat) (l : List ByteArray) (w : World) (hx : l.length = n) (hlen : n ≤ 9223372036854775807) (hs : ∀ s, s ∈ l → s.size ≤ 140737488351232) (hr : RdT w.heap.size w a l) :
    Calls Tryd.prog 31 #[.slice a n cap] w fun e w' => ∃ v, e = .returned v ∧
      w'.ownsRow w.heap.size 5 1 v 8 ((flt l).map (Value.int .u8)) ∧ Below w.heap.size w w' := by
  obtain ⟨i0, hi, hz0, hz1, hz2⟩ := info_parts Tryd.info5
  have HX := Hid.mk hx
  clear hx
  go_enter Tryd.func31, Tryd.ntmps31
  go_wp2_with (at_make; refine wpList_make_full _ rfl _ _ 22 rfl w.heap.size 5 i0 (.int .u8 0) 1 Tryd.underlying22 hi hz0 hz1 .i64 .i64 _ _ 8 rfl rfl rfl rfl ?c1 ?c2 (Nat.le_refl _) ?_)
  case c1 => rw [hz2]; omega
  case c2 => unfold maxLen; omega
  intro w1 hown hgr
  have hb1 : Below w.heap.size w w1 := (Below.refl _ _).grown hgr (Nat.le_refl _) (fun k h => by cases h)
  rw [toList_madeCells_one] at hown
  clear hgr hi hz0 hz1 hz2
  go_wp2_with fail
  go_loopw [4] (fun i wr => ∃ k : Nat, k ≤ n ∧ i = .int .i64 k ∧ wr.ownsRow w.heap.size 5 1 (.slice (some ⟨w.heap.size, 0, none⟩) 8 8) 8 ((flt (l.take k)).map (Value.int .u8)) ∧ Below w.heap.size w wr) (fun i _ => n - (intOf i).toNat)
  case atStart => exact ⟨0, Nat.zero_le _, rfl, by simpa [flt] using hown, hb1⟩
  case round =>
    obtain ⟨k, hk, rfl, hownk, hbk⟩ := hrel
    clear hown hb1
    by_cases hlt : k < n
    · have hkl : k < l.length := by rw [HX.out]; exact hlt
      have HS := Hid.mk (flt_step hkl)
      have hsk := hs _ (List.getElem_mem hkl)
      obtain ⟨b1, o1, rfl, _, hc1⟩ := (hr.below hbk) k hkl
      have hfl := flt_length (l.take k)
      have hfo := flt_ok (l.take k)
      generalize l[k] = s at *
      generalize flt (l.take k) = f at *
      go_wp2_with fail
      refine (specMark_any s wr hsk).mono ?_
      rintro e w2 ⟨rfl, hb2⟩
      have hbk2 := hbk.trans (hb2.mono hbk.size)
      have hown2 := own_below hownk hb2
      have g1 := mk1_bd s
      have g2 := mk2_bd s
      have HS2 : Hid (flt (l.take (k + 1)) = bitOn (bitOn f (mk1 s)) (mk2 s)) := HS.out
      generalize mk1 s = x1 at *
      generalize mk2 s = x2 at *
      obtain ⟨q1, q2, q3⟩ := bit_own hfl g1.1 g1.2 hown2
      have qe1 : x1.tdiv 8 = x1 / 8 := Int.tdiv_eq_ediv_of_nonneg g1.1
      have qe2 : x1.tmod 8 = x1 % 8 := Int.tmod_eq_emod_of_nonneg g1.1
      have qe4 := shl_byte' (k := (x1 % 8).toNat) (by omega)
      have qp := pow8 (k := (x1 % 8).toNat) (by omega)
      have qy := getD_byte hfo (x1 / 8).toNat
      have qo : bits .or .u8 (f.getD (x1 / 8).toNat 0) (2 ^ (x1 % 8).toNat) = orB (f.getD (x1 / 8).toNat 0) (2 ^ (x1 % 8).toNat) := u8_or _ _ qy.1 (by omega) qp.1 (by omega)
      have hfl' : (bitOn f x1).length = 8 := by rw [bitOn_length]; exact hfl
      have hfo' : BytesOk (bitOn f x1) := bitOn_ok hfo
      generalize bitOn f x1 = f1 at *
      generalize f.getD (x1 / 8).toNat 0 = yx1 at *
      generalize orB yx1 (2 ^ (x1 % 8).toNat) = zx1 at *
      obtain ⟨r1, r2, r3⟩ := bit_own hfl' g2.1 g2.2 q3
      have re1 : x2.tdiv 8 = x2 / 8 := Int.tdiv_eq_ediv_of_nonneg g2.1
      have re2 : x2.tmod 8 = x2 % 8 := Int.tmod_eq_emod_of_nonneg g2.1
      have re4 := shl_byte' (k := (x2 % 8).toNat) (by omega)
      have rp := pow8 (k := (x2 % 8).toNat) (by omega)
      have ry := getD_byte hfo' (x2 / 8).toNat
      have ro : bits .or .u8 (f1.getD (x2 / 8).toNat 0) (2 ^ (x2 % 8).toNat) = orB (f1.getD (x2 / 8).toNat 0) (2 ^ (x2 % 8).toNat) := u8_or _ _ ry.1 (by omega) rp.1 (by omega)
      have hfl'' : (bitOn f1 x2).length = 8 := by rw [bitOn_length]; exact hfl'
      have hfo'' : BytesOk (bitOn f1 x2) := bitOn_ok hfo'
      generalize bitOn f1 x2 = f2 at *
      generalize f1.getD (x2 / 8).toNat 0 = yx2 at *
      generalize orB yx2 (2 ^ (x2 % 8).toNat) = zx2 at *
      have hbk4 := (hbk2.setCell (p := ⟨w.heap.size, (x1 / 8).toNat, none⟩) (Nat.le_refl _) (.int .u8 zx1)).setCell (p := ⟨w.heap.size, (x2 / 8).toNat, none⟩) (Nat.le_refl _) (.int .u8 zx2)
      go_wp2_with fail
      go_roundw
      case rel => exact ⟨k + 1, by omega, by go_num, by rw [HS2.out]; exact r3, hbk4⟩
      case measure => simp [intOf]; omega
    · have HT : Hid (l.take k = l) := List.take_of_length_le (by rw [HX.out]; omega)
      go_wp2_with fail
      go_ret
      exact ⟨_, rfl, by rw [← HT.out]; exact hownk, hbk⟩

end Go.Proofs.YtocgbeoglgkibaaDoor
