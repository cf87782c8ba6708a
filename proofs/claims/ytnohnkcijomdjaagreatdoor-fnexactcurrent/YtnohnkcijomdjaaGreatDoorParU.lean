/-
  The specification's key of its digits.
-/
import Derived.Test.YtnohnkcijomdjaaGreatDoorRegK
import Derived.Test.YtnohnkcijomdjaaGreatDoorParS
namespace Go.Proofs.YtnohnkcijomdjaaGreatDoor
open Go.RowKit
set_option linter.unusedVariables false
set_option linter.unusedSimpArgs false
set_option maxRecDepth 10000
abbrev q674_18_5_0 : Oper := ⟨some 13, .move (.tmp 3), 60, "l06_manifest.go:60", #[], none⟩
abbrev q674_18_5_1 : Oper := ⟨some 14, .move (.tmp 0), 9, "l06_manifest.go:60", #[], none⟩
abbrev q674_18_5_2 : Oper := ⟨some 15, .move (.tmp 4), 3, "l06_manifest.go:60", #[], none⟩
abbrev q674_18_5_3 : Oper := ⟨some 16, .index 9 (.tmp 14) (.tmp 15), 5, "l06_manifest.go:60", #[⟨1, .data⟩, ⟨2, .data⟩], none⟩
abbrev q674_18_5_6 : Oper := ⟨some 19, .move (.tmp 0), 9, "l06_manifest.go:60", #[], none⟩
abbrev q674_18_5_7 : Oper := ⟨some 20, .move (.tmp 4), 3, "l06_manifest.go:60", #[], none⟩
abbrev q674_18_5_8 : Oper := ⟨some 21, .binOp .add 3 (.tmp 20) (.const (.int .i64 1)) 3, 3, "l06_manifest.go:60", #[⟨7, .data⟩], none⟩
abbrev q674_18_5_9 : Oper := ⟨some 22, .index 9 (.tmp 19) (.tmp 21), 5, "l06_manifest.go:60", #[⟨6, .data⟩, ⟨8, .data⟩], none⟩
abbrev q674_18_5_4 : Oper := ⟨some 17, .call { callee := .value (.func 38), args := #[.tmp 16], argTypes := #[5] }, 3, "l06_manifest.go:60", #[⟨3, .data⟩], none⟩
abbrev q674_18_5_5 : Oper := ⟨some 18, .binOp .mul 3 (.tmp 17) (.const (.int .i64 16)) 3, 3, "l06_manifest.go:60", #[⟨4, .data⟩], none⟩
abbrev q674_18_5_10 : Oper := ⟨some 23, .call { callee := .value (.func 38), args := #[.tmp 22], argTypes := #[5] }, 3, "l06_manifest.go:60", #[⟨9, .data⟩, ⟨4, .chain⟩], none⟩
abbrev q674_18_5_11 : Oper := ⟨some 24, .binOp .add 3 (.tmp 18) (.tmp 23) 3, 3, "l06_manifest.go:60", #[⟨5, .data⟩, ⟨10, .data⟩], none⟩
abbrev q674_18_5_12 : Oper := ⟨some 25, .convert 3 5 (.tmp 24), 5, "l06_manifest.go:60", #[⟨11, .data⟩], none⟩
abbrev q674_18_5_13 : Oper := ⟨some 26, .buildSlice 60 1 #[(0, .tmp 25)], 60, "l06_manifest.go:60", #[⟨12, .data⟩], none⟩
abbrev q674_18_5_14 : Oper := ⟨some 27, .call { callee := .builtin .append, args := #[.tmp 13, .tmp 26], argTypes := #[60, 60] }, 60, "l06_manifest.go:60", #[⟨0, .data⟩, ⟨13, .data⟩, ⟨10, .chain⟩], none⟩
abbrev q674_18_5_15 : Oper := ⟨some 3, .assign (.tmp 27), 60, "l06_manifest.go:60", #[⟨14, .data⟩, ⟨14, .chain⟩, ⟨0, .phase⟩, ⟨1, .phase⟩, ⟨2, .phase⟩, ⟨3, .phase⟩, ⟨4, .phase⟩, ⟨5, .phase⟩, ⟨6, .phase⟩, ⟨7, .phase⟩, ⟨8, .phase⟩, ⟨9, .phase⟩, ⟨10, .phase⟩, ⟨11, .phase⟩, ⟨12, .phase⟩, ⟨13, .phase⟩, ⟨14, .phase⟩], none⟩

def zOf (l : List UInt8) : List Int := l.map fun b => ((b.toNat : Nat) : Int)
theorem zOf_str (l : List UInt8) : strOfNums (zOf l) = strB l := by
  rw [strB_nums]
  congr 1
  unfold zOf
  rw [List.map_map]
  conv => rhs; rw [← List.map_id l]
  apply List.map_congr_left
  intro b _
  simp
theorem digP_bound (b : UInt8) : 0 ≤ digP b ∧ digP b ≤ 99 := by
  unfold digP
  split
  · omega
  · split <;> omega
theorem unhex_len : ∀ (n : Nat) (l : List UInt8), l.length ≤ n → (unhexP l).length ≤ l.length
  | 0, [], _ => Nat.le_refl _
  | n + 1, [], _ => Nat.le_refl _
  | n + 1, [a], _ => by simp [unhexP]
  | n + 1, a :: b :: r, h => by
    have := unhex_len n r (by simp at h; omega)
    simp only [unhexP, List.length_cons]
    omega
set_option maxHeartbeats 2000000 in
theorem l6UnHex_any (s : ByteArray) (w : World) (hs : s.size ≤ 1048576) :
    Calls Tryz.prog 18 #[.string s] w fun e w' => e = .returned (.string (strB (unhexP s.data.toList))) ∧ Below w.heap.size w w' := by
  obtain ⟨i0, hi0⟩ := info_parts Tryz.info5
  have HI := Hid.mk hi0
  clear hi0
  have HAT := Hid.mk (fun (k : Nat) (W : World) (h : k < s.data.toList.length) => at_byte s k W h)
  have hsl := size_list s
  obtain ⟨l, hl⟩ : ∃ l, l = s.data.toList := ⟨_, rfl⟩
  rw [← hl] at HAT hsl ⊢
  have HSL := Hid.mk hsl
  clear hl hsl
  go_enter Tryz.func18, Tryz.ntmps18
  go_wp2_with fail
  obtain ⟨wq, hwq⟩ : ∃ x, x = w.alloc (.cells #[] 5) := ⟨_, rfl⟩
  have hbq : Below w.heap.size w wq := by rw [hwq]; exact (Below.refl _ _).alloc (Nat.le_refl _) _
  have hoo : wq.ownsRow w.heap.size 5 1 (.slice (some ⟨w.heap.size, 0, none⟩) 0 0) 0 [] := by
    rw [hwq]
    exact ⟨by simp, .inr ⟨w.heap.size, 0, #[], rfl, Nat.le_refl _, (show (w.heap.push _)[w.heap.size]? = _ from Array.getElem?_push_size), by omega, by simp [maxLen], by simp, by simp⟩⟩
  rw [← hwq]
  clear hwq
  go_loopw [3, 4] (fun v i wr => ∃ k : Nat, 2 * k ≤ s.size ∧ i = .int .i64 ((2 * k : Nat) : Int) ∧ wr.ownsRow w.heap.size 5 1 v (zOf (unhexP (l.take (2 * k)))).length ((zOf (unhexP (l.take (2 * k)))).map (Value.int .u8)) ∧ Below w.heap.size w wr) (fun _ i _ => s.size + 2 - (intOf i).toNat)
  case atStart => exact ⟨0, Nat.zero_le _, rfl, hoo, hbq⟩
  case round =>
    obtain ⟨k, hk, rfl, hown, hbk⟩ := hrel
    clear hoo hbq
    by_cases hlt : 2 * k + 1 < s.size
    · have hkl : 2 * k + 1 < l.length := by rw [HSL.out]; exact hlt
      have hat := fun W => HAT.out (2 * k) W (by omega)
      have hat2 := fun W => HAT.out (2 * k + 1) W hkl
      have HZ : Hid (zOf (unhexP (l.take (2 * (k + 1)))) = zOf (unhexP (l.take (2 * k))) ++ [((UInt8.ofNat ((digP l[2 * k] * 16 + digP l[2 * k + 1]) % 256).toNat).toNat : Int)]) := by
        show _ = _
        rw [show 2 * (k + 1) = 2 * k + 2 by omega, unhex_take k l hkl]
        simp [zOf]
      have hl2 : (zOf (unhexP (l.take (2 * k)))).length ≤ 1048576 := by
        have h1 := unhex_len _ (l.take (2 * k)) (Nat.le_refl _)
        unfold zOf
        rw [List.length_map]
        rw [List.length_take] at h1
        omega
      have HC1 := Hid.mk (fun W => l6Digit_any l[2 * k] W)
      have HC2 := Hid.mk (fun W => l6Digit_any l[2 * k + 1] W)
      have hd1 := digP_bound l[2 * k]
      have hd2 := digP_bound l[2 * k + 1]
      have hx1 : l[2 * k].toNat < 256 := l[2 * k].toNat_lt
      have hx2 : l[2 * k + 1].toNat < 256 := l[2 * k + 1].toNat_lt
      generalize digP l[2 * k] = p1 at *
      generalize digP l[2 * k + 1] = p2 at *
      generalize l[2 * k].toNat = c1 at *
      generalize l[2 * k + 1].toNat = c2 at *
      have hv : ((UInt8.ofNat ((p1 * 16 + p2) % 256).toNat).toNat : Int) = (p1 * 16 + p2) % 256 := by rw [UInt8.toNat_ofNat']; omega
      rw [hv] at HZ
      have hwr : IntKind.u8.wrap (p1 * 16 + p2) = (p1 * 16 + p2) % 256 := by rw [IntKind.wrap_u8]
      clear hv
      generalize zOf (unhexP (l.take (2 * k))) = out at *
      generalize hxx : (p1 * 16 + p2) % 256 = xv at *
      clear hxx
      obtain ⟨j, hj⟩ : ∃ j, j = 2 * k := ⟨_, rfl⟩
      have HJ := Hid.mk hj
      rw [← hj] at hat hat2 hlt ⊢
      replace hat2 : ∀ W, (Instr.index 9 (.string s) (.int .i64 ((j : Int) + 1))).run Tryz.prog W = .ok (.int .u8 ((c2 : Nat) : Int)) W := hat2
      clear hj
      have hjl : (j : Int) + 1 < (s.size : Int) := by omega
      have hwj : IntKind.i64.wrap ((j : Int) + 1) = (j : Int) + 1 := by rw [IntKind.wrap_i64]; omega
      have hwp : IntKind.i64.wrap (p1 * 16) = p1 * 16 := by rw [IntKind.wrap_i64]; omega
      have hwq2 : IntKind.i64.wrap (p1 * 16 + p2) = p1 * 16 + p2 := by rw [IntKind.wrap_i64]; omega
      go_wp2_with fail
      refine wp_region_held_drew (S := fun W => Below w.heap.size w W) (by kernel_rfl) (Below.drew hbk) (fun hHeld => ?_)
      refine tk 0 q674_18_5_0 (some 13) (v := ?v1) rfl rfl (by kernel_rfl) hHeld (by rfl) (fun _ _ _ x => x) (fun w h => ?y1) ?_; (case y1 => (try dsimp only at h); go_simp; try (with_reducible rfl)); try simp only [Act.put, sa, s0, s1]
      refine tk 1 q674_18_5_1 (some 14) (v := ?v2) rfl rfl (by kernel_rfl) hHeld (by rfl) (fun _ _ _ x => x) (fun w h => ?y2) ?_; (case y2 => (try dsimp only at h); go_simp; try (with_reducible rfl)); try simp only [Act.put, sa, s0, s1]
      refine tk 2 q674_18_5_2 (some 15) (v := ?v3) rfl rfl (by kernel_rfl) hHeld (by rfl) (fun _ _ _ x => x) (fun w h => ?y3) ?_; (case y3 => (try dsimp only at h); go_simp; try (with_reducible rfl)); try simp only [Act.put, sa, s0, s1]
      refine tk 3 q674_18_5_3 (some 16) (v := ?v4) rfl rfl (by kernel_rfl) hHeld (by rfl) (fun _ _ _ x => x) (fun w h => ?y4) ?_; (case y4 => (try dsimp only at h); go_simp; try (with_reducible rfl)); try simp only [Act.put, sa, s0, s1]
      refine tk 6 q674_18_5_6 (some 19) (v := ?v5) rfl rfl (by kernel_rfl) hHeld (by rfl) (fun _ _ _ x => x) (fun w h => ?y5) ?_; (case y5 => (try dsimp only at h); go_simp; try (with_reducible rfl)); try simp only [Act.put, sa, s0, s1]
      refine tk 7 q674_18_5_7 (some 20) (v := ?v6) rfl rfl (by kernel_rfl) hHeld (by rfl) (fun _ _ _ x => x) (fun w h => ?y6) ?_; (case y6 => (try dsimp only at h); go_simp; try (with_reducible rfl)); try simp only [Act.put, sa, s0, s1]
      refine tk 8 q674_18_5_8 (some 21) (v := ?v7) rfl rfl (by kernel_rfl) hHeld (by rfl) (fun _ _ _ x => x) (fun w h => ?y7) ?_; (case y7 => (try dsimp only at h); go_simp; try (with_reducible rfl)); try simp only [Act.put, sa, s0, s1]
      refine tk 9 q674_18_5_9 (some 22) (v := ?v8) rfl rfl (by kernel_rfl) hHeld (by rfl) (fun _ _ _ x => x) (fun w h => ?y8) ?_; (case y8 => (try dsimp only at h); go_simp; try (with_reducible rfl)); try simp only [Act.put, sa, s0, s1]
      refine wpAnyH_ready (rs := [4]) (by kernel_rfl) (by simp) ?_
      refine AllReadyH.cons (o := q674_18_5_4) rfl (fun K hK => ?_) AllReadyH.nil
      go_simp
      refine (HC1.out _).mono ?_
      rintro e wa ⟨rfl, hwa⟩
      have hop1 : Below w.heap.size w wa := by rw [hwa]; exact hHeld
      replace hwa := hwa.symm
      subst hwa
      go_wp2_with fail
      go_wp2_with fail
      refine hK.out _ _ (hop1) (fun hHeld => ?_)
      clear hK K
      try simp only [Act.put, sa, s0, s1]
      refine tk 5 q674_18_5_5 (some 18) (v := ?v9) rfl rfl (by kernel_rfl) hHeld (by rfl) (fun _ _ _ x => x) (fun w h => ?y9) ?_; (case y9 => (try dsimp only at h); go_simp; try (with_reducible rfl)); try simp only [Act.put, sa, s0, s1]
      refine wpAnyH_ready (rs := [10]) (by kernel_rfl) (by simp) ?_
      refine AllReadyH.cons (o := q674_18_5_10) rfl (fun K hK => ?_) AllReadyH.nil
      go_simp
      refine (HC2.out _).mono ?_
      rintro e wb ⟨rfl, hwb⟩
      have hop2 : Below w.heap.size w wb := by rw [hwb]; exact hHeld
      replace hwb := hwb.symm
      subst hwb
      go_wp2_with fail
      go_wp2_with fail
      refine hK.out _ _ (hop2) (fun hHeld => ?_)
      clear hK K
      try simp only [Act.put, sa, s0, s1]
      refine tk 11 q674_18_5_11 (some 24) (v := ?v10) rfl rfl (by kernel_rfl) hHeld (by rfl) (fun _ _ _ x => x) (fun w h => ?y10) ?_; (case y10 => (try dsimp only at h); go_simp; try (with_reducible rfl)); try simp only [Act.put, sa, s0, s1]
      refine tk 12 q674_18_5_12 (some 25) (v := ?v11) rfl rfl (by kernel_rfl) hHeld (by rfl) (fun _ _ _ x => x) (fun w h => ?y11) ?_; (case y11 => (try dsimp only at h); go_simp; try (with_reducible rfl)); try simp only [Act.put, sa, s0, s1]
      refine wpAnyH_ready (rs := [13]) (by kernel_rfl) (by simp) ?_
      refine AllReadyH.cons (o := q674_18_5_13) rfl (fun K hK => ?_) AllReadyH.nil
      go_simp
      obtain ⟨w5, hq5⟩ : ∃ x, x = (wr.alloc (.cells (List.toArray [Value.int .u8 xv]) 5)).drew := ⟨_, rfl⟩
      have hx5 : Below wr.heap.size wr w5 := by rw [hq5]; exact Below.drew ((Below.refl _ _).alloc (Nat.le_refl _) _)
      have hop3 : Below w.heap.size w w5 := hbk.trans (hx5.mono hbk.size)
      have HR5 : Hid (Rd .u8 (wr.heap.size + 1) w5 (some ⟨wr.heap.size, 0, none⟩) [xv]) := by rw [hq5]; exact rd_one .u8 wr xv 5
      have HO5 := Hid.mk (own_below hown hx5)
      rw [← hq5]
      clear hq5
      refine hK.out _ _ (hop3) (fun hHeld => ?_)
      clear hK K
      try simp only [Act.put, sa, s0, s1]
      refine wpAnyH_ready (rs := [14]) (by kernel_rfl) (by simp) ?_
      refine AllReadyH.cons (o := q674_18_5_14) rfl (fun K hK => ?_) AllReadyH.nil
      refine step_append_src w5 rfl _ _ 60 60 rfl w.heap.size 5 i0 (.int .u8 0) 1 1 Tryz.underlying60 HI.out.1 HI.out.2.1 HI.out.2.2.1 HI.out.2.2.2 rfl _ out.length (out.map (Value.int .u8)) rfl HO5.out (.slice (some ⟨wr.heap.size, 0, none⟩) 1 1) rfl 1 ([xv].map (Value.int .u8)) (Src.rd Tryz.underlying60 rfl HR5.out) (by unfold maxLen; omega) (by omega) hop3.size ?_
      intro v6 w6 ho6 hgr6 hat6
      have hop4 : Below w.heap.size w w6 := hop3.grown hgr6 hop3.size (fun k h => (HO5.out.lt k h).1)
      have HO6 : Hid (w6.ownsRow w.heap.size 5 1 v6 (out ++ [xv]).length ((out ++ [xv]).map (Value.int .u8))) := own_congr ho6 (by simp) (by simp)
      clear ho6 hgr6 hat6
      refine hK.out _ _ (hop4) (fun hHeld => ?_)
      clear hK K
      try simp only [Act.put, sa, s0, s1]
      refine tk 15 q674_18_5_15 (some 3) (v := ?v12) rfl rfl (by kernel_rfl) hHeld (by rfl) (fun _ _ _ x => x) (fun w h => ?y12) ?_; (case y12 => (try dsimp only at h); go_simp; try (with_reducible rfl)); try simp only [Act.put, sa, s0, s1]
      refine wpAnyH_done (by kernel_rfl) ?_ _
      go_wp2_with fail
      go_roundw
      case rel => exact ⟨k + 1, by have := HJ.out; omega, by rw [HJ.out]; congr 1, by rw [HZ.out]; exact HO6.out, hop4⟩
      case measure => simp [intOf]; have := HJ.out; omega
    · have HU : Hid (unhexP (l.take (2 * k)) = unhexP l) := unhex_all k l (by rw [HSL.out]; exact hlt) (by rw [HSL.out]; exact hk)
      rw [HU.out] at hown
      have hcv := conv_hex hown
      rw [zOf_str] at hcv
      have hn : ¬ ((2 * k : Nat) : Int) + 1 < (s.size : Int) := by omega
      go_wp2_with fail
      go_ret
      exact ⟨rfl, hbk⟩

end Go.Proofs.YtnohnkcijomdjaaGreatDoor
