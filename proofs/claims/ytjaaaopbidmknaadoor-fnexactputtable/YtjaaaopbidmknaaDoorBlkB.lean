/-
  The program's body of a block.
-/
import Derived.Test.YtjaaaopbidmknaaDoorRegK
import Derived.Test.YtjaaaopbidmknaaDoorPutP
import Derived.Test.YtjaaaopbidmknaaDoorPuts
namespace Go.Proofs.YtjaaaopbidmknaaDoor
open Go.RowKit
set_option linter.unusedVariables false
set_option linter.unusedSimpArgs false
set_option maxRecDepth 10000
abbrev qa49_82_7_0 : Oper := ⟨some 18, .move (.tmp 3), 27, "l05_table.go:144", #[], none⟩
abbrev qa49_82_7_1 : Oper := ⟨some 19, .move (.tmp 7), 3, "l05_table.go:144", #[], none⟩
abbrev qa49_82_7_4 : Oper := ⟨some 22, .fieldAddr 45 (.tmp 6) 0, 0, "l05_table.go:144", #[], none⟩
abbrev qa49_82_7_5 : Oper := ⟨some 23, .load 9 (.tmp 22), 9, "l05_table.go:144", #[⟨4, .data⟩], none⟩
abbrev qa49_82_7_6 : Oper := ⟨some 24, .move (.tmp 7), 3, "l05_table.go:144", #[], none⟩
abbrev qa49_82_7_7 : Oper := ⟨some 25, .slice 9 (.tmp 23) (some (.tmp 24)) none none, 9, "l05_table.go:144", #[⟨5, .data⟩, ⟨6, .data⟩], none⟩
abbrev qa49_82_7_8 : Oper := ⟨some 26, .load 45 (.tmp 6), 45, "l05_table.go:144", #[], none⟩
abbrev qa49_82_7_2 : Oper := ⟨some 20, .buildSlice 73 1 #[(0, .tmp 19)], 73, "l05_table.go:144", #[⟨1, .data⟩], none⟩
abbrev qa49_82_7_3 : Oper := ⟨some 21, .call { callee := .value (.func 105), args := #[.tmp 18, .tmp 20], argTypes := #[27, 73] }, 27, "l05_table.go:144", #[⟨0, .data⟩, ⟨2, .data⟩], none⟩
abbrev qa49_82_7_9 : Oper := ⟨some 27, .call { callee := .value (.func 117), args := #[.tmp 21, .tmp 25, .tmp 26], argTypes := #[27, 9, 45] }, 27, "l05_table.go:144", #[⟨3, .data⟩, ⟨7, .data⟩, ⟨8, .data⟩, ⟨3, .chain⟩], none⟩
abbrev qa49_82_7_10 : Oper := ⟨some 3, .assign (.tmp 27), 27, "l05_table.go:144", #[⟨9, .data⟩, ⟨9, .chain⟩, ⟨0, .phase⟩, ⟨1, .phase⟩, ⟨2, .phase⟩, ⟨3, .phase⟩, ⟨4, .phase⟩, ⟨5, .phase⟩, ⟨6, .phase⟩, ⟨7, .phase⟩, ⟨8, .phase⟩, ⟨9, .phase⟩], none⟩

theorem own_nil (w : World) (base e size : Nat) (h : base ≤ w.heap.size) : w.ownsRow base e size (.slice none 0 0) 0 [] := ⟨by simp, .inl ⟨rfl, rfl⟩⟩

set_option maxHeartbeats 4000000 in
theorem blockBody_any (a : Option Addr) (n c : Nat) (l : List MPair) (w : World) (hx : l.length = n) (hn : n ≤ 1048576) (hL : LeafL 3 rPair w.heap.size w a c l) (hw : sumW wPair l ≤ 1048576) :
    Calls Tryd.prog 82 #[.slice a n c] w fun e w' => ∃ v, e = .returned v ∧
      w'.ownsRow w.heap.size 5 1 v (blockB ByteArray.empty l).length ((blockB ByteArray.empty l).map (Value.int .u8)) ∧ Below w.heap.size w w' := by
  have HX := Hid.mk hx
  have HL := Hid.mk hL
  have hbd := fun k => blockB_bd (l := l) (B := 33554432) (by omega) k
  clear hx hL
  go_enter Tryd.func82, Tryd.ntmps82
  go_wp2_with fail
  go_loopw [3, 4, 10] (fun b last i wr => ∃ k : Nat, k ≤ n ∧ i = .int .i64 k ∧ last = .string (lastK ByteArray.empty (l.take k)) ∧ wr.ownsRow w.heap.size 5 1 b (blockB ByteArray.empty (l.take k)).length ((blockB ByteArray.empty (l.take k)).map (Value.int .u8)) ∧ Below w.heap.size w wr) (fun _ _ i _ => n - (intOf i).toNat)
  case atStart => exact ⟨0, Nat.zero_le _, rfl, rfl, own_nil w _ _ 1 (Nat.le_refl _), Below.refl _ _⟩
  case round =>
    obtain ⟨k, hk, rfl, rfl, hownk, hbk⟩ := hrel
    by_cases hlt : k < n
    · have hkl : k < l.length := by rw [HX.out]; exact hlt
      have HS := Hid.mk (blockB_step hkl)
      have HK := Hid.mk (lastK_step hkl)
      have hlk := lastK_small hw k
      have hzl := hbd k
      have hwk := sumW_le (f := wPair) hkl
      obtain ⟨b1, o1, rfl, hbB, cs, hcl, hcell, hrT⟩ := (HL.out.2.2.below rPair_good hbk) k hkl
      have HSP : Hid (wPair l[k] = l[k].fKey.size + l[k].fVal.size) := rfl
      have HPP := Hid.mk (pair_put (blockB ByteArray.empty (l.take k)) (lastK ByteArray.empty (l.take k)) l[k])
      generalize l[k] = p at *
      obtain ⟨rfl, h0, h1, h2, _⟩ := hrT
      have hsk : p.fKey.size ≤ 1048576 := by have := HSP.out; omega
      have hsv : p.fVal.size ≤ 1048576 := by have := HSP.out; omega
      have k0 := hcell 0 _ rfl
      have k1 := hcell 1 _ rfl
      have k2 := hcell 2 _ rfl
      rw [Nat.add_zero] at k0
      clear hcell hcl
      generalize blockB ByteArray.empty (l.take k) = zs at *
      generalize lastK ByteArray.empty (l.take k) = lk at *
      obtain ⟨ra, qa, rfl, _, hrd⟩ := own_rd rfl hownk
      have HRD := Hid.mk hrd
      clear hownk hrd
      obtain ⟨wp, hwp⟩ : ∃ wp, wp = wr.alloc (.cells #[.string p.fKey, .string p.fVal, .bool p.fGone] 45) := ⟨_, rfl⟩
      have hbp : Below wr.heap.size wr wp := by rw [hwp]; exact (Below.refl _ _).alloc (Nat.le_refl _) _
      have hbv : Bx wp wr.heap.size [.string p.fKey, .string p.fVal, .bool p.fGone] := by rw [hwp]; exact Bx.new _ _ _
      go_wp2_with fail
      rw [← hwp]
      clear hwp k0 k1 k2
      refine (implCom_any lk p.fKey wp (by omega) (by omega)).mono ?_
      rintro e w1 ⟨rfl, hx1⟩
      have hb1 := bthen hbp hx1
      have hB1 := hbk.trans (hb1.mono hbk.size)
      have hbv1 := hbv.under hx1
      have hcm := com_le lk p.fKey
      generalize com lk p.fKey = q at *
      have hR1 := (HRD.out.below hb1).mono hb1.size
      obtain ⟨g, hg⟩ : ∃ g, g = wr.heap.size := ⟨_, rfl⟩
      rw [← hg] at hbv1 ⊢
      have hgl := hbv1.1
      clear hbv hg
      have y0 := hbv1.2 0 _ rfl
      have y1 := hbv1.2 1 _ rfl
      have y2 := hbv1.2 2 _ rfl
      have HC : Hid (∀ W, Below w1.heap.size w1 W → W.cell? ⟨g, 0, none⟩ = some (.string p.fKey) ∧ W.cell? ⟨g, 1, none⟩ = some (.string p.fVal) ∧ W.cell? ⟨g, 2, none⟩ = some (.bool p.fGone)) := fun W hW =>
        ⟨(hW.cell (p := ⟨g, 0, none⟩) hgl).trans y0, (hW.cell (p := ⟨g, 1, none⟩) hgl).trans y1, (hW.cell (p := ⟨g, 2, none⟩) hgl).trans y2⟩
      obtain ⟨y, HY⟩ : ∃ y, Hid (y = p.fKey.extract q p.fKey.size) := ⟨_, rfl⟩
      have hys : y.size ≤ 1048576 := by rw [HY.out]; have := ext_size p.fKey q; omega
      have hpl := putNum_length (clampN q)
      obtain ⟨z2, HZ2⟩ : ∃ z, Hid (z = zs ++ putNum (clampN q)) := ⟨_, rfl⟩
      have hl2 : z2.length ≤ 33554437 := by rw [HZ2.out, List.length_append]; omega
      go_wp2_with fail
      refine wp_region_held_drew (S := fun W => (W.cell? ⟨g, 0, none⟩ = some (.string p.fKey) ∧ W.cell? ⟨g, 1, none⟩ = some (.string p.fVal) ∧ W.cell? ⟨g, 2, none⟩ = some (.bool p.fGone)) ∧ Below w1.heap.size w1 W) (by kernel_rfl) (⟨⟨y0, y1, y2⟩, Below.drew (Below.refl _ _)⟩) (fun hHeld => ?_)
      refine tk 0 qa49_82_7_0 (some 18) (v := ?v1) rfl rfl (by kernel_rfl) hHeld (by rfl) (fun _ _ _ x => x) (fun w h => ?y1) ?_; (case y1 => (try dsimp only at h); go_simp; try (with_reducible rfl)); try simp only [Act.put, sa, s0, s1]
      refine tk 1 qa49_82_7_1 (some 19) (v := ?v2) rfl rfl (by kernel_rfl) hHeld (by rfl) (fun _ _ _ x => x) (fun w h => ?y2) ?_; (case y2 => (try dsimp only at h); go_simp; try (with_reducible rfl)); try simp only [Act.put, sa, s0, s1]
      refine tk 4 qa49_82_7_4 (some 22) (v := ?v3) rfl rfl (by kernel_rfl) hHeld (by rfl) (fun _ _ _ x => x) (fun w h => ?y3) ?_; (case y3 => (try dsimp only at h); go_simp; try (with_reducible rfl)); try simp only [Act.put, sa, s0, s1]
      refine tk 5 qa49_82_7_5 (some 23) (v := ?v4) rfl rfl (by kernel_rfl) hHeld (by rfl) (fun _ _ _ x => x) (fun w h => ?y4) ?_; (case y4 => (try dsimp only at h); go_simp; try (with_reducible rfl)); try simp only [Act.put, sa, s0, s1]
      refine tk 6 qa49_82_7_6 (some 24) (v := ?v5) rfl rfl (by kernel_rfl) hHeld (by rfl) (fun _ _ _ x => x) (fun w h => ?y5) ?_; (case y5 => (try dsimp only at h); go_simp; try (with_reducible rfl)); try simp only [Act.put, sa, s0, s1]
      refine tk 7 qa49_82_7_7 (some 25) (v := ?v6) rfl rfl (by kernel_rfl) hHeld (by rfl) (fun _ _ _ x => x) (fun w h => ?y6) ?_; (case y6 => (try dsimp only at h); go_simp; try (with_reducible rfl)); try simp only [Act.put, sa, s0, s1]
      refine tk 8 qa49_82_7_8 (some 26) (v := ?v7) rfl rfl (by kernel_rfl) hHeld (by rfl) (fun _ _ _ x => x) (fun w h => ?y7) ?_; (case y7 => (try dsimp only at h); go_simp; try (with_reducible rfl)); try simp only [Act.put, sa, s0, s1]
      refine wpAnyH_ready (rs := [2]) (by kernel_rfl) (by simp) ?_
      refine AllReadyH.cons (o := qa49_82_7_2) rfl (fun K hK => ?_) AllReadyH.nil
      go_simp
      obtain ⟨w5, hq5⟩ : ∃ x, x = (w1.alloc (.cells (List.toArray [Value.int .i64 q]) 3)).drew := ⟨_, rfl⟩
      have hop1 : Below w1.heap.size w1 w5 := by rw [hq5]; exact Below.drew ((Below.refl _ _).alloc (Nat.le_refl _) _)
      have HR5 : Hid (Rd .i64 w5.heap.size w5 (some ⟨w1.heap.size, 0, none⟩) [(q : Int)]) := by unfold Hid; rw [hq5]; exact (rd_one .i64 w1 (q : Int) 3).mono (by simp)
      rw [← hq5]
      clear hq5
      refine hK.out _ _ (⟨HC.out _ hop1, hop1⟩) (fun hHeld => ?_)
      clear hK K
      try simp only [Act.put, sa, s0, s1]
      refine wpAnyH_ready (rs := [3]) (by kernel_rfl) (by simp) ?_
      refine AllReadyH.cons (o := qa49_82_7_3) rfl (fun K hK => ?_) AllReadyH.nil
      go_simp
      refine Calls.mono (putNums_any ra (some ⟨w1.heap.size, 0, none⟩) zs.length qa 1 1 zs [(q : Int)] w5 rfl rfl (by omega) (by omega) ((hR1.below hop1).mono hop1.size) HR5.out) ?_
      rintro e w6 ⟨v6, rfl, ho6, hx2⟩
      have hop2 := hHeld.2.trans (hx2.mono hHeld.2.size)
      have ho6' : w6.ownsRow w5.heap.size 5 1 v6 z2.length (z2.map (Value.int .u8)) := own_congr ho6 (by rw [HZ2.out, List.length_append]; simp [putNums]) (by rw [HZ2.out]; simp [putNums])
      obtain ⟨r6, q6, rfl, _, hr6⟩ := own_rd rfl ho6'
      clear ho6 ho6'
      go_wp2_with fail
      refine hK.out _ _ (⟨HC.out _ hop2, hop2⟩) (fun hHeld => ?_)
      clear hK K
      try simp only [Act.put, sa, s0, s1]
      refine wpAnyH_ready (rs := [9]) (by kernel_rfl) (by simp) ?_
      refine AllReadyH.cons (o := qa49_82_7_9) rfl (fun K hK => ?_) AllReadyH.nil
      go_simp
      rw [← HY.out]
      refine Calls.mono (putPair_any r6 _ q6 z2 y p w6 rfl (by omega) hr6 (by omega) (by omega)) ?_
      rintro e w7 ⟨v7, rfl, ho7, hx3⟩
      have hop3 := hHeld.2.trans (hx3.mono hHeld.2.size)
      have HO7 : Hid (w7.ownsRow w.heap.size 5 1 v7 (zs ++ pairB lk p).length ((zs ++ pairB lk p).map (Value.int .u8))) := by have h := own_base ho7 (Nat.le_trans hB1.size hHeld.2.size); rw [HZ2.out, HY.out, HPP.out] at h; exact h
      clear ho7
      go_wp2_with fail
      refine hK.out _ _ (⟨HC.out _ hop3, hop3⟩) (fun hHeld => ?_)
      clear hK K
      try simp only [Act.put, sa, s0, s1]
      refine tk 10 qa49_82_7_10 (some 3) (v := ?v8) rfl rfl (by kernel_rfl) hHeld (by rfl) (fun _ _ _ x => x) (fun w h => ?y8) ?_; (case y8 => (try dsimp only at h); go_simp; try (with_reducible rfl)); try simp only [Act.put, sa, s0, s1]
      refine wpAnyH_done (by kernel_rfl) ?_ _
      have k7 := (HC.out _ hop3).1
      go_wp2_with fail
      go_roundw
      case rel => exact ⟨k + 1, by omega, by go_num, by rw [HK.out], by rw [HS.out]; exact HO7.out, hB1.trans (hop3.mono hB1.size)⟩
      case measure => simp [intOf]; omega
    · have HT1 : Hid (l.take k = l) := List.take_of_length_le (by rw [HX.out]; omega)
      rw [HT1.out] at hownk
      go_wp2_with fail
      go_ret
      exact ⟨_, rfl, hownk, hbk⟩

end Go.Proofs.YtjaaaopbidmknaaDoor
