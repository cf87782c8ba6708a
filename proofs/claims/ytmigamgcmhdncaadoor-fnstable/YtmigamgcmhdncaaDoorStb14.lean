/-
  Part 15 of the texts that the proof leans on.
-/
import Derived.Test.YtmigamgcmhdncaaDoorStb0
import Derived.Test.YtmigamgcmhdncaaDoorStb13
import Derived.Test.YtmigamgcmhdncaaDoorStb4
import Derived.Laws.BitsAllLaws
set_option linter.unusedVariables false
set_option linter.unusedSimpArgs false
set_option maxRecDepth 10000

namespace Go.Proofs.YtmigamgcmhdncaaDoor
open Go.RowKit
abbrev qa22_51_4_0 : Oper := ⟨some 11, .move (.tmp 0), 111, "l08_graph.go:219", #[], none⟩
abbrev qa22_51_4_1 : Oper := ⟨some 12, .move (.tmp 4), 3, "l08_graph.go:219", #[], none⟩
abbrev qa22_51_4_2 : Oper := ⟨some 13, .nilCheck (.tmp 11), 0, "l08_graph.go:219", #[⟨0, .data⟩], none⟩
abbrev qa22_51_4_3 : Oper := ⟨some 14, .indexAddr 66 (.tmp 13) (.tmp 12), 0, "l08_graph.go:219", #[⟨2, .data⟩, ⟨1, .data⟩], none⟩
abbrev qa22_51_4_5 : Oper := ⟨some 16, .move (.tmp 5), 64, "l08_graph.go:219", #[], none⟩
abbrev qa22_51_4_7 : Oper := ⟨some 18, .nilCheck (.tmp 11), 0, "l08_graph.go:219", #[⟨0, .data⟩], none⟩
abbrev qa22_51_4_4 : Oper := ⟨some 15, .load 64 (.tmp 14), 64, "l08_graph.go:219", #[⟨3, .data⟩], none⟩
abbrev qa22_51_4_6 : Oper := ⟨some 17, .binOp .or 64 (.tmp 15) (.tmp 16) 64, 64, "l08_graph.go:219", #[⟨4, .data⟩, ⟨5, .data⟩], none⟩
abbrev qa22_51_4_8 : Oper := ⟨some 19, .indexAddr 66 (.tmp 18) (.tmp 12), 0, "l08_graph.go:219", #[⟨7, .data⟩, ⟨1, .data⟩, ⟨0, .phase⟩, ⟨1, .phase⟩, ⟨2, .phase⟩, ⟨3, .phase⟩, ⟨4, .phase⟩, ⟨5, .phase⟩, ⟨6, .phase⟩], none⟩
abbrev qa22_51_4_9 : Oper := ⟨none, .store 64 (.tmp 19) (.tmp 17), 0, "l08_graph.go:219", #[⟨8, .data⟩, ⟨6, .data⟩, ⟨0, .phase⟩, ⟨1, .phase⟩, ⟨2, .phase⟩, ⟨3, .phase⟩, ⟨4, .phase⟩, ⟨5, .phase⟩, ⟨6, .phase⟩], none⟩

def MSet.join (s t : MSet) : MSet := ⟨s.x0 ||| t.x0, s.x1 ||| t.x1⟩
theorem MSet.join_ok {s t : MSet} (hs : s.ok) (ht : t.ok) : (s.join t).ok := ⟨Nat.or_lt_two_pow (n := 64) hs.1 ht.1, Nat.or_lt_two_pow (n := 64) hs.2 ht.2⟩
theorem MSet.join_has {s t : MSet} {k : Nat} : (s.join t).has k = (s.has k || t.has k) := by
  by_cases h : k < 64
  · rw [MSet.has_lo h, MSet.has_lo h, MSet.has_lo h]; exact Nat.testBit_or ..
  · rw [MSet.has_hi h, MSet.has_hi h, MSet.has_hi h]; exact Nat.testBit_or ..

theorem Tryd.infoOfWord : (Tryd.prog.info? 64).map (fun i => (i.zero, i.size, i.bytes)) = some (some (.int .u64 0), 1, 8) := by kernel_rfl
theorem set_ix0 (x y : Int) (w : World) : (Instr.index 66 (.agg #[.int .u64 x, .int .u64 y]) (.int .i64 0)).run Tryd.prog w = .ok (.int .u64 x) w := by
  obtain ⟨iU, hiU, hz0, hz1, hz2⟩ := info_parts Tryd.infoOfWord
  have h := Tryd.underlying66
  simp [Instr.index, run_underlying h, asIntOf, sizeOf, typeInfo, part, hiU, hz1, Sem.run_pure]
theorem set_ix1 (x y : Int) (w : World) : (Instr.index 66 (.agg #[.int .u64 x, .int .u64 y]) (.int .i64 1)).run Tryd.prog w = .ok (.int .u64 y) w := by
  obtain ⟨iU, hiU, hz0, hz1, hz2⟩ := info_parts Tryd.infoOfWord
  have h := Tryd.underlying66
  simp [Instr.index, run_underlying h, asIntOf, sizeOf, typeInfo, part, hiU, hz1, Sem.run_pure]

set_option maxHeartbeats 2000000 in
theorem join_any (b o : Nat) (T : TypeId) (vs : List Value) (s t : MSet) (w : World) (hs : s.ok) (ht : t.ok) (hb : Bw w b T vs) (h0 : vs[o]? = some (.int .u64 (s.x0 : Int))) (h1 : vs[o + 1]? = some (.int .u64 (s.x1 : Int))) :
    Calls Tryd.prog 51 #[.pointer (some ⟨b, o, none⟩), .agg t.cells.toArray] w fun e w' => e = .returned (.tuple #[]) ∧ Bw w' b T ((vs.set o (.int .u64 ((s.join t).x0 : Int))).set (o + 1) (.int .u64 ((s.join t).x1 : Int))) ∧ Turn [b] w w' := by
  obtain ⟨X0, X1⟩ := s
  obtain ⟨Y0, Y1⟩ := t
  obtain ⟨s0, s1⟩ := hs
  obtain ⟨t0, t1⟩ := ht
  have HE0 := Hid.mk (bits_or_u64_nat X0 Y0 s0 t0)
  have HE1 := Hid.mk (bits_or_u64_nat X1 Y1 s1 t1)
  show Calls Tryd.prog 51 #[.pointer (some ⟨b, o, none⟩), .agg #[.int .u64 (Y0 : Int), .int .u64 (Y1 : Int)]] w fun e w' => e = .returned (.tuple #[]) ∧ Bw w' b T ((vs.set o (.int .u64 ((X0 ||| Y0 : Nat) : Int))).set (o + 1) (.int .u64 ((X1 ||| Y1 : Nat) : Int))) ∧ Turn [b] w w'
  go_enter Tryd.func51, Tryd.ntmps51
  go_wp2_with fail
  obtain ⟨w1, hw1⟩ : ∃ x, x = w.alloc (.cells #[.int .u64 (Y0 : Int), .int .u64 (Y1 : Int)] 66) := ⟨_, rfl⟩
  have hb1 : Below w.heap.size w w1 := by rw [hw1]; exact (Below.refl _ _).alloc (Nat.le_refl _) _
  have hB1 := hb.under hb1
  rw [← hw1]
  clear hw1
  go_loopw [7] (fun iv wr => ∃ k : Nat, k ≤ 2 ∧ iv = .int .i64 k ∧ Hid ((k = 0 → Bw wr b T vs) ∧ (k = 1 → Bw wr b T (vs.set o (.int .u64 ((X0 ||| Y0 : Nat) : Int)))) ∧ (k = 2 → Bw wr b T ((vs.set o (.int .u64 ((X0 ||| Y0 : Nat) : Int))).set (o + 1) (.int .u64 ((X1 ||| Y1 : Nat) : Int))))) ∧ Turn [b] w wr) (fun iv _ => 2 - (intOf iv).toNat)
  case atStart => exact ⟨0, by omega, rfl, ⟨fun _ => hB1, fun h => by omega, fun h => by omega⟩, Turn.ofBelow hb1⟩
  case round =>
    obtain ⟨k, hk, rfl, HB, hT⟩ := hrel
    rcases (by omega : k = 0 ∨ k = 1 ∨ k = 2) with rfl | rfl | rfl
    · have hBk := HB.out.1 rfl
      have c0 := hBk.cell o _ h0
      have f0 := hBk.free o
      have hl := hBk.lt
      have HN := Hid.mk (hBk.put o (.int .u64 ((X0 ||| Y0 : Nat) : Int)))
      have hix := set_ix0 (Y0 : Int) (Y1 : Int)
      have he := HE0.out
      go_wp2_with fail
      refine wp_region_held_drew (S := fun W => True) (by kernel_rfl) (trivial) (fun hHeld => ?_)
      refine tk 0 qa22_51_4_0 (some 11) (v := ?v1) rfl rfl (by kernel_rfl) hHeld (by rfl) (fun _ _ _ x => x) (fun w h => ?y1) ?_; (case y1 => (try dsimp only at h); go_simp; try (with_reducible rfl)); try simp only [Act.put, sa, s0, s1]
      refine tk 1 qa22_51_4_1 (some 12) (v := ?v2) rfl rfl (by kernel_rfl) hHeld (by rfl) (fun _ _ _ x => x) (fun w h => ?y2) ?_; (case y2 => (try dsimp only at h); go_simp; try (with_reducible rfl)); try simp only [Act.put, sa, s0, s1]
      refine tk 2 qa22_51_4_2 (some 13) (v := ?v3) rfl rfl (by kernel_rfl) hHeld (by rfl) (fun _ _ _ x => x) (fun w h => ?y3) ?_; (case y3 => (try dsimp only at h); go_simp; try (with_reducible rfl)); try simp only [Act.put, sa, s0, s1]
      refine tk 3 qa22_51_4_3 (some 14) (v := ?v4) rfl rfl (by kernel_rfl) hHeld (by rfl) (fun _ _ _ x => x) (fun w h => ?y4) ?_; (case y4 => (try dsimp only at h); go_simp; try (with_reducible rfl)); try simp only [Act.put, sa, s0, s1]
      refine tk 5 qa22_51_4_5 (some 16) (v := ?v5) rfl rfl (by kernel_rfl) hHeld (by rfl) (fun _ _ _ x => x) (fun w h => ?y5) ?_; (case y5 => (try dsimp only at h); go_simp; try (with_reducible rfl)); try simp only [Act.put, sa, s0, s1]
      refine tk 7 qa22_51_4_7 (some 18) (v := ?v6) rfl rfl (by kernel_rfl) hHeld (by rfl) (fun _ _ _ x => x) (fun w h => ?y6) ?_; (case y6 => (try dsimp only at h); go_simp; try (with_reducible rfl)); try simp only [Act.put, sa, s0, s1]
      refine wpAnyH_ready (rs := [4]) (by kernel_rfl) (by simp) ?_
      refine AllReadyH.cons (o := qa22_51_4_4) rfl (fun K hK => ?_) AllReadyH.nil
      go_simp
      skip
      refine hK.out _ _ (trivial) (fun hHeld => ?_)
      clear hK K
      try simp only [Act.put, sa, s0, s1]
      refine tk 6 qa22_51_4_6 (some 17) (v := ?v7) rfl rfl (by kernel_rfl) hHeld (by rfl) (fun _ _ _ x => x) (fun w h => ?y7) ?_; (case y7 => (try dsimp only at h); go_simp; try (with_reducible rfl)); try simp only [Act.put, sa, s0, s1]
      refine tk 8 qa22_51_4_8 (some 19) (v := ?v8) rfl rfl (by kernel_rfl) hHeld (by rfl) (fun _ _ _ x => x) (fun w h => ?y8) ?_; (case y8 => (try dsimp only at h); go_simp; try (with_reducible rfl)); try simp only [Act.put, sa, s0, s1]
      refine wpAnyH_ready (rs := [9]) (by kernel_rfl) (by simp) ?_
      refine AllReadyH.cons (o := qa22_51_4_9) rfl (fun K hK => ?_) AllReadyH.nil
      go_simp
      refine hK.out _ _ (trivial) (fun hHeld => ?_)
      clear hK K
      try simp only [Act.put, sa, s0, s1]
      refine wpAnyH_done (by kernel_rfl) ?_ _
      go_wp2_with fail
      go_roundw
      case rel => exact ⟨1, by omega, by go_num, ⟨fun h => by omega, fun _ => HN.out, fun h => by omega⟩, (hT.trans (Turn.ofBelow (Below.drew (Below.refl _ _)))).setCell (by simp) _⟩
      case measure => simp [intOf]
    · have hBk := HB.out.2.1 rfl
      have hne : (vs.set o (.int .u64 ((X0 ||| Y0 : Nat) : Int)))[o + 1]? = some (.int .u64 (X1 : Int)) := by rw [List.getElem?_set_ne (by omega)]; exact h1
      have c0 := hBk.cell (o + 1) _ hne
      have f0 := hBk.free (o + 1)
      have hl := hBk.lt
      have HN := Hid.mk (hBk.put (o + 1) (.int .u64 ((X1 ||| Y1 : Nat) : Int)))
      have hix := set_ix1 (Y0 : Int) (Y1 : Int)
      have he := HE1.out
      clear hne
      go_wp2_with fail
      refine wp_region_held_drew (S := fun W => True) (by kernel_rfl) (trivial) (fun hHeld => ?_)
      refine tk 0 qa22_51_4_0 (some 11) (v := ?v9) rfl rfl (by kernel_rfl) hHeld (by rfl) (fun _ _ _ x => x) (fun w h => ?y9) ?_; (case y9 => (try dsimp only at h); go_simp; try (with_reducible rfl)); try simp only [Act.put, sa, s0, s1]
      refine tk 1 qa22_51_4_1 (some 12) (v := ?v10) rfl rfl (by kernel_rfl) hHeld (by rfl) (fun _ _ _ x => x) (fun w h => ?y10) ?_; (case y10 => (try dsimp only at h); go_simp; try (with_reducible rfl)); try simp only [Act.put, sa, s0, s1]
      refine tk 2 qa22_51_4_2 (some 13) (v := ?v11) rfl rfl (by kernel_rfl) hHeld (by rfl) (fun _ _ _ x => x) (fun w h => ?y11) ?_; (case y11 => (try dsimp only at h); go_simp; try (with_reducible rfl)); try simp only [Act.put, sa, s0, s1]
      refine tk 3 qa22_51_4_3 (some 14) (v := ?v12) rfl rfl (by kernel_rfl) hHeld (by rfl) (fun _ _ _ x => x) (fun w h => ?y12) ?_; (case y12 => (try dsimp only at h); go_simp; try (with_reducible rfl)); try simp only [Act.put, sa, s0, s1]
      refine tk 5 qa22_51_4_5 (some 16) (v := ?v13) rfl rfl (by kernel_rfl) hHeld (by rfl) (fun _ _ _ x => x) (fun w h => ?y13) ?_; (case y13 => (try dsimp only at h); go_simp; try (with_reducible rfl)); try simp only [Act.put, sa, s0, s1]
      refine tk 7 qa22_51_4_7 (some 18) (v := ?v14) rfl rfl (by kernel_rfl) hHeld (by rfl) (fun _ _ _ x => x) (fun w h => ?y14) ?_; (case y14 => (try dsimp only at h); go_simp; try (with_reducible rfl)); try simp only [Act.put, sa, s0, s1]
      refine wpAnyH_ready (rs := [4]) (by kernel_rfl) (by simp) ?_
      refine AllReadyH.cons (o := qa22_51_4_4) rfl (fun K hK => ?_) AllReadyH.nil
      go_simp
      skip
      refine hK.out _ _ (trivial) (fun hHeld => ?_)
      clear hK K
      try simp only [Act.put, sa, s0, s1]
      refine tk 6 qa22_51_4_6 (some 17) (v := ?v15) rfl rfl (by kernel_rfl) hHeld (by rfl) (fun _ _ _ x => x) (fun w h => ?y15) ?_; (case y15 => (try dsimp only at h); go_simp; try (with_reducible rfl)); try simp only [Act.put, sa, s0, s1]
      refine tk 8 qa22_51_4_8 (some 19) (v := ?v16) rfl rfl (by kernel_rfl) hHeld (by rfl) (fun _ _ _ x => x) (fun w h => ?y16) ?_; (case y16 => (try dsimp only at h); go_simp; try (with_reducible rfl)); try simp only [Act.put, sa, s0, s1]
      refine wpAnyH_ready (rs := [9]) (by kernel_rfl) (by simp) ?_
      refine AllReadyH.cons (o := qa22_51_4_9) rfl (fun K hK => ?_) AllReadyH.nil
      go_simp
      refine hK.out _ _ (trivial) (fun hHeld => ?_)
      clear hK K
      try simp only [Act.put, sa, s0, s1]
      refine wpAnyH_done (by kernel_rfl) ?_ _
      go_wp2_with fail
      go_roundw
      case rel => exact ⟨2, by omega, by go_num, ⟨fun h => by omega, fun h => by omega, fun _ => HN.out⟩, (hT.trans (Turn.ofBelow (Below.drew (Below.refl _ _)))).setCell (by simp) _⟩
      case measure => simp [intOf]
    · have HF := Hid.mk (HB.out.2.2 rfl)
      go_wp2_with fail
      exact bodyPost_end (v := .tuple #[]) (by simp [results, Tryd.results51, go_sem]) rfl ⟨rfl, HF.out, hT⟩


def MSet.less (s t : MSet) : MSet := ⟨s.x0 &&& (18446744073709551615 - t.x0), s.x1 &&& (18446744073709551615 - t.x1)⟩
theorem MSet.less_ok {s t : MSet} (hs : s.ok) : (s.less t).ok := ⟨Nat.lt_of_le_of_lt Nat.and_le_left hs.1, Nat.lt_of_le_of_lt Nat.and_le_left hs.2⟩
theorem word_less {x y k : Nat} (hy : y < 18446744073709551616) (hk : k < 64) : (x &&& (18446744073709551615 - y)).testBit k = (x.testBit k && !y.testBit k) := by
  rw [Nat.testBit_and]
  have e : 18446744073709551615 - y = 2 ^ 64 - (y + 1) := by omega
  rw [e, Nat.testBit_two_pow_sub_succ hy]
  simp [hk]
theorem MSet.less_has {s t : MSet} {k : Nat} (ht : t.ok) (hk : k < 128) : (s.less t).has k = (s.has k && !t.has k) := by
  by_cases h : k < 64
  · rw [MSet.has_lo h, MSet.has_lo h, MSet.has_lo h]; exact word_less ht.1 h
  · rw [MSet.has_hi h, MSet.has_hi h, MSet.has_hi h]; exact word_less ht.2 (by omega)

set_option maxHeartbeats 2000000 in
theorem without_any (s t : MSet) (w : World) (hs : s.ok) (ht : t.ok) :
    Calls Tryd.prog 50 #[.agg s.cells.toArray, .agg t.cells.toArray] w fun e w' => e = .returned (.agg (s.less t).cells.toArray) ∧ Below w.heap.size w w' := by
  obtain ⟨X0, X1⟩ := s
  obtain ⟨Y0, Y1⟩ := t
  obtain ⟨s0, s1⟩ := hs
  obtain ⟨t0, t1⟩ := ht
  have HE0 := Hid.mk (u64_andNot_nat X0 Y0 s0 t0)
  have HE1 := Hid.mk (u64_andNot_nat X1 Y1 s1 t1)
  show Calls Tryd.prog 50 #[.agg #[.int .u64 (X0 : Int), .int .u64 (X1 : Int)], .agg #[.int .u64 (Y0 : Int), .int .u64 (Y1 : Int)]] w fun e w' => e = .returned (.agg #[.int .u64 ((X0 &&& (18446744073709551615 - Y0) : Nat) : Int), .int .u64 ((X1 &&& (18446744073709551615 - Y1) : Nat) : Int)]) ∧ Below w.heap.size w w'
  obtain ⟨Z0, hZ0⟩ : ∃ z : Nat, z = X0 &&& (18446744073709551615 - Y0) := ⟨_, rfl⟩
  obtain ⟨Z1, hZ1⟩ : ∃ z : Nat, z = X1 &&& (18446744073709551615 - Y1) := ⟨_, rfl⟩
  rw [← hZ0] at HE0 ⊢
  rw [← hZ1] at HE1 ⊢
  clear hZ0 hZ1
  go_enter Tryd.func50, Tryd.ntmps50
  go_wp2_with fail
  obtain ⟨w1, hw1⟩ : ∃ x, x = ((w.alloc (.cells #[.int .u64 (X0 : Int), .int .u64 (X1 : Int)] 66)).alloc (.cells #[.int .u64 (Y0 : Int), .int .u64 (Y1 : Int)] 66)).alloc (.cells #[.int .u64 0, .int .u64 0] 66) := ⟨_, rfl⟩
  have hb1 : Below w.heap.size w w1 := by rw [hw1]; exact (((Below.refl _ _).alloc (Nat.le_refl _) _).alloc (by simp) _).alloc (by simp; omega) _
  have hX1 : Bw w1 w.heap.size 66 [.int .u64 (X0 : Int), .int .u64 (X1 : Int)] := by rw [hw1]; exact ((Bw.new _ _ _).alloc _).alloc _
  have hR1 : Bw w1 (w.heap.size + 1 + 1) 66 [.int .u64 0, .int .u64 0] := by rw [hw1]; exact Bw.new' _ _ _ (by simp)
  rw [← hw1]
  clear hw1
  go_loopw [8] (fun iv wr => ∃ k : Nat, k ≤ 2 ∧ iv = .int .i64 k ∧ Hid ((k = 0 → Bw wr w.heap.size 66 [.int .u64 (X0 : Int), .int .u64 (X1 : Int)]) ∧ (k = 1 → Bw wr w.heap.size 66 [.int .u64 (Z0 : Int), .int .u64 (X1 : Int)]) ∧ (k = 2 → Bw wr w.heap.size 66 [.int .u64 (Z0 : Int), .int .u64 (Z1 : Int)])) ∧ Bw wr (w.heap.size + 1 + 1) 66 [.int .u64 0, .int .u64 0] ∧ Below w.heap.size w wr) (fun iv _ => 2 - (intOf iv).toNat)
  case atStart => exact ⟨0, by omega, rfl, ⟨fun _ => hX1, fun h => by omega, fun h => by omega⟩, hR1, hb1⟩
  case round =>
    obtain ⟨k, hk, rfl, HB, hR, hT⟩ := hrel
    rcases (by omega : k = 0 ∨ k = 1 ∨ k = 2) with rfl | rfl | rfl
    · have hBk := HB.out.1 rfl
      have c0 := hBk.cell 0 _ rfl
      have f0 := hBk.free 0
      have hl := hBk.lt
      have HN := Hid.mk (hBk.put 0 (.int .u64 (Z0 : Int)))
      have hix := set_ix0 (Y0 : Int) (Y1 : Int)
      have he := HE0.out
      go_wp2_with fail
      go_roundw
      case rel => exact ⟨1, by omega, by go_num, ⟨fun h => by omega, fun _ => HN.out, fun h => by omega⟩, hR.turn ((Turn.refl [w.heap.size] _).setCell (by simp) _) (by simp; omega), hT.setCell (by simp) _⟩
      case measure => simp [intOf]
    · have hBk := HB.out.2.1 rfl
      have c0 := hBk.cell 1 _ rfl
      have f0 := hBk.free 1
      have hl := hBk.lt
      have HN := Hid.mk (hBk.put 1 (.int .u64 (Z1 : Int)))
      have hix := set_ix1 (Y0 : Int) (Y1 : Int)
      have he := HE1.out
      go_wp2_with fail
      go_roundw
      case rel => exact ⟨2, by omega, by go_num, ⟨fun h => by omega, fun h => by omega, fun _ => HN.out⟩, hR.turn ((Turn.refl [w.heap.size] _).setCell (by simp) _) (by simp; omega), hT.setCell (by simp) _⟩
      case measure => simp [intOf]
    · have hBk := HB.out.2.2 rfl
      have c0 := hBk.cell 0 _ rfl
      have c1 := hBk.cell 1 _ rfl
      have r0 := hR.cell 0 _ rfl
      have r1 := hR.cell 1 _ rfl
      have f0 := hR.free 0
      have f1 := hR.free 1
      have hl := hR.lt
      go_wp2_with fail
      exact bodyPost_ret (v := .agg #[.int .u64 (Z0 : Int), .int .u64 (Z1 : Int)]) (by simp [results, Tryd.results50, go_sem, *]) rfl ⟨rfl, (hT.setCell (by simp; omega) _).setCell (by simp; omega) _⟩

abbrev q9d4_90_0_0 : Oper := ⟨some 4, .move (.tmp 0), 111, "l08_graph.go:215", #[], none⟩
abbrev q9d4_90_0_1 : Oper := ⟨some 5, .move (.tmp 1), 3, "l08_graph.go:215", #[], none⟩
abbrev q9d4_90_0_2 : Oper := ⟨some 6, .binOp .quo 3 (.tmp 5) (.const (.int .i64 64)) 3, 3, "l08_graph.go:215", #[⟨1, .data⟩], none⟩
abbrev q9d4_90_0_3 : Oper := ⟨some 7, .nilCheck (.tmp 4), 0, "l08_graph.go:215", #[⟨0, .data⟩], none⟩
abbrev q9d4_90_0_4 : Oper := ⟨some 8, .indexAddr 66 (.tmp 7) (.tmp 6), 0, "l08_graph.go:215", #[⟨3, .data⟩, ⟨2, .data⟩], none⟩
abbrev q9d4_90_0_6 : Oper := ⟨some 10, .move (.tmp 1), 3, "l08_graph.go:215", #[], none⟩
abbrev q9d4_90_0_7 : Oper := ⟨some 11, .binOp .rem 3 (.tmp 10) (.const (.int .i64 64)) 3, 3, "l08_graph.go:215", #[⟨6, .data⟩], none⟩
abbrev q9d4_90_0_8 : Oper := ⟨some 12, .binOp .shl 64 (.const (.int .u64 1)) (.tmp 11) 3, 64, "l08_graph.go:215", #[⟨7, .data⟩], none⟩
abbrev q9d4_90_0_10 : Oper := ⟨some 14, .nilCheck (.tmp 4), 0, "l08_graph.go:215", #[⟨0, .data⟩], none⟩
abbrev q9d4_90_0_5 : Oper := ⟨some 9, .load 64 (.tmp 8), 64, "l08_graph.go:215", #[⟨4, .data⟩], none⟩
abbrev q9d4_90_0_9 : Oper := ⟨some 13, .binOp .or 64 (.tmp 9) (.tmp 12) 64, 64, "l08_graph.go:215", #[⟨5, .data⟩, ⟨8, .data⟩], none⟩
abbrev q9d4_90_0_11 : Oper := ⟨some 15, .indexAddr 66 (.tmp 14) (.tmp 6), 0, "l08_graph.go:215", #[⟨10, .data⟩, ⟨2, .data⟩, ⟨0, .phase⟩, ⟨1, .phase⟩, ⟨2, .phase⟩, ⟨3, .phase⟩, ⟨4, .phase⟩, ⟨5, .phase⟩, ⟨6, .phase⟩, ⟨7, .phase⟩, ⟨8, .phase⟩, ⟨9, .phase⟩], none⟩
abbrev q9d4_90_0_12 : Oper := ⟨none, .store 64 (.tmp 15) (.tmp 13), 0, "l08_graph.go:215", #[⟨11, .data⟩, ⟨9, .data⟩, ⟨0, .phase⟩, ⟨1, .phase⟩, ⟨2, .phase⟩, ⟨3, .phase⟩, ⟨4, .phase⟩, ⟨5, .phase⟩, ⟨6, .phase⟩, ⟨7, .phase⟩, ⟨8, .phase⟩, ⟨9, .phase⟩], none⟩

def MSet.add (s : MSet) (k : Nat) : MSet := bif decide (k < 64) then ⟨s.x0 ||| 2 ^ k, s.x1⟩ else ⟨s.x0, s.x1 ||| 2 ^ (k - 64)⟩
theorem MSet.add_lo {s : MSet} {k : Nat} (h : k < 64) : s.add k = ⟨s.x0 ||| 2 ^ k, s.x1⟩ := by unfold MSet.add; rw [decide_eq_true h]; rfl
theorem MSet.add_hi {s : MSet} {k : Nat} (h : ¬ k < 64) : s.add k = ⟨s.x0, s.x1 ||| 2 ^ (k - 64)⟩ := by unfold MSet.add; rw [decide_eq_false h]; rfl
theorem pow_word {k : Nat} (h : k < 64) : 2 ^ k < 18446744073709551616 := Nat.pow_lt_pow_right (a := 2) (by decide) h
theorem MSet.add_ok {s : MSet} {k : Nat} (hs : s.ok) (hk : k < 128) : (s.add k).ok := by
  by_cases h : k < 64
  · rw [MSet.add_lo h]; exact ⟨Nat.or_lt_two_pow (n := 64) hs.1 (pow_word h), hs.2⟩
  · rw [MSet.add_hi h]; exact ⟨hs.1, Nat.or_lt_two_pow (n := 64) hs.2 (pow_word (by omega))⟩
theorem MSet.add_has {s : MSet} {k j : Nat} (hk : k < 128) (hj : j < 128) : (s.add k).has j = (s.has j || decide (j = k)) := by
  by_cases h : k < 64
  · rw [MSet.add_lo h]
    by_cases g : j < 64
    · rw [MSet.has_lo g, MSet.has_lo g]
      show (s.x0 ||| 2 ^ k).testBit j = _
      rw [Nat.testBit_or, Nat.testBit_two_pow]
      congr 1
      exact decide_eq_decide.2 ⟨fun e => e.symm, fun e => e.symm⟩
    · rw [MSet.has_hi g, MSet.has_hi g, decide_eq_false (by omega), Bool.or_false]
  · rw [MSet.add_hi h]
    by_cases g : j < 64
    · rw [MSet.has_lo g, MSet.has_lo g, decide_eq_false (by omega), Bool.or_false]
    · rw [MSet.has_hi g, MSet.has_hi g]
      show (s.x1 ||| 2 ^ (k - 64)).testBit (j - 64) = _
      rw [Nat.testBit_or, Nat.testBit_two_pow]
      congr 1
      exact decide_eq_decide.2 (by omega)
theorem set_same {vs : List Value} {j : Nat} {v : Value} (h : vs[j]? = some v) : vs.set j v = vs := by
  apply List.ext_getElem?
  intro i
  rw [List.getElem?_set]
  split
  · next e => subst e; rw [h]; split
              · rfl
              · next hn => rw [List.getElem?_eq_none (by omega)] at h; cases h
  · rfl
theorem shl_word {k : Nat} (h : k < 64) : IntKind.u64.wrap (2 ^ k) = ((2 ^ k : Nat) : Int) := by
  have e : ((2 : Int) ^ k) = ((2 ^ k : Nat) : Int) := by rw [Int.natCast_pow]; rfl
  rw [e]
  have hp := pow_word h
  generalize 2 ^ k = z at *
  rw [IntKind.wrap_u64]
  omega

set_option maxHeartbeats 2000000 in
theorem add_any (b o k : Nat) (T : TypeId) (vs : List Value) (s : MSet) (w : World) (hs : s.ok) (hk : k < 128) (hb : Bw w b T vs) (h0 : vs[o]? = some (.int .u64 (s.x0 : Int))) (h1 : vs[o + 1]? = some (.int .u64 (s.x1 : Int))) :
    Calls Tryd.prog 90 #[.pointer (some ⟨b, o, none⟩), .int .i64 k] w fun e w' => e = .returned (.tuple #[]) ∧ Bw w' b T ((vs.set o (.int .u64 ((s.add k).x0 : Int))).set (o + 1) (.int .u64 ((s.add k).x1 : Int))) ∧ Turn [b] w w' := by
  have hw0 : IntKind.i64.wrap 0 = 0 := rfl
  by_cases hlo : k < 64
  · have he := bits_or_u64_nat s.x0 (2 ^ k) hs.1 (pow_word hlo)
    have HV : Hid ((vs.set o (.int .u64 ((s.add k).x0 : Int))).set (o + 1) (.int .u64 ((s.add k).x1 : Int)) = vs.set o (.int .u64 ((s.x0 ||| 2 ^ k : Nat) : Int))) := by
      unfold Hid
      rw [MSet.add_lo hlo]
      exact set_same (by rw [List.getElem?_set_ne (by omega)]; exact h1)
    rw [HV.out]
    have hd : (k : Int) / 64 = 0 := by omega
    have hm : (k : Int) % 64 = (k : Int) := by omega
    have htm : Int.tmod (k : Int) 64 = (k : Int) := by rw [Int.tmod_eq_emod_of_nonneg (by omega)]; omega
    have htd : Int.tdiv (k : Int) 64 = 0 := by rw [Int.tdiv_eq_ediv_of_nonneg (by omega)]; omega
    have c0 := hb.cell o _ h0
    have f0 := hb.free o
    have hl := hb.lt
    have hsh := shl_word hlo
    have HN := Hid.mk (hb.put o (.int .u64 ((s.x0 ||| 2 ^ k : Nat) : Int)))
    obtain ⟨p2, hp2⟩ : ∃ p : Nat, p = 2 ^ k := ⟨_, rfl⟩
    rw [← hp2] at he hsh HN ⊢
    clear hp2
    go_enter Tryd.func90, Tryd.ntmps90
    go_wp2_with fail
    refine wp_region_held_drew (S := fun W => True) (by kernel_rfl) (trivial) (fun hHeld => ?_)
    refine tk 0 q9d4_90_0_0 (some 4) (v := ?v1) rfl rfl (by kernel_rfl) hHeld (by rfl) (fun _ _ _ x => x) (fun w h => ?y1) ?_; (case y1 => (try dsimp only at h); go_simp; try (with_reducible rfl)); try simp only [Act.put, sa, s0, s1]
    refine tk 1 q9d4_90_0_1 (some 5) (v := ?v2) rfl rfl (by kernel_rfl) hHeld (by rfl) (fun _ _ _ x => x) (fun w h => ?y2) ?_; (case y2 => (try dsimp only at h); go_simp; try (with_reducible rfl)); try simp only [Act.put, sa, s0, s1]
    refine tk 2 q9d4_90_0_2 (some 6) (v := ?v3) rfl rfl (by kernel_rfl) hHeld (by rfl) (fun _ _ _ x => x) (fun w h => ?y3) ?_; (case y3 => (try dsimp only at h); go_simp; try (with_reducible rfl)); try simp only [Act.put, sa, s0, s1]
    refine tk 3 q9d4_90_0_3 (some 7) (v := ?v4) rfl rfl (by kernel_rfl) hHeld (by rfl) (fun _ _ _ x => x) (fun w h => ?y4) ?_; (case y4 => (try dsimp only at h); go_simp; try (with_reducible rfl)); try simp only [Act.put, sa, s0, s1]
    refine tk 4 q9d4_90_0_4 (some 8) (v := ?v5) rfl rfl (by kernel_rfl) hHeld (by rfl) (fun _ _ _ x => x) (fun w h => ?y5) ?_; (case y5 => (try dsimp only at h); go_simp; try (with_reducible rfl)); try simp only [Act.put, sa, s0, s1]
    refine tk 6 q9d4_90_0_6 (some 10) (v := ?v6) rfl rfl (by kernel_rfl) hHeld (by rfl) (fun _ _ _ x => x) (fun w h => ?y6) ?_; (case y6 => (try dsimp only at h); go_simp; try (with_reducible rfl)); try simp only [Act.put, sa, s0, s1]
    refine tk 7 q9d4_90_0_7 (some 11) (v := ?v7) rfl rfl (by kernel_rfl) hHeld (by rfl) (fun _ _ _ x => x) (fun w h => ?y7) ?_; (case y7 => (try dsimp only at h); go_simp; try (with_reducible rfl)); try simp only [Act.put, sa, s0, s1]
    refine tk 8 q9d4_90_0_8 (some 12) (v := ?v8) rfl rfl (by kernel_rfl) hHeld (by rfl) (fun _ _ _ x => x) (fun w h => ?y8) ?_; (case y8 => (try dsimp only at h); go_simp; try (with_reducible rfl)); try simp only [Act.put, sa, s0, s1]
    refine tk 10 q9d4_90_0_10 (some 14) (v := ?v9) rfl rfl (by kernel_rfl) hHeld (by rfl) (fun _ _ _ x => x) (fun w h => ?y9) ?_; (case y9 => (try dsimp only at h); go_simp; try (with_reducible rfl)); try simp only [Act.put, sa, s0, s1]
    refine wpAnyH_ready (rs := [5]) (by kernel_rfl) (by simp) ?_
    refine AllReadyH.cons (o := q9d4_90_0_5) rfl (fun K hK => ?_) AllReadyH.nil
    go_simp
    skip
    refine hK.out _ _ (trivial) (fun hHeld => ?_)
    clear hK K
    try simp only [Act.put, sa, s0, s1]
    refine tk 9 q9d4_90_0_9 (some 13) (v := ?v10) rfl rfl (by kernel_rfl) hHeld (by rfl) (fun _ _ _ x => x) (fun w h => ?y10) ?_; (case y10 => (try dsimp only at h); go_simp; try (with_reducible rfl)); try simp only [Act.put, sa, s0, s1]
    refine tk 11 q9d4_90_0_11 (some 15) (v := ?v11) rfl rfl (by kernel_rfl) hHeld (by rfl) (fun _ _ _ x => x) (fun w h => ?y11) ?_; (case y11 => (try dsimp only at h); go_simp; try (with_reducible rfl)); try simp only [Act.put, sa, s0, s1]
    refine wpAnyH_ready (rs := [12]) (by kernel_rfl) (by simp) ?_
    refine AllReadyH.cons (o := q9d4_90_0_12) rfl (fun K hK => ?_) AllReadyH.nil
    go_simp
    refine hK.out _ _ (trivial) (fun hHeld => ?_)
    clear hK K
    try simp only [Act.put, sa, s0, s1]
    refine wpAnyH_done (by kernel_rfl) ?_ _
    exact bodyPost_end (v := .tuple #[]) (by simp [results, Tryd.results90, go_sem]) rfl ⟨rfl, HN.out.drew, ((Turn.refl [b] w).setCell (by simp) _).drew⟩
  · obtain ⟨j, rfl⟩ : ∃ j, k = j + 64 := ⟨k - 64, by omega⟩
    have hj : j < 64 := by omega
    have he := bits_or_u64_nat s.x1 (2 ^ j) hs.2 (pow_word hj)
    have HV : Hid ((vs.set o (.int .u64 ((s.add (j + 64)).x0 : Int))).set (o + 1) (.int .u64 ((s.add (j + 64)).x1 : Int)) = vs.set (o + 1) (.int .u64 ((s.x1 ||| 2 ^ j : Nat) : Int))) := by
      unfold Hid
      rw [MSet.add_hi hlo, set_same h0]
      rfl
    rw [HV.out]
    have htm : Int.tmod ((j : Int) + 64) 64 = (j : Int) := by rw [Int.tmod_eq_emod_of_nonneg (by omega)]; omega
    have htd : Int.tdiv ((j : Int) + 64) 64 = 1 := by rw [Int.tdiv_eq_ediv_of_nonneg (by omega)]; omega
    have hw1 : IntKind.i64.wrap 1 = 1 := rfl
    have c0 := hb.cell (o + 1) _ h1
    have f0 := hb.free (o + 1)
    have hl := hb.lt
    have hsh := shl_word hj
    have HN := Hid.mk (hb.put (o + 1) (.int .u64 ((s.x1 ||| 2 ^ j : Nat) : Int)))
    obtain ⟨p2, hp2⟩ : ∃ p : Nat, p = 2 ^ j := ⟨_, rfl⟩
    rw [← hp2] at he hsh HN ⊢
    clear hp2
    go_enter Tryd.func90, Tryd.ntmps90
    go_wp2_with fail
    refine wp_region_held_drew (S := fun W => True) (by kernel_rfl) (trivial) (fun hHeld => ?_)
    refine tk 0 q9d4_90_0_0 (some 4) (v := ?v12) rfl rfl (by kernel_rfl) hHeld (by rfl) (fun _ _ _ x => x) (fun w h => ?y12) ?_; (case y12 => (try dsimp only at h); go_simp; try (with_reducible rfl)); try simp only [Act.put, sa, s0, s1]
    refine tk 1 q9d4_90_0_1 (some 5) (v := ?v13) rfl rfl (by kernel_rfl) hHeld (by rfl) (fun _ _ _ x => x) (fun w h => ?y13) ?_; (case y13 => (try dsimp only at h); go_simp; try (with_reducible rfl)); try simp only [Act.put, sa, s0, s1]
    refine tk 2 q9d4_90_0_2 (some 6) (v := ?v14) rfl rfl (by kernel_rfl) hHeld (by rfl) (fun _ _ _ x => x) (fun w h => ?y14) ?_; (case y14 => (try dsimp only at h); go_simp; try (with_reducible rfl)); try simp only [Act.put, sa, s0, s1]
    refine tk 3 q9d4_90_0_3 (some 7) (v := ?v15) rfl rfl (by kernel_rfl) hHeld (by rfl) (fun _ _ _ x => x) (fun w h => ?y15) ?_; (case y15 => (try dsimp only at h); go_simp; try (with_reducible rfl)); try simp only [Act.put, sa, s0, s1]
    refine tk 4 q9d4_90_0_4 (some 8) (v := ?v16) rfl rfl (by kernel_rfl) hHeld (by rfl) (fun _ _ _ x => x) (fun w h => ?y16) ?_; (case y16 => (try dsimp only at h); go_simp; try (with_reducible rfl)); try simp only [Act.put, sa, s0, s1]
    refine tk 6 q9d4_90_0_6 (some 10) (v := ?v17) rfl rfl (by kernel_rfl) hHeld (by rfl) (fun _ _ _ x => x) (fun w h => ?y17) ?_; (case y17 => (try dsimp only at h); go_simp; try (with_reducible rfl)); try simp only [Act.put, sa, s0, s1]
    refine tk 7 q9d4_90_0_7 (some 11) (v := ?v18) rfl rfl (by kernel_rfl) hHeld (by rfl) (fun _ _ _ x => x) (fun w h => ?y18) ?_; (case y18 => (try dsimp only at h); go_simp; try (with_reducible rfl)); try simp only [Act.put, sa, s0, s1]
    refine tk 8 q9d4_90_0_8 (some 12) (v := ?v19) rfl rfl (by kernel_rfl) hHeld (by rfl) (fun _ _ _ x => x) (fun w h => ?y19) ?_; (case y19 => (try dsimp only at h); go_simp; try (with_reducible rfl)); try simp only [Act.put, sa, s0, s1]
    refine tk 10 q9d4_90_0_10 (some 14) (v := ?v20) rfl rfl (by kernel_rfl) hHeld (by rfl) (fun _ _ _ x => x) (fun w h => ?y20) ?_; (case y20 => (try dsimp only at h); go_simp; try (with_reducible rfl)); try simp only [Act.put, sa, s0, s1]
    refine wpAnyH_ready (rs := [5]) (by kernel_rfl) (by simp) ?_
    refine AllReadyH.cons (o := q9d4_90_0_5) rfl (fun K hK => ?_) AllReadyH.nil
    go_simp
    skip
    refine hK.out _ _ (trivial) (fun hHeld => ?_)
    clear hK K
    try simp only [Act.put, sa, s0, s1]
    refine tk 9 q9d4_90_0_9 (some 13) (v := ?v21) rfl rfl (by kernel_rfl) hHeld (by rfl) (fun _ _ _ x => x) (fun w h => ?y21) ?_; (case y21 => (try dsimp only at h); go_simp; try (with_reducible rfl)); try simp only [Act.put, sa, s0, s1]
    refine tk 11 q9d4_90_0_11 (some 15) (v := ?v22) rfl rfl (by kernel_rfl) hHeld (by rfl) (fun _ _ _ x => x) (fun w h => ?y22) ?_; (case y22 => (try dsimp only at h); go_simp; try (with_reducible rfl)); try simp only [Act.put, sa, s0, s1]
    refine wpAnyH_ready (rs := [12]) (by kernel_rfl) (by simp) ?_
    refine AllReadyH.cons (o := q9d4_90_0_12) rfl (fun K hK => ?_) AllReadyH.nil
    go_simp
    refine hK.out _ _ (trivial) (fun hHeld => ?_)
    clear hK K
    try simp only [Act.put, sa, s0, s1]
    refine wpAnyH_done (by kernel_rfl) ?_ _
    exact bodyPost_end (v := .tuple #[]) (by simp [results, Tryd.results90, go_sem]) rfl ⟨rfl, HN.out.drew, ((Turn.refl [b] w).setCell (by simp) _).drew⟩


def rSet : Rep MSet := fun B w cs s => cs = s.cells ∧ s.ok
theorem rSet_good : rSet.Good := ⟨fun h _ => h, fun h _ => h⟩
def hasAt (ss : List MSet) (j p : Nat) : Bool := match ss[j]? with | none => false | some s => s.has p
theorem hasAt_at {ss : List MSet} {j p : Nat} (h : j < ss.length) : hasAt ss j p = ss[j].has p := by unfold hasAt; rw [List.getElem?_eq_getElem h]
def ringHas (ss : List MSet) (p k j : Nat) : Bool := decide (j = p) || (decide (j < k) && (hasAt ss j p && hasAt ss p j))
theorem ringHas_zero (ss : List MSet) (p j : Nat) : ringHas ss p 0 j = decide (j = p) := by unfold ringHas; simp
theorem ringHas_no {ss : List MSet} {p k j : Nat} (h : (hasAt ss k p && hasAt ss p k) = false) : ringHas ss p (k + 1) j = ringHas ss p k j := by
  unfold ringHas
  by_cases hj : j = k
  · subst hj; rw [h]; simp
  · have e : decide (j < k + 1) = decide (j < k) := decide_eq_decide.2 (by omega)
    rw [e]
theorem ringHas_yes {ss : List MSet} {p k j : Nat} (h : (hasAt ss k p && hasAt ss p k) = true) : ringHas ss p (k + 1) j = (ringHas ss p k j || decide (j = k)) := by
  unfold ringHas
  by_cases hj : j = k
  · subst hj; rw [h]; simp
  · have e : decide (j < k + 1) = decide (j < k) := decide_eq_decide.2 (by omega)
    rw [e, decide_eq_false hj, Bool.or_false]

set_option maxHeartbeats 4000000 in
theorem ringOf_any (a : Option Addr) (n cap p : Nat) (ss : List MSet) (w : World) (hx : ss.length = n) (hn : n ≤ 100) (hp : p < n) (hr : LeafL 2 rSet w.heap.size w a cap ss) :
    Calls Tryd.prog 68 #[.slice a n cap, .int .i64 p] w fun e w' => ∃ s : MSet, e = .returned (.agg s.cells.toArray) ∧ s.ok ∧ (∀ j, j < 128 → s.has j = ringHas ss p n j) ∧ Below w.heap.size w w' := by
  have HX := Hid.mk hx
  have HL := Hid.mk hr
  clear hx hr
  go_enter Tryd.func68, Tryd.ntmps68
  go_wp2_with fail
  obtain ⟨w1, hw1⟩ : ∃ x, x = (w.alloc (.cells #[.int .u64 0, .int .u64 0] 66)).alloc (.cells #[.int .u64 0, .int .u64 0] 66) := ⟨_, rfl⟩
  have hb01 : Below w.heap.size w w1 := by rw [hw1]; exact ((Below.refl _ _).alloc (Nat.le_refl _) _).alloc (by simp) _
  have hR1 : Bw w1 w.heap.size 66 [.int .u64 0, .int .u64 0] := by rw [hw1]; exact (Bw.new _ _ _).alloc _
  have hO1 : Bw w1 (w.heap.size + 1) 66 [.int .u64 ((0 : Nat) : Int), .int .u64 ((0 : Nat) : Int)] := by rw [hw1]; exact Bw.new' _ _ _ (by simp)
  rw [← hw1]
  clear hw1
  refine (add_any (w.heap.size + 1) 0 p 66 _ ⟨0, 0⟩ w1 ⟨by decide, by decide⟩ (by omega) hO1 rfl rfl).mono ?_
  rintro e w2 ⟨rfl, hO2, hT2⟩
  have hb02 : Below w.heap.size w w2 := hb01.trans (hT2.below (fun x hx => by simp at hx; omega) hb01.size)
  have hR2 := hR1.turn hT2 (by simp)
  obtain ⟨s2, hs2⟩ : ∃ s : MSet, s = MSet.add ⟨0, 0⟩ p := ⟨_, rfl⟩
  have HS0 : Hid (s2.ok ∧ (∀ j, j < 128 → s2.has j = ringHas ss p 0 j) ∧ Bw w2 (w.heap.size + 1) 66 s2.cells) := by
    refine ⟨by rw [hs2]; exact MSet.add_ok ⟨by decide, by decide⟩ (by omega), fun j hj => ?_, by rw [hs2]; exact hO2⟩
    rw [hs2, MSet.add_has (by omega) hj, ringHas_zero]
    have e0 : MSet.has ⟨0, 0⟩ j = false := by unfold MSet.has; cases decide (j < 64) <;> exact Nat.zero_testBit _
    rw [e0, Bool.false_or]
  clear hO2 hT2 hO1 hR1
  go_wp2_with fail
  go_loopw [12] (fun iv wr => ∃ (k : Nat) (s : MSet), k ≤ n ∧ iv = .int .i64 k ∧ Hid (s.ok ∧ (∀ j, j < 128 → s.has j = ringHas ss p k j) ∧ Bw wr (w.heap.size + 1) 66 s.cells) ∧ Bw wr w.heap.size 66 [.int .u64 0, .int .u64 0] ∧ Below w.heap.size w wr) (fun iv _ => n - (intOf iv).toNat)
  case atStart => exact ⟨0, s2, Nat.zero_le _, rfl, HS0, hR2, hb02⟩
  case round =>
    obtain ⟨k, s, hk, rfl, HS, hRk, hbk⟩ := hrel
    have hlO := HS.out.2.2.lt
    by_cases hlt : k < n
    · have hkl : k < ss.length := by rw [HX.out]; exact hlt
      have hpl : p < ss.length := by rw [HX.out]; exact hp
      obtain ⟨b1, o1, rfl, hB, cs, hcl, hcell, hcs, hsk⟩ := (HL.out.2.2.below rSet_good hbk) k hkl
      obtain ⟨b1', o1', he1, _, cs', hcl', hcell', hcs', hsp⟩ := (HL.out.2.2.below rSet_good hbk) p hpl
      simp only [Option.some.injEq, Addr.mk.injEq, and_true] at he1
      obtain ⟨rfl, rfl⟩ := he1
      have hak := hasAt_at (p := p) hkl
      have hap := hasAt_at (p := k) hpl
      have HNO : Hid ((hasAt ss k p && hasAt ss p k) = false → ∀ j, ringHas ss p (k + 1) j = ringHas ss p k j) := fun h j => ringHas_no h
      have HYE : Hid ((hasAt ss k p && hasAt ss p k) = true → ∀ j, ringHas ss p (k + 1) j = (ringHas ss p k j || decide (j = k))) := fun h j => ringHas_yes h
      generalize ss[k] = sk at *
      generalize ss[p] = sp at *
      subst hcs hcs'
      have k0 := hcell 0 _ rfl
      have k1 := hcell 1 _ rfl
      have q0 := hcell' 0 _ rfl
      have q1 := hcell' 1 _ rfl
      rw [Nat.add_zero] at k0 q0
      have hB' : b1 < wr.heap.size := Nat.lt_of_lt_of_le hB hbk.size
      have HCk := Hid.mk (fun W => has_any sk p W hsk (by omega))
      have HCp := Hid.mk (fun W => has_any sp k W hsp (by omega))
      rw [← hak] at HCk
      rw [← hap] at HCp
      clear hcell hcell' hcl hcl' hak hap
      obtain ⟨wp, hwp⟩ : ∃ y, y = wr.alloc (.cells #[.int .u64 (sk.x0 : Int), .int .u64 (sk.x1 : Int)] 66) := ⟨_, rfl⟩
      have hbp : Below wr.heap.size wr wp := by rw [hwp]; exact (Below.refl _ _).alloc (Nat.le_refl _) _
      go_wp2_with fail
      rw [← hwp]
      clear hwp
      refine (HCk.out wp).mono ?_
      rintro e w3 ⟨rfl, hx3⟩
      have hb3 := bthen hbp hx3
      have hbw3 : Below w.heap.size w w3 := hbk.trans (hb3.mono hbk.size)
      have hO3 := HS.out.2.2.under hb3
      have hR3 := hRk.under hb3
      have q2 := (hb3.cell (p := ⟨b1, o1 + p * 2, none⟩) hB').trans q0
      have q3 := (hb3.cell (p := ⟨b1, o1 + p * 2 + 1, none⟩) hB').trans q1
      have hp1 : (0 : Int) ≤ (p : Int) := by omega
      have hp2 : (p : Int) < (n : Int) := by omega
      clear k0 k1 q0 q1
      rcases h1 : hasAt ss k p with _ | _
      · have HN := Hid.mk (HNO.out (by rw [h1]; rfl))
        go_wp2_with fail
        go_roundw
        case rel => exact ⟨k + 1, s, by omega, by go_num, ⟨HS.out.1, fun j hj => by rw [HN.out j]; exact HS.out.2.1 j hj, hO3⟩, hR3, hbw3⟩
        case measure => simp [intOf]; omega
      go_wp2_with fail
      refine (HCp.out w3).mono ?_
      rintro e w4 ⟨rfl, hx4⟩
      have hbw4 : Below w.heap.size w w4 := hbw3.trans (hx4.mono hbw3.size)
      have hO4 := hO3.under hx4
      have hR4 := hR3.under hx4
      clear q2 q3
      rcases h2 : hasAt ss p k with _ | _
      · have HN := Hid.mk (HNO.out (by rw [h1, h2]; rfl))
        go_wp2_with fail
        go_roundw
        case rel => exact ⟨k + 1, s, by omega, by go_num, ⟨HS.out.1, fun j hj => by rw [HN.out j]; exact HS.out.2.1 j hj, hO4⟩, hR4, hbw4⟩
        case measure => simp [intOf]; omega
      have HY := Hid.mk (HYE.out (by rw [h1, h2]; rfl))
      go_wp2_with fail
      refine (add_any (w.heap.size + 1) 0 k 66 s.cells s w4 HS.out.1 (by omega) hO4 rfl rfl).mono ?_
      rintro e w5 ⟨rfl, hO5, hT5⟩
      have hbw5 : Below w.heap.size w w5 := hbw4.trans (hT5.below (fun x hx => by simp at hx; omega) hbw4.size)
      have hR5 := hR4.turn hT5 (by simp)
      have HSn : Hid ((s.add k).ok ∧ (∀ j, j < 128 → (s.add k).has j = ringHas ss p (k + 1) j) ∧ Bw w5 (w.heap.size + 1) 66 (s.add k).cells) := ⟨MSet.add_ok HS.out.1 (by omega), fun j hj => by rw [MSet.add_has (by omega) hj, HY.out j, HS.out.2.1 j hj], hO5⟩
      clear hO5 hT5
      go_wp2_with fail
      go_roundw
      case rel => exact ⟨k + 1, s.add k, by omega, by go_num, HSn, hR5, hbw5⟩
      case measure => simp [intOf]; omega
    · have hkn : n = k := by omega
      subst hkn
      have c0 := HS.out.2.2.cell 0 _ rfl
      have c1 := HS.out.2.2.cell 1 _ rfl
      have r0 := hRk.cell 0 _ rfl
      have r1 := hRk.cell 1 _ rfl
      have f0 := hRk.free 0
      have f1 := hRk.free 1
      have hl := hRk.lt
      go_wp2_with fail
      exact bodyPost_ret (v := .agg #[.int .u64 (s.x0 : Int), .int .u64 (s.x1 : Int)]) (by simp [results, Tryd.results68, go_sem, *]) rfl ⟨s, rfl, HS.out.1, HS.out.2.1, (hbk.setCell (by simp) _).setCell (by simp) _⟩

end Go.Proofs.YtmigamgcmhdncaaDoor
