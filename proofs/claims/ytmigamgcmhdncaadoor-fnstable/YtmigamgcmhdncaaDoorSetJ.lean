/-
  Sets of places: a set is joined to one that lies in memory.
-/
import Derived.Test.YtmigamgcmhdncaaDoorRegK
import Derived.Test.YtmigamgcmhdncaaDoorSetM
import Derived.Test.YtmigamgcmhdncaaDoorRowG
namespace Go.Proofs.YtmigamgcmhdncaaDoor
open Go.RowKit
set_option linter.unusedVariables false
set_option linter.unusedSimpArgs false
set_option maxRecDepth 10000
abbrev qa22_51_4_0 : Oper := ⟨some 11, .move (.tmp 0), 111, "l08_graph.go:219", #[], none⟩
abbrev qa22_51_4_1 : Oper := ⟨some 12, .move (.tmp 4), 3, "l08_graph.go:219", #[], none⟩
abbrev qa22_51_4_2 : Oper := ⟨some 13, .nilCheck (.tmp 11), 0, "l08_graph.go:219", #[⟨0, .data⟩], none⟩
abbrev qa22_51_4_3 : Oper := ⟨some 14, .indexAddr 66 (.tmp 13) (.tmp 12), 0, "l08_graph.go:219", #[⟨2, .data⟩, ⟨1, .data⟩], none⟩
abbrev qa22_51_4_5 : Oper := ⟨some 16, .move (.tmp 5), 64, "l08_graph.go:219", #[], none⟩
abbrev qa22_51_4_7 : Oper := ⟨some 18, .nilCheck (.tmp 11), 0, "l08_graph.go:219", #[⟨0, .data⟩], none⟩
abbrev qa22_51_4_4 : Oper := ⟨some 15, .load 64 (.tmp 14), 64, "l08_graph.go:219", #[⟨3, .data⟩], none⟩
abbrev qa22_51_4_6 : Oper := ⟨some 17, .binOp .or 64 (.tmp 15) (.tmp 16) 64, 64, "l08_graph.go:219", #[⟨4, .data⟩, ⟨5, .data⟩], none⟩
abbrev qa22_51_4_8 : Oper := ⟨some 19, .indexAddr 66 (.tmp 18) (.tmp 12), 0, "l08_graph.go:219", #[⟨7, .data⟩, ⟨1, .data⟩, ⟨0, .phase⟩, ⟨1, .phase⟩, ⟨2, .phase⟩, ⟨3, .phase⟩, ⟨4, .phase⟩, ⟨5, .phase⟩, ⟨6, .phase⟩], none⟩
abbrev qa22_51_4_9 : Oper := ⟨none, .store 64 (.tmp 19) (.tmp 17), 0, "l08_graph.go:219", #[⟨8, .data⟩, ⟨6, .data⟩, ⟨0, .phase⟩, ⟨1, .phase⟩, ⟨2, .phase⟩, ⟨3, .phase⟩, ⟨4, .phase⟩, ⟨5, .phase⟩, ⟨6, .phase⟩], none⟩

def MSet.join (s t : MSet) : MSet := ⟨s.x0 ||| t.x0, s.x1 ||| t.x1⟩
theorem MSet.join_ok {s t : MSet} (hs : s.ok) (ht : t.ok) : (s.join t).ok := ⟨Nat.or_lt_two_pow (n := 64) hs.1 ht.1, Nat.or_lt_two_pow (n := 64) hs.2 ht.2⟩
theorem MSet.join_has {s t : MSet} {k : Nat} : (s.join t).has k = (s.has k || t.has k) := by
  by_cases h : k < 64
  · rw [MSet.has_lo h, MSet.has_lo h, MSet.has_lo h]; exact Nat.testBit_or ..
  · rw [MSet.has_hi h, MSet.has_hi h, MSet.has_hi h]; exact Nat.testBit_or ..

theorem Tryd.infoOfWord : (Tryd.prog.info? 64).map (fun i => (i.zero, i.size, i.bytes)) = some (some (.int .u64 0), 1, 8) := by kernel_rfl
theorem set_ix0 (x y : Int) (w : World) : (Instr.index 66 (.agg #[.int .u64 x, .int .u64 y]) (.int .i64 0)).run Tryd.prog w = .ok (.int .u64 x) w := by
  obtain ⟨iU, hiU, hz0, hz1, hz2⟩ := info_parts Tryd.infoOfWord
  have h := Tryd.underlying66
  simp [Instr.index, run_underlying h, asIntOf, sizeOf, typeInfo, part, hiU, hz1, Sem.run_pure]
theorem set_ix1 (x y : Int) (w : World) : (Instr.index 66 (.agg #[.int .u64 x, .int .u64 y]) (.int .i64 1)).run Tryd.prog w = .ok (.int .u64 y) w := by
  obtain ⟨iU, hiU, hz0, hz1, hz2⟩ := info_parts Tryd.infoOfWord
  have h := Tryd.underlying66
  simp [Instr.index, run_underlying h, asIntOf, sizeOf, typeInfo, part, hiU, hz1, Sem.run_pure]

set_option maxHeartbeats 2000000 in
theorem join_any (b o : Nat) (T : TypeId) (vs : List Value) (s t : MSet) (w : World) (hs : s.ok) (ht : t.ok) (hb : Bw w b T vs) (h0 : vs[o]? = some (.int .u64 (s.x0 : Int))) (h1 : vs[o + 1]? = some (.int .u64 (s.x1 : Int))) :
    Calls Tryd.prog 51 #[.pointer (some ⟨b, o, none⟩), .agg t.cells.toArray] w fun e w' => e = .returned (.tuple #[]) ∧ Bw w' b T ((vs.set o (.int .u64 ((s.join t).x0 : Int))).set (o + 1) (.int .u64 ((s.join t).x1 : Int))) ∧ Turn [b] w w' := by
  obtain ⟨X0, X1⟩ := s
  obtain ⟨Y0, Y1⟩ := t
  obtain ⟨s0, s1⟩ := hs
  obtain ⟨t0, t1⟩ := ht
  have HE0 := Hid.mk (bits_or_u64_nat X0 Y0 s0 t0)
  have HE1 := Hid.mk (bits_or_u64_nat X1 Y1 s1 t1)
  show Calls Tryd.prog 51 #[.pointer (some ⟨b, o, none⟩), .agg #[.int .u64 (Y0 : Int), .int .u64 (Y1 : Int)]] w fun e w' => e = .returned (.tuple #[]) ∧ Bw w' b T ((vs.set o (.int .u64 ((X0 ||| Y0 : Nat) : Int))).set (o + 1) (.int .u64 ((X1 ||| Y1 : Nat) : Int))) ∧ Turn [b] w w'
  go_enter Tryd.func51, Tryd.ntmps51
  go_wp2_with fail
  obtain ⟨w1, hw1⟩ : ∃ x, x = w.alloc (.cells #[.int .u64 (Y0 : Int), .int .u64 (Y1 : Int)] 66) := ⟨_, rfl⟩
  have hb1 : Below w.heap.size w w1 := by rw [hw1]; exact (Below.refl _ _).alloc (Nat.le_refl _) _
  have hB1 := hb.under hb1
  rw [← hw1]
  clear hw1
  go_loopw [7] (fun iv wr => ∃ k : Nat, k ≤ 2 ∧ iv = .int .i64 k ∧ Hid ((k = 0 → Bw wr b T vs) ∧ (k = 1 → Bw wr b T (vs.set o (.int .u64 ((X0 ||| Y0 : Nat) : Int)))) ∧ (k = 2 → Bw wr b T ((vs.set o (.int .u64 ((X0 ||| Y0 : Nat) : Int))).set (o + 1) (.int .u64 ((X1 ||| Y1 : Nat) : Int))))) ∧ Turn [b] w wr) (fun iv _ => 2 - (intOf iv).toNat)
  case atStart => exact ⟨0, by omega, rfl, ⟨fun _ => hB1, fun h => by omega, fun h => by omega⟩, Turn.ofBelow hb1⟩
  case round =>
    obtain ⟨k, hk, rfl, HB, hT⟩ := hrel
    rcases (by omega : k = 0 ∨ k = 1 ∨ k = 2) with rfl | rfl | rfl
    · have hBk := HB.out.1 rfl
      have c0 := hBk.cell o _ h0
      have f0 := hBk.free o
      have hl := hBk.lt
      have HN := Hid.mk (hBk.put o (.int .u64 ((X0 ||| Y0 : Nat) : Int)))
      have hix := set_ix0 (Y0 : Int) (Y1 : Int)
      have he := HE0.out
      go_wp2_with fail
      refine wp_region_held_drew (S := fun W => True) (by kernel_rfl) (trivial) (fun hHeld => ?_)
      refine tk 0 qa22_51_4_0 (some 11) (v := ?v1) rfl rfl (by kernel_rfl) hHeld (by rfl) (fun _ _ _ x => x) (fun w h => ?y1) ?_; (case y1 => (try dsimp only at h); go_simp; try (with_reducible rfl)); try simp only [Act.put, sa, s0, s1]
      refine tk 1 qa22_51_4_1 (some 12) (v := ?v2) rfl rfl (by kernel_rfl) hHeld (by rfl) (fun _ _ _ x => x) (fun w h => ?y2) ?_; (case y2 => (try dsimp only at h); go_simp; try (with_reducible rfl)); try simp only [Act.put, sa, s0, s1]
      refine tk 2 qa22_51_4_2 (some 13) (v := ?v3) rfl rfl (by kernel_rfl) hHeld (by rfl) (fun _ _ _ x => x) (fun w h => ?y3) ?_; (case y3 => (try dsimp only at h); go_simp; try (with_reducible rfl)); try simp only [Act.put, sa, s0, s1]
      refine tk 3 qa22_51_4_3 (some 14) (v := ?v4) rfl rfl (by kernel_rfl) hHeld (by rfl) (fun _ _ _ x => x) (fun w h => ?y4) ?_; (case y4 => (try dsimp only at h); go_simp; try (with_reducible rfl)); try simp only [Act.put, sa, s0, s1]
      refine tk 5 qa22_51_4_5 (some 16) (v := ?v5) rfl rfl (by kernel_rfl) hHeld (by rfl) (fun _ _ _ x => x) (fun w h => ?y5) ?_; (case y5 => (try dsimp only at h); go_simp; try (with_reducible rfl)); try simp only [Act.put, sa, s0, s1]
      refine tk 7 qa22_51_4_7 (some 18) (v := ?v6) rfl rfl (by kernel_rfl) hHeld (by rfl) (fun _ _ _ x => x) (fun w h => ?y6) ?_; (case y6 => (try dsimp only at h); go_simp; try (with_reducible rfl)); try simp only [Act.put, sa, s0, s1]
      refine wpAnyH_ready (rs := [4]) (by kernel_rfl) (by simp) ?_
      refine AllReadyH.cons (o := qa22_51_4_4) rfl (fun K hK => ?_) AllReadyH.nil
      go_simp
      skip
      refine hK.out _ _ (trivial) (fun hHeld => ?_)
      clear hK K
      try simp only [Act.put, sa, s0, s1]
      refine tk 6 qa22_51_4_6 (some 17) (v := ?v7) rfl rfl (by kernel_rfl) hHeld (by rfl) (fun _ _ _ x => x) (fun w h => ?y7) ?_; (case y7 => (try dsimp only at h); go_simp; try (with_reducible rfl)); try simp only [Act.put, sa, s0, s1]
      refine tk 8 qa22_51_4_8 (some 19) (v := ?v8) rfl rfl (by kernel_rfl) hHeld (by rfl) (fun _ _ _ x => x) (fun w h => ?y8) ?_; (case y8 => (try dsimp only at h); go_simp; try (with_reducible rfl)); try simp only [Act.put, sa, s0, s1]
      refine wpAnyH_ready (rs := [9]) (by kernel_rfl) (by simp) ?_
      refine AllReadyH.cons (o := qa22_51_4_9) rfl (fun K hK => ?_) AllReadyH.nil
      go_simp
      refine hK.out _ _ (trivial) (fun hHeld => ?_)
      clear hK K
      try simp only [Act.put, sa, s0, s1]
      refine wpAnyH_done (by kernel_rfl) ?_ _
      go_wp2_with fail
      go_roundw
      case rel => exact ⟨1, by omega, by go_num, ⟨fun h => by omega, fun _ => HN.out, fun h => by omega⟩, (hT.trans (Turn.ofBelow (Below.drew (Below.refl _ _)))).setCell (by simp) _⟩
      case measure => simp [intOf]
    · have hBk := HB.out.2.1 rfl
      have hne : (vs.set o (.int .u64 ((X0 ||| Y0 : Nat) : Int)))[o + 1]? = some (.int .u64 (X1 : Int)) := by rw [List.getElem?_set_ne (by omega)]; exact h1
      have c0 := hBk.cell (o + 1) _ hne
      have f0 := hBk.free (o + 1)
      have hl := hBk.lt
      have HN := Hid.mk (hBk.put (o + 1) (.int .u64 ((X1 ||| Y1 : Nat) : Int)))
      have hix := set_ix1 (Y0 : Int) (Y1 : Int)
      have he := HE1.out
      clear hne
      go_wp2_with fail
      refine wp_region_held_drew (S := fun W => True) (by kernel_rfl) (trivial) (fun hHeld => ?_)
      refine tk 0 qa22_51_4_0 (some 11) (v := ?v9) rfl rfl (by kernel_rfl) hHeld (by rfl) (fun _ _ _ x => x) (fun w h => ?y9) ?_; (case y9 => (try dsimp only at h); go_simp; try (with_reducible rfl)); try simp only [Act.put, sa, s0, s1]
      refine tk 1 qa22_51_4_1 (some 12) (v := ?v10) rfl rfl (by kernel_rfl) hHeld (by rfl) (fun _ _ _ x => x) (fun w h => ?y10) ?_; (case y10 => (try dsimp only at h); go_simp; try (with_reducible rfl)); try simp only [Act.put, sa, s0, s1]
      refine tk 2 qa22_51_4_2 (some 13) (v := ?v11) rfl rfl (by kernel_rfl) hHeld (by rfl) (fun _ _ _ x => x) (fun w h => ?y11) ?_; (case y11 => (try dsimp only at h); go_simp; try (with_reducible rfl)); try simp only [Act.put, sa, s0, s1]
      refine tk 3 qa22_51_4_3 (some 14) (v := ?v12) rfl rfl (by kernel_rfl) hHeld (by rfl) (fun _ _ _ x => x) (fun w h => ?y12) ?_; (case y12 => (try dsimp only at h); go_simp; try (with_reducible rfl)); try simp only [Act.put, sa, s0, s1]
      refine tk 5 qa22_51_4_5 (some 16) (v := ?v13) rfl rfl (by kernel_rfl) hHeld (by rfl) (fun _ _ _ x => x) (fun w h => ?y13) ?_; (case y13 => (try dsimp only at h); go_simp; try (with_reducible rfl)); try simp only [Act.put, sa, s0, s1]
      refine tk 7 qa22_51_4_7 (some 18) (v := ?v14) rfl rfl (by kernel_rfl) hHeld (by rfl) (fun _ _ _ x => x) (fun w h => ?y14) ?_; (case y14 => (try dsimp only at h); go_simp; try (with_reducible rfl)); try simp only [Act.put, sa, s0, s1]
      refine wpAnyH_ready (rs := [4]) (by kernel_rfl) (by simp) ?_
      refine AllReadyH.cons (o := qa22_51_4_4) rfl (fun K hK => ?_) AllReadyH.nil
      go_simp
      skip
      refine hK.out _ _ (trivial) (fun hHeld => ?_)
      clear hK K
      try simp only [Act.put, sa, s0, s1]
      refine tk 6 qa22_51_4_6 (some 17) (v := ?v15) rfl rfl (by kernel_rfl) hHeld (by rfl) (fun _ _ _ x => x) (fun w h => ?y15) ?_; (case y15 => (try dsimp only at h); go_simp; try (with_reducible rfl)); try simp only [Act.put, sa, s0, s1]
      refine tk 8 qa22_51_4_8 (some 19) (v := ?v16) rfl rfl (by kernel_rfl) hHeld (by rfl) (fun _ _ _ x => x) (fun w h => ?y16) ?_; (case y16 => (try dsimp only at h); go_simp; try (with_reducible rfl)); try simp only [Act.put, sa, s0, s1]
      refine wpAnyH_ready (rs := [9]) (by kernel_rfl) (by simp) ?_
      refine AllReadyH.cons (o := qa22_51_4_9) rfl (fun K hK => ?_) AllReadyH.nil
      go_simp
      refine hK.out _ _ (trivial) (fun hHeld => ?_)
      clear hK K
      try simp only [Act.put, sa, s0, s1]
      refine wpAnyH_done (by kernel_rfl) ?_ _
      go_wp2_with fail
      go_roundw
      case rel => exact ⟨2, by omega, by go_num, ⟨fun h => by omega, fun h => by omega, fun _ => HN.out⟩, (hT.trans (Turn.ofBelow (Below.drew (Below.refl _ _)))).setCell (by simp) _⟩
      case measure => simp [intOf]
    · have HF := Hid.mk (HB.out.2.2 rfl)
      go_wp2_with fail
      exact bodyPost_end (v := .tuple #[]) (by simp [results, Tryd.results51, go_sem]) rfl ⟨rfl, HF.out, hT⟩

end Go.Proofs.YtmigamgcmhdncaaDoor
