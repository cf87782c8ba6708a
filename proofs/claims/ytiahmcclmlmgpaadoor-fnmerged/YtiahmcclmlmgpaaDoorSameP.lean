/-
  Lists of pairs that are the same are told to be.
-/
import Derived.Test.YtiahmcclmlmgpaaDoorRegK
import Derived.Test.YtiahmcclmlmgpaaDoorDrawS
namespace Go.Proofs.YtiahmcclmlmgpaaDoor
open Go.RowKit Go.Maps
set_option linter.unusedVariables false
set_option linter.unusedSimpArgs false
set_option maxRecDepth 10000
abbrev qb8e_10_6_0 : Oper := ⟨some 17, .move (.tmp 0), 27, "laws.go:34", #[], none⟩
abbrev qb8e_10_6_1 : Oper := ⟨some 18, .move (.tmp 5), 3, "laws.go:34", #[], none⟩
abbrev qb8e_10_6_2 : Oper := ⟨some 19, .indexAddr 27 (.tmp 17) (.tmp 18), 0, "laws.go:34", #[⟨0, .data⟩, ⟨1, .data⟩], none⟩
abbrev qb8e_10_6_3 : Oper := ⟨some 20, .load 31 (.tmp 19), 31, "laws.go:34", #[⟨2, .data⟩], none⟩
abbrev qb8e_10_6_4 : Oper := ⟨some 21, .move (.tmp 1), 27, "laws.go:34", #[], none⟩
abbrev qb8e_10_6_5 : Oper := ⟨some 22, .move (.tmp 5), 3, "laws.go:34", #[], none⟩
abbrev qb8e_10_6_6 : Oper := ⟨some 23, .indexAddr 27 (.tmp 21) (.tmp 22), 0, "laws.go:34", #[⟨4, .data⟩, ⟨5, .data⟩], none⟩
abbrev qb8e_10_6_7 : Oper := ⟨some 24, .load 31 (.tmp 23), 31, "laws.go:34", #[⟨6, .data⟩], none⟩
abbrev qb8e_10_6_8 : Oper := ⟨some 25, .binOp .neq 31 (.tmp 20) (.tmp 24) 31, 4, "laws.go:34", #[⟨3, .data⟩, ⟨7, .data⟩], none⟩

/-- The cells of a pair of a list, for whatever comes below. -/
theorem pair_cells {w wr : World} {a : Option Addr} {c k : Nat} {l : List MPair} (h : LeafL 3 rPair w.heap.size w a c l) (hb : Below w.heap.size w wr) (hk : k < l.length) :
    ∃ b o, a = some ⟨b, o, none⟩ ∧ (∀ W, Below wr.heap.size wr W → W.cell? ⟨b, o + k * 3, none⟩ = some (.string l[k].fKey)) ∧ (∀ W, Below wr.heap.size wr W → W.cell? ⟨b, o + k * 3 + 1, none⟩ = some (.string l[k].fVal)) ∧ (∀ W, Below wr.heap.size wr W → W.cell? ⟨b, o + k * 3 + 2, none⟩ = some (.bool l[k].fGone)) := by
  obtain ⟨b, o, e, hB, cs, _, hcell, rfl, _⟩ := (h.2.2.below rPair_good hb) k hk
  have hz : b < wr.heap.size := Nat.lt_of_lt_of_le hB hb.size
  exact ⟨b, o, e, fun W hW => (hW.cell (p := ⟨b, o + k * 3, none⟩) hz).trans (hcell 0 _ rfl), fun W hW => (hW.cell (p := ⟨b, o + k * 3 + 1, none⟩) hz).trans (hcell 1 _ rfl), fun W hW => (hW.cell (p := ⟨b, o + k * 3 + 2, none⟩) hz).trans (hcell 2 _ rfl)⟩

set_option maxHeartbeats 2000000 in
theorem samePairs_yes (a b : Option Addr) (c d : Nat) (l : List MPair) (w : World) (ha : LeafL 3 rPair w.heap.size w a c l) (hb : LeafL 3 rPair w.heap.size w b d l) :
    Calls Tryd.prog 10 #[.slice a l.length c, .slice b l.length d] w fun e w' => e = .returned (.bool true) ∧ Below w.heap.size w w' := by
  have hlc : l.length ≤ 9223372036854775807 := Nat.le_trans ha.1 ha.2.1
  have HA := Hid.mk ha
  have HB := Hid.mk hb
  clear ha hb
  go_enter Tryd.func10, Tryd.ntmps10
  go_wp2_with fail
  go_loopw [5] (fun iv wr => ∃ k : Nat, k ≤ l.length ∧ iv = .int .i64 k ∧ Below w.heap.size w wr) (fun iv _ => l.length - (intOf iv).toNat)
  case atStart => exact ⟨0, Nat.zero_le _, rfl, Below.refl _ _⟩
  case round =>
    obtain ⟨k, hk, rfl, hbk⟩ := hrel
    by_cases hlt : k < l.length
    · obtain ⟨b1, o1, rfl, u0, u1, u2⟩ := pair_cells HA.out hbk hlt
      obtain ⟨b2, o2, rfl, v0, v1, v2⟩ := pair_cells HB.out hbk hlt
      generalize l[k] = x at *
      clear HA HB
      go_wp2_with fail
      refine wp_region_held_drew (S := fun W => Below wr.heap.size wr W) (by kernel_rfl) (Below.drew (Below.refl _ _)) (fun hHeld => ?_)
      refine tk 0 qb8e_10_6_0 (some 17) (v := ?v1) rfl rfl (by kernel_rfl) hHeld (by rfl) (fun _ _ _ x => x) (fun w h => ?y1) ?_; (case y1 => (try dsimp only at h); go_simp; try (with_reducible rfl)); try simp only [Act.put, sa, s0, s1]
      refine tk 1 qb8e_10_6_1 (some 18) (v := ?v2) rfl rfl (by kernel_rfl) hHeld (by rfl) (fun _ _ _ x => x) (fun w h => ?y2) ?_; (case y2 => (try dsimp only at h); go_simp; try (with_reducible rfl)); try simp only [Act.put, sa, s0, s1]
      refine tk 2 qb8e_10_6_2 (some 19) (v := ?v3) rfl rfl (by kernel_rfl) hHeld (by rfl) (fun _ _ _ x => x) (fun w h => ?y3) ?_; (case y3 => (try dsimp only at h); go_simp; try (with_reducible rfl)); try simp only [Act.put, sa, s0, s1]
      refine tk 3 qb8e_10_6_3 (some 20) (v := ?v4) rfl rfl (by kernel_rfl) hHeld (by rfl) (fun _ _ _ x => x) (fun w h => ?y4) ?_; (case y4 => (try dsimp only at h); go_simp; try (with_reducible rfl)); try simp only [Act.put, sa, s0, s1]
      refine tk 4 qb8e_10_6_4 (some 21) (v := ?v5) rfl rfl (by kernel_rfl) hHeld (by rfl) (fun _ _ _ x => x) (fun w h => ?y5) ?_; (case y5 => (try dsimp only at h); go_simp; try (with_reducible rfl)); try simp only [Act.put, sa, s0, s1]
      refine tk 5 qb8e_10_6_5 (some 22) (v := ?v6) rfl rfl (by kernel_rfl) hHeld (by rfl) (fun _ _ _ x => x) (fun w h => ?y6) ?_; (case y6 => (try dsimp only at h); go_simp; try (with_reducible rfl)); try simp only [Act.put, sa, s0, s1]
      refine tk 6 qb8e_10_6_6 (some 23) (v := ?v7) rfl rfl (by kernel_rfl) hHeld (by rfl) (fun _ _ _ x => x) (fun w h => ?y7) ?_; (case y7 => (try dsimp only at h); go_simp; try (with_reducible rfl)); try simp only [Act.put, sa, s0, s1]
      refine tk 7 qb8e_10_6_7 (some 24) (v := ?v8) rfl rfl (by kernel_rfl) hHeld (by rfl) (fun _ _ _ x => x) (fun w h => ?y8) ?_; (case y8 => (try dsimp only at h); go_simp; try (with_reducible rfl)); try simp only [Act.put, sa, s0, s1]
      refine tk 8 qb8e_10_6_8 (some 25) (v := ?v9) rfl rfl (by kernel_rfl) hHeld (by rfl) (fun _ _ _ x => x) (fun w h => ?y9) ?_; (case y9 => (try dsimp only at h); go_simp; try (with_reducible rfl)); try simp only [Act.put, sa, s0, s1]
      refine wpAnyH_done (by kernel_rfl) ?_ _
      go_wp2_with fail
      go_roundw
      case rel => exact ⟨k + 1, by omega, by go_num, bthen hbk hHeld⟩
      case measure => simp [intOf]; omega
    · go_wp2_with fail
      go_ret
      exact ⟨rfl, hbk⟩

end Go.Proofs.YtiahmcclmlmgpaaDoor
