/-
  Sets of places: a place is added to a set that lies in memory.
-/
import Derived.Test.YtmigamgcmhdncaaDoorRegK
import Derived.Test.YtmigamgcmhdncaaDoorSetW
namespace Go.Proofs.YtmigamgcmhdncaaDoor
open Go.RowKit
set_option linter.unusedVariables false
set_option linter.unusedSimpArgs false
set_option maxRecDepth 10000
abbrev q9d4_90_0_0 : Oper := ⟨some 4, .move (.tmp 0), 111, "l08_graph.go:215", #[], none⟩
abbrev q9d4_90_0_1 : Oper := ⟨some 5, .move (.tmp 1), 3, "l08_graph.go:215", #[], none⟩
abbrev q9d4_90_0_2 : Oper := ⟨some 6, .binOp .quo 3 (.tmp 5) (.const (.int .i64 64)) 3, 3, "l08_graph.go:215", #[⟨1, .data⟩], none⟩
abbrev q9d4_90_0_3 : Oper := ⟨some 7, .nilCheck (.tmp 4), 0, "l08_graph.go:215", #[⟨0, .data⟩], none⟩
abbrev q9d4_90_0_4 : Oper := ⟨some 8, .indexAddr 66 (.tmp 7) (.tmp 6), 0, "l08_graph.go:215", #[⟨3, .data⟩, ⟨2, .data⟩], none⟩
abbrev q9d4_90_0_6 : Oper := ⟨some 10, .move (.tmp 1), 3, "l08_graph.go:215", #[], none⟩
abbrev q9d4_90_0_7 : Oper := ⟨some 11, .binOp .rem 3 (.tmp 10) (.const (.int .i64 64)) 3, 3, "l08_graph.go:215", #[⟨6, .data⟩], none⟩
abbrev q9d4_90_0_8 : Oper := ⟨some 12, .binOp .shl 64 (.const (.int .u64 1)) (.tmp 11) 3, 64, "l08_graph.go:215", #[⟨7, .data⟩], none⟩
abbrev q9d4_90_0_10 : Oper := ⟨some 14, .nilCheck (.tmp 4), 0, "l08_graph.go:215", #[⟨0, .data⟩], none⟩
abbrev q9d4_90_0_5 : Oper := ⟨some 9, .load 64 (.tmp 8), 64, "l08_graph.go:215", #[⟨4, .data⟩], none⟩
abbrev q9d4_90_0_9 : Oper := ⟨some 13, .binOp .or 64 (.tmp 9) (.tmp 12) 64, 64, "l08_graph.go:215", #[⟨5, .data⟩, ⟨8, .data⟩], none⟩
abbrev q9d4_90_0_11 : Oper := ⟨some 15, .indexAddr 66 (.tmp 14) (.tmp 6), 0, "l08_graph.go:215", #[⟨10, .data⟩, ⟨2, .data⟩, ⟨0, .phase⟩, ⟨1, .phase⟩, ⟨2, .phase⟩, ⟨3, .phase⟩, ⟨4, .phase⟩, ⟨5, .phase⟩, ⟨6, .phase⟩, ⟨7, .phase⟩, ⟨8, .phase⟩, ⟨9, .phase⟩], none⟩
abbrev q9d4_90_0_12 : Oper := ⟨none, .store 64 (.tmp 15) (.tmp 13), 0, "l08_graph.go:215", #[⟨11, .data⟩, ⟨9, .data⟩, ⟨0, .phase⟩, ⟨1, .phase⟩, ⟨2, .phase⟩, ⟨3, .phase⟩, ⟨4, .phase⟩, ⟨5, .phase⟩, ⟨6, .phase⟩, ⟨7, .phase⟩, ⟨8, .phase⟩, ⟨9, .phase⟩], none⟩

def MSet.add (s : MSet) (k : Nat) : MSet := bif decide (k < 64) then ⟨s.x0 ||| 2 ^ k, s.x1⟩ else ⟨s.x0, s.x1 ||| 2 ^ (k - 64)⟩
theorem MSet.add_lo {s : MSet} {k : Nat} (h : k < 64) : s.add k = ⟨s.x0 ||| 2 ^ k, s.x1⟩ := by unfold MSet.add; rw [decide_eq_true h]; rfl
theorem MSet.add_hi {s : MSet} {k : Nat} (h : ¬ k < 64) : s.add k = ⟨s.x0, s.x1 ||| 2 ^ (k - 64)⟩ := by unfold MSet.add; rw [decide_eq_false h]; rfl
theorem pow_word {k : Nat} (h : k < 64) : 2 ^ k < 18446744073709551616 := Nat.pow_lt_pow_right (a := 2) (by decide) h
theorem MSet.add_ok {s : MSet} {k : Nat} (hs : s.ok) (hk : k < 128) : (s.add k).ok := by
  by_cases h : k < 64
  · rw [MSet.add_lo h]; exact ⟨Nat.or_lt_two_pow (n := 64) hs.1 (pow_word h), hs.2⟩
  · rw [MSet.add_hi h]; exact ⟨hs.1, Nat.or_lt_two_pow (n := 64) hs.2 (pow_word (by omega))⟩
theorem MSet.add_has {s : MSet} {k j : Nat} (hk : k < 128) (hj : j < 128) : (s.add k).has j = (s.has j || decide (j = k)) := by
  by_cases h : k < 64
  · rw [MSet.add_lo h]
    by_cases g : j < 64
    · rw [MSet.has_lo g, MSet.has_lo g]
      show (s.x0 ||| 2 ^ k).testBit j = _
      rw [Nat.testBit_or, Nat.testBit_two_pow]
      congr 1
      exact decide_eq_decide.2 ⟨fun e => e.symm, fun e => e.symm⟩
    · rw [MSet.has_hi g, MSet.has_hi g, decide_eq_false (by omega), Bool.or_false]
  · rw [MSet.add_hi h]
    by_cases g : j < 64
    · rw [MSet.has_lo g, MSet.has_lo g, decide_eq_false (by omega), Bool.or_false]
    · rw [MSet.has_hi g, MSet.has_hi g]
      show (s.x1 ||| 2 ^ (k - 64)).testBit (j - 64) = _
      rw [Nat.testBit_or, Nat.testBit_two_pow]
      congr 1
      exact decide_eq_decide.2 (by omega)
theorem set_same {vs : List Value} {j : Nat} {v : Value} (h : vs[j]? = some v) : vs.set j v = vs := by
  apply List.ext_getElem?
  intro i
  rw [List.getElem?_set]
  split
  · next e => subst e; rw [h]; split
              · rfl
              · next hn => rw [List.getElem?_eq_none (by omega)] at h; cases h
  · rfl
theorem shl_word {k : Nat} (h : k < 64) : IntKind.u64.wrap (2 ^ k) = ((2 ^ k : Nat) : Int) := by
  have e : ((2 : Int) ^ k) = ((2 ^ k : Nat) : Int) := by rw [Int.natCast_pow]; rfl
  rw [e]
  have hp := pow_word h
  generalize 2 ^ k = z at *
  rw [IntKind.wrap_u64]
  omega

set_option maxHeartbeats 2000000 in
theorem add_any (b o k : Nat) (T : TypeId) (vs : List Value) (s : MSet) (w : World) (hs : s.ok) (hk : k < 128) (hb : Bw w b T vs) (h0 : vs[o]? = some (.int .u64 (s.x0 : Int))) (h1 : vs[o + 1]? = some (.int .u64 (s.x1 : Int))) :
    Calls Tryd.prog 90 #[.pointer (some ⟨b, o, none⟩), .int .i64 k] w fun e w' => e = .returned (.tuple #[]) ∧ Bw w' b T ((vs.set o (.int .u64 ((s.add k).x0 : Int))).set (o + 1) (.int .u64 ((s.add k).x1 : Int))) ∧ Turn [b] w w' := by
  have hw0 : IntKind.i64.wrap 0 = 0 := rfl
  by_cases hlo : k < 64
  · have he := bits_or_u64_nat s.x0 (2 ^ k) hs.1 (pow_word hlo)
    have HV : Hid ((vs.set o (.int .u64 ((s.add k).x0 : Int))).set (o + 1) (.int .u64 ((s.add k).x1 : Int)) = vs.set o (.int .u64 ((s.x0 ||| 2 ^ k : Nat) : Int))) := by
      unfold Hid
      rw [MSet.add_lo hlo]
      exact set_same (by rw [List.getElem?_set_ne (by omega)]; exact h1)
    rw [HV.out]
    have hd : (k : Int) / 64 = 0 := by omega
    have hm : (k : Int) % 64 = (k : Int) := by omega
    have htm : Int.tmod (k : Int) 64 = (k : Int) := by rw [Int.tmod_eq_emod_of_nonneg (by omega)]; omega
    have htd : Int.tdiv (k : Int) 64 = 0 := by rw [Int.tdiv_eq_ediv_of_nonneg (by omega)]; omega
    have c0 := hb.cell o _ h0
    have f0 := hb.free o
    have hl := hb.lt
    have hsh := shl_word hlo
    have HN := Hid.mk (hb.put o (.int .u64 ((s.x0 ||| 2 ^ k : Nat) : Int)))
    obtain ⟨p2, hp2⟩ : ∃ p : Nat, p = 2 ^ k := ⟨_, rfl⟩
    rw [← hp2] at he hsh HN ⊢
    clear hp2
    go_enter Tryd.func90, Tryd.ntmps90
    go_wp2_with fail
    refine wp_region_held_drew (S := fun W => True) (by kernel_rfl) (trivial) (fun hHeld => ?_)
    refine tk 0 q9d4_90_0_0 (some 4) (v := ?v1) rfl rfl (by kernel_rfl) hHeld (by rfl) (fun _ _ _ x => x) (fun w h => ?y1) ?_; (case y1 => (try dsimp only at h); go_simp; try (with_reducible rfl)); try simp only [Act.put, sa, s0, s1]
    refine tk 1 q9d4_90_0_1 (some 5) (v := ?v2) rfl rfl (by kernel_rfl) hHeld (by rfl) (fun _ _ _ x => x) (fun w h => ?y2) ?_; (case y2 => (try dsimp only at h); go_simp; try (with_reducible rfl)); try simp only [Act.put, sa, s0, s1]
    refine tk 2 q9d4_90_0_2 (some 6) (v := ?v3) rfl rfl (by kernel_rfl) hHeld (by rfl) (fun _ _ _ x => x) (fun w h => ?y3) ?_; (case y3 => (try dsimp only at h); go_simp; try (with_reducible rfl)); try simp only [Act.put, sa, s0, s1]
    refine tk 3 q9d4_90_0_3 (some 7) (v := ?v4) rfl rfl (by kernel_rfl) hHeld (by rfl) (fun _ _ _ x => x) (fun w h => ?y4) ?_; (case y4 => (try dsimp only at h); go_simp; try (with_reducible rfl)); try simp only [Act.put, sa, s0, s1]
    refine tk 4 q9d4_90_0_4 (some 8) (v := ?v5) rfl rfl (by kernel_rfl) hHeld (by rfl) (fun _ _ _ x => x) (fun w h => ?y5) ?_; (case y5 => (try dsimp only at h); go_simp; try (with_reducible rfl)); try simp only [Act.put, sa, s0, s1]
    refine tk 6 q9d4_90_0_6 (some 10) (v := ?v6) rfl rfl (by kernel_rfl) hHeld (by rfl) (fun _ _ _ x => x) (fun w h => ?y6) ?_; (case y6 => (try dsimp only at h); go_simp; try (with_reducible rfl)); try simp only [Act.put, sa, s0, s1]
    refine tk 7 q9d4_90_0_7 (some 11) (v := ?v7) rfl rfl (by kernel_rfl) hHeld (by rfl) (fun _ _ _ x => x) (fun w h => ?y7) ?_; (case y7 => (try dsimp only at h); go_simp; try (with_reducible rfl)); try simp only [Act.put, sa, s0, s1]
    refine tk 8 q9d4_90_0_8 (some 12) (v := ?v8) rfl rfl (by kernel_rfl) hHeld (by rfl) (fun _ _ _ x => x) (fun w h => ?y8) ?_; (case y8 => (try dsimp only at h); go_simp; try (with_reducible rfl)); try simp only [Act.put, sa, s0, s1]
    refine tk 10 q9d4_90_0_10 (some 14) (v := ?v9) rfl rfl (by kernel_rfl) hHeld (by rfl) (fun _ _ _ x => x) (fun w h => ?y9) ?_; (case y9 => (try dsimp only at h); go_simp; try (with_reducible rfl)); try simp only [Act.put, sa, s0, s1]
    refine wpAnyH_ready (rs := [5]) (by kernel_rfl) (by simp) ?_
    refine AllReadyH.cons (o := q9d4_90_0_5) rfl (fun K hK => ?_) AllReadyH.nil
    go_simp
    skip
    refine hK.out _ _ (trivial) (fun hHeld => ?_)
    clear hK K
    try simp only [Act.put, sa, s0, s1]
    refine tk 9 q9d4_90_0_9 (some 13) (v := ?v10) rfl rfl (by kernel_rfl) hHeld (by rfl) (fun _ _ _ x => x) (fun w h => ?y10) ?_; (case y10 => (try dsimp only at h); go_simp; try (with_reducible rfl)); try simp only [Act.put, sa, s0, s1]
    refine tk 11 q9d4_90_0_11 (some 15) (v := ?v11) rfl rfl (by kernel_rfl) hHeld (by rfl) (fun _ _ _ x => x) (fun w h => ?y11) ?_; (case y11 => (try dsimp only at h); go_simp; try (with_reducible rfl)); try simp only [Act.put, sa, s0, s1]
    refine wpAnyH_ready (rs := [12]) (by kernel_rfl) (by simp) ?_
    refine AllReadyH.cons (o := q9d4_90_0_12) rfl (fun K hK => ?_) AllReadyH.nil
    go_simp
    refine hK.out _ _ (trivial) (fun hHeld => ?_)
    clear hK K
    try simp only [Act.put, sa, s0, s1]
    refine wpAnyH_done (by kernel_rfl) ?_ _
    exact bodyPost_end (v := .tuple #[]) (by simp [results, Tryd.results90, go_sem]) rfl ⟨rfl, HN.out.drew, ((Turn.refl [b] w).setCell (by simp) _).drew⟩
  · obtain ⟨j, rfl⟩ : ∃ j, k = j + 64 := ⟨k - 64, by omega⟩
    have hj : j < 64 := by omega
    have he := bits_or_u64_nat s.x1 (2 ^ j) hs.2 (pow_word hj)
    have HV : Hid ((vs.set o (.int .u64 ((s.add (j + 64)).x0 : Int))).set (o + 1) (.int .u64 ((s.add (j + 64)).x1 : Int)) = vs.set (o + 1) (.int .u64 ((s.x1 ||| 2 ^ j : Nat) : Int))) := by
      unfold Hid
      rw [MSet.add_hi hlo, set_same h0]
      rfl
    rw [HV.out]
    have htm : Int.tmod ((j : Int) + 64) 64 = (j : Int) := by rw [Int.tmod_eq_emod_of_nonneg (by omega)]; omega
    have htd : Int.tdiv ((j : Int) + 64) 64 = 1 := by rw [Int.tdiv_eq_ediv_of_nonneg (by omega)]; omega
    have hw1 : IntKind.i64.wrap 1 = 1 := rfl
    have c0 := hb.cell (o + 1) _ h1
    have f0 := hb.free (o + 1)
    have hl := hb.lt
    have hsh := shl_word hj
    have HN := Hid.mk (hb.put (o + 1) (.int .u64 ((s.x1 ||| 2 ^ j : Nat) : Int)))
    obtain ⟨p2, hp2⟩ : ∃ p : Nat, p = 2 ^ j := ⟨_, rfl⟩
    rw [← hp2] at he hsh HN ⊢
    clear hp2
    go_enter Tryd.func90, Tryd.ntmps90
    go_wp2_with fail
    refine wp_region_held_drew (S := fun W => True) (by kernel_rfl) (trivial) (fun hHeld => ?_)
    refine tk 0 q9d4_90_0_0 (some 4) (v := ?v12) rfl rfl (by kernel_rfl) hHeld (by rfl) (fun _ _ _ x => x) (fun w h => ?y12) ?_; (case y12 => (try dsimp only at h); go_simp; try (with_reducible rfl)); try simp only [Act.put, sa, s0, s1]
    refine tk 1 q9d4_90_0_1 (some 5) (v := ?v13) rfl rfl (by kernel_rfl) hHeld (by rfl) (fun _ _ _ x => x) (fun w h => ?y13) ?_; (case y13 => (try dsimp only at h); go_simp; try (with_reducible rfl)); try simp only [Act.put, sa, s0, s1]
    refine tk 2 q9d4_90_0_2 (some 6) (v := ?v14) rfl rfl (by kernel_rfl) hHeld (by rfl) (fun _ _ _ x => x) (fun w h => ?y14) ?_; (case y14 => (try dsimp only at h); go_simp; try (with_reducible rfl)); try simp only [Act.put, sa, s0, s1]
    refine tk 3 q9d4_90_0_3 (some 7) (v := ?v15) rfl rfl (by kernel_rfl) hHeld (by rfl) (fun _ _ _ x => x) (fun w h => ?y15) ?_; (case y15 => (try dsimp only at h); go_simp; try (with_reducible rfl)); try simp only [Act.put, sa, s0, s1]
    refine tk 4 q9d4_90_0_4 (some 8) (v := ?v16) rfl rfl (by kernel_rfl) hHeld (by rfl) (fun _ _ _ x => x) (fun w h => ?y16) ?_; (case y16 => (try dsimp only at h); go_simp; try (with_reducible rfl)); try simp only [Act.put, sa, s0, s1]
    refine tk 6 q9d4_90_0_6 (some 10) (v := ?v17) rfl rfl (by kernel_rfl) hHeld (by rfl) (fun _ _ _ x => x) (fun w h => ?y17) ?_; (case y17 => (try dsimp only at h); go_simp; try (with_reducible rfl)); try simp only [Act.put, sa, s0, s1]
    refine tk 7 q9d4_90_0_7 (some 11) (v := ?v18) rfl rfl (by kernel_rfl) hHeld (by rfl) (fun _ _ _ x => x) (fun w h => ?y18) ?_; (case y18 => (try dsimp only at h); go_simp; try (with_reducible rfl)); try simp only [Act.put, sa, s0, s1]
    refine tk 8 q9d4_90_0_8 (some 12) (v := ?v19) rfl rfl (by kernel_rfl) hHeld (by rfl) (fun _ _ _ x => x) (fun w h => ?y19) ?_; (case y19 => (try dsimp only at h); go_simp; try (with_reducible rfl)); try simp only [Act.put, sa, s0, s1]
    refine tk 10 q9d4_90_0_10 (some 14) (v := ?v20) rfl rfl (by kernel_rfl) hHeld (by rfl) (fun _ _ _ x => x) (fun w h => ?y20) ?_; (case y20 => (try dsimp only at h); go_simp; try (with_reducible rfl)); try simp only [Act.put, sa, s0, s1]
    refine wpAnyH_ready (rs := [5]) (by kernel_rfl) (by simp) ?_
    refine AllReadyH.cons (o := q9d4_90_0_5) rfl (fun K hK => ?_) AllReadyH.nil
    go_simp
    skip
    refine hK.out _ _ (trivial) (fun hHeld => ?_)
    clear hK K
    try simp only [Act.put, sa, s0, s1]
    refine tk 9 q9d4_90_0_9 (some 13) (v := ?v21) rfl rfl (by kernel_rfl) hHeld (by rfl) (fun _ _ _ x => x) (fun w h => ?y21) ?_; (case y21 => (try dsimp only at h); go_simp; try (with_reducible rfl)); try simp only [Act.put, sa, s0, s1]
    refine tk 11 q9d4_90_0_11 (some 15) (v := ?v22) rfl rfl (by kernel_rfl) hHeld (by rfl) (fun _ _ _ x => x) (fun w h => ?y22) ?_; (case y22 => (try dsimp only at h); go_simp; try (with_reducible rfl)); try simp only [Act.put, sa, s0, s1]
    refine wpAnyH_ready (rs := [12]) (by kernel_rfl) (by simp) ?_
    refine AllReadyH.cons (o := q9d4_90_0_12) rfl (fun K hK => ?_) AllReadyH.nil
    go_simp
    refine hK.out _ _ (trivial) (fun hHeld => ?_)
    clear hK K
    try simp only [Act.put, sa, s0, s1]
    refine wpAnyH_done (by kernel_rfl) ?_ _
    exact bodyPost_end (v := .tuple #[]) (by simp [results, Tryd.results90, go_sem]) rfl ⟨rfl, HN.out.drew, ((Turn.refl [b] w).setCell (by simp) _).drew⟩

end Go.Proofs.YtmigamgcmhdncaaDoor
