/-
  Part 17 of the texts that the proof leans on.
-/
import Derived.Test.YtmigamgcmhdncaaDoorGrp0
import Derived.Test.YtmigamgcmhdncaaDoorGrp15
import Derived.Test.YtmigamgcmhdncaaDoorGrp4
set_option linter.unusedVariables false
set_option linter.unusedSimpArgs false
set_option maxRecDepth 10000

namespace Go.Proofs.YtmigamgcmhdncaaDoor
open Go.RowKit
abbrev q9d4_90_0_0 : Oper := ⟨some 4, .move (.tmp 0), 111, "l08_graph.go:215", #[], none⟩
abbrev q9d4_90_0_1 : Oper := ⟨some 5, .move (.tmp 1), 3, "l08_graph.go:215", #[], none⟩
abbrev q9d4_90_0_2 : Oper := ⟨some 6, .binOp .quo 3 (.tmp 5) (.const (.int .i64 64)) 3, 3, "l08_graph.go:215", #[⟨1, .data⟩], none⟩
abbrev q9d4_90_0_3 : Oper := ⟨some 7, .nilCheck (.tmp 4), 0, "l08_graph.go:215", #[⟨0, .data⟩], none⟩
abbrev q9d4_90_0_4 : Oper := ⟨some 8, .indexAddr 66 (.tmp 7) (.tmp 6), 0, "l08_graph.go:215", #[⟨3, .data⟩, ⟨2, .data⟩], none⟩
abbrev q9d4_90_0_6 : Oper := ⟨some 10, .move (.tmp 1), 3, "l08_graph.go:215", #[], none⟩
abbrev q9d4_90_0_7 : Oper := ⟨some 11, .binOp .rem 3 (.tmp 10) (.const (.int .i64 64)) 3, 3, "l08_graph.go:215", #[⟨6, .data⟩], none⟩
abbrev q9d4_90_0_8 : Oper := ⟨some 12, .binOp .shl 64 (.const (.int .u64 1)) (.tmp 11) 3, 64, "l08_graph.go:215", #[⟨7, .data⟩], none⟩
abbrev q9d4_90_0_10 : Oper := ⟨some 14, .nilCheck (.tmp 4), 0, "l08_graph.go:215", #[⟨0, .data⟩], none⟩
abbrev q9d4_90_0_5 : Oper := ⟨some 9, .load 64 (.tmp 8), 64, "l08_graph.go:215", #[⟨4, .data⟩], none⟩
abbrev q9d4_90_0_9 : Oper := ⟨some 13, .binOp .or 64 (.tmp 9) (.tmp 12) 64, 64, "l08_graph.go:215", #[⟨5, .data⟩, ⟨8, .data⟩], none⟩
abbrev q9d4_90_0_11 : Oper := ⟨some 15, .indexAddr 66 (.tmp 14) (.tmp 6), 0, "l08_graph.go:215", #[⟨10, .data⟩, ⟨2, .data⟩, ⟨0, .phase⟩, ⟨1, .phase⟩, ⟨2, .phase⟩, ⟨3, .phase⟩, ⟨4, .phase⟩, ⟨5, .phase⟩, ⟨6, .phase⟩, ⟨7, .phase⟩, ⟨8, .phase⟩, ⟨9, .phase⟩], none⟩
abbrev q9d4_90_0_12 : Oper := ⟨none, .store 64 (.tmp 15) (.tmp 13), 0, "l08_graph.go:215", #[⟨11, .data⟩, ⟨9, .data⟩, ⟨0, .phase⟩, ⟨1, .phase⟩, ⟨2, .phase⟩, ⟨3, .phase⟩, ⟨4, .phase⟩, ⟨5, .phase⟩, ⟨6, .phase⟩, ⟨7, .phase⟩, ⟨8, .phase⟩, ⟨9, .phase⟩], none⟩

def MSet.add (s : MSet) (k : Nat) : MSet := bif decide (k < 64) then ⟨s.x0 ||| 2 ^ k, s.x1⟩ else ⟨s.x0, s.x1 ||| 2 ^ (k - 64)⟩
theorem MSet.add_lo {s : MSet} {k : Nat} (h : k < 64) : s.add k = ⟨s.x0 ||| 2 ^ k, s.x1⟩ := by unfold MSet.add; rw [decide_eq_true h]; rfl
theorem MSet.add_hi {s : MSet} {k : Nat} (h : ¬ k < 64) : s.add k = ⟨s.x0, s.x1 ||| 2 ^ (k - 64)⟩ := by unfold MSet.add; rw [decide_eq_false h]; rfl
theorem pow_word {k : Nat} (h : k < 64) : 2 ^ k < 18446744073709551616 := Nat.pow_lt_pow_right (a := 2) (by decide) h
theorem MSet.add_ok {s : MSet} {k : Nat} (hs : s.ok) (hk : k < 128) : (s.add k).ok := by
  by_cases h : k < 64
  · rw [MSet.add_lo h]; exact ⟨Nat.or_lt_two_pow (n := 64) hs.1 (pow_word h), hs.2⟩
  · rw [MSet.add_hi h]; exact ⟨hs.1, Nat.or_lt_two_pow (n := 64) hs.2 (pow_word (by omega))⟩
theorem MSet.add_has {s : MSet} {k j : Nat} (hk : k < 128) (hj : j < 128) : (s.add k).has j = (s.has j || decide (j = k)) := by
  by_cases h : k < 64
  · rw [MSet.add_lo h]
    by_cases g : j < 64
    · rw [MSet.has_lo g, MSet.has_lo g]
      show (s.x0 ||| 2 ^ k).testBit j = _
      rw [Nat.testBit_or, Nat.testBit_two_pow]
      congr 1
      exact decide_eq_decide.2 ⟨fun e => e.symm, fun e => e.symm⟩
    · rw [MSet.has_hi g, MSet.has_hi g, decide_eq_false (by omega), Bool.or_false]
  · rw [MSet.add_hi h]
    by_cases g : j < 64
    · rw [MSet.has_lo g, MSet.has_lo g, decide_eq_false (by omega), Bool.or_false]
    · rw [MSet.has_hi g, MSet.has_hi g]
      show (s.x1 ||| 2 ^ (k - 64)).testBit (j - 64) = _
      rw [Nat.testBit_or, Nat.testBit_two_pow]
      congr 1
      exact decide_eq_decide.2 (by omega)
theorem set_same {vs : List Value} {j : Nat} {v : Value} (h : vs[j]? = some v) : vs.set j v = vs := by
  apply List.ext_getElem?
  intro i
  rw [List.getElem?_set]
  split
  · next e => subst e; rw [h]; split
              · rfl
              · next hn => rw [List.getElem?_eq_none (by omega)] at h; cases h
  · rfl
theorem shl_word {k : Nat} (h : k < 64) : IntKind.u64.wrap (2 ^ k) = ((2 ^ k : Nat) : Int) := by
  have e : ((2 : Int) ^ k) = ((2 ^ k : Nat) : Int) := by rw [Int.natCast_pow]; rfl
  rw [e]
  have hp := pow_word h
  generalize 2 ^ k = z at *
  rw [IntKind.wrap_u64]
  omega

set_option maxHeartbeats 2000000 in
theorem add_any (b o k : Nat) (T : TypeId) (vs : List Value) (s : MSet) (w : World) (hs : s.ok) (hk : k < 128) (hb : Bw w b T vs) (h0 : vs[o]? = some (.int .u64 (s.x0 : Int))) (h1 : vs[o + 1]? = some (.int .u64 (s.x1 : Int))) :
    Calls Tryd.prog 90 #[.pointer (some ⟨b, o, none⟩), .int .i64 k] w fun e w' => e = .returned (.tuple #[]) ∧ Bw w' b T ((vs.set o (.int .u64 ((s.add k).x0 : Int))).set (o + 1) (.int .u64 ((s.add k).x1 : Int))) ∧ Turn [b] w w' := by
  have hw0 : IntKind.i64.wrap 0 = 0 := rfl
  by_cases hlo : k < 64
  · have he := bits_or_u64_nat s.x0 (2 ^ k) hs.1 (pow_word hlo)
    have HV : Hid ((vs.set o (.int .u64 ((s.add k).x0 : Int))).set (o + 1) (.int .u64 ((s.add k).x1 : Int)) = vs.set o (.int .u64 ((s.x0 ||| 2 ^ k : Nat) : Int))) := by
      unfold Hid
      rw [MSet.add_lo hlo]
      exact set_same (by rw [List.getElem?_set_ne (by omega)]; exact h1)
    rw [HV.out]
    have hd : (k : Int) / 64 = 0 := by omega
    have hm : (k : Int) % 64 = (k : Int) := by omega
    have htm : Int.tmod (k : Int) 64 = (k : Int) := by rw [Int.tmod_eq_emod_of_nonneg (by omega)]; omega
    have htd : Int.tdiv (k : Int) 64 = 0 := by rw [Int.tdiv_eq_ediv_of_nonneg (by omega)]; omega
    have c0 := hb.cell o _ h0
    have f0 := hb.free o
    have hl := hb.lt
    have hsh := shl_word hlo
    have HN := Hid.mk (hb.put o (.int .u64 ((s.x0 ||| 2 ^ k : Nat) : Int)))
    obtain ⟨p2, hp2⟩ : ∃ p : Nat, p = 2 ^ k := ⟨_, rfl⟩
    rw [← hp2] at he hsh HN ⊢
    clear hp2
    go_enter Tryd.func90, Tryd.ntmps90
    go_wp2_with fail
    refine wp_region_held_drew (S := fun W => True) (by kernel_rfl) (trivial) (fun hHeld => ?_)
    refine tk 0 q9d4_90_0_0 (some 4) (v := ?v1) rfl rfl (by kernel_rfl) hHeld (by rfl) (fun _ _ _ x => x) (fun w h => ?y1) ?_; (case y1 => (try dsimp only at h); go_simp; try (with_reducible rfl)); try simp only [Act.put, sa, s0, s1]
    refine tk 1 q9d4_90_0_1 (some 5) (v := ?v2) rfl rfl (by kernel_rfl) hHeld (by rfl) (fun _ _ _ x => x) (fun w h => ?y2) ?_; (case y2 => (try dsimp only at h); go_simp; try (with_reducible rfl)); try simp only [Act.put, sa, s0, s1]
    refine tk 2 q9d4_90_0_2 (some 6) (v := ?v3) rfl rfl (by kernel_rfl) hHeld (by rfl) (fun _ _ _ x => x) (fun w h => ?y3) ?_; (case y3 => (try dsimp only at h); go_simp; try (with_reducible rfl)); try simp only [Act.put, sa, s0, s1]
    refine tk 3 q9d4_90_0_3 (some 7) (v := ?v4) rfl rfl (by kernel_rfl) hHeld (by rfl) (fun _ _ _ x => x) (fun w h => ?y4) ?_; (case y4 => (try dsimp only at h); go_simp; try (with_reducible rfl)); try simp only [Act.put, sa, s0, s1]
    refine tk 4 q9d4_90_0_4 (some 8) (v := ?v5) rfl rfl (by kernel_rfl) hHeld (by rfl) (fun _ _ _ x => x) (fun w h => ?y5) ?_; (case y5 => (try dsimp only at h); go_simp; try (with_reducible rfl)); try simp only [Act.put, sa, s0, s1]
    refine tk 6 q9d4_90_0_6 (some 10) (v := ?v6) rfl rfl (by kernel_rfl) hHeld (by rfl) (fun _ _ _ x => x) (fun w h => ?y6) ?_; (case y6 => (try dsimp only at h); go_simp; try (with_reducible rfl)); try simp only [Act.put, sa, s0, s1]
    refine tk 7 q9d4_90_0_7 (some 11) (v := ?v7) rfl rfl (by kernel_rfl) hHeld (by rfl) (fun _ _ _ x => x) (fun w h => ?y7) ?_; (case y7 => (try dsimp only at h); go_simp; try (with_reducible rfl)); try simp only [Act.put, sa, s0, s1]
    refine tk 8 q9d4_90_0_8 (some 12) (v := ?v8) rfl rfl (by kernel_rfl) hHeld (by rfl) (fun _ _ _ x => x) (fun w h => ?y8) ?_; (case y8 => (try dsimp only at h); go_simp; try (with_reducible rfl)); try simp only [Act.put, sa, s0, s1]
    refine tk 10 q9d4_90_0_10 (some 14) (v := ?v9) rfl rfl (by kernel_rfl) hHeld (by rfl) (fun _ _ _ x => x) (fun w h => ?y9) ?_; (case y9 => (try dsimp only at h); go_simp; try (with_reducible rfl)); try simp only [Act.put, sa, s0, s1]
    refine wpAnyH_ready (rs := [5]) (by kernel_rfl) (by simp) ?_
    refine AllReadyH.cons (o := q9d4_90_0_5) rfl (fun K hK => ?_) AllReadyH.nil
    go_simp
    skip
    refine hK.out _ _ (trivial) (fun hHeld => ?_)
    clear hK K
    try simp only [Act.put, sa, s0, s1]
    refine tk 9 q9d4_90_0_9 (some 13) (v := ?v10) rfl rfl (by kernel_rfl) hHeld (by rfl) (fun _ _ _ x => x) (fun w h => ?y10) ?_; (case y10 => (try dsimp only at h); go_simp; try (with_reducible rfl)); try simp only [Act.put, sa, s0, s1]
    refine tk 11 q9d4_90_0_11 (some 15) (v := ?v11) rfl rfl (by kernel_rfl) hHeld (by rfl) (fun _ _ _ x => x) (fun w h => ?y11) ?_; (case y11 => (try dsimp only at h); go_simp; try (with_reducible rfl)); try simp only [Act.put, sa, s0, s1]
    refine wpAnyH_ready (rs := [12]) (by kernel_rfl) (by simp) ?_
    refine AllReadyH.cons (o := q9d4_90_0_12) rfl (fun K hK => ?_) AllReadyH.nil
    go_simp
    refine hK.out _ _ (trivial) (fun hHeld => ?_)
    clear hK K
    try simp only [Act.put, sa, s0, s1]
    refine wpAnyH_done (by kernel_rfl) ?_ _
    exact bodyPost_end (v := .tuple #[]) (by simp [results, Tryd.results90, go_sem]) rfl ⟨rfl, HN.out.drew, ((Turn.refl [b] w).setCell (by simp) _).drew⟩
  · obtain ⟨j, rfl⟩ : ∃ j, k = j + 64 := ⟨k - 64, by omega⟩
    have hj : j < 64 := by omega
    have he := bits_or_u64_nat s.x1 (2 ^ j) hs.2 (pow_word hj)
    have HV : Hid ((vs.set o (.int .u64 ((s.add (j + 64)).x0 : Int))).set (o + 1) (.int .u64 ((s.add (j + 64)).x1 : Int)) = vs.set (o + 1) (.int .u64 ((s.x1 ||| 2 ^ j : Nat) : Int))) := by
      unfold Hid
      rw [MSet.add_hi hlo, set_same h0]
      rfl
    rw [HV.out]
    have htm : Int.tmod ((j : Int) + 64) 64 = (j : Int) := by rw [Int.tmod_eq_emod_of_nonneg (by omega)]; omega
    have htd : Int.tdiv ((j : Int) + 64) 64 = 1 := by rw [Int.tdiv_eq_ediv_of_nonneg (by omega)]; omega
    have hw1 : IntKind.i64.wrap 1 = 1 := rfl
    have c0 := hb.cell (o + 1) _ h1
    have f0 := hb.free (o + 1)
    have hl := hb.lt
    have hsh := shl_word hj
    have HN := Hid.mk (hb.put (o + 1) (.int .u64 ((s.x1 ||| 2 ^ j : Nat) : Int)))
    obtain ⟨p2, hp2⟩ : ∃ p : Nat, p = 2 ^ j := ⟨_, rfl⟩
    rw [← hp2] at he hsh HN ⊢
    clear hp2
    go_enter Tryd.func90, Tryd.ntmps90
    go_wp2_with fail
    refine wp_region_held_drew (S := fun W => True) (by kernel_rfl) (trivial) (fun hHeld => ?_)
    refine tk 0 q9d4_90_0_0 (some 4) (v := ?v12) rfl rfl (by kernel_rfl) hHeld (by rfl) (fun _ _ _ x => x) (fun w h => ?y12) ?_; (case y12 => (try dsimp only at h); go_simp; try (with_reducible rfl)); try simp only [Act.put, sa, s0, s1]
    refine tk 1 q9d4_90_0_1 (some 5) (v := ?v13) rfl rfl (by kernel_rfl) hHeld (by rfl) (fun _ _ _ x => x) (fun w h => ?y13) ?_; (case y13 => (try dsimp only at h); go_simp; try (with_reducible rfl)); try simp only [Act.put, sa, s0, s1]
    refine tk 2 q9d4_90_0_2 (some 6) (v := ?v14) rfl rfl (by kernel_rfl) hHeld (by rfl) (fun _ _ _ x => x) (fun w h => ?y14) ?_; (case y14 => (try dsimp only at h); go_simp; try (with_reducible rfl)); try simp only [Act.put, sa, s0, s1]
    refine tk 3 q9d4_90_0_3 (some 7) (v := ?v15) rfl rfl (by kernel_rfl) hHeld (by rfl) (fun _ _ _ x => x) (fun w h => ?y15) ?_; (case y15 => (try dsimp only at h); go_simp; try (with_reducible rfl)); try simp only [Act.put, sa, s0, s1]
    refine tk 4 q9d4_90_0_4 (some 8) (v := ?v16) rfl rfl (by kernel_rfl) hHeld (by rfl) (fun _ _ _ x => x) (fun w h => ?y16) ?_; (case y16 => (try dsimp only at h); go_simp; try (with_reducible rfl)); try simp only [Act.put, sa, s0, s1]
    refine tk 6 q9d4_90_0_6 (some 10) (v := ?v17) rfl rfl (by kernel_rfl) hHeld (by rfl) (fun _ _ _ x => x) (fun w h => ?y17) ?_; (case y17 => (try dsimp only at h); go_simp; try (with_reducible rfl)); try simp only [Act.put, sa, s0, s1]
    refine tk 7 q9d4_90_0_7 (some 11) (v := ?v18) rfl rfl (by kernel_rfl) hHeld (by rfl) (fun _ _ _ x => x) (fun w h => ?y18) ?_; (case y18 => (try dsimp only at h); go_simp; try (with_reducible rfl)); try simp only [Act.put, sa, s0, s1]
    refine tk 8 q9d4_90_0_8 (some 12) (v := ?v19) rfl rfl (by kernel_rfl) hHeld (by rfl) (fun _ _ _ x => x) (fun w h => ?y19) ?_; (case y19 => (try dsimp only at h); go_simp; try (with_reducible rfl)); try simp only [Act.put, sa, s0, s1]
    refine tk 10 q9d4_90_0_10 (some 14) (v := ?v20) rfl rfl (by kernel_rfl) hHeld (by rfl) (fun _ _ _ x => x) (fun w h => ?y20) ?_; (case y20 => (try dsimp only at h); go_simp; try (with_reducible rfl)); try simp only [Act.put, sa, s0, s1]
    refine wpAnyH_ready (rs := [5]) (by kernel_rfl) (by simp) ?_
    refine AllReadyH.cons (o := q9d4_90_0_5) rfl (fun K hK => ?_) AllReadyH.nil
    go_simp
    skip
    refine hK.out _ _ (trivial) (fun hHeld => ?_)
    clear hK K
    try simp only [Act.put, sa, s0, s1]
    refine tk 9 q9d4_90_0_9 (some 13) (v := ?v21) rfl rfl (by kernel_rfl) hHeld (by rfl) (fun _ _ _ x => x) (fun w h => ?y21) ?_; (case y21 => (try dsimp only at h); go_simp; try (with_reducible rfl)); try simp only [Act.put, sa, s0, s1]
    refine tk 11 q9d4_90_0_11 (some 15) (v := ?v22) rfl rfl (by kernel_rfl) hHeld (by rfl) (fun _ _ _ x => x) (fun w h => ?y22) ?_; (case y22 => (try dsimp only at h); go_simp; try (with_reducible rfl)); try simp only [Act.put, sa, s0, s1]
    refine wpAnyH_ready (rs := [12]) (by kernel_rfl) (by simp) ?_
    refine AllReadyH.cons (o := q9d4_90_0_12) rfl (fun K hK => ?_) AllReadyH.nil
    go_simp
    refine hK.out _ _ (trivial) (fun hHeld => ?_)
    clear hK K
    try simp only [Act.put, sa, s0, s1]
    refine wpAnyH_done (by kernel_rfl) ?_ _
    exact bodyPost_end (v := .tuple #[]) (by simp [results, Tryd.results90, go_sem]) rfl ⟨rfl, HN.out.drew, ((Turn.refl [b] w).setCell (by simp) _).drew⟩


def rSet : Rep MSet := fun B w cs s => cs = s.cells ∧ s.ok
theorem rSet_good : rSet.Good := ⟨fun h _ => h, fun h _ => h⟩
def hasAt (ss : List MSet) (j p : Nat) : Bool := match ss[j]? with | none => false | some s => s.has p
theorem hasAt_at {ss : List MSet} {j p : Nat} (h : j < ss.length) : hasAt ss j p = ss[j].has p := by unfold hasAt; rw [List.getElem?_eq_getElem h]
def ringHas (ss : List MSet) (p k j : Nat) : Bool := decide (j = p) || (decide (j < k) && (hasAt ss j p && hasAt ss p j))
theorem ringHas_zero (ss : List MSet) (p j : Nat) : ringHas ss p 0 j = decide (j = p) := by unfold ringHas; simp
theorem ringHas_no {ss : List MSet} {p k j : Nat} (h : (hasAt ss k p && hasAt ss p k) = false) : ringHas ss p (k + 1) j = ringHas ss p k j := by
  unfold ringHas
  by_cases hj : j = k
  · subst hj; rw [h]; simp
  · have e : decide (j < k + 1) = decide (j < k) := decide_eq_decide.2 (by omega)
    rw [e]
theorem ringHas_yes {ss : List MSet} {p k j : Nat} (h : (hasAt ss k p && hasAt ss p k) = true) : ringHas ss p (k + 1) j = (ringHas ss p k j || decide (j = k)) := by
  unfold ringHas
  by_cases hj : j = k
  · subst hj; rw [h]; simp
  · have e : decide (j < k + 1) = decide (j < k) := decide_eq_decide.2 (by omega)
    rw [e, decide_eq_false hj, Bool.or_false]

set_option maxHeartbeats 4000000 in
theorem ringOf_any (a : Option Addr) (n cap p : Nat) (ss : List MSet) (w : World) (hx : ss.length = n) (hn : n ≤ 100) (hp : p < n) (hr : LeafL 2 rSet w.heap.size w a cap ss) :
    Calls Tryd.prog 68 #[.slice a n cap, .int .i64 p] w fun e w' => ∃ s : MSet, e = .returned (.agg s.cells.toArray) ∧ s.ok ∧ (∀ j, j < 128 → s.has j = ringHas ss p n j) ∧ Below w.heap.size w w' := by
  have HX := Hid.mk hx
  have HL := Hid.mk hr
  clear hx hr
  go_enter Tryd.func68, Tryd.ntmps68
  go_wp2_with fail
  obtain ⟨w1, hw1⟩ : ∃ x, x = (w.alloc (.cells #[.int .u64 0, .int .u64 0] 66)).alloc (.cells #[.int .u64 0, .int .u64 0] 66) := ⟨_, rfl⟩
  have hb01 : Below w.heap.size w w1 := by rw [hw1]; exact ((Below.refl _ _).alloc (Nat.le_refl _) _).alloc (by simp) _
  have hR1 : Bw w1 w.heap.size 66 [.int .u64 0, .int .u64 0] := by rw [hw1]; exact (Bw.new _ _ _).alloc _
  have hO1 : Bw w1 (w.heap.size + 1) 66 [.int .u64 ((0 : Nat) : Int), .int .u64 ((0 : Nat) : Int)] := by rw [hw1]; exact Bw.new' _ _ _ (by simp)
  rw [← hw1]
  clear hw1
  refine (add_any (w.heap.size + 1) 0 p 66 _ ⟨0, 0⟩ w1 ⟨by decide, by decide⟩ (by omega) hO1 rfl rfl).mono ?_
  rintro e w2 ⟨rfl, hO2, hT2⟩
  have hb02 : Below w.heap.size w w2 := hb01.trans (hT2.below (fun x hx => by simp at hx; omega) hb01.size)
  have hR2 := hR1.turn hT2 (by simp)
  obtain ⟨s2, hs2⟩ : ∃ s : MSet, s = MSet.add ⟨0, 0⟩ p := ⟨_, rfl⟩
  have HS0 : Hid (s2.ok ∧ (∀ j, j < 128 → s2.has j = ringHas ss p 0 j) ∧ Bw w2 (w.heap.size + 1) 66 s2.cells) := by
    refine ⟨by rw [hs2]; exact MSet.add_ok ⟨by decide, by decide⟩ (by omega), fun j hj => ?_, by rw [hs2]; exact hO2⟩
    rw [hs2, MSet.add_has (by omega) hj, ringHas_zero]
    have e0 : MSet.has ⟨0, 0⟩ j = false := by unfold MSet.has; cases decide (j < 64) <;> exact Nat.zero_testBit _
    rw [e0, Bool.false_or]
  clear hO2 hT2 hO1 hR1
  go_wp2_with fail
  go_loopw [12] (fun iv wr => ∃ (k : Nat) (s : MSet), k ≤ n ∧ iv = .int .i64 k ∧ Hid (s.ok ∧ (∀ j, j < 128 → s.has j = ringHas ss p k j) ∧ Bw wr (w.heap.size + 1) 66 s.cells) ∧ Bw wr w.heap.size 66 [.int .u64 0, .int .u64 0] ∧ Below w.heap.size w wr) (fun iv _ => n - (intOf iv).toNat)
  case atStart => exact ⟨0, s2, Nat.zero_le _, rfl, HS0, hR2, hb02⟩
  case round =>
    obtain ⟨k, s, hk, rfl, HS, hRk, hbk⟩ := hrel
    have hlO := HS.out.2.2.lt
    by_cases hlt : k < n
    · have hkl : k < ss.length := by rw [HX.out]; exact hlt
      have hpl : p < ss.length := by rw [HX.out]; exact hp
      obtain ⟨b1, o1, rfl, hB, cs, hcl, hcell, hcs, hsk⟩ := (HL.out.2.2.below rSet_good hbk) k hkl
      obtain ⟨b1', o1', he1, _, cs', hcl', hcell', hcs', hsp⟩ := (HL.out.2.2.below rSet_good hbk) p hpl
      simp only [Option.some.injEq, Addr.mk.injEq, and_true] at he1
      obtain ⟨rfl, rfl⟩ := he1
      have hak := hasAt_at (p := p) hkl
      have hap := hasAt_at (p := k) hpl
      have HNO : Hid ((hasAt ss k p && hasAt ss p k) = false → ∀ j, ringHas ss p (k + 1) j = ringHas ss p k j) := fun h j => ringHas_no h
      have HYE : Hid ((hasAt ss k p && hasAt ss p k) = true → ∀ j, ringHas ss p (k + 1) j = (ringHas ss p k j || decide (j = k))) := fun h j => ringHas_yes h
      generalize ss[k] = sk at *
      generalize ss[p] = sp at *
      subst hcs hcs'
      have k0 := hcell 0 _ rfl
      have k1 := hcell 1 _ rfl
      have q0 := hcell' 0 _ rfl
      have q1 := hcell' 1 _ rfl
      rw [Nat.add_zero] at k0 q0
      have hB' : b1 < wr.heap.size := Nat.lt_of_lt_of_le hB hbk.size
      have HCk := Hid.mk (fun W => has_any sk p W hsk (by omega))
      have HCp := Hid.mk (fun W => has_any sp k W hsp (by omega))
      rw [← hak] at HCk
      rw [← hap] at HCp
      clear hcell hcell' hcl hcl' hak hap
      obtain ⟨wp, hwp⟩ : ∃ y, y = wr.alloc (.cells #[.int .u64 (sk.x0 : Int), .int .u64 (sk.x1 : Int)] 66) := ⟨_, rfl⟩
      have hbp : Below wr.heap.size wr wp := by rw [hwp]; exact (Below.refl _ _).alloc (Nat.le_refl _) _
      go_wp2_with fail
      rw [← hwp]
      clear hwp
      refine (HCk.out wp).mono ?_
      rintro e w3 ⟨rfl, hx3⟩
      have hb3 := bthen hbp hx3
      have hbw3 : Below w.heap.size w w3 := hbk.trans (hb3.mono hbk.size)
      have hO3 := HS.out.2.2.under hb3
      have hR3 := hRk.under hb3
      have q2 := (hb3.cell (p := ⟨b1, o1 + p * 2, none⟩) hB').trans q0
      have q3 := (hb3.cell (p := ⟨b1, o1 + p * 2 + 1, none⟩) hB').trans q1
      have hp1 : (0 : Int) ≤ (p : Int) := by omega
      have hp2 : (p : Int) < (n : Int) := by omega
      clear k0 k1 q0 q1
      rcases h1 : hasAt ss k p with _ | _
      · have HN := Hid.mk (HNO.out (by rw [h1]; rfl))
        go_wp2_with fail
        go_roundw
        case rel => exact ⟨k + 1, s, by omega, by go_num, ⟨HS.out.1, fun j hj => by rw [HN.out j]; exact HS.out.2.1 j hj, hO3⟩, hR3, hbw3⟩
        case measure => simp [intOf]; omega
      go_wp2_with fail
      refine (HCp.out w3).mono ?_
      rintro e w4 ⟨rfl, hx4⟩
      have hbw4 : Below w.heap.size w w4 := hbw3.trans (hx4.mono hbw3.size)
      have hO4 := hO3.under hx4
      have hR4 := hR3.under hx4
      clear q2 q3
      rcases h2 : hasAt ss p k with _ | _
      · have HN := Hid.mk (HNO.out (by rw [h1, h2]; rfl))
        go_wp2_with fail
        go_roundw
        case rel => exact ⟨k + 1, s, by omega, by go_num, ⟨HS.out.1, fun j hj => by rw [HN.out j]; exact HS.out.2.1 j hj, hO4⟩, hR4, hbw4⟩
        case measure => simp [intOf]; omega
      have HY := Hid.mk (HYE.out (by rw [h1, h2]; rfl))
      go_wp2_with fail
      refine (add_any (w.heap.size + 1) 0 k 66 s.cells s w4 HS.out.1 (by omega) hO4 rfl rfl).mono ?_
      rintro e w5 ⟨rfl, hO5, hT5⟩
      have hbw5 : Below w.heap.size w w5 := hbw4.trans (hT5.below (fun x hx => by simp at hx; omega) hbw4.size)
      have hR5 := hR4.turn hT5 (by simp)
      have HSn : Hid ((s.add k).ok ∧ (∀ j, j < 128 → (s.add k).has j = ringHas ss p (k + 1) j) ∧ Bw w5 (w.heap.size + 1) 66 (s.add k).cells) := ⟨MSet.add_ok HS.out.1 (by omega), fun j hj => by rw [MSet.add_has (by omega) hj, HY.out j, HS.out.2.1 j hj], hO5⟩
      clear hO5 hT5
      go_wp2_with fail
      go_roundw
      case rel => exact ⟨k + 1, s.add k, by omega, by go_num, HSn, hR5, hbw5⟩
      case measure => simp [intOf]; omega
    · have hkn : n = k := by omega
      subst hkn
      have c0 := HS.out.2.2.cell 0 _ rfl
      have c1 := HS.out.2.2.cell 1 _ rfl
      have r0 := hRk.cell 0 _ rfl
      have r1 := hRk.cell 1 _ rfl
      have f0 := hRk.free 0
      have f1 := hRk.free 1
      have hl := hRk.lt
      go_wp2_with fail
      exact bodyPost_ret (v := .agg #[.int .u64 (s.x0 : Int), .int .u64 (s.x1 : Int)]) (by simp [results, Tryd.results68, go_sem, *]) rfl ⟨s, rfl, HS.out.1, HS.out.2.1, (hbk.setCell (by simp) _).setCell (by simp) _⟩


def flatS : List MSet → List Value
  | [] => []
  | s :: r => .int .u64 (s.x0 : Int) :: .int .u64 (s.x1 : Int) :: flatS r
theorem flatS_length : ∀ ss : List MSet, (flatS ss).length = ss.length * 2
  | [] => rfl
  | s :: r => by simp only [flatS, List.length_cons, flatS_length r]; omega
theorem flatS_at0 : ∀ {ss : List MSet} {i : Nat} (h : i < ss.length), (flatS ss)[i * 2]? = some (.int .u64 (ss[i].x0 : Int))
  | s :: r, 0, _ => rfl
  | s :: r, i + 1, h => by
    have ih := flatS_at0 (ss := r) (i := i) (by simpa using h)
    have e : (i + 1) * 2 = i * 2 + 1 + 1 := by omega
    rw [e]
    simpa [flatS] using ih
theorem flatS_at1 : ∀ {ss : List MSet} {i : Nat} (h : i < ss.length), (flatS ss)[i * 2 + 1]? = some (.int .u64 (ss[i].x1 : Int))
  | s :: r, 0, _ => rfl
  | s :: r, i + 1, h => by
    have ih := flatS_at1 (ss := r) (i := i) (by simpa using h)
    have e : (i + 1) * 2 + 1 = i * 2 + 1 + 1 + 1 := by omega
    rw [e]
    simpa [flatS] using ih
theorem flatS_set : ∀ {ss : List MSet} {i : Nat} {t : MSet}, i < ss.length → ((flatS ss).set (i * 2) (.int .u64 (t.x0 : Int))).set (i * 2 + 1) (.int .u64 (t.x1 : Int)) = flatS (ss.set i t)
  | s :: r, 0, t, _ => rfl
  | s :: r, i + 1, t, h => by
    have ih := flatS_set (ss := r) (i := i) (t := t) (by simpa using h)
    have e : (i + 1) * 2 = i * 2 + 1 + 1 := by omega
    have e2 : (i + 1) * 2 + 1 = i * 2 + 1 + 1 + 1 := by omega
    rw [e2, e]
    simpa [flatS] using ih
theorem flatS_made (n : Nat) : (madeCells (Value.agg #[.int .u64 0, .int .u64 0]).cells (n * 2)).toList = flatS (List.replicate n ⟨0, 0⟩) := by
  have h2 : (Value.agg #[.int .u64 0, .int .u64 0]).cells = #[.int .u64 0, .int .u64 0] := rfl
  rw [h2]
  apply List.ext_getElem?
  intro j
  by_cases hj : j < n * 2
  · have e1 : (madeCells #[.int .u64 0, .int .u64 0] (n * 2)).toList[j]? = some (.int .u64 0) := by
      have : j % 2 = 0 ∨ j % 2 = 1 := by omega
      rcases this with h | h <;> simp [madeCells, hj, h]
    rw [e1]
    obtain ⟨i, hi⟩ : ∃ i, j = i * 2 ∨ j = i * 2 + 1 := ⟨j / 2, by omega⟩
    rcases hi with rfl | rfl
    · rw [flatS_at0 (i := i) (by simp; omega)]; simp
    · rw [flatS_at1 (i := i) (by simp; omega)]; simp
  · have h3 := flatS_length (List.replicate n (⟨0, 0⟩ : MSet))
    rw [List.length_replicate] at h3
    have h4 : (madeCells #[Value.int .u64 0, .int .u64 0] (n * 2)).toList.length = n * 2 := by simp [madeCells]
    rw [List.getElem?_eq_none (by omega), List.getElem?_eq_none (by omega)]

/-- Sets that lie one behind the other in a block of one's own are a list that can be read. -/
theorem leaf_flat {w : World} {g : Nat} {T : TypeId} {ss : List MSet} (h : Bw w g T (flatS ss)) (hok : ∀ i, (hi : i < ss.length) → ss[i].ok) {B c : Nat} (hB : g < B) (hc : ss.length ≤ c) (hc2 : c ≤ 9223372036854775807) : LeafL 2 rSet B w (some ⟨g, 0, none⟩) c ss := by
  refine ⟨hc, hc2, fun j hj => ⟨g, 0, rfl, hB, ss[j].cells, rfl, fun i u hu => ?_, rfl, hok j hj⟩⟩
  have e : 0 + j * 2 + i = j * 2 + i := by omega
  rw [e]
  apply h.cell
  match i, hu with
  | 0, hu => simp only [MSet.cells, List.getElem?_cons_zero, Option.some.injEq] at hu; subst hu; exact flatS_at0 hj
  | 1, hu => simp [MSet.cells] at hu; subst hu; exact flatS_at1 hj
  | i + 2, hu => simp [MSet.cells] at hu

/-- A dep's place: where it is, or 100. -/
def isAt (l : List MItem) (d : MDot) (j : Nat) : Prop := (∃ hj : j < l.length, sameD l[j].fD d = true) ∨ (j = 100 ∧ hasI l d = false)
/-- The places of the first c deps. -/
def StepSt (l : List MItem) (ds : List MDot) (c : Nat) (s : MSet) : Prop := s.ok ∧ ∀ j, j < 128 → (s.has j = true ↔ ∃ d, d ∈ ds.take c ∧ isAt l d j)
def StepOk (l : List MItem) (i : Nat) (s : MSet) : Prop := s.ok ∧ ∀ j, j < 128 → (s.has j = true ↔ stepTo l i j ∨ (j = 100 ∧ lacks l i))

theorem MSet.zero_has (j : Nat) : MSet.has ⟨0, 0⟩ j = false := by unfold MSet.has; cases decide (j < 64) <;> exact Nat.zero_testBit _
theorem StepSt.start (l : List MItem) (ds : List MDot) : StepSt l ds 0 ⟨0, 0⟩ := ⟨⟨by decide, by decide⟩, fun j hj => by rw [MSet.zero_has]; simp⟩
theorem StepSt.next {l : List MItem} {ds : List MDot} {c : Nat} {s : MSet} (h : StepSt l ds c s) (hc : c < ds.length) {p : Nat} (hp : p < 128) (hw : ∀ j, isAt l ds[c] j ↔ j = p) : StepSt l ds (c + 1) (s.add p) := by
  refine ⟨MSet.add_ok h.1 hp, fun j hj => ?_⟩
  rw [MSet.add_has hp hj, Bool.or_eq_true, h.2 j hj, decide_eq_true_iff, ← hw j]
  constructor
  · rintro (⟨d, hd, ha⟩ | ha)
    · exact ⟨d, (mem_take_succ hc).2 (.inl hd), ha⟩
    · exact ⟨_, (mem_take_succ hc).2 (.inr rfl), ha⟩
  · rintro ⟨d, hd, ha⟩
    rcases (mem_take_succ hc).1 hd with g | rfl
    · exact .inl ⟨d, g, ha⟩
    · exact .inr ha
theorem StepSt.done {l : List MItem} {i : Nat} (hi : i < l.length) {s : MSet} (h : StepSt l l[i].fDeps l[i].fDeps.length s) : StepOk l i s := by
  refine ⟨h.1, fun j hj => ?_⟩
  rw [h.2 j hj, List.take_length]
  constructor
  · rintro ⟨d, hd, ⟨hj, hs⟩ | ⟨rfl, hn⟩⟩
    · exact .inl ⟨hi, hj, d, hd, hs⟩
    · exact .inr ⟨rfl, hi, d, hd, hn⟩
  · rintro (⟨_, hj, d, hd, hs⟩ | ⟨rfl, _, d, hd, hn⟩)
    · exact ⟨d, hd, .inl ⟨hj, hs⟩⟩
    · exact ⟨d, hd, .inr ⟨rfl, hn⟩⟩
/-- Found: that place alone. -/
theorem isAt_found {l : List MItem} (hg : graphP ⟨l⟩ = true) {d : MDot} {p : Nat} (ht : thereAt l d p = true) : p < l.length ∧ ∀ j, isAt l d j ↔ j = p := by
  have hp : p < l.length := by
    apply Classical.byContradiction
    intro h
    rw [thereAt_no h] at ht; cases ht
  rw [thereAt_at hp] at ht
  refine ⟨hp, fun j => ⟨?_, ?_⟩⟩
  · rintro (⟨hj, hs⟩ | ⟨_, hn⟩)
    · exact graph_uniq hg hj hp hs ht
    · rw [hasI_yes hp ht] at hn; cases hn
  · rintro rfl
    exact .inl ⟨hp, ht⟩
/-- Not found: outside. -/
theorem isAt_none {l : List MItem} (hg : graphP ⟨l⟩ = true) {d : MDot} {p : Nat} (hP : PlaceAt l d p) (ht : thereAt l d p = false) : ∀ j, isAt l d j ↔ j = 100 := by
  have hno : ∀ j, (hj : j < l.length) → sameD l[j].fD d = false := by
    intro j hj
    rw [Bool.eq_false_iff]
    intro hs
    have hse := sameD_eq hs
    obtain ⟨h1, h2, h3⟩ := hP
    rcases Nat.lt_trichotomy j p with g | g | g
    · have hq : p - 1 < l.length := by omega
      have h4 := dotLt_iff.1 (h2 (p - 1) hq (by omega))
      by_cases he : j = p - 1
      · subst he; omega
      · have h5 := dotLt_iff.1 (graph_up hg j (p - 1) hj hq (by omega)); omega
    · subst g
      rw [thereAt_at hj, hs] at ht; cases ht
    · have hpl : p < l.length := by omega
      have h4 := h3 hpl
      have h5 := dotLt_iff.1 (graph_up hg p j hpl hj g)
      have h6 : ¬ (l[p].fD.fR < d.fR ∨ (l[p].fD.fR = d.fR ∧ l[p].fD.fN < d.fN)) := fun h => by rw [dotLt_iff.2 h] at h4; cases h4
      omega
  intro j
  constructor
  · rintro (⟨hj, hs⟩ | ⟨h, _⟩)
    · rw [hno j hj] at hs; cases hs
    · exact h
  · rintro rfl
    exact .inr ⟨rfl, hasI_no hno⟩

end Go.Proofs.YtmigamgcmhdncaaDoor
