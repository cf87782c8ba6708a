/-
  The specification's merge of two lists.
-/
import Derived.Test.YtiahmcclmlmgpaaDoorRegK
import Derived.Test.YtiahmcclmlmgpaaDoorMergeM
import Derived.Test.YtiahmcclmlmgpaaDoorPairK
import Derived.Test.YtiahmcclmlmgpaaDoorPairsOk
namespace Go.Proofs.YtiahmcclmlmgpaaDoor
open Go.RowKit Go.Maps
set_option linter.unusedVariables false
set_option linter.unusedSimpArgs false
set_option maxRecDepth 10000
abbrev q9e2_42_8_0 : Oper := ⟨some 31, .move (.tmp 7), 3, "l04_mem.go:83", #[], none⟩
abbrev q9e2_42_8_1 : Oper := ⟨some 32, .move (.tmp 1), 27, "l04_mem.go:83", #[], none⟩
abbrev q9e2_42_8_2 : Oper := ⟨some 33, .call { callee := .builtin .len, args := #[.tmp 32], argTypes := #[27] }, 3, "l04_mem.go:83", #[⟨1, .data⟩], none⟩
abbrev q9e2_42_8_3 : Oper := ⟨some 34, .binOp .eql 3 (.tmp 31) (.tmp 33) 3, 4, "l04_mem.go:83", #[⟨0, .data⟩, ⟨2, .data⟩], none⟩
abbrev q9e2_42_8_4 : Oper := ⟨some 35, .move (.tmp 34), 4, "l04_mem.go:83", #[⟨3, .data⟩], none⟩
abbrev q9e2_42_8_5 : Oper := ⟨some 36, .move (.tmp 6), 3, "l04_mem.go:83", #[⟨4, .guard⟩], some (4, false)⟩
abbrev q9e2_42_8_6 : Oper := ⟨some 37, .move (.tmp 0), 27, "l04_mem.go:83", #[⟨4, .guard⟩], some (4, false)⟩
abbrev q9e2_42_8_7 : Oper := ⟨some 38, .call { callee := .builtin .len, args := #[.tmp 37], argTypes := #[27] }, 3, "l04_mem.go:83", #[⟨6, .data⟩, ⟨4, .guard⟩], some (4, false)⟩
abbrev q9e2_42_8_8 : Oper := ⟨some 39, .binOp .lss 3 (.tmp 36) (.tmp 38) 3, 4, "l04_mem.go:83", #[⟨5, .data⟩, ⟨7, .data⟩, ⟨4, .guard⟩], some (4, false)⟩
abbrev q9e2_42_8_9 : Oper := ⟨some 40, .move (.tmp 39), 4, "l04_mem.go:83", #[⟨8, .data⟩, ⟨4, .chain⟩, ⟨4, .guard⟩], some (4, false)⟩
abbrev q9e2_42_8_10 : Oper := ⟨some 41, .move (.tmp 0), 27, "l04_mem.go:83", #[⟨9, .guard⟩], some (9, true)⟩
abbrev q9e2_42_8_11 : Oper := ⟨some 42, .move (.tmp 6), 3, "l04_mem.go:83", #[⟨9, .guard⟩], some (9, true)⟩
abbrev q9e2_42_8_12 : Oper := ⟨some 43, .indexAddr 27 (.tmp 41) (.tmp 42), 0, "l04_mem.go:83", #[⟨10, .data⟩, ⟨11, .data⟩, ⟨9, .guard⟩], some (9, true)⟩
abbrev q9e2_42_8_13 : Oper := ⟨some 44, .fieldAddr 31 (.tmp 43) 0, 0, "l04_mem.go:83", #[⟨12, .data⟩, ⟨9, .guard⟩], some (9, true)⟩
abbrev q9e2_42_8_14 : Oper := ⟨some 45, .load 9 (.tmp 44), 9, "l04_mem.go:83", #[⟨13, .data⟩, ⟨9, .guard⟩], some (9, true)⟩
abbrev q9e2_42_8_15 : Oper := ⟨some 46, .move (.tmp 1), 27, "l04_mem.go:83", #[⟨9, .guard⟩], some (9, true)⟩
abbrev q9e2_42_8_16 : Oper := ⟨some 47, .move (.tmp 7), 3, "l04_mem.go:83", #[⟨9, .guard⟩], some (9, true)⟩
abbrev q9e2_42_8_17 : Oper := ⟨some 48, .indexAddr 27 (.tmp 46) (.tmp 47), 0, "l04_mem.go:83", #[⟨15, .data⟩, ⟨16, .data⟩, ⟨9, .guard⟩], some (9, true)⟩
abbrev q9e2_42_8_18 : Oper := ⟨some 49, .fieldAddr 31 (.tmp 48) 0, 0, "l04_mem.go:83", #[⟨17, .data⟩, ⟨9, .guard⟩], some (9, true)⟩
abbrev q9e2_42_8_19 : Oper := ⟨some 50, .load 9 (.tmp 49), 9, "l04_mem.go:83", #[⟨18, .data⟩, ⟨9, .guard⟩], some (9, true)⟩
abbrev q9e2_42_8_20 : Oper := ⟨some 51, .binOp .lss 9 (.tmp 45) (.tmp 50) 9, 4, "l04_mem.go:83", #[⟨14, .data⟩, ⟨19, .data⟩, ⟨9, .guard⟩], some (9, true)⟩
abbrev q9e2_42_8_21 : Oper := ⟨some 52, .pick (.tmp 40) (.tmp 51) (.const (.bool false)), 4, "l04_mem.go:83", #[⟨9, .data⟩, ⟨20, .data⟩, ⟨4, .guard⟩], some (4, false)⟩
abbrev q9e2_42_8_22 : Oper := ⟨some 53, .pick (.tmp 35) (.const (.bool true)) (.tmp 52), 4, "l04_mem.go:83", #[⟨4, .data⟩, ⟨21, .data⟩], none⟩
abbrev q9e2_42_8_23 : Oper := ⟨some 30, .assign (.tmp 53), 4, "l04_mem.go:83", #[⟨22, .data⟩, ⟨9, .chain⟩], none⟩
abbrev q9e2_42_11_0 : Oper := ⟨some 64, .move (.tmp 6), 3, "l04_mem.go:86", #[], none⟩
abbrev q9e2_42_11_1 : Oper := ⟨some 65, .move (.tmp 0), 27, "l04_mem.go:86", #[], none⟩
abbrev q9e2_42_11_2 : Oper := ⟨some 66, .call { callee := .builtin .len, args := #[.tmp 65], argTypes := #[27] }, 3, "l04_mem.go:86", #[⟨1, .data⟩], none⟩
abbrev q9e2_42_11_3 : Oper := ⟨some 67, .binOp .eql 3 (.tmp 64) (.tmp 66) 3, 4, "l04_mem.go:86", #[⟨0, .data⟩, ⟨2, .data⟩], none⟩
abbrev q9e2_42_11_4 : Oper := ⟨some 68, .move (.tmp 67), 4, "l04_mem.go:86", #[⟨3, .data⟩], none⟩
abbrev q9e2_42_11_5 : Oper := ⟨some 69, .move (.tmp 1), 27, "l04_mem.go:86", #[⟨4, .guard⟩], some (4, false)⟩
abbrev q9e2_42_11_6 : Oper := ⟨some 70, .move (.tmp 7), 3, "l04_mem.go:86", #[⟨4, .guard⟩], some (4, false)⟩
abbrev q9e2_42_11_7 : Oper := ⟨some 71, .indexAddr 27 (.tmp 69) (.tmp 70), 0, "l04_mem.go:86", #[⟨5, .data⟩, ⟨6, .data⟩, ⟨4, .guard⟩], some (4, false)⟩
abbrev q9e2_42_11_8 : Oper := ⟨some 72, .fieldAddr 31 (.tmp 71) 0, 0, "l04_mem.go:86", #[⟨7, .data⟩, ⟨4, .guard⟩], some (4, false)⟩
abbrev q9e2_42_11_9 : Oper := ⟨some 73, .load 9 (.tmp 72), 9, "l04_mem.go:86", #[⟨8, .data⟩, ⟨4, .guard⟩], some (4, false)⟩
abbrev q9e2_42_11_10 : Oper := ⟨some 74, .move (.tmp 0), 27, "l04_mem.go:86", #[⟨4, .guard⟩], some (4, false)⟩
abbrev q9e2_42_11_11 : Oper := ⟨some 75, .move (.tmp 6), 3, "l04_mem.go:86", #[⟨4, .guard⟩], some (4, false)⟩
abbrev q9e2_42_11_12 : Oper := ⟨some 76, .indexAddr 27 (.tmp 74) (.tmp 75), 0, "l04_mem.go:86", #[⟨10, .data⟩, ⟨11, .data⟩, ⟨4, .guard⟩], some (4, false)⟩
abbrev q9e2_42_11_13 : Oper := ⟨some 77, .fieldAddr 31 (.tmp 76) 0, 0, "l04_mem.go:86", #[⟨12, .data⟩, ⟨4, .guard⟩], some (4, false)⟩
abbrev q9e2_42_11_14 : Oper := ⟨some 78, .load 9 (.tmp 77), 9, "l04_mem.go:86", #[⟨13, .data⟩, ⟨4, .guard⟩], some (4, false)⟩
abbrev q9e2_42_11_15 : Oper := ⟨some 79, .binOp .lss 9 (.tmp 73) (.tmp 78) 9, 4, "l04_mem.go:86", #[⟨9, .data⟩, ⟨14, .data⟩, ⟨4, .guard⟩], some (4, false)⟩
abbrev q9e2_42_11_16 : Oper := ⟨some 80, .pick (.tmp 68) (.const (.bool true)) (.tmp 79), 4, "l04_mem.go:86", #[⟨4, .data⟩, ⟨15, .data⟩], none⟩
abbrev q9e2_42_11_17 : Oper := ⟨some 63, .assign (.tmp 80), 4, "l04_mem.go:86", #[⟨16, .data⟩, ⟨4, .chain⟩], none⟩

set_option maxHeartbeats 8000000 in
theorem l4Merge_any (a b : Option Addr) (na nb ca cb : Nat) (la lb : List MPair) (w : World) (hxa : la.length = na) (hxb : lb.length = nb) (hna : na ≤ 16777216) (hnb : nb ≤ 16777216) (hLa : LeafL 3 rPair w.heap.size w a ca la) (hLb : LeafL 3 rPair w.heap.size w b cb lb) :
    Calls Tryd.prog 42 #[.slice a na ca, .slice b nb cb] w fun e w' => ∃ v, e = .returned v ∧ RowR 3 31 rPair w.heap.size w' w.heap.size v (mergeP la lb) ∧ Below w.heap.size w w' := by
  obtain ⟨iP, hiP, hzP0, hzP1, hzP2⟩ := info_parts Tryd.infoPair
  have HXA := Hid.mk hxa
  have HXB := Hid.mk hxb
  have HLA := Hid.mk hLa
  have HLB := Hid.mk hLb
  clear hxa hxb hLa hLb
  go_enter Tryd.func42, Tryd.ntmps42
  go_wp2_with fail
  go_loopw [5, 6, 7] (fun v iv kv wr => ∃ (i k : Nat) (out : List MPair), i ≤ na ∧ k ≤ nb ∧ iv = .int .i64 i ∧ kv = .int .i64 k ∧ RowR 3 31 rPair w.heap.size wr w.heap.size v out ∧ out.length ≤ i + k ∧ Hid (mergeP la lb = out ++ mergeP (la.drop i) (lb.drop k)) ∧ Below w.heap.size w wr) (fun _ iv kv _ => (na - (intOf iv).toNat) + (nb - (intOf kv).toNat))
  case atStart => exact ⟨0, 0, [], Nat.zero_le _, Nat.zero_le _, rfl, rfl, ⟨[], rfl, (fun _ h => by cases h), (fun _ h => by simp at h), by have h := own_lit1 w w.heap.size 31 3 (Nat.le_refl _); simpa using h⟩, by simp, rfl, (Below.refl _ _).alloc (Nat.le_refl _) _⟩
  case round =>
    obtain ⟨i, k, out, hi, hk, rfl, rfl, hrow, hol, HM, hbk⟩ := hrel
    have hbz := hbk.size
    by_cases hia : i < na
    · have hxl : i < la.length := by rw [HXA.out]; exact hia
      have hia2 : (i : Int) < (na : Int) := by omega
      have hi0 : (0 : Int) ≤ (i : Int) := by omega
      obtain ⟨ba, oa, rfl, hBx, csx, _, hcellx, rfl, gx0, gx1, _, _⟩ := (HLA.out.2.2.below rPair_good hbk) i hxl
      have hBx' : ba < wr.heap.size := by omega
      have k0 := hcellx 0 _ rfl
      have k1 := hcellx 1 _ rfl
      have k2 := hcellx 2 _ rfl
      rw [Nat.add_zero] at k0
      obtain ⟨x, hqx⟩ : ∃ x, x = la[i] := ⟨_, rfl⟩
      rw [← hqx] at k0 k1 k2 gx0 gx1
      have px0 : ∀ W, Below wr.heap.size wr W → W.cell? ⟨ba, oa + i * 3, none⟩ = some (.string x.fKey) := fun W hb => (hb.cell (p := ⟨ba, oa + i * 3, none⟩) hBx').trans k0
      have px1 : ∀ W, Below wr.heap.size wr W → W.cell? ⟨ba, oa + i * 3 + 1, none⟩ = some (.string x.fVal) := fun W hb => (hb.cell (p := ⟨ba, oa + i * 3 + 1, none⟩) hBx').trans k1
      have px2 : ∀ W, Below wr.heap.size wr W → W.cell? ⟨ba, oa + i * 3 + 2, none⟩ = some (.bool x.fGone) := fun W hb => (hb.cell (p := ⟨ba, oa + i * 3 + 2, none⟩) hBx').trans k2
      have HRPx : Hid (∀ W : World, rPair w.heap.size W [.string x.fKey, .string x.fVal, .bool x.fGone] x) := fun W => ⟨rfl, gx0, gx1, trivial, trivial⟩
      have HDx : Hid (la.drop i = x :: la.drop (i + 1)) := by show _ = _; rw [hqx]; exact List.drop_eq_getElem_cons hxl
      clear k0 k1 k2 hcellx gx0 gx1 hqx
      by_cases hkb : k < nb
      · have hyl : k < lb.length := by rw [HXB.out]; exact hkb
        have hkb2 : (k : Int) < (nb : Int) := by omega
        have hk0 : (0 : Int) ≤ (k : Int) := by omega
        have hkne : ((k : Int) == (nb : Int)) = false := beq_eq_false_iff_ne.2 (by omega)
        have hine : ((i : Int) == (na : Int)) = false := beq_eq_false_iff_ne.2 (by omega)
        obtain ⟨bb, ob, rfl, hBy, csy, _, hcelly, rfl, gy0, gy1, _, _⟩ := (HLB.out.2.2.below rPair_good hbk) k hyl
        have hBy' : bb < wr.heap.size := by omega
        have k0 := hcelly 0 _ rfl
        have k1 := hcelly 1 _ rfl
        have k2 := hcelly 2 _ rfl
        rw [Nat.add_zero] at k0
        obtain ⟨y, hqy⟩ : ∃ x, x = lb[k] := ⟨_, rfl⟩
        rw [← hqy] at k0 k1 k2 gy0 gy1
        have py0 : ∀ W, Below wr.heap.size wr W → W.cell? ⟨bb, ob + k * 3, none⟩ = some (.string y.fKey) := fun W hb => (hb.cell (p := ⟨bb, ob + k * 3, none⟩) hBy').trans k0
        have py1 : ∀ W, Below wr.heap.size wr W → W.cell? ⟨bb, ob + k * 3 + 1, none⟩ = some (.string y.fVal) := fun W hb => (hb.cell (p := ⟨bb, ob + k * 3 + 1, none⟩) hBy').trans k1
        have py2 : ∀ W, Below wr.heap.size wr W → W.cell? ⟨bb, ob + k * 3 + 2, none⟩ = some (.bool y.fGone) := fun W hb => (hb.cell (p := ⟨bb, ob + k * 3 + 2, none⟩) hBy').trans k2
        have HRPy : Hid (∀ W : World, rPair w.heap.size W [.string y.fKey, .string y.fVal, .bool y.fGone] y) := fun W => ⟨rfl, gy0, gy1, trivial, trivial⟩
        have HDy : Hid (lb.drop k = y :: lb.drop (k + 1)) := by show _ = _; rw [hqy]; exact List.drop_eq_getElem_cons hyl
        clear k0 k1 k2 hcelly gy0 gy1 hqy
        by_cases hA : kLt x.fKey y.fKey = true
        · have e1 : Op.bytesLess x.fKey.toList y.fKey.toList = true := hA
          go_wp2_with fail
          refine wp_region_held_drew (S := fun W => Below wr.heap.size wr W) (by kernel_rfl) (Below.drew (Below.refl _ _)) (fun hHeld => ?_)
          refine tk 0 q9e2_42_8_0 (some 31) (v := ?v1) rfl rfl (by kernel_rfl) hHeld (by rfl) (fun _ _ _ x => x) (fun w h => ?y1) ?_; (case y1 => (try dsimp only at h); go_simp; try (with_reducible rfl)); try simp only [Act.put, sa, s0, s1]
          refine tk 1 q9e2_42_8_1 (some 32) (v := ?v2) rfl rfl (by kernel_rfl) hHeld (by rfl) (fun _ _ _ x => x) (fun w h => ?y2) ?_; (case y2 => (try dsimp only at h); go_simp; try (with_reducible rfl)); try simp only [Act.put, sa, s0, s1]
          refine tk 2 q9e2_42_8_2 (some 33) (v := ?v3) rfl rfl (by kernel_rfl) hHeld (by rfl) (fun _ _ _ x => x) (fun w h => ?y3) ?_; (case y3 => (try dsimp only at h); go_simp; try (with_reducible rfl)); try simp only [Act.put, sa, s0, s1]
          refine tk 3 q9e2_42_8_3 (some 34) (v := ?v4) rfl rfl (by kernel_rfl) hHeld (by rfl) (fun _ _ _ x => x) (fun w h => ?y4) ?_; (case y4 => (try dsimp only at h); go_simp; try (with_reducible rfl)); try simp only [Act.put, sa, s0, s1]
          refine tk 4 q9e2_42_8_4 (some 35) (v := ?v5) rfl rfl (by kernel_rfl) hHeld (by rfl) (fun _ _ _ x => x) (fun w h => ?y5) ?_; (case y5 => (try dsimp only at h); go_simp; try (with_reducible rfl)); try simp only [Act.put, sa, s0, s1]
          refine tk 5 q9e2_42_8_5 (some 36) (v := ?v6) rfl rfl (by kernel_rfl) hHeld (by rfl) (fun _ _ _ x => x) (fun w h => ?y6) ?_; (case y6 => (try dsimp only at h); go_simp; try (with_reducible rfl)); try simp only [Act.put, sa, s0, s1]
          refine tk 6 q9e2_42_8_6 (some 37) (v := ?v7) rfl rfl (by kernel_rfl) hHeld (by rfl) (fun _ _ _ x => x) (fun w h => ?y7) ?_; (case y7 => (try dsimp only at h); go_simp; try (with_reducible rfl)); try simp only [Act.put, sa, s0, s1]
          refine tk 7 q9e2_42_8_7 (some 38) (v := ?v8) rfl rfl (by kernel_rfl) hHeld (by rfl) (fun _ _ _ x => x) (fun w h => ?y8) ?_; (case y8 => (try dsimp only at h); go_simp; try (with_reducible rfl)); try simp only [Act.put, sa, s0, s1]
          refine tk 8 q9e2_42_8_8 (some 39) (v := ?v9) rfl rfl (by kernel_rfl) hHeld (by rfl) (fun _ _ _ x => x) (fun w h => ?y9) ?_; (case y9 => (try dsimp only at h); go_simp; try (with_reducible rfl)); try simp only [Act.put, sa, s0, s1]
          refine tk 9 q9e2_42_8_9 (some 40) (v := ?v10) rfl rfl (by kernel_rfl) hHeld (by rfl) (fun _ _ _ x => x) (fun w h => ?y10) ?_; (case y10 => (try dsimp only at h); go_simp; try (with_reducible rfl)); try simp only [Act.put, sa, s0, s1]
          refine tk 10 q9e2_42_8_10 (some 41) (v := ?v11) rfl rfl (by kernel_rfl) hHeld (by rfl) (fun _ _ _ x => x) (fun w h => ?y11) ?_; (case y11 => (try dsimp only at h); go_simp; try (with_reducible rfl)); try simp only [Act.put, sa, s0, s1]
          refine tk 11 q9e2_42_8_11 (some 42) (v := ?v12) rfl rfl (by kernel_rfl) hHeld (by rfl) (fun _ _ _ x => x) (fun w h => ?y12) ?_; (case y12 => (try dsimp only at h); go_simp; try (with_reducible rfl)); try simp only [Act.put, sa, s0, s1]
          refine tk 12 q9e2_42_8_12 (some 43) (v := ?v13) rfl rfl (by kernel_rfl) hHeld (by rfl) (fun _ _ _ x => x) (fun w h => ?y13) ?_; (case y13 => (try dsimp only at h); go_simp; try (with_reducible rfl)); try simp only [Act.put, sa, s0, s1]
          refine tk 13 q9e2_42_8_13 (some 44) (v := ?v14) rfl rfl (by kernel_rfl) hHeld (by rfl) (fun _ _ _ x => x) (fun w h => ?y14) ?_; (case y14 => (try dsimp only at h); go_simp; try (with_reducible rfl)); try simp only [Act.put, sa, s0, s1]
          refine tk 14 q9e2_42_8_14 (some 45) (v := ?v15) rfl rfl (by kernel_rfl) hHeld (by rfl) (fun _ _ _ x => x) (fun w h => ?y15) ?_; (case y15 => (try dsimp only at h); go_simp; try (with_reducible rfl)); try simp only [Act.put, sa, s0, s1]
          refine tk 15 q9e2_42_8_15 (some 46) (v := ?v16) rfl rfl (by kernel_rfl) hHeld (by rfl) (fun _ _ _ x => x) (fun w h => ?y16) ?_; (case y16 => (try dsimp only at h); go_simp; try (with_reducible rfl)); try simp only [Act.put, sa, s0, s1]
          refine tk 16 q9e2_42_8_16 (some 47) (v := ?v17) rfl rfl (by kernel_rfl) hHeld (by rfl) (fun _ _ _ x => x) (fun w h => ?y17) ?_; (case y17 => (try dsimp only at h); go_simp; try (with_reducible rfl)); try simp only [Act.put, sa, s0, s1]
          refine tk 17 q9e2_42_8_17 (some 48) (v := ?v18) rfl rfl (by kernel_rfl) hHeld (by rfl) (fun _ _ _ x => x) (fun w h => ?y18) ?_; (case y18 => (try dsimp only at h); go_simp; try (with_reducible rfl)); try simp only [Act.put, sa, s0, s1]
          refine tk 18 q9e2_42_8_18 (some 49) (v := ?v19) rfl rfl (by kernel_rfl) hHeld (by rfl) (fun _ _ _ x => x) (fun w h => ?y19) ?_; (case y19 => (try dsimp only at h); go_simp; try (with_reducible rfl)); try simp only [Act.put, sa, s0, s1]
          refine tk 19 q9e2_42_8_19 (some 50) (v := ?v20) rfl rfl (by kernel_rfl) hHeld (by rfl) (fun _ _ _ x => x) (fun w h => ?y20) ?_; (case y20 => (try dsimp only at h); go_simp; try (with_reducible rfl)); try simp only [Act.put, sa, s0, s1]
          refine tk 20 q9e2_42_8_20 (some 51) (v := ?v21) rfl rfl (by kernel_rfl) hHeld (by rfl) (fun _ _ _ x => x) (fun w h => ?y21) ?_; (case y21 => (try dsimp only at h); go_simp; try (with_reducible rfl)); try simp only [Act.put, sa, s0, s1]
          refine tk 21 q9e2_42_8_21 (some 52) (v := ?v22) rfl rfl (by kernel_rfl) hHeld (by rfl) (fun _ _ _ x => x) (fun w h => ?y22) ?_; (case y22 => (try dsimp only at h); go_simp; try (with_reducible rfl)); try simp only [Act.put, sa, s0, s1]
          refine tk 22 q9e2_42_8_22 (some 53) (v := ?v23) rfl rfl (by kernel_rfl) hHeld (by rfl) (fun _ _ _ x => x) (fun w h => ?y23) ?_; (case y23 => (try dsimp only at h); go_simp; try (with_reducible rfl)); try simp only [Act.put, sa, s0, s1]
          refine tk 23 q9e2_42_8_23 (some 30) (v := ?v24) rfl rfl (by kernel_rfl) hHeld (by rfl) (fun _ _ _ x => x) (fun w h => ?y24) ?_; (case y24 => (try dsimp only at h); go_simp; try (with_reducible rfl)); try simp only [Act.put, sa, s0, s1]
          refine wpAnyH_done (by kernel_rfl) ?_ _
          obtain ⟨W1, hwd⟩ : ∃ W9, W9 = wr.drew := ⟨_, rfl⟩
          rw [← hwd] at hHeld ⊢
          have hbW1 := hHeld
          clear hwd
          have HF : Hid (mergeP la lb = (out ++ [x]) ++ mergeP (la.drop (i + 1)) (lb.drop (k))) := by show _ = _; rw [HM.out, HDx.out, HDy.out, mergeP_less hA, ← HDy.out]; simp
          obtain ⟨css, r1, r2, r3, r4⟩ := hrow
          obtain ⟨Wx, hWx⟩ : ∃ Wx, Wx = W1.alloc (.cells #[.string x.fKey, .string x.fVal, .bool x.fGone] 31) := ⟨_, rfl⟩
          have hbx0 : Below wr.heap.size wr Wx := by rw [hWx]; exact hbW1.alloc hbW1.size _
          have hbx : Bx Wx W1.heap.size [.string x.fKey, .string x.fVal, .bool x.fGone] := by rw [hWx]; exact Bx.new _ _ _
          have r4x := own_below r4 hbx0
          have hzx := hbx0.size
          have hzw := hbW1.size
          have cx0 := px0 W1 hbW1
          have cx1 := px1 W1 hbW1
          have cx2 := px2 W1 hbW1
          go_wp2_with (at_builtin; rw [← hWx]; refine wpList_append_own_at _ rfl _ _ 27 rfl w.heap.size 31 iP (.agg #[.string ⟨#[]⟩, .string ⟨#[]⟩, .bool false]) 3 40 Tryd.underlying27 hiP hzP0 hzP1 hzP2 rfl (by decide) _ _ _ rfl r4x ⟨W1.heap.size, 0, none⟩ 1 1 [.string x.fKey, .string x.fVal, .bool x.fGone] rfl rfl (bx_news hbx) (by intro u hu; simp at hu; rcases hu with rfl | rfl | rfl <;> rfl) (by unfold maxLen; omega) (by omega) (by omega) ?_; intro v' w3 hown3 hgrow3 hnil hloc)
          have hT := Turn.after hbx0 (turnOwn hgrow3)
          have hge : ∀ k, k ∈ (Value.ownBlock _).toList → w.heap.size ≤ k := fun k hk => (r4.lt k (by simpa using hk)).1
          have hBl : Below w.heap.size wr w3 := Turn.below hT (fun k hk => hge k hk) hbz
          go_roundw
          case rel => exact ⟨i + 1, k, out ++ [x], by omega, by omega, by first | rfl | go_num, by first | rfl | go_num, RowR.push rPair_good r1 r2 r3 hBl rfl (HRPx.out w3) hown3, by simp only [List.length_append, List.length_singleton]; omega, HF, hbk.trans hBl⟩
          case measure => simp [intOf]; omega
        · have hA2 : kLt x.fKey y.fKey = false := Bool.eq_false_iff.2 hA
          have e1 : Op.bytesLess x.fKey.toList y.fKey.toList = false := hA2
          by_cases hC : kLt y.fKey x.fKey = true
          · have e2 : Op.bytesLess y.fKey.toList x.fKey.toList = true := hC
            go_wp2_with fail
            refine wp_region_held_drew (S := fun W => Below wr.heap.size wr W) (by kernel_rfl) (Below.drew (Below.refl _ _)) (fun hHeld => ?_)
            refine tk 0 q9e2_42_8_0 (some 31) (v := ?v25) rfl rfl (by kernel_rfl) hHeld (by rfl) (fun _ _ _ x => x) (fun w h => ?y25) ?_; (case y25 => (try dsimp only at h); go_simp; try (with_reducible rfl)); try simp only [Act.put, sa, s0, s1]
            refine tk 1 q9e2_42_8_1 (some 32) (v := ?v26) rfl rfl (by kernel_rfl) hHeld (by rfl) (fun _ _ _ x => x) (fun w h => ?y26) ?_; (case y26 => (try dsimp only at h); go_simp; try (with_reducible rfl)); try simp only [Act.put, sa, s0, s1]
            refine tk 2 q9e2_42_8_2 (some 33) (v := ?v27) rfl rfl (by kernel_rfl) hHeld (by rfl) (fun _ _ _ x => x) (fun w h => ?y27) ?_; (case y27 => (try dsimp only at h); go_simp; try (with_reducible rfl)); try simp only [Act.put, sa, s0, s1]
            refine tk 3 q9e2_42_8_3 (some 34) (v := ?v28) rfl rfl (by kernel_rfl) hHeld (by rfl) (fun _ _ _ x => x) (fun w h => ?y28) ?_; (case y28 => (try dsimp only at h); go_simp; try (with_reducible rfl)); try simp only [Act.put, sa, s0, s1]
            refine tk 4 q9e2_42_8_4 (some 35) (v := ?v29) rfl rfl (by kernel_rfl) hHeld (by rfl) (fun _ _ _ x => x) (fun w h => ?y29) ?_; (case y29 => (try dsimp only at h); go_simp; try (with_reducible rfl)); try simp only [Act.put, sa, s0, s1]
            refine tk 5 q9e2_42_8_5 (some 36) (v := ?v30) rfl rfl (by kernel_rfl) hHeld (by rfl) (fun _ _ _ x => x) (fun w h => ?y30) ?_; (case y30 => (try dsimp only at h); go_simp; try (with_reducible rfl)); try simp only [Act.put, sa, s0, s1]
            refine tk 6 q9e2_42_8_6 (some 37) (v := ?v31) rfl rfl (by kernel_rfl) hHeld (by rfl) (fun _ _ _ x => x) (fun w h => ?y31) ?_; (case y31 => (try dsimp only at h); go_simp; try (with_reducible rfl)); try simp only [Act.put, sa, s0, s1]
            refine tk 7 q9e2_42_8_7 (some 38) (v := ?v32) rfl rfl (by kernel_rfl) hHeld (by rfl) (fun _ _ _ x => x) (fun w h => ?y32) ?_; (case y32 => (try dsimp only at h); go_simp; try (with_reducible rfl)); try simp only [Act.put, sa, s0, s1]
            refine tk 8 q9e2_42_8_8 (some 39) (v := ?v33) rfl rfl (by kernel_rfl) hHeld (by rfl) (fun _ _ _ x => x) (fun w h => ?y33) ?_; (case y33 => (try dsimp only at h); go_simp; try (with_reducible rfl)); try simp only [Act.put, sa, s0, s1]
            refine tk 9 q9e2_42_8_9 (some 40) (v := ?v34) rfl rfl (by kernel_rfl) hHeld (by rfl) (fun _ _ _ x => x) (fun w h => ?y34) ?_; (case y34 => (try dsimp only at h); go_simp; try (with_reducible rfl)); try simp only [Act.put, sa, s0, s1]
            refine tk 10 q9e2_42_8_10 (some 41) (v := ?v35) rfl rfl (by kernel_rfl) hHeld (by rfl) (fun _ _ _ x => x) (fun w h => ?y35) ?_; (case y35 => (try dsimp only at h); go_simp; try (with_reducible rfl)); try simp only [Act.put, sa, s0, s1]
            refine tk 11 q9e2_42_8_11 (some 42) (v := ?v36) rfl rfl (by kernel_rfl) hHeld (by rfl) (fun _ _ _ x => x) (fun w h => ?y36) ?_; (case y36 => (try dsimp only at h); go_simp; try (with_reducible rfl)); try simp only [Act.put, sa, s0, s1]
            refine tk 12 q9e2_42_8_12 (some 43) (v := ?v37) rfl rfl (by kernel_rfl) hHeld (by rfl) (fun _ _ _ x => x) (fun w h => ?y37) ?_; (case y37 => (try dsimp only at h); go_simp; try (with_reducible rfl)); try simp only [Act.put, sa, s0, s1]
            refine tk 13 q9e2_42_8_13 (some 44) (v := ?v38) rfl rfl (by kernel_rfl) hHeld (by rfl) (fun _ _ _ x => x) (fun w h => ?y38) ?_; (case y38 => (try dsimp only at h); go_simp; try (with_reducible rfl)); try simp only [Act.put, sa, s0, s1]
            refine tk 14 q9e2_42_8_14 (some 45) (v := ?v39) rfl rfl (by kernel_rfl) hHeld (by rfl) (fun _ _ _ x => x) (fun w h => ?y39) ?_; (case y39 => (try dsimp only at h); go_simp; try (with_reducible rfl)); try simp only [Act.put, sa, s0, s1]
            refine tk 15 q9e2_42_8_15 (some 46) (v := ?v40) rfl rfl (by kernel_rfl) hHeld (by rfl) (fun _ _ _ x => x) (fun w h => ?y40) ?_; (case y40 => (try dsimp only at h); go_simp; try (with_reducible rfl)); try simp only [Act.put, sa, s0, s1]
            refine tk 16 q9e2_42_8_16 (some 47) (v := ?v41) rfl rfl (by kernel_rfl) hHeld (by rfl) (fun _ _ _ x => x) (fun w h => ?y41) ?_; (case y41 => (try dsimp only at h); go_simp; try (with_reducible rfl)); try simp only [Act.put, sa, s0, s1]
            refine tk 17 q9e2_42_8_17 (some 48) (v := ?v42) rfl rfl (by kernel_rfl) hHeld (by rfl) (fun _ _ _ x => x) (fun w h => ?y42) ?_; (case y42 => (try dsimp only at h); go_simp; try (with_reducible rfl)); try simp only [Act.put, sa, s0, s1]
            refine tk 18 q9e2_42_8_18 (some 49) (v := ?v43) rfl rfl (by kernel_rfl) hHeld (by rfl) (fun _ _ _ x => x) (fun w h => ?y43) ?_; (case y43 => (try dsimp only at h); go_simp; try (with_reducible rfl)); try simp only [Act.put, sa, s0, s1]
            refine tk 19 q9e2_42_8_19 (some 50) (v := ?v44) rfl rfl (by kernel_rfl) hHeld (by rfl) (fun _ _ _ x => x) (fun w h => ?y44) ?_; (case y44 => (try dsimp only at h); go_simp; try (with_reducible rfl)); try simp only [Act.put, sa, s0, s1]
            refine tk 20 q9e2_42_8_20 (some 51) (v := ?v45) rfl rfl (by kernel_rfl) hHeld (by rfl) (fun _ _ _ x => x) (fun w h => ?y45) ?_; (case y45 => (try dsimp only at h); go_simp; try (with_reducible rfl)); try simp only [Act.put, sa, s0, s1]
            refine tk 21 q9e2_42_8_21 (some 52) (v := ?v46) rfl rfl (by kernel_rfl) hHeld (by rfl) (fun _ _ _ x => x) (fun w h => ?y46) ?_; (case y46 => (try dsimp only at h); go_simp; try (with_reducible rfl)); try simp only [Act.put, sa, s0, s1]
            refine tk 22 q9e2_42_8_22 (some 53) (v := ?v47) rfl rfl (by kernel_rfl) hHeld (by rfl) (fun _ _ _ x => x) (fun w h => ?y47) ?_; (case y47 => (try dsimp only at h); go_simp; try (with_reducible rfl)); try simp only [Act.put, sa, s0, s1]
            refine tk 23 q9e2_42_8_23 (some 30) (v := ?v48) rfl rfl (by kernel_rfl) hHeld (by rfl) (fun _ _ _ x => x) (fun w h => ?y48) ?_; (case y48 => (try dsimp only at h); go_simp; try (with_reducible rfl)); try simp only [Act.put, sa, s0, s1]
            refine wpAnyH_done (by kernel_rfl) ?_ _
            obtain ⟨W1, hwd⟩ : ∃ W9, W9 = wr.drew := ⟨_, rfl⟩
            rw [← hwd] at hHeld ⊢
            have hbW1 := hHeld
            clear hwd
            clear hHeld
            go_wp2_with fail
            refine wp_region_held_drew (S := fun W => Below wr.heap.size wr W) (by kernel_rfl) (Below.drew hbW1) (fun hHeld => ?_)
            refine tk 0 q9e2_42_11_0 (some 64) (v := ?v49) rfl rfl (by kernel_rfl) hHeld (by rfl) (fun _ _ _ x => x) (fun w h => ?y49) ?_; (case y49 => (try dsimp only at h); go_simp; try (with_reducible rfl)); try simp only [Act.put, sa, s0, s1]
            refine tk 1 q9e2_42_11_1 (some 65) (v := ?v50) rfl rfl (by kernel_rfl) hHeld (by rfl) (fun _ _ _ x => x) (fun w h => ?y50) ?_; (case y50 => (try dsimp only at h); go_simp; try (with_reducible rfl)); try simp only [Act.put, sa, s0, s1]
            refine tk 2 q9e2_42_11_2 (some 66) (v := ?v51) rfl rfl (by kernel_rfl) hHeld (by rfl) (fun _ _ _ x => x) (fun w h => ?y51) ?_; (case y51 => (try dsimp only at h); go_simp; try (with_reducible rfl)); try simp only [Act.put, sa, s0, s1]
            refine tk 3 q9e2_42_11_3 (some 67) (v := ?v52) rfl rfl (by kernel_rfl) hHeld (by rfl) (fun _ _ _ x => x) (fun w h => ?y52) ?_; (case y52 => (try dsimp only at h); go_simp; try (with_reducible rfl)); try simp only [Act.put, sa, s0, s1]
            refine tk 4 q9e2_42_11_4 (some 68) (v := ?v53) rfl rfl (by kernel_rfl) hHeld (by rfl) (fun _ _ _ x => x) (fun w h => ?y53) ?_; (case y53 => (try dsimp only at h); go_simp; try (with_reducible rfl)); try simp only [Act.put, sa, s0, s1]
            refine tk 5 q9e2_42_11_5 (some 69) (v := ?v54) rfl rfl (by kernel_rfl) hHeld (by rfl) (fun _ _ _ x => x) (fun w h => ?y54) ?_; (case y54 => (try dsimp only at h); go_simp; try (with_reducible rfl)); try simp only [Act.put, sa, s0, s1]
            refine tk 6 q9e2_42_11_6 (some 70) (v := ?v55) rfl rfl (by kernel_rfl) hHeld (by rfl) (fun _ _ _ x => x) (fun w h => ?y55) ?_; (case y55 => (try dsimp only at h); go_simp; try (with_reducible rfl)); try simp only [Act.put, sa, s0, s1]
            refine tk 7 q9e2_42_11_7 (some 71) (v := ?v56) rfl rfl (by kernel_rfl) hHeld (by rfl) (fun _ _ _ x => x) (fun w h => ?y56) ?_; (case y56 => (try dsimp only at h); go_simp; try (with_reducible rfl)); try simp only [Act.put, sa, s0, s1]
            refine tk 8 q9e2_42_11_8 (some 72) (v := ?v57) rfl rfl (by kernel_rfl) hHeld (by rfl) (fun _ _ _ x => x) (fun w h => ?y57) ?_; (case y57 => (try dsimp only at h); go_simp; try (with_reducible rfl)); try simp only [Act.put, sa, s0, s1]
            refine tk 9 q9e2_42_11_9 (some 73) (v := ?v58) rfl rfl (by kernel_rfl) hHeld (by rfl) (fun _ _ _ x => x) (fun w h => ?y58) ?_; (case y58 => (try dsimp only at h); go_simp; try (with_reducible rfl)); try simp only [Act.put, sa, s0, s1]
            refine tk 10 q9e2_42_11_10 (some 74) (v := ?v59) rfl rfl (by kernel_rfl) hHeld (by rfl) (fun _ _ _ x => x) (fun w h => ?y59) ?_; (case y59 => (try dsimp only at h); go_simp; try (with_reducible rfl)); try simp only [Act.put, sa, s0, s1]
            refine tk 11 q9e2_42_11_11 (some 75) (v := ?v60) rfl rfl (by kernel_rfl) hHeld (by rfl) (fun _ _ _ x => x) (fun w h => ?y60) ?_; (case y60 => (try dsimp only at h); go_simp; try (with_reducible rfl)); try simp only [Act.put, sa, s0, s1]
            refine tk 12 q9e2_42_11_12 (some 76) (v := ?v61) rfl rfl (by kernel_rfl) hHeld (by rfl) (fun _ _ _ x => x) (fun w h => ?y61) ?_; (case y61 => (try dsimp only at h); go_simp; try (with_reducible rfl)); try simp only [Act.put, sa, s0, s1]
            refine tk 13 q9e2_42_11_13 (some 77) (v := ?v62) rfl rfl (by kernel_rfl) hHeld (by rfl) (fun _ _ _ x => x) (fun w h => ?y62) ?_; (case y62 => (try dsimp only at h); go_simp; try (with_reducible rfl)); try simp only [Act.put, sa, s0, s1]
            refine tk 14 q9e2_42_11_14 (some 78) (v := ?v63) rfl rfl (by kernel_rfl) hHeld (by rfl) (fun _ _ _ x => x) (fun w h => ?y63) ?_; (case y63 => (try dsimp only at h); go_simp; try (with_reducible rfl)); try simp only [Act.put, sa, s0, s1]
            refine tk 15 q9e2_42_11_15 (some 79) (v := ?v64) rfl rfl (by kernel_rfl) hHeld (by rfl) (fun _ _ _ x => x) (fun w h => ?y64) ?_; (case y64 => (try dsimp only at h); go_simp; try (with_reducible rfl)); try simp only [Act.put, sa, s0, s1]
            refine tk 16 q9e2_42_11_16 (some 80) (v := ?v65) rfl rfl (by kernel_rfl) hHeld (by rfl) (fun _ _ _ x => x) (fun w h => ?y65) ?_; (case y65 => (try dsimp only at h); go_simp; try (with_reducible rfl)); try simp only [Act.put, sa, s0, s1]
            refine tk 17 q9e2_42_11_17 (some 63) (v := ?v66) rfl rfl (by kernel_rfl) hHeld (by rfl) (fun _ _ _ x => x) (fun w h => ?y66) ?_; (case y66 => (try dsimp only at h); go_simp; try (with_reducible rfl)); try simp only [Act.put, sa, s0, s1]
            refine wpAnyH_done (by kernel_rfl) ?_ _
            obtain ⟨W2, hwd⟩ : ∃ W9, W9 = W1.drew := ⟨_, rfl⟩
            rw [← hwd] at hHeld ⊢
            have hbW2 := hHeld
            clear hwd
            have HF : Hid (mergeP la lb = (out ++ [y]) ++ mergeP (la.drop (i)) (lb.drop (k + 1))) := by show _ = _; rw [HM.out, HDx.out, HDy.out, mergeP_more hC, ← HDx.out]; simp
            obtain ⟨css, r1, r2, r3, r4⟩ := hrow
            obtain ⟨Wx, hWx⟩ : ∃ Wx, Wx = W2.alloc (.cells #[.string y.fKey, .string y.fVal, .bool y.fGone] 31) := ⟨_, rfl⟩
            have hbx0 : Below wr.heap.size wr Wx := by rw [hWx]; exact hbW2.alloc hbW2.size _
            have hbx : Bx Wx W2.heap.size [.string y.fKey, .string y.fVal, .bool y.fGone] := by rw [hWx]; exact Bx.new _ _ _
            have r4x := own_below r4 hbx0
            have hzx := hbx0.size
            have hzw := hbW2.size
            have cy0 := py0 W2 hbW2
            have cy1 := py1 W2 hbW2
            have cy2 := py2 W2 hbW2
            go_wp2_with (at_builtin; rw [← hWx]; refine wpList_append_own_at _ rfl _ _ 27 rfl w.heap.size 31 iP (.agg #[.string ⟨#[]⟩, .string ⟨#[]⟩, .bool false]) 3 40 Tryd.underlying27 hiP hzP0 hzP1 hzP2 rfl (by decide) _ _ _ rfl r4x ⟨W2.heap.size, 0, none⟩ 1 1 [.string y.fKey, .string y.fVal, .bool y.fGone] rfl rfl (bx_news hbx) (by intro u hu; simp at hu; rcases hu with rfl | rfl | rfl <;> rfl) (by unfold maxLen; omega) (by omega) (by omega) ?_; intro v' w3 hown3 hgrow3 hnil hloc)
            have hT := Turn.after hbx0 (turnOwn hgrow3)
            have hge : ∀ k, k ∈ (Value.ownBlock _).toList → w.heap.size ≤ k := fun k hk => (r4.lt k (by simpa using hk)).1
            have hBl : Below w.heap.size wr w3 := Turn.below hT (fun k hk => hge k hk) hbz
            go_roundw
            case rel => exact ⟨i, k + 1, out ++ [y], by omega, by omega, by first | rfl | go_num, by first | rfl | go_num, RowR.push rPair_good r1 r2 r3 hBl rfl (HRPy.out w3) hown3, by simp only [List.length_append, List.length_singleton]; omega, HF, hbk.trans hBl⟩
            case measure => simp [intOf]; omega
          · have hC2 : kLt y.fKey x.fKey = false := Bool.eq_false_iff.2 hC
            have e2 : Op.bytesLess y.fKey.toList x.fKey.toList = false := hC2
            go_wp2_with fail
            refine wp_region_held_drew (S := fun W => Below wr.heap.size wr W) (by kernel_rfl) (Below.drew (Below.refl _ _)) (fun hHeld => ?_)
            refine tk 0 q9e2_42_8_0 (some 31) (v := ?v67) rfl rfl (by kernel_rfl) hHeld (by rfl) (fun _ _ _ x => x) (fun w h => ?y67) ?_; (case y67 => (try dsimp only at h); go_simp; try (with_reducible rfl)); try simp only [Act.put, sa, s0, s1]
            refine tk 1 q9e2_42_8_1 (some 32) (v := ?v68) rfl rfl (by kernel_rfl) hHeld (by rfl) (fun _ _ _ x => x) (fun w h => ?y68) ?_; (case y68 => (try dsimp only at h); go_simp; try (with_reducible rfl)); try simp only [Act.put, sa, s0, s1]
            refine tk 2 q9e2_42_8_2 (some 33) (v := ?v69) rfl rfl (by kernel_rfl) hHeld (by rfl) (fun _ _ _ x => x) (fun w h => ?y69) ?_; (case y69 => (try dsimp only at h); go_simp; try (with_reducible rfl)); try simp only [Act.put, sa, s0, s1]
            refine tk 3 q9e2_42_8_3 (some 34) (v := ?v70) rfl rfl (by kernel_rfl) hHeld (by rfl) (fun _ _ _ x => x) (fun w h => ?y70) ?_; (case y70 => (try dsimp only at h); go_simp; try (with_reducible rfl)); try simp only [Act.put, sa, s0, s1]
            refine tk 4 q9e2_42_8_4 (some 35) (v := ?v71) rfl rfl (by kernel_rfl) hHeld (by rfl) (fun _ _ _ x => x) (fun w h => ?y71) ?_; (case y71 => (try dsimp only at h); go_simp; try (with_reducible rfl)); try simp only [Act.put, sa, s0, s1]
            refine tk 5 q9e2_42_8_5 (some 36) (v := ?v72) rfl rfl (by kernel_rfl) hHeld (by rfl) (fun _ _ _ x => x) (fun w h => ?y72) ?_; (case y72 => (try dsimp only at h); go_simp; try (with_reducible rfl)); try simp only [Act.put, sa, s0, s1]
            refine tk 6 q9e2_42_8_6 (some 37) (v := ?v73) rfl rfl (by kernel_rfl) hHeld (by rfl) (fun _ _ _ x => x) (fun w h => ?y73) ?_; (case y73 => (try dsimp only at h); go_simp; try (with_reducible rfl)); try simp only [Act.put, sa, s0, s1]
            refine tk 7 q9e2_42_8_7 (some 38) (v := ?v74) rfl rfl (by kernel_rfl) hHeld (by rfl) (fun _ _ _ x => x) (fun w h => ?y74) ?_; (case y74 => (try dsimp only at h); go_simp; try (with_reducible rfl)); try simp only [Act.put, sa, s0, s1]
            refine tk 8 q9e2_42_8_8 (some 39) (v := ?v75) rfl rfl (by kernel_rfl) hHeld (by rfl) (fun _ _ _ x => x) (fun w h => ?y75) ?_; (case y75 => (try dsimp only at h); go_simp; try (with_reducible rfl)); try simp only [Act.put, sa, s0, s1]
            refine tk 9 q9e2_42_8_9 (some 40) (v := ?v76) rfl rfl (by kernel_rfl) hHeld (by rfl) (fun _ _ _ x => x) (fun w h => ?y76) ?_; (case y76 => (try dsimp only at h); go_simp; try (with_reducible rfl)); try simp only [Act.put, sa, s0, s1]
            refine tk 10 q9e2_42_8_10 (some 41) (v := ?v77) rfl rfl (by kernel_rfl) hHeld (by rfl) (fun _ _ _ x => x) (fun w h => ?y77) ?_; (case y77 => (try dsimp only at h); go_simp; try (with_reducible rfl)); try simp only [Act.put, sa, s0, s1]
            refine tk 11 q9e2_42_8_11 (some 42) (v := ?v78) rfl rfl (by kernel_rfl) hHeld (by rfl) (fun _ _ _ x => x) (fun w h => ?y78) ?_; (case y78 => (try dsimp only at h); go_simp; try (with_reducible rfl)); try simp only [Act.put, sa, s0, s1]
            refine tk 12 q9e2_42_8_12 (some 43) (v := ?v79) rfl rfl (by kernel_rfl) hHeld (by rfl) (fun _ _ _ x => x) (fun w h => ?y79) ?_; (case y79 => (try dsimp only at h); go_simp; try (with_reducible rfl)); try simp only [Act.put, sa, s0, s1]
            refine tk 13 q9e2_42_8_13 (some 44) (v := ?v80) rfl rfl (by kernel_rfl) hHeld (by rfl) (fun _ _ _ x => x) (fun w h => ?y80) ?_; (case y80 => (try dsimp only at h); go_simp; try (with_reducible rfl)); try simp only [Act.put, sa, s0, s1]
            refine tk 14 q9e2_42_8_14 (some 45) (v := ?v81) rfl rfl (by kernel_rfl) hHeld (by rfl) (fun _ _ _ x => x) (fun w h => ?y81) ?_; (case y81 => (try dsimp only at h); go_simp; try (with_reducible rfl)); try simp only [Act.put, sa, s0, s1]
            refine tk 15 q9e2_42_8_15 (some 46) (v := ?v82) rfl rfl (by kernel_rfl) hHeld (by rfl) (fun _ _ _ x => x) (fun w h => ?y82) ?_; (case y82 => (try dsimp only at h); go_simp; try (with_reducible rfl)); try simp only [Act.put, sa, s0, s1]
            refine tk 16 q9e2_42_8_16 (some 47) (v := ?v83) rfl rfl (by kernel_rfl) hHeld (by rfl) (fun _ _ _ x => x) (fun w h => ?y83) ?_; (case y83 => (try dsimp only at h); go_simp; try (with_reducible rfl)); try simp only [Act.put, sa, s0, s1]
            refine tk 17 q9e2_42_8_17 (some 48) (v := ?v84) rfl rfl (by kernel_rfl) hHeld (by rfl) (fun _ _ _ x => x) (fun w h => ?y84) ?_; (case y84 => (try dsimp only at h); go_simp; try (with_reducible rfl)); try simp only [Act.put, sa, s0, s1]
            refine tk 18 q9e2_42_8_18 (some 49) (v := ?v85) rfl rfl (by kernel_rfl) hHeld (by rfl) (fun _ _ _ x => x) (fun w h => ?y85) ?_; (case y85 => (try dsimp only at h); go_simp; try (with_reducible rfl)); try simp only [Act.put, sa, s0, s1]
            refine tk 19 q9e2_42_8_19 (some 50) (v := ?v86) rfl rfl (by kernel_rfl) hHeld (by rfl) (fun _ _ _ x => x) (fun w h => ?y86) ?_; (case y86 => (try dsimp only at h); go_simp; try (with_reducible rfl)); try simp only [Act.put, sa, s0, s1]
            refine tk 20 q9e2_42_8_20 (some 51) (v := ?v87) rfl rfl (by kernel_rfl) hHeld (by rfl) (fun _ _ _ x => x) (fun w h => ?y87) ?_; (case y87 => (try dsimp only at h); go_simp; try (with_reducible rfl)); try simp only [Act.put, sa, s0, s1]
            refine tk 21 q9e2_42_8_21 (some 52) (v := ?v88) rfl rfl (by kernel_rfl) hHeld (by rfl) (fun _ _ _ x => x) (fun w h => ?y88) ?_; (case y88 => (try dsimp only at h); go_simp; try (with_reducible rfl)); try simp only [Act.put, sa, s0, s1]
            refine tk 22 q9e2_42_8_22 (some 53) (v := ?v89) rfl rfl (by kernel_rfl) hHeld (by rfl) (fun _ _ _ x => x) (fun w h => ?y89) ?_; (case y89 => (try dsimp only at h); go_simp; try (with_reducible rfl)); try simp only [Act.put, sa, s0, s1]
            refine tk 23 q9e2_42_8_23 (some 30) (v := ?v90) rfl rfl (by kernel_rfl) hHeld (by rfl) (fun _ _ _ x => x) (fun w h => ?y90) ?_; (case y90 => (try dsimp only at h); go_simp; try (with_reducible rfl)); try simp only [Act.put, sa, s0, s1]
            refine wpAnyH_done (by kernel_rfl) ?_ _
            obtain ⟨W1, hwd⟩ : ∃ W9, W9 = wr.drew := ⟨_, rfl⟩
            rw [← hwd] at hHeld ⊢
            have hbW1 := hHeld
            clear hwd
            clear hHeld
            go_wp2_with fail
            refine wp_region_held_drew (S := fun W => Below wr.heap.size wr W) (by kernel_rfl) (Below.drew hbW1) (fun hHeld => ?_)
            refine tk 0 q9e2_42_11_0 (some 64) (v := ?v91) rfl rfl (by kernel_rfl) hHeld (by rfl) (fun _ _ _ x => x) (fun w h => ?y91) ?_; (case y91 => (try dsimp only at h); go_simp; try (with_reducible rfl)); try simp only [Act.put, sa, s0, s1]
            refine tk 1 q9e2_42_11_1 (some 65) (v := ?v92) rfl rfl (by kernel_rfl) hHeld (by rfl) (fun _ _ _ x => x) (fun w h => ?y92) ?_; (case y92 => (try dsimp only at h); go_simp; try (with_reducible rfl)); try simp only [Act.put, sa, s0, s1]
            refine tk 2 q9e2_42_11_2 (some 66) (v := ?v93) rfl rfl (by kernel_rfl) hHeld (by rfl) (fun _ _ _ x => x) (fun w h => ?y93) ?_; (case y93 => (try dsimp only at h); go_simp; try (with_reducible rfl)); try simp only [Act.put, sa, s0, s1]
            refine tk 3 q9e2_42_11_3 (some 67) (v := ?v94) rfl rfl (by kernel_rfl) hHeld (by rfl) (fun _ _ _ x => x) (fun w h => ?y94) ?_; (case y94 => (try dsimp only at h); go_simp; try (with_reducible rfl)); try simp only [Act.put, sa, s0, s1]
            refine tk 4 q9e2_42_11_4 (some 68) (v := ?v95) rfl rfl (by kernel_rfl) hHeld (by rfl) (fun _ _ _ x => x) (fun w h => ?y95) ?_; (case y95 => (try dsimp only at h); go_simp; try (with_reducible rfl)); try simp only [Act.put, sa, s0, s1]
            refine tk 5 q9e2_42_11_5 (some 69) (v := ?v96) rfl rfl (by kernel_rfl) hHeld (by rfl) (fun _ _ _ x => x) (fun w h => ?y96) ?_; (case y96 => (try dsimp only at h); go_simp; try (with_reducible rfl)); try simp only [Act.put, sa, s0, s1]
            refine tk 6 q9e2_42_11_6 (some 70) (v := ?v97) rfl rfl (by kernel_rfl) hHeld (by rfl) (fun _ _ _ x => x) (fun w h => ?y97) ?_; (case y97 => (try dsimp only at h); go_simp; try (with_reducible rfl)); try simp only [Act.put, sa, s0, s1]
            refine tk 7 q9e2_42_11_7 (some 71) (v := ?v98) rfl rfl (by kernel_rfl) hHeld (by rfl) (fun _ _ _ x => x) (fun w h => ?y98) ?_; (case y98 => (try dsimp only at h); go_simp; try (with_reducible rfl)); try simp only [Act.put, sa, s0, s1]
            refine tk 8 q9e2_42_11_8 (some 72) (v := ?v99) rfl rfl (by kernel_rfl) hHeld (by rfl) (fun _ _ _ x => x) (fun w h => ?y99) ?_; (case y99 => (try dsimp only at h); go_simp; try (with_reducible rfl)); try simp only [Act.put, sa, s0, s1]
            refine tk 9 q9e2_42_11_9 (some 73) (v := ?v100) rfl rfl (by kernel_rfl) hHeld (by rfl) (fun _ _ _ x => x) (fun w h => ?y100) ?_; (case y100 => (try dsimp only at h); go_simp; try (with_reducible rfl)); try simp only [Act.put, sa, s0, s1]
            refine tk 10 q9e2_42_11_10 (some 74) (v := ?v101) rfl rfl (by kernel_rfl) hHeld (by rfl) (fun _ _ _ x => x) (fun w h => ?y101) ?_; (case y101 => (try dsimp only at h); go_simp; try (with_reducible rfl)); try simp only [Act.put, sa, s0, s1]
            refine tk 11 q9e2_42_11_11 (some 75) (v := ?v102) rfl rfl (by kernel_rfl) hHeld (by rfl) (fun _ _ _ x => x) (fun w h => ?y102) ?_; (case y102 => (try dsimp only at h); go_simp; try (with_reducible rfl)); try simp only [Act.put, sa, s0, s1]
            refine tk 12 q9e2_42_11_12 (some 76) (v := ?v103) rfl rfl (by kernel_rfl) hHeld (by rfl) (fun _ _ _ x => x) (fun w h => ?y103) ?_; (case y103 => (try dsimp only at h); go_simp; try (with_reducible rfl)); try simp only [Act.put, sa, s0, s1]
            refine tk 13 q9e2_42_11_13 (some 77) (v := ?v104) rfl rfl (by kernel_rfl) hHeld (by rfl) (fun _ _ _ x => x) (fun w h => ?y104) ?_; (case y104 => (try dsimp only at h); go_simp; try (with_reducible rfl)); try simp only [Act.put, sa, s0, s1]
            refine tk 14 q9e2_42_11_14 (some 78) (v := ?v105) rfl rfl (by kernel_rfl) hHeld (by rfl) (fun _ _ _ x => x) (fun w h => ?y105) ?_; (case y105 => (try dsimp only at h); go_simp; try (with_reducible rfl)); try simp only [Act.put, sa, s0, s1]
            refine tk 15 q9e2_42_11_15 (some 79) (v := ?v106) rfl rfl (by kernel_rfl) hHeld (by rfl) (fun _ _ _ x => x) (fun w h => ?y106) ?_; (case y106 => (try dsimp only at h); go_simp; try (with_reducible rfl)); try simp only [Act.put, sa, s0, s1]
            refine tk 16 q9e2_42_11_16 (some 80) (v := ?v107) rfl rfl (by kernel_rfl) hHeld (by rfl) (fun _ _ _ x => x) (fun w h => ?y107) ?_; (case y107 => (try dsimp only at h); go_simp; try (with_reducible rfl)); try simp only [Act.put, sa, s0, s1]
            refine tk 17 q9e2_42_11_17 (some 63) (v := ?v108) rfl rfl (by kernel_rfl) hHeld (by rfl) (fun _ _ _ x => x) (fun w h => ?y108) ?_; (case y108 => (try dsimp only at h); go_simp; try (with_reducible rfl)); try simp only [Act.put, sa, s0, s1]
            refine wpAnyH_done (by kernel_rfl) ?_ _
            obtain ⟨W2, hwd⟩ : ∃ W9, W9 = W1.drew := ⟨_, rfl⟩
            rw [← hwd] at hHeld ⊢
            have hbW2 := hHeld
            clear hwd
            have HF : Hid (mergeP la lb = (out ++ [x]) ++ mergeP (la.drop (i + 1)) (lb.drop (k + 1))) := by show _ = _; rw [HM.out, HDx.out, HDy.out, mergeP_same hA2 hC2]; simp
            obtain ⟨css, r1, r2, r3, r4⟩ := hrow
            obtain ⟨Wx, hWx⟩ : ∃ Wx, Wx = W2.alloc (.cells #[.string x.fKey, .string x.fVal, .bool x.fGone] 31) := ⟨_, rfl⟩
            have hbx0 : Below wr.heap.size wr Wx := by rw [hWx]; exact hbW2.alloc hbW2.size _
            have hbx : Bx Wx W2.heap.size [.string x.fKey, .string x.fVal, .bool x.fGone] := by rw [hWx]; exact Bx.new _ _ _
            have r4x := own_below r4 hbx0
            have hzx := hbx0.size
            have hzw := hbW2.size
            have cx0 := px0 W2 hbW2
            have cx1 := px1 W2 hbW2
            have cx2 := px2 W2 hbW2
            go_wp2_with (at_builtin; rw [← hWx]; refine wpList_append_own_at _ rfl _ _ 27 rfl w.heap.size 31 iP (.agg #[.string ⟨#[]⟩, .string ⟨#[]⟩, .bool false]) 3 40 Tryd.underlying27 hiP hzP0 hzP1 hzP2 rfl (by decide) _ _ _ rfl r4x ⟨W2.heap.size, 0, none⟩ 1 1 [.string x.fKey, .string x.fVal, .bool x.fGone] rfl rfl (bx_news hbx) (by intro u hu; simp at hu; rcases hu with rfl | rfl | rfl <;> rfl) (by unfold maxLen; omega) (by omega) (by omega) ?_; intro v' w3 hown3 hgrow3 hnil hloc)
            have hT := Turn.after hbx0 (turnOwn hgrow3)
            have hge : ∀ k, k ∈ (Value.ownBlock _).toList → w.heap.size ≤ k := fun k hk => (r4.lt k (by simpa using hk)).1
            have hBl : Below w.heap.size wr w3 := Turn.below hT (fun k hk => hge k hk) hbz
            go_roundw
            case rel => exact ⟨i + 1, k + 1, out ++ [x], by omega, by omega, by first | rfl | go_num, by first | rfl | go_num, RowR.push rPair_good r1 r2 r3 hBl rfl (HRPx.out w3) hown3, by simp only [List.length_append, List.length_singleton]; omega, HF, hbk.trans hBl⟩
            case measure => simp [intOf]; omega
      · have hkn : k = nb := by omega
        have HDN : Hid (lb.drop k = []) := List.drop_eq_nil_of_le (by rw [HXB.out]; omega)
        have hkne : ((k : Int) == (nb : Int)) = true := beq_iff_eq.2 (by omega)
        subst hkn
        go_wp2_with fail
        refine wp_region_held_drew (S := fun W => Below wr.heap.size wr W) (by kernel_rfl) (Below.drew (Below.refl _ _)) (fun hHeld => ?_)
        refine tk 0 q9e2_42_8_0 (some 31) (v := ?v109) rfl rfl (by kernel_rfl) hHeld (by rfl) (fun _ _ _ x => x) (fun w h => ?y109) ?_; (case y109 => (try dsimp only at h); go_simp; try (with_reducible rfl)); try simp only [Act.put, sa, s0, s1]
        refine tk 1 q9e2_42_8_1 (some 32) (v := ?v110) rfl rfl (by kernel_rfl) hHeld (by rfl) (fun _ _ _ x => x) (fun w h => ?y110) ?_; (case y110 => (try dsimp only at h); go_simp; try (with_reducible rfl)); try simp only [Act.put, sa, s0, s1]
        refine tk 2 q9e2_42_8_2 (some 33) (v := ?v111) rfl rfl (by kernel_rfl) hHeld (by rfl) (fun _ _ _ x => x) (fun w h => ?y111) ?_; (case y111 => (try dsimp only at h); go_simp; try (with_reducible rfl)); try simp only [Act.put, sa, s0, s1]
        refine tk 3 q9e2_42_8_3 (some 34) (v := ?v112) rfl rfl (by kernel_rfl) hHeld (by rfl) (fun _ _ _ x => x) (fun w h => ?y112) ?_; (case y112 => (try dsimp only at h); go_simp; try (with_reducible rfl)); try simp only [Act.put, sa, s0, s1]
        refine tk 4 q9e2_42_8_4 (some 35) (v := ?v113) rfl rfl (by kernel_rfl) hHeld (by rfl) (fun _ _ _ x => x) (fun w h => ?y113) ?_; (case y113 => (try dsimp only at h); go_simp; try (with_reducible rfl)); try simp only [Act.put, sa, s0, s1]
        refine tn 5 q9e2_42_8_5 (some 36) rfl rfl (by kernel_rfl) hHeld (by rfl) (fun _ _ _ x => x) ?_; try simp only [Act.put, sa, s0, s1]
        refine tn 6 q9e2_42_8_6 (some 37) rfl rfl (by kernel_rfl) hHeld (by rfl) (fun _ _ _ x => x) ?_; try simp only [Act.put, sa, s0, s1]
        refine tn 7 q9e2_42_8_7 (some 38) rfl rfl (by kernel_rfl) hHeld (by rfl) (fun _ _ _ x => x) ?_; try simp only [Act.put, sa, s0, s1]
        refine tn 8 q9e2_42_8_8 (some 39) rfl rfl (by kernel_rfl) hHeld (by rfl) (fun _ _ _ x => x) ?_; try simp only [Act.put, sa, s0, s1]
        refine tn 9 q9e2_42_8_9 (some 40) rfl rfl (by kernel_rfl) hHeld (by rfl) (fun _ _ _ x => x) ?_; try simp only [Act.put, sa, s0, s1]
        refine tn 10 q9e2_42_8_10 (some 41) rfl rfl (by kernel_rfl) hHeld (by rfl) (fun _ _ _ x => x) ?_; try simp only [Act.put, sa, s0, s1]
        refine tn 11 q9e2_42_8_11 (some 42) rfl rfl (by kernel_rfl) hHeld (by rfl) (fun _ _ _ x => x) ?_; try simp only [Act.put, sa, s0, s1]
        refine tn 12 q9e2_42_8_12 (some 43) rfl rfl (by kernel_rfl) hHeld (by rfl) (fun _ _ _ x => x) ?_; try simp only [Act.put, sa, s0, s1]
        refine tn 13 q9e2_42_8_13 (some 44) rfl rfl (by kernel_rfl) hHeld (by rfl) (fun _ _ _ x => x) ?_; try simp only [Act.put, sa, s0, s1]
        refine tn 14 q9e2_42_8_14 (some 45) rfl rfl (by kernel_rfl) hHeld (by rfl) (fun _ _ _ x => x) ?_; try simp only [Act.put, sa, s0, s1]
        refine tn 15 q9e2_42_8_15 (some 46) rfl rfl (by kernel_rfl) hHeld (by rfl) (fun _ _ _ x => x) ?_; try simp only [Act.put, sa, s0, s1]
        refine tn 16 q9e2_42_8_16 (some 47) rfl rfl (by kernel_rfl) hHeld (by rfl) (fun _ _ _ x => x) ?_; try simp only [Act.put, sa, s0, s1]
        refine tn 17 q9e2_42_8_17 (some 48) rfl rfl (by kernel_rfl) hHeld (by rfl) (fun _ _ _ x => x) ?_; try simp only [Act.put, sa, s0, s1]
        refine tn 18 q9e2_42_8_18 (some 49) rfl rfl (by kernel_rfl) hHeld (by rfl) (fun _ _ _ x => x) ?_; try simp only [Act.put, sa, s0, s1]
        refine tn 19 q9e2_42_8_19 (some 50) rfl rfl (by kernel_rfl) hHeld (by rfl) (fun _ _ _ x => x) ?_; try simp only [Act.put, sa, s0, s1]
        refine tn 20 q9e2_42_8_20 (some 51) rfl rfl (by kernel_rfl) hHeld (by rfl) (fun _ _ _ x => x) ?_; try simp only [Act.put, sa, s0, s1]
        refine tn 21 q9e2_42_8_21 (some 52) rfl rfl (by kernel_rfl) hHeld (by rfl) (fun _ _ _ x => x) ?_; try simp only [Act.put, sa, s0, s1]
        refine tk 22 q9e2_42_8_22 (some 53) (v := ?v131) rfl rfl (by kernel_rfl) hHeld (by rfl) (fun _ _ _ x => x) (fun w h => ?y131) ?_; (case y131 => (try dsimp only at h); go_simp; try (with_reducible rfl)); try simp only [Act.put, sa, s0, s1]
        refine tk 23 q9e2_42_8_23 (some 30) (v := ?v132) rfl rfl (by kernel_rfl) hHeld (by rfl) (fun _ _ _ x => x) (fun w h => ?y132) ?_; (case y132 => (try dsimp only at h); go_simp; try (with_reducible rfl)); try simp only [Act.put, sa, s0, s1]
        refine wpAnyH_done (by kernel_rfl) ?_ _
        obtain ⟨W1, hwd⟩ : ∃ W9, W9 = wr.drew := ⟨_, rfl⟩
        rw [← hwd] at hHeld ⊢
        have hbW1 := hHeld
        clear hwd
        have HF : Hid (mergeP la lb = (out ++ [x]) ++ mergeP (la.drop (i + 1)) (lb.drop (k))) := by show _ = _; rw [HM.out, HDx.out, HDN.out, mergeP_nil', mergeP_nil']; simp
        obtain ⟨css, r1, r2, r3, r4⟩ := hrow
        obtain ⟨Wx, hWx⟩ : ∃ Wx, Wx = W1.alloc (.cells #[.string x.fKey, .string x.fVal, .bool x.fGone] 31) := ⟨_, rfl⟩
        have hbx0 : Below wr.heap.size wr Wx := by rw [hWx]; exact hbW1.alloc hbW1.size _
        have hbx : Bx Wx W1.heap.size [.string x.fKey, .string x.fVal, .bool x.fGone] := by rw [hWx]; exact Bx.new _ _ _
        have r4x := own_below r4 hbx0
        have hzx := hbx0.size
        have hzw := hbW1.size
        have cx0 := px0 W1 hbW1
        have cx1 := px1 W1 hbW1
        have cx2 := px2 W1 hbW1
        go_wp2_with (at_builtin; rw [← hWx]; refine wpList_append_own_at _ rfl _ _ 27 rfl w.heap.size 31 iP (.agg #[.string ⟨#[]⟩, .string ⟨#[]⟩, .bool false]) 3 40 Tryd.underlying27 hiP hzP0 hzP1 hzP2 rfl (by decide) _ _ _ rfl r4x ⟨W1.heap.size, 0, none⟩ 1 1 [.string x.fKey, .string x.fVal, .bool x.fGone] rfl rfl (bx_news hbx) (by intro u hu; simp at hu; rcases hu with rfl | rfl | rfl <;> rfl) (by unfold maxLen; omega) (by omega) (by omega) ?_; intro v' w3 hown3 hgrow3 hnil hloc)
        have hT := Turn.after hbx0 (turnOwn hgrow3)
        have hge : ∀ k, k ∈ (Value.ownBlock _).toList → w.heap.size ≤ k := fun k hk => (r4.lt k (by simpa using hk)).1
        have hBl : Below w.heap.size wr w3 := Turn.below hT (fun k hk => hge k hk) hbz
        go_roundw
        case rel => exact ⟨i + 1, k, out ++ [x], by omega, by omega, by first | rfl | go_num, by first | rfl | go_num, RowR.push rPair_good r1 r2 r3 hBl rfl (HRPx.out w3) hown3, by simp only [List.length_append, List.length_singleton]; omega, HF, hbk.trans hBl⟩
        case measure => simp [intOf]; omega
    · have hin : i = na := by omega
      have HDN : Hid (la.drop i = []) := List.drop_eq_nil_of_le (by rw [HXA.out]; omega)
      have hine : ((i : Int) == (na : Int)) = true := beq_iff_eq.2 (by omega)
      have hia2 : ¬ (i : Int) < (na : Int) := by omega
      by_cases hkb : k < nb
      · have hyl : k < lb.length := by rw [HXB.out]; exact hkb
        have hkb2 : (k : Int) < (nb : Int) := by omega
        have hk0 : (0 : Int) ≤ (k : Int) := by omega
        have hkne : ((k : Int) == (nb : Int)) = false := beq_eq_false_iff_ne.2 (by omega)
        obtain ⟨bb, ob, rfl, hBy, csy, _, hcelly, rfl, gy0, gy1, _, _⟩ := (HLB.out.2.2.below rPair_good hbk) k hyl
        have hBy' : bb < wr.heap.size := by omega
        have k0 := hcelly 0 _ rfl
        have k1 := hcelly 1 _ rfl
        have k2 := hcelly 2 _ rfl
        rw [Nat.add_zero] at k0
        obtain ⟨y, hqy⟩ : ∃ x, x = lb[k] := ⟨_, rfl⟩
        rw [← hqy] at k0 k1 k2 gy0 gy1
        have py0 : ∀ W, Below wr.heap.size wr W → W.cell? ⟨bb, ob + k * 3, none⟩ = some (.string y.fKey) := fun W hb => (hb.cell (p := ⟨bb, ob + k * 3, none⟩) hBy').trans k0
        have py1 : ∀ W, Below wr.heap.size wr W → W.cell? ⟨bb, ob + k * 3 + 1, none⟩ = some (.string y.fVal) := fun W hb => (hb.cell (p := ⟨bb, ob + k * 3 + 1, none⟩) hBy').trans k1
        have py2 : ∀ W, Below wr.heap.size wr W → W.cell? ⟨bb, ob + k * 3 + 2, none⟩ = some (.bool y.fGone) := fun W hb => (hb.cell (p := ⟨bb, ob + k * 3 + 2, none⟩) hBy').trans k2
        have HRPy : Hid (∀ W : World, rPair w.heap.size W [.string y.fKey, .string y.fVal, .bool y.fGone] y) := fun W => ⟨rfl, gy0, gy1, trivial, trivial⟩
        have HDy : Hid (lb.drop k = y :: lb.drop (k + 1)) := by show _ = _; rw [hqy]; exact List.drop_eq_getElem_cons hyl
        clear k0 k1 k2 hcelly gy0 gy1 hqy
        subst hin
        go_wp2_with fail
        refine wp_region_held_drew (S := fun W => Below wr.heap.size wr W) (by kernel_rfl) (Below.drew (Below.refl _ _)) (fun hHeld => ?_)
        refine tk 0 q9e2_42_8_0 (some 31) (v := ?v133) rfl rfl (by kernel_rfl) hHeld (by rfl) (fun _ _ _ x => x) (fun w h => ?y133) ?_; (case y133 => (try dsimp only at h); go_simp; try (with_reducible rfl)); try simp only [Act.put, sa, s0, s1]
        refine tk 1 q9e2_42_8_1 (some 32) (v := ?v134) rfl rfl (by kernel_rfl) hHeld (by rfl) (fun _ _ _ x => x) (fun w h => ?y134) ?_; (case y134 => (try dsimp only at h); go_simp; try (with_reducible rfl)); try simp only [Act.put, sa, s0, s1]
        refine tk 2 q9e2_42_8_2 (some 33) (v := ?v135) rfl rfl (by kernel_rfl) hHeld (by rfl) (fun _ _ _ x => x) (fun w h => ?y135) ?_; (case y135 => (try dsimp only at h); go_simp; try (with_reducible rfl)); try simp only [Act.put, sa, s0, s1]
        refine tk 3 q9e2_42_8_3 (some 34) (v := ?v136) rfl rfl (by kernel_rfl) hHeld (by rfl) (fun _ _ _ x => x) (fun w h => ?y136) ?_; (case y136 => (try dsimp only at h); go_simp; try (with_reducible rfl)); try simp only [Act.put, sa, s0, s1]
        refine tk 4 q9e2_42_8_4 (some 35) (v := ?v137) rfl rfl (by kernel_rfl) hHeld (by rfl) (fun _ _ _ x => x) (fun w h => ?y137) ?_; (case y137 => (try dsimp only at h); go_simp; try (with_reducible rfl)); try simp only [Act.put, sa, s0, s1]
        refine tk 5 q9e2_42_8_5 (some 36) (v := ?v138) rfl rfl (by kernel_rfl) hHeld (by rfl) (fun _ _ _ x => x) (fun w h => ?y138) ?_; (case y138 => (try dsimp only at h); go_simp; try (with_reducible rfl)); try simp only [Act.put, sa, s0, s1]
        refine tk 6 q9e2_42_8_6 (some 37) (v := ?v139) rfl rfl (by kernel_rfl) hHeld (by rfl) (fun _ _ _ x => x) (fun w h => ?y139) ?_; (case y139 => (try dsimp only at h); go_simp; try (with_reducible rfl)); try simp only [Act.put, sa, s0, s1]
        refine tk 7 q9e2_42_8_7 (some 38) (v := ?v140) rfl rfl (by kernel_rfl) hHeld (by rfl) (fun _ _ _ x => x) (fun w h => ?y140) ?_; (case y140 => (try dsimp only at h); go_simp; try (with_reducible rfl)); try simp only [Act.put, sa, s0, s1]
        refine tk 8 q9e2_42_8_8 (some 39) (v := ?v141) rfl rfl (by kernel_rfl) hHeld (by rfl) (fun _ _ _ x => x) (fun w h => ?y141) ?_; (case y141 => (try dsimp only at h); go_simp; try (with_reducible rfl)); try simp only [Act.put, sa, s0, s1]
        refine tk 9 q9e2_42_8_9 (some 40) (v := ?v142) rfl rfl (by kernel_rfl) hHeld (by rfl) (fun _ _ _ x => x) (fun w h => ?y142) ?_; (case y142 => (try dsimp only at h); go_simp; try (with_reducible rfl)); try simp only [Act.put, sa, s0, s1]
        refine tn 10 q9e2_42_8_10 (some 41) rfl rfl (by kernel_rfl) hHeld (by rfl) (fun _ _ _ x => x) ?_; try simp only [Act.put, sa, s0, s1]
        refine tn 11 q9e2_42_8_11 (some 42) rfl rfl (by kernel_rfl) hHeld (by rfl) (fun _ _ _ x => x) ?_; try simp only [Act.put, sa, s0, s1]
        refine tn 12 q9e2_42_8_12 (some 43) rfl rfl (by kernel_rfl) hHeld (by rfl) (fun _ _ _ x => x) ?_; try simp only [Act.put, sa, s0, s1]
        refine tn 13 q9e2_42_8_13 (some 44) rfl rfl (by kernel_rfl) hHeld (by rfl) (fun _ _ _ x => x) ?_; try simp only [Act.put, sa, s0, s1]
        refine tn 14 q9e2_42_8_14 (some 45) rfl rfl (by kernel_rfl) hHeld (by rfl) (fun _ _ _ x => x) ?_; try simp only [Act.put, sa, s0, s1]
        refine tn 15 q9e2_42_8_15 (some 46) rfl rfl (by kernel_rfl) hHeld (by rfl) (fun _ _ _ x => x) ?_; try simp only [Act.put, sa, s0, s1]
        refine tn 16 q9e2_42_8_16 (some 47) rfl rfl (by kernel_rfl) hHeld (by rfl) (fun _ _ _ x => x) ?_; try simp only [Act.put, sa, s0, s1]
        refine tn 17 q9e2_42_8_17 (some 48) rfl rfl (by kernel_rfl) hHeld (by rfl) (fun _ _ _ x => x) ?_; try simp only [Act.put, sa, s0, s1]
        refine tn 18 q9e2_42_8_18 (some 49) rfl rfl (by kernel_rfl) hHeld (by rfl) (fun _ _ _ x => x) ?_; try simp only [Act.put, sa, s0, s1]
        refine tn 19 q9e2_42_8_19 (some 50) rfl rfl (by kernel_rfl) hHeld (by rfl) (fun _ _ _ x => x) ?_; try simp only [Act.put, sa, s0, s1]
        refine tn 20 q9e2_42_8_20 (some 51) rfl rfl (by kernel_rfl) hHeld (by rfl) (fun _ _ _ x => x) ?_; try simp only [Act.put, sa, s0, s1]
        refine tk 21 q9e2_42_8_21 (some 52) (v := ?v154) rfl rfl (by kernel_rfl) hHeld (by rfl) (fun _ _ _ x => x) (fun w h => ?y154) ?_; (case y154 => (try dsimp only at h); go_simp; try (with_reducible rfl)); try simp only [Act.put, sa, s0, s1]
        refine tk 22 q9e2_42_8_22 (some 53) (v := ?v155) rfl rfl (by kernel_rfl) hHeld (by rfl) (fun _ _ _ x => x) (fun w h => ?y155) ?_; (case y155 => (try dsimp only at h); go_simp; try (with_reducible rfl)); try simp only [Act.put, sa, s0, s1]
        refine tk 23 q9e2_42_8_23 (some 30) (v := ?v156) rfl rfl (by kernel_rfl) hHeld (by rfl) (fun _ _ _ x => x) (fun w h => ?y156) ?_; (case y156 => (try dsimp only at h); go_simp; try (with_reducible rfl)); try simp only [Act.put, sa, s0, s1]
        refine wpAnyH_done (by kernel_rfl) ?_ _
        obtain ⟨W1, hwd⟩ : ∃ W9, W9 = wr.drew := ⟨_, rfl⟩
        rw [← hwd] at hHeld ⊢
        have hbW1 := hHeld
        clear hwd
        clear hHeld
        go_wp2_with fail
        refine wp_region_held_drew (S := fun W => Below wr.heap.size wr W) (by kernel_rfl) (Below.drew hbW1) (fun hHeld => ?_)
        refine tk 0 q9e2_42_11_0 (some 64) (v := ?v157) rfl rfl (by kernel_rfl) hHeld (by rfl) (fun _ _ _ x => x) (fun w h => ?y157) ?_; (case y157 => (try dsimp only at h); go_simp; try (with_reducible rfl)); try simp only [Act.put, sa, s0, s1]
        refine tk 1 q9e2_42_11_1 (some 65) (v := ?v158) rfl rfl (by kernel_rfl) hHeld (by rfl) (fun _ _ _ x => x) (fun w h => ?y158) ?_; (case y158 => (try dsimp only at h); go_simp; try (with_reducible rfl)); try simp only [Act.put, sa, s0, s1]
        refine tk 2 q9e2_42_11_2 (some 66) (v := ?v159) rfl rfl (by kernel_rfl) hHeld (by rfl) (fun _ _ _ x => x) (fun w h => ?y159) ?_; (case y159 => (try dsimp only at h); go_simp; try (with_reducible rfl)); try simp only [Act.put, sa, s0, s1]
        refine tk 3 q9e2_42_11_3 (some 67) (v := ?v160) rfl rfl (by kernel_rfl) hHeld (by rfl) (fun _ _ _ x => x) (fun w h => ?y160) ?_; (case y160 => (try dsimp only at h); go_simp; try (with_reducible rfl)); try simp only [Act.put, sa, s0, s1]
        refine tk 4 q9e2_42_11_4 (some 68) (v := ?v161) rfl rfl (by kernel_rfl) hHeld (by rfl) (fun _ _ _ x => x) (fun w h => ?y161) ?_; (case y161 => (try dsimp only at h); go_simp; try (with_reducible rfl)); try simp only [Act.put, sa, s0, s1]
        refine tn 5 q9e2_42_11_5 (some 69) rfl rfl (by kernel_rfl) hHeld (by rfl) (fun _ _ _ x => x) ?_; try simp only [Act.put, sa, s0, s1]
        refine tn 6 q9e2_42_11_6 (some 70) rfl rfl (by kernel_rfl) hHeld (by rfl) (fun _ _ _ x => x) ?_; try simp only [Act.put, sa, s0, s1]
        refine tn 7 q9e2_42_11_7 (some 71) rfl rfl (by kernel_rfl) hHeld (by rfl) (fun _ _ _ x => x) ?_; try simp only [Act.put, sa, s0, s1]
        refine tn 8 q9e2_42_11_8 (some 72) rfl rfl (by kernel_rfl) hHeld (by rfl) (fun _ _ _ x => x) ?_; try simp only [Act.put, sa, s0, s1]
        refine tn 9 q9e2_42_11_9 (some 73) rfl rfl (by kernel_rfl) hHeld (by rfl) (fun _ _ _ x => x) ?_; try simp only [Act.put, sa, s0, s1]
        refine tn 10 q9e2_42_11_10 (some 74) rfl rfl (by kernel_rfl) hHeld (by rfl) (fun _ _ _ x => x) ?_; try simp only [Act.put, sa, s0, s1]
        refine tn 11 q9e2_42_11_11 (some 75) rfl rfl (by kernel_rfl) hHeld (by rfl) (fun _ _ _ x => x) ?_; try simp only [Act.put, sa, s0, s1]
        refine tn 12 q9e2_42_11_12 (some 76) rfl rfl (by kernel_rfl) hHeld (by rfl) (fun _ _ _ x => x) ?_; try simp only [Act.put, sa, s0, s1]
        refine tn 13 q9e2_42_11_13 (some 77) rfl rfl (by kernel_rfl) hHeld (by rfl) (fun _ _ _ x => x) ?_; try simp only [Act.put, sa, s0, s1]
        refine tn 14 q9e2_42_11_14 (some 78) rfl rfl (by kernel_rfl) hHeld (by rfl) (fun _ _ _ x => x) ?_; try simp only [Act.put, sa, s0, s1]
        refine tn 15 q9e2_42_11_15 (some 79) rfl rfl (by kernel_rfl) hHeld (by rfl) (fun _ _ _ x => x) ?_; try simp only [Act.put, sa, s0, s1]
        refine tk 16 q9e2_42_11_16 (some 80) (v := ?v173) rfl rfl (by kernel_rfl) hHeld (by rfl) (fun _ _ _ x => x) (fun w h => ?y173) ?_; (case y173 => (try dsimp only at h); go_simp; try (with_reducible rfl)); try simp only [Act.put, sa, s0, s1]
        refine tk 17 q9e2_42_11_17 (some 63) (v := ?v174) rfl rfl (by kernel_rfl) hHeld (by rfl) (fun _ _ _ x => x) (fun w h => ?y174) ?_; (case y174 => (try dsimp only at h); go_simp; try (with_reducible rfl)); try simp only [Act.put, sa, s0, s1]
        refine wpAnyH_done (by kernel_rfl) ?_ _
        obtain ⟨W2, hwd⟩ : ∃ W9, W9 = W1.drew := ⟨_, rfl⟩
        rw [← hwd] at hHeld ⊢
        have hbW2 := hHeld
        clear hwd
        have HF : Hid (mergeP la lb = (out ++ [y]) ++ mergeP (la.drop (i)) (lb.drop (k + 1))) := by show _ = _; rw [HM.out, HDN.out, HDy.out, mergeP_nil, mergeP_nil]; simp
        obtain ⟨css, r1, r2, r3, r4⟩ := hrow
        obtain ⟨Wx, hWx⟩ : ∃ Wx, Wx = W2.alloc (.cells #[.string y.fKey, .string y.fVal, .bool y.fGone] 31) := ⟨_, rfl⟩
        have hbx0 : Below wr.heap.size wr Wx := by rw [hWx]; exact hbW2.alloc hbW2.size _
        have hbx : Bx Wx W2.heap.size [.string y.fKey, .string y.fVal, .bool y.fGone] := by rw [hWx]; exact Bx.new _ _ _
        have r4x := own_below r4 hbx0
        have hzx := hbx0.size
        have hzw := hbW2.size
        have cy0 := py0 W2 hbW2
        have cy1 := py1 W2 hbW2
        have cy2 := py2 W2 hbW2
        go_wp2_with (at_builtin; rw [← hWx]; refine wpList_append_own_at _ rfl _ _ 27 rfl w.heap.size 31 iP (.agg #[.string ⟨#[]⟩, .string ⟨#[]⟩, .bool false]) 3 40 Tryd.underlying27 hiP hzP0 hzP1 hzP2 rfl (by decide) _ _ _ rfl r4x ⟨W2.heap.size, 0, none⟩ 1 1 [.string y.fKey, .string y.fVal, .bool y.fGone] rfl rfl (bx_news hbx) (by intro u hu; simp at hu; rcases hu with rfl | rfl | rfl <;> rfl) (by unfold maxLen; omega) (by omega) (by omega) ?_; intro v' w3 hown3 hgrow3 hnil hloc)
        have hT := Turn.after hbx0 (turnOwn hgrow3)
        have hge : ∀ k, k ∈ (Value.ownBlock _).toList → w.heap.size ≤ k := fun k hk => (r4.lt k (by simpa using hk)).1
        have hBl : Below w.heap.size wr w3 := Turn.below hT (fun k hk => hge k hk) hbz
        go_roundw
        case rel => exact ⟨i, k + 1, out ++ [y], by omega, by omega, by first | rfl | go_num, by first | rfl | go_num, RowR.push rPair_good r1 r2 r3 hBl rfl (HRPy.out w3) hown3, by simp only [List.length_append, List.length_singleton]; omega, HF, hbk.trans hBl⟩
        case measure => simp [intOf]; omega
      · have HE : Hid (mergeP la lb = out) := by
          show _ = _
          rw [HM.out, HDN.out, mergeP_nil, List.drop_eq_nil_of_le (by rw [HXB.out]; omega), List.append_nil]
        have hkb2 : ¬ (k : Int) < (nb : Int) := by omega
        have HRW := Hid.mk hrow
        clear hrow
        go_wp2_with fail
        go_ret
        exact ⟨_, rfl, by rw [HE.out]; exact HRW.out, hbk⟩

end Go.Proofs.YtiahmcclmlmgpaaDoor
