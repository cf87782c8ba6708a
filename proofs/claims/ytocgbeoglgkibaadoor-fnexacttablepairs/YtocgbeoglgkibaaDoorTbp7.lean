/-
  Part 8 of the texts that the proof leans on.
-/
import Derived.Test.YtocgbeoglgkibaaDoorTbp2
import Derived.Test.YtocgbeoglgkibaaDoorTbp1
import Derived.Test.YtocgbeoglgkibaaDoorTbp5
import Derived.Test.YtocgbeoglgkibaaDoorRows
import Derived.Test.YtocgbeoglgkibaaDoorTbp0
import Derived.Test.YtocgbeoglgkibaaDoorChecked
set_option linter.unusedVariables false
set_option linter.unusedSimpArgs false
set_option maxRecDepth 10000

namespace Go.Proofs.YtocgbeoglgkibaaDoor
open Go.RowKit Go.Maps
abbrev qb95_26_4_0 : Oper := ⟨some 10, .move (.tmp 0), 23, "l04_mem.go:69", #[], none⟩
abbrev qb95_26_4_1 : Oper := ⟨some 11, .move (.tmp 3), 3, "l04_mem.go:69", #[], none⟩
abbrev qb95_26_4_2 : Oper := ⟨some 12, .indexAddr 23 (.tmp 10) (.tmp 11), 0, "l04_mem.go:69", #[⟨0, .data⟩, ⟨1, .data⟩], none⟩
abbrev qb95_26_4_3 : Oper := ⟨some 13, .load 45 (.tmp 12), 45, "l04_mem.go:69", #[⟨2, .data⟩], none⟩
abbrev qb95_26_4_4 : Oper := ⟨some 14, .call { callee := .value (.func 47), args := #[.tmp 13], argTypes := #[45] }, 4, "l04_mem.go:69", #[⟨3, .data⟩], none⟩
abbrev qb95_26_4_5 : Oper := ⟨some 15, .unOp .not 4 (.tmp 14), 4, "l04_mem.go:69", #[⟨4, .data⟩], none⟩
abbrev qb95_26_4_6 : Oper := ⟨some 16, .move (.tmp 15), 4, "l04_mem.go:69", #[⟨5, .data⟩, ⟨4, .chain⟩], none⟩
abbrev qb95_26_4_7 : Oper := ⟨some 17, .move (.tmp 3), 3, "l04_mem.go:69", #[⟨6, .guard⟩], some (6, false)⟩
abbrev qb95_26_4_8 : Oper := ⟨some 18, .binOp .gtr 3 (.tmp 17) (.const (.int .i64 0)) 3, 4, "l04_mem.go:69", #[⟨7, .data⟩, ⟨6, .guard⟩], some (6, false)⟩
abbrev qb95_26_4_9 : Oper := ⟨some 19, .move (.tmp 18), 4, "l04_mem.go:69", #[⟨8, .data⟩, ⟨6, .chain⟩, ⟨6, .guard⟩], some (6, false)⟩
abbrev qb95_26_4_10 : Oper := ⟨some 20, .move (.tmp 0), 23, "l04_mem.go:69", #[⟨9, .guard⟩], some (9, true)⟩
abbrev qb95_26_4_11 : Oper := ⟨some 21, .move (.tmp 3), 3, "l04_mem.go:69", #[⟨9, .guard⟩], some (9, true)⟩
abbrev qb95_26_4_12 : Oper := ⟨some 22, .binOp .sub 3 (.tmp 21) (.const (.int .i64 1)) 3, 3, "l04_mem.go:69", #[⟨11, .data⟩, ⟨9, .guard⟩], some (9, true)⟩
abbrev qb95_26_4_13 : Oper := ⟨some 23, .indexAddr 23 (.tmp 20) (.tmp 22), 0, "l04_mem.go:69", #[⟨10, .data⟩, ⟨12, .data⟩, ⟨9, .guard⟩], some (9, true)⟩
abbrev qb95_26_4_14 : Oper := ⟨some 24, .fieldAddr 45 (.tmp 23) 0, 0, "l04_mem.go:69", #[⟨13, .data⟩, ⟨9, .guard⟩], some (9, true)⟩
abbrev qb95_26_4_15 : Oper := ⟨some 25, .load 9 (.tmp 24), 9, "l04_mem.go:69", #[⟨14, .data⟩, ⟨9, .guard⟩], some (9, true)⟩
abbrev qb95_26_4_16 : Oper := ⟨some 26, .move (.tmp 0), 23, "l04_mem.go:69", #[⟨9, .guard⟩], some (9, true)⟩
abbrev qb95_26_4_17 : Oper := ⟨some 27, .move (.tmp 3), 3, "l04_mem.go:69", #[⟨9, .guard⟩], some (9, true)⟩
abbrev qb95_26_4_18 : Oper := ⟨some 28, .indexAddr 23 (.tmp 26) (.tmp 27), 0, "l04_mem.go:69", #[⟨16, .data⟩, ⟨17, .data⟩, ⟨9, .guard⟩], some (9, true)⟩
abbrev qb95_26_4_19 : Oper := ⟨some 29, .fieldAddr 45 (.tmp 28) 0, 0, "l04_mem.go:69", #[⟨18, .data⟩, ⟨9, .guard⟩], some (9, true)⟩
abbrev qb95_26_4_20 : Oper := ⟨some 30, .load 9 (.tmp 29), 9, "l04_mem.go:69", #[⟨19, .data⟩, ⟨9, .guard⟩], some (9, true)⟩
abbrev qb95_26_4_21 : Oper := ⟨some 31, .binOp .geq 9 (.tmp 25) (.tmp 30) 9, 4, "l04_mem.go:69", #[⟨15, .data⟩, ⟨20, .data⟩, ⟨9, .guard⟩], some (9, true)⟩
abbrev qb95_26_4_22 : Oper := ⟨some 32, .pick (.tmp 19) (.tmp 31) (.const (.bool false)), 4, "l04_mem.go:69", #[⟨9, .data⟩, ⟨21, .data⟩, ⟨6, .guard⟩], some (6, false)⟩
abbrev qb95_26_4_23 : Oper := ⟨some 33, .pick (.tmp 16) (.const (.bool true)) (.tmp 32), 4, "l04_mem.go:69", #[⟨6, .data⟩, ⟨22, .data⟩], none⟩

set_option maxHeartbeats 4000000 in
theorem l4Rising_each (a : Option Addr) (n c : Nat) (l : List MPair) (w : World) (hx : l.length = n) (hn : n ≤ 200000000) (hL : LeafL 3 rPair w.heap.size w a c l) (hw : ∀ k, (h : k < l.length) → wPair l[k] ≤ 1048576) :
    Calls Tryd.prog 26 #[.slice a n c] w fun e w' => e = .returned (.bool (pairsOkP l)) ∧ Below w.heap.size w w' := by
  have HX := Hid.mk hx
  have HL := Hid.mk hL
  have HW := Hid.mk hw
  clear hx hL hw
  go_enter Tryd.func26, Tryd.ntmps26
  go_wp2_with fail
  go_loopw [3] (fun i wr => ∃ k : Nat, k ≤ n ∧ i = .int .i64 k ∧ Hid (pairsOkP l = upFrom (prevK l k) (l.drop k)) ∧ Below w.heap.size w wr) (fun i _ => n - (intOf i).toNat)
  case atStart => exact ⟨0, Nat.zero_le _, rfl, rfl, Below.refl _ _⟩
  case round =>
    obtain ⟨k, hk, rfl, HI, hbk⟩ := hrel
    have hbz := hbk.size
    by_cases hlt : k < n
    · have hkl : k < l.length := by rw [HX.out]; exact hlt
      obtain ⟨b1, o1, rfl, hB, cs, hcl, hcell, rfl, g0, g1, _, _⟩ := (HL.out.2.2.below rPair_good hbk) k hkl
      have hB' : b1 < wr.heap.size := by omega
      have k0 := hcell 0 _ rfl
      have k1 := hcell 1 _ rfl
      have k2 := hcell 2 _ rfl
      rw [Nat.add_zero] at k0
      have hwk : wPair l[k] ≤ 1048576 := HW.out k hkl
      have HB1 : Hid (pairOkP l[k] = false → pairsOkP l = false) := fun h => by rw [HI.out]; exact upFrom_bad1 hkl h
      have HB2 : Hid (okPrev (prevK l k) l[k].fKey = false → pairsOkP l = false) := fun h => by rw [HI.out]; exact upFrom_bad2 hkl h
      have HG : Hid (pairOkP l[k] = true → okPrev (prevK l k) l[k].fKey = true → pairsOkP l = upFrom (prevK l (k + 1)) (l.drop (k + 1))) := fun h1 h2 => by rw [HI.out]; exact upFrom_good hkl h1 h2
      clear hcell hcl
      have p0 : ∀ W, Below wr.heap.size wr W → W.cell? ⟨b1, o1 + k * 3, none⟩ = some (.string l[k].fKey) := fun W hb => (hb.cell (p := ⟨b1, o1 + k * 3, none⟩) hB').trans k0
      have p1 : ∀ W, Below wr.heap.size wr W → W.cell? ⟨b1, o1 + k * 3 + 1, none⟩ = some (.string l[k].fVal) := fun W hb => (hb.cell (p := ⟨b1, o1 + k * 3 + 1, none⟩) hB').trans k1
      have p2 : ∀ W, Below wr.heap.size wr W → W.cell? ⟨b1, o1 + k * 3 + 2, none⟩ = some (.bool l[k].fGone) := fun W hb => (hb.cell (p := ⟨b1, o1 + k * 3 + 2, none⟩) hB').trans k2
      have hCp := fun W => specPairOk_c [.string l[k].fKey, .string l[k].fVal, .bool l[k].fGone] l[k] W ⟨rfl, g0, g1, trivial, trivial⟩ hwk
      have hi1 : (0 : Int) ≤ (k : Int) := by omega
      have hi2 : (k : Int) < (n : Int) := by omega
      clear k0 k1 k2
      by_cases hP : pairOkP l[k] = true
      · simp only [hP] at hCp
        by_cases h0 : k = 0
        · subst h0
          simp only [Nat.zero_mul, Nat.add_zero] at p0 p1 p2
          have HD : Hid (pairsOkP l = upFrom (prevK l (0 + 1)) (l.drop (0 + 1))) := HG.out hP rfl
          clear HB1 HB2 HG HI
          generalize l[0] = x at *
          go_wp2_with fail
          refine wp_region_held_drew (S := fun W => Below wr.heap.size wr W) (by kernel_rfl) (Below.drew (Below.refl _ _)) (fun hHeld => ?_)
          refine tk 0 qb95_26_4_0 (some 10) (v := ?v1) rfl rfl (by kernel_rfl) hHeld (by rfl) (fun _ _ _ x => x) (fun w h => ?y1) ?_; (case y1 => (try dsimp only at h); go_simp; try (with_reducible rfl)); try simp only [Act.put, sa, s0, s1]
          refine tk 1 qb95_26_4_1 (some 11) (v := ?v2) rfl rfl (by kernel_rfl) hHeld (by rfl) (fun _ _ _ x => x) (fun w h => ?y2) ?_; (case y2 => (try dsimp only at h); go_simp; try (with_reducible rfl)); try simp only [Act.put, sa, s0, s1]
          refine tk 2 qb95_26_4_2 (some 12) (v := ?v3) rfl rfl (by kernel_rfl) hHeld (by rfl) (fun _ _ _ x => x) (fun w h => ?y3) ?_; (case y3 => (try dsimp only at h); go_simp; try (with_reducible rfl)); try simp only [Act.put, sa, s0, s1]
          refine tk 3 qb95_26_4_3 (some 13) (v := ?v4) rfl rfl (by kernel_rfl) hHeld (by rfl) (fun _ _ _ x => x) (fun w h => ?y4) ?_; (case y4 => (try dsimp only at h); go_simp; try (with_reducible rfl)); try simp only [Act.put, sa, s0, s1]
          refine wpAnyH_ready (rs := [4]) (by kernel_rfl) (by simp) ?_
          refine AllReadyH.cons (o := qb95_26_4_4) rfl (fun K hK => ?_) AllReadyH.nil
          go_simp
          refine Calls.mono (hCp _) ?_
          rintro e w1 ⟨rfl, hx1⟩
          go_wp2_with fail
          refine hK.out _ _ (bthen hHeld hx1) (fun hHeld => ?_)
          clear hK K
          try simp only [Act.put, sa, s0, s1]
          refine tk 5 qb95_26_4_5 (some 15) (v := ?v5) rfl rfl (by kernel_rfl) hHeld (by rfl) (fun _ _ _ x => x) (fun w h => ?y5) ?_; (case y5 => (try dsimp only at h); go_simp; try (with_reducible rfl)); try simp only [Act.put, sa, s0, s1]
          refine tk 6 qb95_26_4_6 (some 16) (v := ?v6) rfl rfl (by kernel_rfl) hHeld (by rfl) (fun _ _ _ x => x) (fun w h => ?y6) ?_; (case y6 => (try dsimp only at h); go_simp; try (with_reducible rfl)); try simp only [Act.put, sa, s0, s1]
          refine tk 7 qb95_26_4_7 (some 17) (v := ?v7) rfl rfl (by kernel_rfl) hHeld (by rfl) (fun _ _ _ x => x) (fun w h => ?y7) ?_; (case y7 => (try dsimp only at h); go_simp; try (with_reducible rfl)); try simp only [Act.put, sa, s0, s1]
          refine tk 8 qb95_26_4_8 (some 18) (v := ?v8) rfl rfl (by kernel_rfl) hHeld (by rfl) (fun _ _ _ x => x) (fun w h => ?y8) ?_; (case y8 => (try dsimp only at h); go_simp; try (with_reducible rfl)); try simp only [Act.put, sa, s0, s1]
          refine tk 9 qb95_26_4_9 (some 19) (v := ?v9) rfl rfl (by kernel_rfl) hHeld (by rfl) (fun _ _ _ x => x) (fun w h => ?y9) ?_; (case y9 => (try dsimp only at h); go_simp; try (with_reducible rfl)); try simp only [Act.put, sa, s0, s1]
          refine tn 10 qb95_26_4_10 (some 20) rfl rfl (by kernel_rfl) hHeld (by rfl) (fun _ _ _ x => x) ?_; try simp only [Act.put, sa, s0, s1]
          refine tn 11 qb95_26_4_11 (some 21) rfl rfl (by kernel_rfl) hHeld (by rfl) (fun _ _ _ x => x) ?_; try simp only [Act.put, sa, s0, s1]
          refine tn 12 qb95_26_4_12 (some 22) rfl rfl (by kernel_rfl) hHeld (by rfl) (fun _ _ _ x => x) ?_; try simp only [Act.put, sa, s0, s1]
          refine tn 13 qb95_26_4_13 (some 23) rfl rfl (by kernel_rfl) hHeld (by rfl) (fun _ _ _ x => x) ?_; try simp only [Act.put, sa, s0, s1]
          refine tn 14 qb95_26_4_14 (some 24) rfl rfl (by kernel_rfl) hHeld (by rfl) (fun _ _ _ x => x) ?_; try simp only [Act.put, sa, s0, s1]
          refine tn 15 qb95_26_4_15 (some 25) rfl rfl (by kernel_rfl) hHeld (by rfl) (fun _ _ _ x => x) ?_; try simp only [Act.put, sa, s0, s1]
          refine tn 16 qb95_26_4_16 (some 26) rfl rfl (by kernel_rfl) hHeld (by rfl) (fun _ _ _ x => x) ?_; try simp only [Act.put, sa, s0, s1]
          refine tn 17 qb95_26_4_17 (some 27) rfl rfl (by kernel_rfl) hHeld (by rfl) (fun _ _ _ x => x) ?_; try simp only [Act.put, sa, s0, s1]
          refine tn 18 qb95_26_4_18 (some 28) rfl rfl (by kernel_rfl) hHeld (by rfl) (fun _ _ _ x => x) ?_; try simp only [Act.put, sa, s0, s1]
          refine tn 19 qb95_26_4_19 (some 29) rfl rfl (by kernel_rfl) hHeld (by rfl) (fun _ _ _ x => x) ?_; try simp only [Act.put, sa, s0, s1]
          refine tn 20 qb95_26_4_20 (some 30) rfl rfl (by kernel_rfl) hHeld (by rfl) (fun _ _ _ x => x) ?_; try simp only [Act.put, sa, s0, s1]
          refine tn 21 qb95_26_4_21 (some 31) rfl rfl (by kernel_rfl) hHeld (by rfl) (fun _ _ _ x => x) ?_; try simp only [Act.put, sa, s0, s1]
          refine tk 22 qb95_26_4_22 (some 32) (v := ?v22) rfl rfl (by kernel_rfl) hHeld (by rfl) (fun _ _ _ x => x) (fun w h => ?y22) ?_; (case y22 => (try dsimp only at h); go_simp; try (with_reducible rfl)); try simp only [Act.put, sa, s0, s1]
          refine tk 23 qb95_26_4_23 (some 33) (v := ?v23) rfl rfl (by kernel_rfl) hHeld (by rfl) (fun _ _ _ x => x) (fun w h => ?y23) ?_; (case y23 => (try dsimp only at h); go_simp; try (with_reducible rfl)); try simp only [Act.put, sa, s0, s1]
          refine wpAnyH_done (by kernel_rfl) ?_ _
          go_wp2_with fail
          go_roundw
          case rel => exact ⟨1, by omega, by go_num, HD, bthen hbk hHeld⟩
          case measure => simp [intOf]; omega
        · obtain ⟨j, rfl⟩ : ∃ j, k = j + 1 := ⟨k - 1, by omega⟩
          have hjl : j < l.length := by omega
          obtain ⟨b1', o1', he1, _, cs', hcl', hcell', rfl, g0', g1', _, _⟩ := (HL.out.2.2.below rPair_good hbk) j hjl
          simp only [Option.some.injEq, Addr.mk.injEq, and_true] at he1
          obtain ⟨rfl, rfl⟩ := he1
          have j0 := hcell' 0 _ rfl
          rw [Nat.add_zero] at j0
          have q0 : ∀ W, Below wr.heap.size wr W → W.cell? ⟨b1, o1 + j * 3, none⟩ = some (.string l[j].fKey) := fun W hb => (hb.cell (p := ⟨b1, o1 + j * 3, none⟩) hB').trans j0
          have HPK : Hid (okPrev (prevK l (j + 1)) l[j + 1].fKey = kLt l[j].fKey l[j + 1].fKey) := by show _ = _; rw [prevK_succ hjl]; rfl
          have hj1 : (0 : Int) ≤ (j : Int) := by omega
          have hj2 : (j : Int) < (n : Int) := by omega
          have hk1 : (0 : Int) ≤ (j : Int) + 1 := by omega
          have hk2 : (j : Int) + 1 < (n : Int) := by omega
          have hwr : IntKind.i64.wrap (j : Int) = (j : Int) := by rw [IntKind.wrap_i64]; omega
          clear hcell' hcl' j0
          by_cases hK : kLt l[j].fKey l[j + 1].fKey = true
          · have HD : Hid (pairsOkP l = upFrom (prevK l (j + 1 + 1)) (l.drop (j + 1 + 1))) := HG.out hP (by rw [HPK.out]; exact hK)
            obtain ⟨f1, f2, f3⟩ := kLt_facts hK
            clear HB1 HB2 HG HI HPK hK
            generalize l[j + 1] = x at *
            generalize l[j] = y at *
            go_wp2_with fail
            refine wp_region_held_drew (S := fun W => Below wr.heap.size wr W) (by kernel_rfl) (Below.drew (Below.refl _ _)) (fun hHeld => ?_)
            refine tk 0 qb95_26_4_0 (some 10) (v := ?v24) rfl rfl (by kernel_rfl) hHeld (by rfl) (fun _ _ _ x => x) (fun w h => ?y24) ?_; (case y24 => (try dsimp only at h); go_simp; try (with_reducible rfl)); try simp only [Act.put, sa, s0, s1]
            refine tk 1 qb95_26_4_1 (some 11) (v := ?v25) rfl rfl (by kernel_rfl) hHeld (by rfl) (fun _ _ _ x => x) (fun w h => ?y25) ?_; (case y25 => (try dsimp only at h); go_simp; try (with_reducible rfl)); try simp only [Act.put, sa, s0, s1]
            refine tk 2 qb95_26_4_2 (some 12) (v := ?v26) rfl rfl (by kernel_rfl) hHeld (by rfl) (fun _ _ _ x => x) (fun w h => ?y26) ?_; (case y26 => (try dsimp only at h); go_simp; try (with_reducible rfl)); try simp only [Act.put, sa, s0, s1]
            refine tk 3 qb95_26_4_3 (some 13) (v := ?v27) rfl rfl (by kernel_rfl) hHeld (by rfl) (fun _ _ _ x => x) (fun w h => ?y27) ?_; (case y27 => (try dsimp only at h); go_simp; try (with_reducible rfl)); try simp only [Act.put, sa, s0, s1]
            refine wpAnyH_ready (rs := [4]) (by kernel_rfl) (by simp) ?_
            refine AllReadyH.cons (o := qb95_26_4_4) rfl (fun K hK => ?_) AllReadyH.nil
            go_simp
            refine Calls.mono (hCp _) ?_
            rintro e w1 ⟨rfl, hx1⟩
            go_wp2_with fail
            refine hK.out _ _ (bthen hHeld hx1) (fun hHeld => ?_)
            clear hK K
            try simp only [Act.put, sa, s0, s1]
            refine tk 5 qb95_26_4_5 (some 15) (v := ?v28) rfl rfl (by kernel_rfl) hHeld (by rfl) (fun _ _ _ x => x) (fun w h => ?y28) ?_; (case y28 => (try dsimp only at h); go_simp; try (with_reducible rfl)); try simp only [Act.put, sa, s0, s1]
            refine tk 6 qb95_26_4_6 (some 16) (v := ?v29) rfl rfl (by kernel_rfl) hHeld (by rfl) (fun _ _ _ x => x) (fun w h => ?y29) ?_; (case y29 => (try dsimp only at h); go_simp; try (with_reducible rfl)); try simp only [Act.put, sa, s0, s1]
            refine tk 7 qb95_26_4_7 (some 17) (v := ?v30) rfl rfl (by kernel_rfl) hHeld (by rfl) (fun _ _ _ x => x) (fun w h => ?y30) ?_; (case y30 => (try dsimp only at h); go_simp; try (with_reducible rfl)); try simp only [Act.put, sa, s0, s1]
            refine tk 8 qb95_26_4_8 (some 18) (v := ?v31) rfl rfl (by kernel_rfl) hHeld (by rfl) (fun _ _ _ x => x) (fun w h => ?y31) ?_; (case y31 => (try dsimp only at h); go_simp; try (with_reducible rfl)); try simp only [Act.put, sa, s0, s1]
            refine tk 9 qb95_26_4_9 (some 19) (v := ?v32) rfl rfl (by kernel_rfl) hHeld (by rfl) (fun _ _ _ x => x) (fun w h => ?y32) ?_; (case y32 => (try dsimp only at h); go_simp; try (with_reducible rfl)); try simp only [Act.put, sa, s0, s1]
            refine tk 10 qb95_26_4_10 (some 20) (v := ?v33) rfl rfl (by kernel_rfl) hHeld (by rfl) (fun _ _ _ x => x) (fun w h => ?y33) ?_; (case y33 => (try dsimp only at h); go_simp; try (with_reducible rfl)); try simp only [Act.put, sa, s0, s1]
            refine tk 11 qb95_26_4_11 (some 21) (v := ?v34) rfl rfl (by kernel_rfl) hHeld (by rfl) (fun _ _ _ x => x) (fun w h => ?y34) ?_; (case y34 => (try dsimp only at h); go_simp; try (with_reducible rfl)); try simp only [Act.put, sa, s0, s1]
            refine tk 12 qb95_26_4_12 (some 22) (v := ?v35) rfl rfl (by kernel_rfl) hHeld (by rfl) (fun _ _ _ x => x) (fun w h => ?y35) ?_; (case y35 => (try dsimp only at h); go_simp; try (with_reducible rfl)); try simp only [Act.put, sa, s0, s1]
            refine tk 13 qb95_26_4_13 (some 23) (v := ?v36) rfl rfl (by kernel_rfl) hHeld (by rfl) (fun _ _ _ x => x) (fun w h => ?y36) ?_; (case y36 => (try dsimp only at h); go_simp; try (with_reducible rfl)); try simp only [Act.put, sa, s0, s1]
            refine tk 14 qb95_26_4_14 (some 24) (v := ?v37) rfl rfl (by kernel_rfl) hHeld (by rfl) (fun _ _ _ x => x) (fun w h => ?y37) ?_; (case y37 => (try dsimp only at h); go_simp; try (with_reducible rfl)); try simp only [Act.put, sa, s0, s1]
            refine tk 15 qb95_26_4_15 (some 25) (v := ?v38) rfl rfl (by kernel_rfl) hHeld (by rfl) (fun _ _ _ x => x) (fun w h => ?y38) ?_; (case y38 => (try dsimp only at h); go_simp; try (with_reducible rfl)); try simp only [Act.put, sa, s0, s1]
            refine tk 16 qb95_26_4_16 (some 26) (v := ?v39) rfl rfl (by kernel_rfl) hHeld (by rfl) (fun _ _ _ x => x) (fun w h => ?y39) ?_; (case y39 => (try dsimp only at h); go_simp; try (with_reducible rfl)); try simp only [Act.put, sa, s0, s1]
            refine tk 17 qb95_26_4_17 (some 27) (v := ?v40) rfl rfl (by kernel_rfl) hHeld (by rfl) (fun _ _ _ x => x) (fun w h => ?y40) ?_; (case y40 => (try dsimp only at h); go_simp; try (with_reducible rfl)); try simp only [Act.put, sa, s0, s1]
            refine tk 18 qb95_26_4_18 (some 28) (v := ?v41) rfl rfl (by kernel_rfl) hHeld (by rfl) (fun _ _ _ x => x) (fun w h => ?y41) ?_; (case y41 => (try dsimp only at h); go_simp; try (with_reducible rfl)); try simp only [Act.put, sa, s0, s1]
            refine tk 19 qb95_26_4_19 (some 29) (v := ?v42) rfl rfl (by kernel_rfl) hHeld (by rfl) (fun _ _ _ x => x) (fun w h => ?y42) ?_; (case y42 => (try dsimp only at h); go_simp; try (with_reducible rfl)); try simp only [Act.put, sa, s0, s1]
            refine tk 20 qb95_26_4_20 (some 30) (v := ?v43) rfl rfl (by kernel_rfl) hHeld (by rfl) (fun _ _ _ x => x) (fun w h => ?y43) ?_; (case y43 => (try dsimp only at h); go_simp; try (with_reducible rfl)); try simp only [Act.put, sa, s0, s1]
            refine tk 21 qb95_26_4_21 (some 31) (v := ?v44) rfl rfl (by kernel_rfl) hHeld (by rfl) (fun _ _ _ x => x) (fun w h => ?y44) ?_; (case y44 => (try dsimp only at h); go_simp; try (with_reducible rfl)); try simp only [Act.put, sa, s0, s1]
            refine tk 22 qb95_26_4_22 (some 32) (v := ?v45) rfl rfl (by kernel_rfl) hHeld (by rfl) (fun _ _ _ x => x) (fun w h => ?y45) ?_; (case y45 => (try dsimp only at h); go_simp; try (with_reducible rfl)); try simp only [Act.put, sa, s0, s1]
            refine tk 23 qb95_26_4_23 (some 33) (v := ?v46) rfl rfl (by kernel_rfl) hHeld (by rfl) (fun _ _ _ x => x) (fun w h => ?y46) ?_; (case y46 => (try dsimp only at h); go_simp; try (with_reducible rfl)); try simp only [Act.put, sa, s0, s1]
            refine wpAnyH_done (by kernel_rfl) ?_ _
            go_wp2_with fail
            go_roundw
            case rel => exact ⟨j + 1 + 1, by omega, by go_num, HD, bthen hbk hHeld⟩
            case measure => simp [intOf]; omega
          · have hK2 : kLt l[j].fKey l[j + 1].fKey = false := Bool.eq_false_iff.2 hK
            have HD : Hid (pairsOkP l = false) := HB2.out (by rw [HPK.out]; exact hK2)
            have f1 : Op.bytesLess l[j].fKey.toList l[j + 1].fKey.toList = false := hK2
            clear HB1 HB2 HG HI HPK hK hK2
            generalize l[j + 1] = x at *
            generalize l[j] = y at *
            go_wp2_with fail
            refine wp_region_held_drew (S := fun W => Below wr.heap.size wr W) (by kernel_rfl) (Below.drew (Below.refl _ _)) (fun hHeld => ?_)
            refine tk 0 qb95_26_4_0 (some 10) (v := ?v47) rfl rfl (by kernel_rfl) hHeld (by rfl) (fun _ _ _ x => x) (fun w h => ?y47) ?_; (case y47 => (try dsimp only at h); go_simp; try (with_reducible rfl)); try simp only [Act.put, sa, s0, s1]
            refine tk 1 qb95_26_4_1 (some 11) (v := ?v48) rfl rfl (by kernel_rfl) hHeld (by rfl) (fun _ _ _ x => x) (fun w h => ?y48) ?_; (case y48 => (try dsimp only at h); go_simp; try (with_reducible rfl)); try simp only [Act.put, sa, s0, s1]
            refine tk 2 qb95_26_4_2 (some 12) (v := ?v49) rfl rfl (by kernel_rfl) hHeld (by rfl) (fun _ _ _ x => x) (fun w h => ?y49) ?_; (case y49 => (try dsimp only at h); go_simp; try (with_reducible rfl)); try simp only [Act.put, sa, s0, s1]
            refine tk 3 qb95_26_4_3 (some 13) (v := ?v50) rfl rfl (by kernel_rfl) hHeld (by rfl) (fun _ _ _ x => x) (fun w h => ?y50) ?_; (case y50 => (try dsimp only at h); go_simp; try (with_reducible rfl)); try simp only [Act.put, sa, s0, s1]
            refine wpAnyH_ready (rs := [4]) (by kernel_rfl) (by simp) ?_
            refine AllReadyH.cons (o := qb95_26_4_4) rfl (fun K hK => ?_) AllReadyH.nil
            go_simp
            refine Calls.mono (hCp _) ?_
            rintro e w1 ⟨rfl, hx1⟩
            go_wp2_with fail
            refine hK.out _ _ (bthen hHeld hx1) (fun hHeld => ?_)
            clear hK K
            try simp only [Act.put, sa, s0, s1]
            refine tk 5 qb95_26_4_5 (some 15) (v := ?v51) rfl rfl (by kernel_rfl) hHeld (by rfl) (fun _ _ _ x => x) (fun w h => ?y51) ?_; (case y51 => (try dsimp only at h); go_simp; try (with_reducible rfl)); try simp only [Act.put, sa, s0, s1]
            refine tk 6 qb95_26_4_6 (some 16) (v := ?v52) rfl rfl (by kernel_rfl) hHeld (by rfl) (fun _ _ _ x => x) (fun w h => ?y52) ?_; (case y52 => (try dsimp only at h); go_simp; try (with_reducible rfl)); try simp only [Act.put, sa, s0, s1]
            refine tk 7 qb95_26_4_7 (some 17) (v := ?v53) rfl rfl (by kernel_rfl) hHeld (by rfl) (fun _ _ _ x => x) (fun w h => ?y53) ?_; (case y53 => (try dsimp only at h); go_simp; try (with_reducible rfl)); try simp only [Act.put, sa, s0, s1]
            refine tk 8 qb95_26_4_8 (some 18) (v := ?v54) rfl rfl (by kernel_rfl) hHeld (by rfl) (fun _ _ _ x => x) (fun w h => ?y54) ?_; (case y54 => (try dsimp only at h); go_simp; try (with_reducible rfl)); try simp only [Act.put, sa, s0, s1]
            refine tk 9 qb95_26_4_9 (some 19) (v := ?v55) rfl rfl (by kernel_rfl) hHeld (by rfl) (fun _ _ _ x => x) (fun w h => ?y55) ?_; (case y55 => (try dsimp only at h); go_simp; try (with_reducible rfl)); try simp only [Act.put, sa, s0, s1]
            refine tk 10 qb95_26_4_10 (some 20) (v := ?v56) rfl rfl (by kernel_rfl) hHeld (by rfl) (fun _ _ _ x => x) (fun w h => ?y56) ?_; (case y56 => (try dsimp only at h); go_simp; try (with_reducible rfl)); try simp only [Act.put, sa, s0, s1]
            refine tk 11 qb95_26_4_11 (some 21) (v := ?v57) rfl rfl (by kernel_rfl) hHeld (by rfl) (fun _ _ _ x => x) (fun w h => ?y57) ?_; (case y57 => (try dsimp only at h); go_simp; try (with_reducible rfl)); try simp only [Act.put, sa, s0, s1]
            refine tk 12 qb95_26_4_12 (some 22) (v := ?v58) rfl rfl (by kernel_rfl) hHeld (by rfl) (fun _ _ _ x => x) (fun w h => ?y58) ?_; (case y58 => (try dsimp only at h); go_simp; try (with_reducible rfl)); try simp only [Act.put, sa, s0, s1]
            refine tk 13 qb95_26_4_13 (some 23) (v := ?v59) rfl rfl (by kernel_rfl) hHeld (by rfl) (fun _ _ _ x => x) (fun w h => ?y59) ?_; (case y59 => (try dsimp only at h); go_simp; try (with_reducible rfl)); try simp only [Act.put, sa, s0, s1]
            refine tk 14 qb95_26_4_14 (some 24) (v := ?v60) rfl rfl (by kernel_rfl) hHeld (by rfl) (fun _ _ _ x => x) (fun w h => ?y60) ?_; (case y60 => (try dsimp only at h); go_simp; try (with_reducible rfl)); try simp only [Act.put, sa, s0, s1]
            refine tk 15 qb95_26_4_15 (some 25) (v := ?v61) rfl rfl (by kernel_rfl) hHeld (by rfl) (fun _ _ _ x => x) (fun w h => ?y61) ?_; (case y61 => (try dsimp only at h); go_simp; try (with_reducible rfl)); try simp only [Act.put, sa, s0, s1]
            refine tk 16 qb95_26_4_16 (some 26) (v := ?v62) rfl rfl (by kernel_rfl) hHeld (by rfl) (fun _ _ _ x => x) (fun w h => ?y62) ?_; (case y62 => (try dsimp only at h); go_simp; try (with_reducible rfl)); try simp only [Act.put, sa, s0, s1]
            refine tk 17 qb95_26_4_17 (some 27) (v := ?v63) rfl rfl (by kernel_rfl) hHeld (by rfl) (fun _ _ _ x => x) (fun w h => ?y63) ?_; (case y63 => (try dsimp only at h); go_simp; try (with_reducible rfl)); try simp only [Act.put, sa, s0, s1]
            refine tk 18 qb95_26_4_18 (some 28) (v := ?v64) rfl rfl (by kernel_rfl) hHeld (by rfl) (fun _ _ _ x => x) (fun w h => ?y64) ?_; (case y64 => (try dsimp only at h); go_simp; try (with_reducible rfl)); try simp only [Act.put, sa, s0, s1]
            refine tk 19 qb95_26_4_19 (some 29) (v := ?v65) rfl rfl (by kernel_rfl) hHeld (by rfl) (fun _ _ _ x => x) (fun w h => ?y65) ?_; (case y65 => (try dsimp only at h); go_simp; try (with_reducible rfl)); try simp only [Act.put, sa, s0, s1]
            refine tk 20 qb95_26_4_20 (some 30) (v := ?v66) rfl rfl (by kernel_rfl) hHeld (by rfl) (fun _ _ _ x => x) (fun w h => ?y66) ?_; (case y66 => (try dsimp only at h); go_simp; try (with_reducible rfl)); try simp only [Act.put, sa, s0, s1]
            refine tk 21 qb95_26_4_21 (some 31) (v := ?v67) rfl rfl (by kernel_rfl) hHeld (by rfl) (fun _ _ _ x => x) (fun w h => ?y67) ?_; (case y67 => (try dsimp only at h); go_simp; try (with_reducible rfl)); try simp only [Act.put, sa, s0, s1]
            refine tk 22 qb95_26_4_22 (some 32) (v := ?v68) rfl rfl (by kernel_rfl) hHeld (by rfl) (fun _ _ _ x => x) (fun w h => ?y68) ?_; (case y68 => (try dsimp only at h); go_simp; try (with_reducible rfl)); try simp only [Act.put, sa, s0, s1]
            refine tk 23 qb95_26_4_23 (some 33) (v := ?v69) rfl rfl (by kernel_rfl) hHeld (by rfl) (fun _ _ _ x => x) (fun w h => ?y69) ?_; (case y69 => (try dsimp only at h); go_simp; try (with_reducible rfl)); try simp only [Act.put, sa, s0, s1]
            refine wpAnyH_done (by kernel_rfl) ?_ _
            go_wp2_with fail
            go_ret
            exact ⟨by rw [HD.out]; rfl, bthen hbk hHeld⟩
      · have hP2 : pairOkP l[k] = false := Bool.eq_false_iff.2 hP
        have HD : Hid (pairsOkP l = false) := HB1.out hP2
        simp only [hP2] at hCp
        clear HB1 HB2 HG HI
        generalize l[k] = x at *
        go_wp2_with fail
        refine wp_region_held_drew (S := fun W => Below wr.heap.size wr W) (by kernel_rfl) (Below.drew (Below.refl _ _)) (fun hHeld => ?_)
        refine tk 0 qb95_26_4_0 (some 10) (v := ?v70) rfl rfl (by kernel_rfl) hHeld (by rfl) (fun _ _ _ x => x) (fun w h => ?y70) ?_; (case y70 => (try dsimp only at h); go_simp; try (with_reducible rfl)); try simp only [Act.put, sa, s0, s1]
        refine tk 1 qb95_26_4_1 (some 11) (v := ?v71) rfl rfl (by kernel_rfl) hHeld (by rfl) (fun _ _ _ x => x) (fun w h => ?y71) ?_; (case y71 => (try dsimp only at h); go_simp; try (with_reducible rfl)); try simp only [Act.put, sa, s0, s1]
        refine tk 2 qb95_26_4_2 (some 12) (v := ?v72) rfl rfl (by kernel_rfl) hHeld (by rfl) (fun _ _ _ x => x) (fun w h => ?y72) ?_; (case y72 => (try dsimp only at h); go_simp; try (with_reducible rfl)); try simp only [Act.put, sa, s0, s1]
        refine tk 3 qb95_26_4_3 (some 13) (v := ?v73) rfl rfl (by kernel_rfl) hHeld (by rfl) (fun _ _ _ x => x) (fun w h => ?y73) ?_; (case y73 => (try dsimp only at h); go_simp; try (with_reducible rfl)); try simp only [Act.put, sa, s0, s1]
        refine wpAnyH_ready (rs := [4]) (by kernel_rfl) (by simp) ?_
        refine AllReadyH.cons (o := qb95_26_4_4) rfl (fun K hK => ?_) AllReadyH.nil
        go_simp
        refine Calls.mono (hCp _) ?_
        rintro e w1 ⟨rfl, hx1⟩
        go_wp2_with fail
        refine hK.out _ _ (bthen hHeld hx1) (fun hHeld => ?_)
        clear hK K
        try simp only [Act.put, sa, s0, s1]
        refine tk 5 qb95_26_4_5 (some 15) (v := ?v74) rfl rfl (by kernel_rfl) hHeld (by rfl) (fun _ _ _ x => x) (fun w h => ?y74) ?_; (case y74 => (try dsimp only at h); go_simp; try (with_reducible rfl)); try simp only [Act.put, sa, s0, s1]
        refine tk 6 qb95_26_4_6 (some 16) (v := ?v75) rfl rfl (by kernel_rfl) hHeld (by rfl) (fun _ _ _ x => x) (fun w h => ?y75) ?_; (case y75 => (try dsimp only at h); go_simp; try (with_reducible rfl)); try simp only [Act.put, sa, s0, s1]
        refine tn 7 qb95_26_4_7 (some 17) rfl rfl (by kernel_rfl) hHeld (by rfl) (fun _ _ _ x => x) ?_; try simp only [Act.put, sa, s0, s1]
        refine tn 8 qb95_26_4_8 (some 18) rfl rfl (by kernel_rfl) hHeld (by rfl) (fun _ _ _ x => x) ?_; try simp only [Act.put, sa, s0, s1]
        refine tn 9 qb95_26_4_9 (some 19) rfl rfl (by kernel_rfl) hHeld (by rfl) (fun _ _ _ x => x) ?_; try simp only [Act.put, sa, s0, s1]
        refine tn 10 qb95_26_4_10 (some 20) rfl rfl (by kernel_rfl) hHeld (by rfl) (fun _ _ _ x => x) ?_; try simp only [Act.put, sa, s0, s1]
        refine tn 11 qb95_26_4_11 (some 21) rfl rfl (by kernel_rfl) hHeld (by rfl) (fun _ _ _ x => x) ?_; try simp only [Act.put, sa, s0, s1]
        refine tn 12 qb95_26_4_12 (some 22) rfl rfl (by kernel_rfl) hHeld (by rfl) (fun _ _ _ x => x) ?_; try simp only [Act.put, sa, s0, s1]
        refine tn 13 qb95_26_4_13 (some 23) rfl rfl (by kernel_rfl) hHeld (by rfl) (fun _ _ _ x => x) ?_; try simp only [Act.put, sa, s0, s1]
        refine tn 14 qb95_26_4_14 (some 24) rfl rfl (by kernel_rfl) hHeld (by rfl) (fun _ _ _ x => x) ?_; try simp only [Act.put, sa, s0, s1]
        refine tn 15 qb95_26_4_15 (some 25) rfl rfl (by kernel_rfl) hHeld (by rfl) (fun _ _ _ x => x) ?_; try simp only [Act.put, sa, s0, s1]
        refine tn 16 qb95_26_4_16 (some 26) rfl rfl (by kernel_rfl) hHeld (by rfl) (fun _ _ _ x => x) ?_; try simp only [Act.put, sa, s0, s1]
        refine tn 17 qb95_26_4_17 (some 27) rfl rfl (by kernel_rfl) hHeld (by rfl) (fun _ _ _ x => x) ?_; try simp only [Act.put, sa, s0, s1]
        refine tn 18 qb95_26_4_18 (some 28) rfl rfl (by kernel_rfl) hHeld (by rfl) (fun _ _ _ x => x) ?_; try simp only [Act.put, sa, s0, s1]
        refine tn 19 qb95_26_4_19 (some 29) rfl rfl (by kernel_rfl) hHeld (by rfl) (fun _ _ _ x => x) ?_; try simp only [Act.put, sa, s0, s1]
        refine tn 20 qb95_26_4_20 (some 30) rfl rfl (by kernel_rfl) hHeld (by rfl) (fun _ _ _ x => x) ?_; try simp only [Act.put, sa, s0, s1]
        refine tn 21 qb95_26_4_21 (some 31) rfl rfl (by kernel_rfl) hHeld (by rfl) (fun _ _ _ x => x) ?_; try simp only [Act.put, sa, s0, s1]
        refine tn 22 qb95_26_4_22 (some 32) rfl rfl (by kernel_rfl) hHeld (by rfl) (fun _ _ _ x => x) ?_; try simp only [Act.put, sa, s0, s1]
        refine tk 23 qb95_26_4_23 (some 33) (v := ?v92) rfl rfl (by kernel_rfl) hHeld (by rfl) (fun _ _ _ x => x) (fun w h => ?y92) ?_; (case y92 => (try dsimp only at h); go_simp; try (with_reducible rfl)); try simp only [Act.put, sa, s0, s1]
        refine wpAnyH_done (by kernel_rfl) ?_ _
        go_wp2_with fail
        go_ret
        exact ⟨by rw [HD.out]; rfl, bthen hbk hHeld⟩
    · have HD : Hid (pairsOkP l = true) := by show _ = _; rw [HI.out]; exact upFrom_end (by rw [HX.out]; omega)
      go_wp2_with fail
      go_ret
      exact ⟨by rw [HD.out]; rfl, hbk⟩

theorem l4Rising_any (a : Option Addr) (n c : Nat) (l : List MPair) (w : World) (hx : l.length = n) (hn : n ≤ 1048576) (hL : LeafL 3 rPair w.heap.size w a c l) (hw : sumW wPair l ≤ 1048576) :
    Calls Tryd.prog 26 #[.slice a n c] w fun e w' => e = .returned (.bool (pairsOkP l)) ∧ Below w.heap.size w w' :=
  l4Rising_each a n c l w hx (by omega) hL (fun k h => Nat.le_trans (sumW_le (f := wPair) h) hw)

end Go.Proofs.YtocgbeoglgkibaaDoor

namespace Go.Proofs.YtocgbeoglgkibaaDoor
open Go.RowKit

def inRange (x a b : Int) : Bool := decide (a ≤ x ∧ x ≤ b)
theorem inRange_yes {x a b : Int} (h1 : a ≤ x) (h2 : x ≤ b) : inRange x a b = true := decide_eq_true ⟨h1, h2⟩
theorem inRange_no {x a b : Int} (h : ¬ (a ≤ x ∧ x ≤ b)) : inRange x a b = false := decide_eq_false h

set_option maxHeartbeats 400000 in
theorem l1In_any (x a b : Int) (w : World) :
    Calls Tryd.prog 27 #[.int .i64 x, .int .i64 a, .int .i64 b] w fun e w' => e = .returned (.bool (inRange x a b)) ∧ w' = w := by
  by_cases h1 : a ≤ x
  · by_cases h2 : x ≤ b
    · have HV := Hid.mk (inRange_yes h1 h2)
      go_enter Tryd.func27, Tryd.ntmps27
      go_wp2
      go_ret
      exact ⟨by rw [HV.out]; rfl, rfl⟩
    · have HV := Hid.mk (inRange_no (x := x) (a := a) (b := b) (by omega))
      go_enter Tryd.func27, Tryd.ntmps27
      go_wp2
      go_ret
      exact ⟨by rw [HV.out]; rfl, rfl⟩
  · have HV := Hid.mk (inRange_no (x := x) (a := a) (b := b) (by omega))
    go_enter Tryd.func27, Tryd.ntmps27
    go_wp2
    go_ret
    exact ⟨by rw [HV.out]; rfl, rfl⟩

end Go.Proofs.YtocgbeoglgkibaaDoor
